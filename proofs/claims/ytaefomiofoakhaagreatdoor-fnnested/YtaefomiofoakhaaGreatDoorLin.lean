/- The lines of a header, the program's: the line at a place, what kind it is, the field that it tells. -/
import Derived.Test.YtaefomiofoakhaaGreatDoorFdp
import Derived.Test.YtaefomiofoakhaaGreatDoorHdr7ToHdr9
import Derived.Test.YtaefomiofoakhaaGreatDoorShf
namespace Go.Proofs.YtaefomiofoakhaaGreatDoor
open Go.RowKit

theorem u8_ne {b c : Nat} (hb : b < 256) (hc : c < 256) (h : b ≠ c) : (UInt8.ofNat b == UInt8.ofNat c) = false := by
  rw [beq_eq_false_iff_ne]
  intro e
  have := congrArg UInt8.toNat e
  rw [UInt8.toNat_ofNat', UInt8.toNat_ofNat'] at this
  omega
/-- The place of a byte. -/
theorem idx_nat {c : Nat} (hc : c < 256) {p : Nat → Bool} (hp : ∀ b, p b = decide (b ≠ c)) : ∀ l : List Nat, IsB l → Lib.indexByte (l.map UInt8.ofNat) (UInt8.ofNat c) = if (l.takeWhile p).length < l.length then ((l.takeWhile p).length : Int) else -1
  | [], _ => rfl
  | b :: l, h => by
    have hb := h b (by simp)
    have ih := idx_nat hc hp l (fun x hx => h x (by simp [hx]))
    rw [List.map_cons, Lib.indexByte, List.takeWhile_cons, hp b]
    by_cases e : b = c
    · subst e
      simp
    · rw [u8_ne hb hc e, decide_eq_true e]
      simp only [if_true, List.length_cons, Bool.false_eq_true, if_false]
      by_cases hl : (l.takeWhile p).length < l.length
      · have ih' := ih.trans (if_pos hl)
        rw [ih', if_pos (show (l.takeWhile p).length + 1 < l.length + 1 by omega), if_neg (by simp)]
        omega
      · have ih' := ih.trans (if_neg hl)
        rw [ih', if_neg (show ¬ (l.takeWhile p).length + 1 < l.length + 1 by omega), if_pos (by simp)]
theorem str_list (l : List Nat) : (str l).data.toList = l.map UInt8.ofNat := by simp [str]
theorem bytesOf_nat (l : List Nat) : Lib.bytesOf (l.map fun (b : Nat) => (b : Int)) = l.map UInt8.ofNat := by
  unfold Lib.bytesOf
  rw [List.map_map]
  rfl
/-- Where the line feed stands, from a place on. -/
theorem lf_at {d : List Nat} (hB : IsB d) (k : Nat) (hk : k ≤ d.length) : Lib.indexByte (Lib.bytesOf ((d.drop k).map fun (b : Nat) => (b : Int))) 10 = if eoL d k < d.length then ((eoL d k : Nat) : Int) - (k : Int) else -1 := by
  rw [bytesOf_nat]
  have h := idx_nat (c := 10) (by omega) (p := noLf) (fun b => rfl) (d.drop k) (isB_drop hB k)
  have e : (UInt8.ofNat 10) = (10 : UInt8) := rfl
  rw [e] at h
  rw [h, List.length_drop]
  unfold eoL
  by_cases hl : ((d.drop k).takeWhile noLf).length < d.length - k
  · rw [if_pos hl, if_pos (by omega)]; omega
  · rw [if_neg hl, if_neg (by omega)]

/-- Bytes of a slice as numbers. -/
theorem cells_int {w : World} {b off : Nat} {l : List Nat} (hr : Rd w (some ⟨b, off, none⟩) l) (n : Nat) (hn : n ≤ l.length) : ∀ i, i < n → w.cell? ((⟨b, off, none⟩ : Addr).add i) = some (.int .u8 ((l.map fun (x : Nat) => (x : Int)).getD i 0)) := by
  intro i hi
  obtain ⟨b', off', e, -, hc⟩ := hr.at_ (by omega)
  cases e
  rw [Go.WideShapes.add_plain, hc i (by omega), nth, List.getD_eq_getElem?_getD, List.getD_eq_getElem?_getD, List.getElem?_map]
  cases l[i]? <;> rfl
/-- What the search for a line feed answers. -/
theorem lf_call (b off m c k : Nat) (d : List Nat) (w : World) (hB : IsB d) (hk : k ≤ d.length) (hm : d.length - k = m) (hr : Rd w (some ⟨b, off, none⟩) (d.drop k)) :
    Calls Tryz.prog 94 #[.slice (some ⟨b, off, none⟩) m c, .int .u8 10] w fun e w' => e = .returned (.int .i64 (if eoL d k < d.length then ((eoL d k : Nat) : Int) - (k : Int) else -1)) ∧ w' = w := by
  have h := Tryz.bytes_IndexByte_at ⟨b, off, none⟩ m c ((d.drop k).map fun (x : Nat) => (x : Int)) 10 w (by rw [List.length_map, List.length_drop]; exact hm) (cells_int hr m (by rw [List.length_drop]; omega))
  have e : (10 : Int).toNat.toUInt8 = (10 : UInt8) := rfl
  rw [e, lf_at hB k hk] at h
  exact h
theorem take_drop_all {d : List Nat} {k : Nat} (h : eoL d k = d.length) : (d.take (eoL d k)).drop k = d.drop k := by rw [h, List.take_length]

set_option maxHeartbeats 1600000 in
set_option maxRecDepth 100000 in
theorem lineAt_some (b off n cap k : Nat) (d : List Nat) (w : World) (hl : d.length = n) (hr : Rd w (some ⟨b, off, none⟩) d) (hB : IsB d) (hn : n ≤ 1048000) (hcap : n ≤ cap) (hk : k ≤ n) :
    Calls Tryz.prog 73 #[.slice (some ⟨b, off, none⟩) n cap, .int .i64 (k : Int)] w fun e w' => e = .returned (.tuple #[.string (str ((d.take (eoL d k)).drop k)), .int .i64 ((if eoL d k < n then eoL d k + 1 else eoL d k : Nat) : Int)]) ∧ w = w' := by
  have hge := eoL_ge d k
  have hle := eoL_le (l := d) (i := k) (by omega)
  rw [hl] at hle
  have hk1 : (k : Int) ≤ (n : Int) := by omega
  have hk2 : (k : Int) ≤ (cap : Int) := by omega
  by_cases hq : eoL d k < n
  · have hck : ¬ cap = k := by omega
    have HC := lf_call b (off + k) (n - k) (cap - k) k d w hB (by omega) (by omega) (hr.drop k)
    rw [hl, if_pos hq] at HC
    have htl : ((d.take (eoL d k)).drop k).length = eoL d k - k := by rw [List.length_drop, List.length_take]; omega
    have hst := fun c' => run_str (cap := c') (n := eoL d k - k) htl ((rd_takeH hr (eoL d k)).drop k)
    have HI : Hid ((if eoL d k < n then eoL d k + 1 else eoL d k : Nat) = eoL d k + 1) := if_pos hq
    generalize (d.take (eoL d k)).drop k = t at *
    generalize hqq : eoL d k = q at *
    rw [HI.out]
    clear hqq htl HI
    obtain ⟨j, rfl⟩ : ∃ j, q = k + j := ⟨q - k, by omega⟩
    have e1 : ((k + j : Nat) : Int) - (k : Int) = (j : Int) := by omega
    have e2 : k + j - k = j := by omega
    rw [e1] at HC
    rw [e2] at hst
    have q0 : ¬ (j : Int) < 0 := by omega
    have q1 : (k : Int) ≤ (k : Int) + (j : Int) := by omega
    have q2 : (k : Int) + (j : Int) ≤ (cap : Int) := by omega
    rw [show ((k + j + 1 : Nat) : Int) = (k : Int) + (j : Int) + 1 by omega]
    clear e1 e2
    go_enter Tryz.func73, Tryz.ntmps73
    go_wp2_with fail
    refine HC.mono ?_
    rintro e w' ⟨rfl, rfl⟩
    go_wp2
    go_ret2
    exact ⟨rfl, rfl⟩
  · have hqe : eoL d k = n := by omega
    have HI : Hid ((if eoL d k < n then eoL d k + 1 else eoL d k : Nat) = n) := (if_neg hq).trans hqe
    have HT : Hid ((d.take (eoL d k)).drop k = d.drop k) := take_drop_all (by omega)
    have hdl : (d.drop k).length = n - k := by rw [List.length_drop, hl]
    rw [HI.out, HT.out]
    clear HI HT
    by_cases hck : cap = k
    · obtain rfl : n = k := by omega
      subst hck
      have hz : d.drop cap = [] := List.length_eq_zero_iff.1 (by omega)
      have HC := lf_call b off 0 0 cap d w hB (by omega) (by omega) (by rw [hz]; exact .inl rfl)
      rw [if_neg (by omega)] at HC
      have hst := fun c' => run_str (cap := c') (n := 0) (a := some ⟨b, off, none⟩) (w := w) (l := []) rfl (.inl rfl)
      rw [hz]
      clear hz hdl
      go_enter Tryz.func73, Tryz.ntmps73
      go_wp2_with fail
      refine HC.mono ?_
      rintro e w' ⟨rfl, rfl⟩
      go_wp2
      go_ret2
      exact ⟨rfl, rfl⟩
    · have HC := lf_call b (off + k) (n - k) (cap - k) k d w hB (by omega) (by omega) (hr.drop k)
      rw [hl, if_neg hq] at HC
      have hst := fun c' => run_str (cap := c') (n := n - k) hdl (hr.drop k)
      generalize d.drop k = t at *
      clear hdl
      go_enter Tryz.func73, Tryz.ntmps73
      go_wp2_with fail
      refine HC.mono ?_
      rintro e w' ⟨rfl, rfl⟩
      go_wp2
      go_ret2
      exact ⟨rfl, rfl⟩
set_option maxHeartbeats 800000 in
set_option maxRecDepth 100000 in
theorem lineAt_nil (w : World) : Calls Tryz.prog 73 #[.slice none 0 0, .int .i64 0] w fun e w' => e = .returned (.tuple #[.string (str []), .int .i64 0]) ∧ w = w' := by
  have hst := fun c' => run_str (cap := c') (n := 0) (a := none) (w := w) (l := []) rfl (.inl rfl)
  go_enter Tryz.func73, Tryz.ntmps73
  go_wp2_with fail
  refine (Tryz.bytes_IndexByte_nil _ _).mono ?_
  rintro e w' ⟨rfl, rfl⟩
  go_wp2
  go_ret2
  exact ⟨rfl, rfl⟩

/-- A blank or a tab. -/
def btB (c : Nat) : Bool := decide (c = 32 ∨ c = 9)
theorem isBlankOrTab_any (c : Nat) (w : World) (hc : c < 256) : Calls Tryz.prog 101 #[.int .u8 (c : Int)] w fun e w' => e = .returned (.bool (btB c)) ∧ w = w' := by
  go_enter Tryz.func101, Tryz.ntmps101
  go_wp2
  all_goals (go_ret; refine ret_bool ?_; rw [Bool.eq_iff_iff]; unfold btB; simp; try omega)
/-- What kind of line it is. -/
def kdL (t : List Nat) : Int := if t.length = 0 then 1 else if nth t 0 = 32 ∨ nth t 0 = 9 then 2 else if clN t < t.length then 3 else 0
theorem colon_in (t : List Nat) (hB : IsB t) : decide (0 ≤ Lib.indexByte (str t).data.toList 58) = decide (clN t < t.length) := by
  rw [str_list]
  have h := idx_nat (c := 58) (by omega) (p := noCl) (fun b => rfl) t hB
  have e : (UInt8.ofNat 58) = (58 : UInt8) := rfl
  rw [e] at h
  rw [h]
  unfold clN
  by_cases hl : (t.takeWhile noCl).length < t.length
  · rw [if_pos hl, decide_eq_true hl]; exact decide_eq_true (by omega)
  · rw [if_neg hl, decide_eq_false hl]; rfl
theorem colon_at {t : List Nat} (hB : IsB t) (h : clN t < t.length) : Lib.indexByte (str t).data.toList 58 = (clN t : Int) := by
  rw [str_list]
  have h' := idx_nat (c := 58) (by omega) (p := noCl) (fun b => rfl) t hB
  have e : (UInt8.ofNat 58) = (58 : UInt8) := rfl
  rw [e] at h'
  rw [h']
  exact if_pos h
theorem str_full {t : List Nat} (h : 0 < t.length) : (str t).toList.isEmpty = false := by
  rw [ByteArray.toList_eq, str_list]
  match t, h with
  | c :: t, _ => rfl

set_option maxHeartbeats 1600000 in
set_option maxRecDepth 100000 in
theorem kindOfLine_any (t : List Nat) (n : Nat) (w : World) (hl : t.length = n) (hB : IsB t) (hn : n ≤ 1048576) : Calls Tryz.prog 90 #[.string (str t)] w fun e w' => e = .returned (.int .i64 (kdL t)) ∧ w = w' := by
  by_cases h0 : n = 0
  · subst h0
    obtain rfl : t = [] := List.length_eq_zero_iff.1 hl
    go_enter Tryz.func90, Tryz.ntmps90
    rw [show str [] = ⟨#[]⟩ from rfl]
    go_wp2
    go_ret
    exact ⟨rfl, rfl⟩
  · have hsz : (str t).size = n := by rw [str_size, hl]
    have hsp : 0 < (str t).size := by omega
    have g0 := str_get hB (i := 0) hsp
    have hx := nth_lt hB 0
    have e0 : (str t).toList.isEmpty = false := str_full (by omega)
    have HC := Tryz.strings_Contains_one (str t) 58 w
    rw [colon_in t hB] at HC
    have HK : Hid (kdL t = if nth t 0 = 32 ∨ nth t 0 = 9 then 2 else if clN t < t.length then 3 else 0) := if_neg (by omega)
    have HB := isBlankOrTab_any (nth t 0) w hx
    generalize nth t 0 = x at *
    by_cases hb : x = 32 ∨ x = 9
    · have hb' : btB x = true := decide_eq_true hb
      rw [hb'] at HB
      have HM : Hid (kdL t = 2) := HK.out.trans (if_pos hb)
      clear HK hb hb' HC
      go_enter Tryz.func90, Tryz.ntmps90
      go_wp2_with fail
      refine HB.mono ?_
      rintro e w' ⟨rfl, rfl⟩
      go_wp2
      go_ret
      exact ⟨by rw [HM.out]; rfl, rfl⟩
    · have hb' : btB x = false := decide_eq_false hb
      rw [hb'] at HB
      by_cases hc : clN t < t.length
      · have HM : Hid (kdL t = 3) := (HK.out.trans (if_neg hb)).trans (if_pos hc)
        rw [decide_eq_true hc] at HC
        clear HK hb hb' hc
        go_enter Tryz.func90, Tryz.ntmps90
        go_wp2_with fail
        refine HB.mono ?_
        rintro e w' ⟨rfl, rfl⟩
        go_wp2_with fail
        refine HC.mono ?_
        rintro e w' ⟨rfl, rfl⟩
        go_wp2
        go_ret
        exact ⟨by rw [HM.out]; rfl, rfl⟩
      · have HM : Hid (kdL t = 0) := (HK.out.trans (if_neg hb)).trans (if_neg hc)
        rw [decide_eq_false hc] at HC
        clear HK hb hb' hc
        go_enter Tryz.func90, Tryz.ntmps90
        go_wp2_with fail
        refine HB.mono ?_
        rintro e w' ⟨rfl, rfl⟩
        go_wp2_with fail
        refine HC.mono ?_
        rintro e w' ⟨rfl, rfl⟩
        go_wp2
        go_ret
        exact ⟨by rw [HM.out]; rfl, rfl⟩

theorem str_cut (t : List Nat) (a b : Nat) : (str t).extract a b = str ((t.drop a).take (b - a)) := by
  rw [Lib.extract_eq, str_list, ← List.map_drop, ← List.map_take]
  rfl
theorem trim_one (u : List Nat) (hB : IsB u) : (⟨(Lib.trimPrefix (str u).data.toList [32]).toArray⟩ : ByteArray) = str (oneOff u) := by
  rw [str_list]
  match u, hB with
  | [], _ => rfl
  | c :: u, hB =>
    have hc := hB c (by simp)
    unfold oneOff Lib.trimPrefix Lib.hasPrefix
    by_cases e : c = 32
    · subst e
      rw [if_pos (by rfl), if_pos (by rfl)]
      rfl
    · have h1 : (UInt8.ofNat 32 == UInt8.ofNat c) = false := u8_ne (by omega) hc (fun h => e h.symm)
      have hA : ([(32 : UInt8)].isPrefixOf ((c :: u).map UInt8.ofNat)) = false := by
        rw [List.map_cons, List.isPrefixOf_cons_cons, List.isPrefixOf_nil_left, Bool.and_true]; exact h1
      rw [hA, if_neg (show ¬ nth (c :: u) 0 = 32 from e)]
      rfl

set_option maxHeartbeats 1600000 in
set_option maxRecDepth 100000 in
theorem cut_any (t : List Nat) (n : Nat) (w : World) (hl : t.length = n) (hB : IsB t) (hn : n ≤ 1048576) (hc : clN t < n) :
    Calls Tryz.prog 103 #[.string (str t), .string ⟨#[58]⟩] w fun e w' => e = .returned (.tuple #[.string (str (t.take (clN t))), .string (str (t.drop (clN t + 1))), .bool true]) ∧ Below w.heap.size w w' := by
  have hsz : (str t).size = n := by rw [str_size, hl]
  have HC := fun w => Tryz.stringslite_Index_one (str t) 58 w
  rw [colon_at hB (by omega)] at HC
  have e1 : (str t).extract 0 (clN t) = str (t.take (clN t)) := by rw [str_cut, List.drop_zero, Nat.sub_zero]
  have e2 : (str t).extract (clN t + 1) n = str (t.drop (clN t + 1)) := by rw [str_cut, List.take_of_length_le (by rw [List.length_drop]; omega)]
  generalize clN t = i at *
  generalize t.take i = t1 at *
  generalize t.drop (i + 1) = t2 at *
  have c1 : (0 : Int) ≤ (i : Int) := by omega
  have c2 : (i : Int) ≤ (n : Int) := by omega
  have c3 : (0 : Int) ≤ (i : Int) + 1 := by omega
  have c4 : (i : Int) + 1 ≤ (n : Int) := by omega
  have mixed : Tryz.prog.follows Departure.mixedOrders = true := by kernel_rfl
  have hcut : Calls Tryz.prog 116 #[.string (str t), .string ⟨#[58]⟩] w fun e w' => e = .returned (.tuple #[.string (str t1), .string (str t2), .bool true]) ∧ Below w.heap.size w w' := by
    go_enter Tryz.func116, Tryz.ntmps116
    go_wp2_with fail
    refine (HC _).mono ?_
    rintro e w' ⟨rfl, rfl⟩
    go_wp2
    go_region_o
    go_wp2
    go_ret3
    exact ⟨rfl, (Below.refl _ _).drew⟩
  go_enter Tryz.func103, Tryz.ntmps103
  go_wp2_with fail
  refine hcut.mono ?_
  rintro e w' ⟨rfl, hb⟩
  go_wp2
  go_ret3
  exact ⟨rfl, hb⟩

set_option maxHeartbeats 1600000 in
set_option maxRecDepth 100000 in
theorem fieldOfLine_any (t : List Nat) (n : Nat) (w : World) (hl : t.length = n) (hB : IsB t) (hn : n ≤ 1048576) (hc : clN t < n) :
    Calls Tryz.prog 91 #[.string (str t)] w fun e w' => e = .returned (.agg #[.string (fdL t).1, .string (fdL t).2]) ∧ Below w.heap.size w w' := by
  have HC := fun w => cut_any t n w hl hB hn hc
  have HT := fun w => Tryz.strings_TrimPrefix (str (t.drop (clN t + 1))) ⟨#[32]⟩ w
  rw [show (⟨#[32]⟩ : ByteArray).data.toList = [32] from rfl, trim_one _ (isB_drop hB _)] at HT
  have e1 : (fdL t).1 = str (t.take (clN t)) := rfl
  have e2 : (fdL t).2 = str (oneOff (t.drop (clN t + 1))) := rfl
  rw [e1, e2]
  clear e1 e2
  have hb0 : Below w.heap.size w (w.alloc (.cells #[.string ⟨#[]⟩, .string ⟨#[]⟩] 122)) := (Below.refl _ _).alloc (Nat.le_refl _) _
  generalize t.take (clN t) = t1 at *
  generalize str (oneOff (t.drop (clN t + 1))) = s2 at *
  generalize t.drop (clN t + 1) = t2 at *
  go_enter Tryz.func91, Tryz.ntmps91
  go_wp2_with fail
  refine (HC _).mono ?_
  rintro e w1 ⟨rfl, hb1⟩
  have hbl : Below (w.heap.size + 1) (w.alloc (.cells #[.string ⟨#[]⟩, .string ⟨#[]⟩] 122)) w1 := hb1.mono (by simp)
  generalize hW : w.alloc (.cells #[.string ⟨#[]⟩, .string ⟨#[]⟩] 122) = W at *
  have hbw := hb0.trans (hbl.mono (by omega))
  obtain ⟨hcw, hcw1, hfw, hfw1⟩ := res_block hW hbl
  obtain ⟨hk0, hk1⟩ := res_cells hcw hcw1 (.string (str t1)) (.string s2)
  go_wp2_with fail
  refine (HT _).mono ?_
  rintro e w2 ⟨rfl, rfl⟩
  go_wp2
  refine bodyPost_ret (v := .agg #[.string (str t1), .string s2]) (by simp [results, Tryz.results91, go_sem, hk0, hk1]) rfl ?_
  exact ⟨rfl, (hbw.setCell (by simp) _).setCell (by simp) _⟩
end Go.Proofs.YtaefomiofoakhaaGreatDoor
