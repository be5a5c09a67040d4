/- The lines of a header, the program's: the line at a place, what kind it is, the field that it tells · The lines of some bytes, told by an iterator, the program's · Whether a line of some bytes begins with two dashes, the program's · Words on memory: where a slice of ranges (two numbers each) is read, what a row of the call's own holds, an append; no conditions beyond those that each fact names. -/
import Derived.Test.YtooifkdbpghcfaaGreatDoorFdpToLow0
import Derived.Test.YtooifkdbpghcfaaGreatDoorHdr7ToShf
import Derived.RangeFuncNested
import Derived.RangeFuncBound
import Derived.RangeFuncCalls
import Derived.RangeFuncLeaves
import Derived.Shelf.Abstract
import Derived.Shelf.RegionOpen
import Derived.OwnWalkIn
import Derived.TacticsInMore
import Derived.LoopNIn
import Derived.LoopIn
import Derived.Test.YtooifkdbpghcfaaGreatDoorMemToApp
namespace Go.Proofs.YtooifkdbpghcfaaGreatDoor
open Go.RowKit

theorem u8_ne {b c : Nat} (hb : b < 256) (hc : c < 256) (h : b ≠ c) : (UInt8.ofNat b == UInt8.ofNat c) = false := by
  rw [beq_eq_false_iff_ne]
  intro e
  have := congrArg UInt8.toNat e
  rw [UInt8.toNat_ofNat', UInt8.toNat_ofNat'] at this
  omega
/-- The place of a byte. -/
theorem idx_nat {c : Nat} (hc : c < 256) {p : Nat → Bool} (hp : ∀ b, p b = decide (b ≠ c)) : ∀ l : List Nat, IsB l → Lib.indexByte (l.map UInt8.ofNat) (UInt8.ofNat c) = if (l.takeWhile p).length < l.length then ((l.takeWhile p).length : Int) else -1
  | [], _ => rfl
  | b :: l, h => by
    have hb := h b (by simp)
    have ih := idx_nat hc hp l (fun x hx => h x (by simp [hx]))
    rw [List.map_cons, Lib.indexByte, List.takeWhile_cons, hp b]
    by_cases e : b = c
    · subst e
      simp
    · rw [u8_ne hb hc e, decide_eq_true e]
      simp only [if_true, List.length_cons, Bool.false_eq_true, if_false]
      by_cases hl : (l.takeWhile p).length < l.length
      · have ih' := ih.trans (if_pos hl)
        rw [ih', if_pos (show (l.takeWhile p).length + 1 < l.length + 1 by omega), if_neg (by simp)]
        omega
      · have ih' := ih.trans (if_neg hl)
        rw [ih', if_neg (show ¬ (l.takeWhile p).length + 1 < l.length + 1 by omega), if_pos (by simp)]
theorem str_list (l : List Nat) : (str l).data.toList = l.map UInt8.ofNat := by simp [str]
theorem bytesOf_nat (l : List Nat) : Lib.bytesOf (l.map fun (b : Nat) => (b : Int)) = l.map UInt8.ofNat := by
  unfold Lib.bytesOf
  rw [List.map_map]
  rfl
/-- Where the line feed stands, from a place on. -/
theorem lf_at {d : List Nat} (hB : IsB d) (k : Nat) (hk : k ≤ d.length) : Lib.indexByte (Lib.bytesOf ((d.drop k).map fun (b : Nat) => (b : Int))) 10 = if eoL d k < d.length then ((eoL d k : Nat) : Int) - (k : Int) else -1 := by
  rw [bytesOf_nat]
  have h := idx_nat (c := 10) (by omega) (p := noLf) (fun b => rfl) (d.drop k) (isB_drop hB k)
  have e : (UInt8.ofNat 10) = (10 : UInt8) := rfl
  rw [e] at h
  rw [h, List.length_drop]
  unfold eoL
  by_cases hl : ((d.drop k).takeWhile noLf).length < d.length - k
  · rw [if_pos hl, if_pos (by omega)]; omega
  · rw [if_neg hl, if_neg (by omega)]

/-- Bytes of a slice as numbers. -/
theorem cells_int {w : World} {b off : Nat} {l : List Nat} (hr : Rd w (some ⟨b, off, none⟩) l) (n : Nat) (hn : n ≤ l.length) : ∀ i, i < n → w.cell? ((⟨b, off, none⟩ : Addr).add i) = some (.int .u8 ((l.map fun (x : Nat) => (x : Int)).getD i 0)) := by
  intro i hi
  obtain ⟨b', off', e, -, hc⟩ := hr.at_ (by omega)
  cases e
  rw [Go.WideShapes.add_plain, hc i (by omega), nth, List.getD_eq_getElem?_getD, List.getD_eq_getElem?_getD, List.getElem?_map]
  cases l[i]? <;> rfl
/-- What the search for a line feed answers. -/
theorem lf_call (b off m c k : Nat) (d : List Nat) (w : World) (hB : IsB d) (hk : k ≤ d.length) (hm : d.length - k = m) (hr : Rd w (some ⟨b, off, none⟩) (d.drop k)) :
    Calls Tryz.prog 159 #[.slice (some ⟨b, off, none⟩) m c, .int .u8 10] w fun e w' => e = .returned (.int .i64 (if eoL d k < d.length then ((eoL d k : Nat) : Int) - (k : Int) else -1)) ∧ w' = w := by
  have h := Tryz.bytes_IndexByte_at ⟨b, off, none⟩ m c ((d.drop k).map fun (x : Nat) => (x : Int)) 10 w (by rw [List.length_map, List.length_drop]; exact hm) (cells_int hr m (by rw [List.length_drop]; omega))
  have e : (10 : Int).toNat.toUInt8 = (10 : UInt8) := rfl
  rw [e, lf_at hB k hk] at h
  exact h
theorem take_drop_all {d : List Nat} {k : Nat} (h : eoL d k = d.length) : (d.take (eoL d k)).drop k = d.drop k := by rw [h, List.take_length]

set_option maxHeartbeats 1600000 in
set_option maxRecDepth 100000 in
theorem lineAt_some (b off n cap k : Nat) (d : List Nat) (w : World) (hl : d.length = n) (hr : Rd w (some ⟨b, off, none⟩) d) (hB : IsB d) (hn : n ≤ 1048000) (hcap : n ≤ cap) (hk : k ≤ n) :
    Calls Tryz.prog 132 #[.slice (some ⟨b, off, none⟩) n cap, .int .i64 (k : Int)] w fun e w' => e = .returned (.tuple #[.string (str ((d.take (eoL d k)).drop k)), .int .i64 ((if eoL d k < n then eoL d k + 1 else eoL d k : Nat) : Int)]) ∧ w = w' := by
  have hge := eoL_ge d k
  have hle := eoL_le (l := d) (i := k) (by omega)
  rw [hl] at hle
  have hk1 : (k : Int) ≤ (n : Int) := by omega
  have hk2 : (k : Int) ≤ (cap : Int) := by omega
  by_cases hq : eoL d k < n
  · have hck : ¬ cap = k := by omega
    have HC := lf_call b (off + k) (n - k) (cap - k) k d w hB (by omega) (by omega) (hr.drop k)
    rw [hl, if_pos hq] at HC
    have htl : ((d.take (eoL d k)).drop k).length = eoL d k - k := by rw [List.length_drop, List.length_take]; omega
    have hst := fun c' => run_str (cap := c') (n := eoL d k - k) htl ((rd_takeH hr (eoL d k)).drop k)
    have HI : Hid ((if eoL d k < n then eoL d k + 1 else eoL d k : Nat) = eoL d k + 1) := if_pos hq
    generalize (d.take (eoL d k)).drop k = t at *
    generalize hqq : eoL d k = q at *
    rw [HI.out]
    clear hqq htl HI
    obtain ⟨j, rfl⟩ : ∃ j, q = k + j := ⟨q - k, by omega⟩
    have e1 : ((k + j : Nat) : Int) - (k : Int) = (j : Int) := by omega
    have e2 : k + j - k = j := by omega
    rw [e1] at HC
    rw [e2] at hst
    have q0 : ¬ (j : Int) < 0 := by omega
    have q1 : (k : Int) ≤ (k : Int) + (j : Int) := by omega
    have q2 : (k : Int) + (j : Int) ≤ (cap : Int) := by omega
    rw [show ((k + j + 1 : Nat) : Int) = (k : Int) + (j : Int) + 1 by omega]
    clear e1 e2
    go_enter Tryz.func132, Tryz.ntmps132
    go_wp2_with fail
    refine HC.mono ?_
    rintro e w' ⟨rfl, rfl⟩
    go_wp2
    go_ret2
    exact ⟨rfl, rfl⟩
  · have hqe : eoL d k = n := by omega
    have HI : Hid ((if eoL d k < n then eoL d k + 1 else eoL d k : Nat) = n) := (if_neg hq).trans hqe
    have HT : Hid ((d.take (eoL d k)).drop k = d.drop k) := take_drop_all (by omega)
    have hdl : (d.drop k).length = n - k := by rw [List.length_drop, hl]
    rw [HI.out, HT.out]
    clear HI HT
    by_cases hck : cap = k
    · obtain rfl : n = k := by omega
      subst hck
      have hz : d.drop cap = [] := List.length_eq_zero_iff.1 (by omega)
      have HC := lf_call b off 0 0 cap d w hB (by omega) (by omega) (by rw [hz]; exact .inl rfl)
      rw [if_neg (by omega)] at HC
      have hst := fun c' => run_str (cap := c') (n := 0) (a := some ⟨b, off, none⟩) (w := w) (l := []) rfl (.inl rfl)
      rw [hz]
      clear hz hdl
      go_enter Tryz.func132, Tryz.ntmps132
      go_wp2_with fail
      refine HC.mono ?_
      rintro e w' ⟨rfl, rfl⟩
      go_wp2
      go_ret2
      exact ⟨rfl, rfl⟩
    · have HC := lf_call b (off + k) (n - k) (cap - k) k d w hB (by omega) (by omega) (hr.drop k)
      rw [hl, if_neg hq] at HC
      have hst := fun c' => run_str (cap := c') (n := n - k) hdl (hr.drop k)
      generalize d.drop k = t at *
      clear hdl
      go_enter Tryz.func132, Tryz.ntmps132
      go_wp2_with fail
      refine HC.mono ?_
      rintro e w' ⟨rfl, rfl⟩
      go_wp2
      go_ret2
      exact ⟨rfl, rfl⟩
set_option maxHeartbeats 800000 in
set_option maxRecDepth 100000 in
theorem lineAt_nil (w : World) : Calls Tryz.prog 132 #[.slice none 0 0, .int .i64 0] w fun e w' => e = .returned (.tuple #[.string (str []), .int .i64 0]) ∧ w = w' := by
  have hst := fun c' => run_str (cap := c') (n := 0) (a := none) (w := w) (l := []) rfl (.inl rfl)
  go_enter Tryz.func132, Tryz.ntmps132
  go_wp2_with fail
  refine (Tryz.bytes_IndexByte_nil _ _).mono ?_
  rintro e w' ⟨rfl, rfl⟩
  go_wp2
  go_ret2
  exact ⟨rfl, rfl⟩

/-- A blank or a tab. -/
def btB (c : Nat) : Bool := decide (c = 32 ∨ c = 9)
theorem isBlankOrTab_any (c : Nat) (w : World) (hc : c < 256) : Calls Tryz.prog 169 #[.int .u8 (c : Int)] w fun e w' => e = .returned (.bool (btB c)) ∧ w = w' := by
  go_enter Tryz.func169, Tryz.ntmps169
  go_wp2
  all_goals (go_ret; refine ret_bool ?_; rw [Bool.eq_iff_iff]; unfold btB; simp; try omega)
/-- What kind of line it is. -/
def kdL (t : List Nat) : Int := if t.length = 0 then 1 else if nth t 0 = 32 ∨ nth t 0 = 9 then 2 else if clN t < t.length then 3 else 0
theorem colon_in (t : List Nat) (hB : IsB t) : decide (0 ≤ Lib.indexByte (str t).data.toList 58) = decide (clN t < t.length) := by
  rw [str_list]
  have h := idx_nat (c := 58) (by omega) (p := noCl) (fun b => rfl) t hB
  have e : (UInt8.ofNat 58) = (58 : UInt8) := rfl
  rw [e] at h
  rw [h]
  unfold clN
  by_cases hl : (t.takeWhile noCl).length < t.length
  · rw [if_pos hl, decide_eq_true hl]; exact decide_eq_true (by omega)
  · rw [if_neg hl, decide_eq_false hl]; rfl
theorem colon_at {t : List Nat} (hB : IsB t) (h : clN t < t.length) : Lib.indexByte (str t).data.toList 58 = (clN t : Int) := by
  rw [str_list]
  have h' := idx_nat (c := 58) (by omega) (p := noCl) (fun b => rfl) t hB
  have e : (UInt8.ofNat 58) = (58 : UInt8) := rfl
  rw [e] at h'
  rw [h']
  exact if_pos h
theorem str_full {t : List Nat} (h : 0 < t.length) : (str t).toList.isEmpty = false := by
  rw [ByteArray.toList_eq, str_list]
  match t, h with
  | c :: t, _ => rfl

set_option maxHeartbeats 1600000 in
set_option maxRecDepth 100000 in
theorem kindOfLine_any (t : List Nat) (n : Nat) (w : World) (hl : t.length = n) (hB : IsB t) (hn : n ≤ 1048576) : Calls Tryz.prog 150 #[.string (str t)] w fun e w' => e = .returned (.int .i64 (kdL t)) ∧ w = w' := by
  by_cases h0 : n = 0
  · subst h0
    obtain rfl : t = [] := List.length_eq_zero_iff.1 hl
    go_enter Tryz.func150, Tryz.ntmps150
    rw [show str [] = ⟨#[]⟩ from rfl]
    go_wp2
    go_ret
    exact ⟨rfl, rfl⟩
  · have hsz : (str t).size = n := by rw [str_size, hl]
    have hsp : 0 < (str t).size := by omega
    have g0 := str_get hB (i := 0) hsp
    have hx := nth_lt hB 0
    have e0 : (str t).toList.isEmpty = false := str_full (by omega)
    have HC := Tryz.strings_Contains_one (str t) 58 w
    rw [colon_in t hB] at HC
    have HK : Hid (kdL t = if nth t 0 = 32 ∨ nth t 0 = 9 then 2 else if clN t < t.length then 3 else 0) := if_neg (by omega)
    have HB := isBlankOrTab_any (nth t 0) w hx
    generalize nth t 0 = x at *
    by_cases hb : x = 32 ∨ x = 9
    · have hb' : btB x = true := decide_eq_true hb
      rw [hb'] at HB
      have HM : Hid (kdL t = 2) := HK.out.trans (if_pos hb)
      clear HK hb hb' HC
      go_enter Tryz.func150, Tryz.ntmps150
      go_wp2_with fail
      refine HB.mono ?_
      rintro e w' ⟨rfl, rfl⟩
      go_wp2
      go_ret
      exact ⟨by rw [HM.out]; rfl, rfl⟩
    · have hb' : btB x = false := decide_eq_false hb
      rw [hb'] at HB
      by_cases hc : clN t < t.length
      · have HM : Hid (kdL t = 3) := (HK.out.trans (if_neg hb)).trans (if_pos hc)
        rw [decide_eq_true hc] at HC
        clear HK hb hb' hc
        go_enter Tryz.func150, Tryz.ntmps150
        go_wp2_with fail
        refine HB.mono ?_
        rintro e w' ⟨rfl, rfl⟩
        go_wp2_with fail
        refine HC.mono ?_
        rintro e w' ⟨rfl, rfl⟩
        go_wp2
        go_ret
        exact ⟨by rw [HM.out]; rfl, rfl⟩
      · have HM : Hid (kdL t = 0) := (HK.out.trans (if_neg hb)).trans (if_neg hc)
        rw [decide_eq_false hc] at HC
        clear HK hb hb' hc
        go_enter Tryz.func150, Tryz.ntmps150
        go_wp2_with fail
        refine HB.mono ?_
        rintro e w' ⟨rfl, rfl⟩
        go_wp2_with fail
        refine HC.mono ?_
        rintro e w' ⟨rfl, rfl⟩
        go_wp2
        go_ret
        exact ⟨by rw [HM.out]; rfl, rfl⟩

theorem str_cut (t : List Nat) (a b : Nat) : (str t).extract a b = str ((t.drop a).take (b - a)) := by
  rw [Lib.extract_eq, str_list, ← List.map_drop, ← List.map_take]
  rfl
theorem trim_one (u : List Nat) (hB : IsB u) : (⟨(Lib.trimPrefix (str u).data.toList [32]).toArray⟩ : ByteArray) = str (oneOff u) := by
  rw [str_list]
  match u, hB with
  | [], _ => rfl
  | c :: u, hB =>
    have hc := hB c (by simp)
    unfold oneOff Lib.trimPrefix Lib.hasPrefix
    by_cases e : c = 32
    · subst e
      rw [if_pos (by rfl), if_pos (by rfl)]
      rfl
    · have h1 : (UInt8.ofNat 32 == UInt8.ofNat c) = false := u8_ne (by omega) hc (fun h => e h.symm)
      have hA : ([(32 : UInt8)].isPrefixOf ((c :: u).map UInt8.ofNat)) = false := by
        rw [List.map_cons, List.isPrefixOf_cons_cons, List.isPrefixOf_nil_left, Bool.and_true]; exact h1
      rw [hA, if_neg (show ¬ nth (c :: u) 0 = 32 from e)]
      rfl

set_option maxHeartbeats 1600000 in
set_option maxRecDepth 100000 in
theorem cut_any (t : List Nat) (n : Nat) (w : World) (hl : t.length = n) (hB : IsB t) (hn : n ≤ 1048576) (hc : clN t < n) :
    Calls Tryz.prog 171 #[.string (str t), .string ⟨#[58]⟩] w fun e w' => e = .returned (.tuple #[.string (str (t.take (clN t))), .string (str (t.drop (clN t + 1))), .bool true]) ∧ Below w.heap.size w w' := by
  have hsz : (str t).size = n := by rw [str_size, hl]
  have HC := fun w => Tryz.stringslite_Index_one (str t) 58 w
  rw [colon_at hB (by omega)] at HC
  have e1 : (str t).extract 0 (clN t) = str (t.take (clN t)) := by rw [str_cut, List.drop_zero, Nat.sub_zero]
  have e2 : (str t).extract (clN t + 1) n = str (t.drop (clN t + 1)) := by rw [str_cut, List.take_of_length_le (by rw [List.length_drop]; omega)]
  generalize clN t = i at *
  generalize t.take i = t1 at *
  generalize t.drop (i + 1) = t2 at *
  have c1 : (0 : Int) ≤ (i : Int) := by omega
  have c2 : (i : Int) ≤ (n : Int) := by omega
  have c3 : (0 : Int) ≤ (i : Int) + 1 := by omega
  have c4 : (i : Int) + 1 ≤ (n : Int) := by omega
  have mixed : Tryz.prog.follows Departure.mixedOrders = true := by kernel_rfl
  have hcut : Calls Tryz.prog 191 #[.string (str t), .string ⟨#[58]⟩] w fun e w' => e = .returned (.tuple #[.string (str t1), .string (str t2), .bool true]) ∧ Below w.heap.size w w' := by
    go_enter Tryz.func191, Tryz.ntmps191
    go_wp2_with fail
    refine (HC _).mono ?_
    rintro e w' ⟨rfl, rfl⟩
    go_wp2
    go_region_o
    go_wp2
    go_ret3
    exact ⟨rfl, (Below.refl _ _).drew⟩
  go_enter Tryz.func171, Tryz.ntmps171
  go_wp2_with fail
  refine hcut.mono ?_
  rintro e w' ⟨rfl, hb⟩
  go_wp2
  go_ret3
  exact ⟨rfl, hb⟩

set_option maxHeartbeats 1600000 in
set_option maxRecDepth 100000 in
theorem fieldOfLine_any (t : List Nat) (n : Nat) (w : World) (hl : t.length = n) (hB : IsB t) (hn : n ≤ 1048576) (hc : clN t < n) :
    Calls Tryz.prog 151 #[.string (str t)] w fun e w' => e = .returned (.agg #[.string (fdL t).1, .string (fdL t).2]) ∧ Below w.heap.size w w' := by
  have HC := fun w => cut_any t n w hl hB hn hc
  have HT := fun w => Tryz.strings_TrimPrefix (str (t.drop (clN t + 1))) ⟨#[32]⟩ w
  rw [show (⟨#[32]⟩ : ByteArray).data.toList = [32] from rfl, trim_one _ (isB_drop hB _)] at HT
  have e1 : (fdL t).1 = str (t.take (clN t)) := rfl
  have e2 : (fdL t).2 = str (oneOff (t.drop (clN t + 1))) := rfl
  rw [e1, e2]
  clear e1 e2
  have hb0 : Below w.heap.size w (w.alloc (.cells #[.string ⟨#[]⟩, .string ⟨#[]⟩] 169)) := (Below.refl _ _).alloc (Nat.le_refl _) _
  generalize t.take (clN t) = t1 at *
  generalize str (oneOff (t.drop (clN t + 1))) = s2 at *
  generalize t.drop (clN t + 1) = t2 at *
  go_enter Tryz.func151, Tryz.ntmps151
  go_wp2_with fail
  refine (HC _).mono ?_
  rintro e w1 ⟨rfl, hb1⟩
  have hbl : Below (w.heap.size + 1) (w.alloc (.cells #[.string ⟨#[]⟩, .string ⟨#[]⟩] 169)) w1 := hb1.mono (by simp)
  generalize hW : w.alloc (.cells #[.string ⟨#[]⟩, .string ⟨#[]⟩] 169) = W at *
  have hbw := hb0.trans (hbl.mono (by omega))
  obtain ⟨hcw, hcw1, hfw, hfw1⟩ := res_block hW hbl
  obtain ⟨hk0, hk1⟩ := res_cells hcw hcw1 (.string (str t1)) (.string s2)
  go_wp2_with fail
  refine (HT _).mono ?_
  rintro e w2 ⟨rfl, rfl⟩
  go_wp2
  refine bodyPost_ret (v := .agg #[.string (str t1), .string s2]) (by simp [results, Tryz.results151, go_sem, hk0, hk1]) rfl ?_
  exact ⟨rfl, (hbw.setCell (by simp) _).setCell (by simp) _⟩
end Go.Proofs.YtooifkdbpghcfaaGreatDoor

namespace Go.Proofs.YtooifkdbpghcfaaGreatDoor
open Go.RowKit Go.Shelf
attribute [local go_sem] Oper.semAt_some

set_option maxHeartbeats 1600000 in
set_option maxRecDepth 100000 in
theorem lineAt_wide (b off n cap k : Nat) (d : List Nat) (w : World) (hl : d.length = n) (hr : Rd w (some ⟨b, off, none⟩) d) (hB : IsB d) (hn : n ≤ 2000000) (hcap : n ≤ cap) (hk : k ≤ n) :
    Calls Tryz.prog 132 #[.slice (some ⟨b, off, none⟩) n cap, .int .i64 (k : Int)] w fun e w' => e = .returned (.tuple #[.string (str ((d.take (eoL d k)).drop k)), .int .i64 ((if eoL d k < n then eoL d k + 1 else eoL d k : Nat) : Int)]) ∧ w = w' := by
  have hge := eoL_ge d k
  have hle := eoL_le (l := d) (i := k) (by omega)
  rw [hl] at hle
  have hk1 : (k : Int) ≤ (n : Int) := by omega
  have hk2 : (k : Int) ≤ (cap : Int) := by omega
  by_cases hq : eoL d k < n
  · have hck : ¬ cap = k := by omega
    have HC := lf_call b (off + k) (n - k) (cap - k) k d w hB (by omega) (by omega) (hr.drop k)
    rw [hl, if_pos hq] at HC
    have htl : ((d.take (eoL d k)).drop k).length = eoL d k - k := by rw [List.length_drop, List.length_take]; omega
    have hst := fun c' => run_str (cap := c') (n := eoL d k - k) htl ((rd_takeH hr (eoL d k)).drop k)
    have HI : Hid ((if eoL d k < n then eoL d k + 1 else eoL d k : Nat) = eoL d k + 1) := if_pos hq
    generalize (d.take (eoL d k)).drop k = t at *
    generalize hqq : eoL d k = q at *
    rw [HI.out]
    clear hqq htl HI
    obtain ⟨j, rfl⟩ : ∃ j, q = k + j := ⟨q - k, by omega⟩
    have e1 : ((k + j : Nat) : Int) - (k : Int) = (j : Int) := by omega
    have e2 : k + j - k = j := by omega
    rw [e1] at HC
    rw [e2] at hst
    have q0 : ¬ (j : Int) < 0 := by omega
    have q1 : (k : Int) ≤ (k : Int) + (j : Int) := by omega
    have q2 : (k : Int) + (j : Int) ≤ (cap : Int) := by omega
    rw [show ((k + j + 1 : Nat) : Int) = (k : Int) + (j : Int) + 1 by omega]
    clear e1 e2
    go_enter Tryz.func132, Tryz.ntmps132
    go_wp2_with fail
    refine HC.mono ?_
    rintro e w' ⟨rfl, rfl⟩
    go_wp2
    go_ret2
    exact ⟨rfl, rfl⟩
  · have hqe : eoL d k = n := by omega
    have HI : Hid ((if eoL d k < n then eoL d k + 1 else eoL d k : Nat) = n) := (if_neg hq).trans hqe
    have HT : Hid ((d.take (eoL d k)).drop k = d.drop k) := take_drop_all (by omega)
    have hdl : (d.drop k).length = n - k := by rw [List.length_drop, hl]
    rw [HI.out, HT.out]
    clear HI HT
    by_cases hck : cap = k
    · obtain rfl : n = k := by omega
      subst hck
      have hz : d.drop cap = [] := List.length_eq_zero_iff.1 (by omega)
      have HC := lf_call b off 0 0 cap d w hB (by omega) (by omega) (by rw [hz]; exact .inl rfl)
      rw [if_neg (by omega)] at HC
      have hst := fun c' => run_str (cap := c') (n := 0) (a := some ⟨b, off, none⟩) (w := w) (l := []) rfl (.inl rfl)
      rw [hz]
      clear hz hdl
      go_enter Tryz.func132, Tryz.ntmps132
      go_wp2_with fail
      refine HC.mono ?_
      rintro e w' ⟨rfl, rfl⟩
      go_wp2
      go_ret2
      exact ⟨rfl, rfl⟩
    · have HC := lf_call b (off + k) (n - k) (cap - k) k d w hB (by omega) (by omega) (hr.drop k)
      rw [hl, if_neg hq] at HC
      have hst := fun c' => run_str (cap := c') (n := n - k) hdl (hr.drop k)
      generalize d.drop k = t at *
      clear hdl
      go_enter Tryz.func132, Tryz.ntmps132
      go_wp2_with fail
      refine HC.mono ?_
      rintro e w' ⟨rfl, rfl⟩
      go_wp2
      go_ret2
      exact ⟨rfl, rfl⟩

/-- The place behind a line. -/
def nxL (d : List Nat) (k : Nat) : Nat := if eoL d k < d.length then eoL d k + 1 else eoL d k
/-- A line: its text, where it begins, the place behind it. -/
abbrev Line := ByteArray × Int × Int
/-- The lines from a place on. -/
def lnsF (d : List Nat) : Nat → Nat → List Line
  | 0, _ => []
  | f + 1, k => if k < d.length then (str ((d.take (eoL d k)).drop k), (k : Int), (nxL d k : Int)) :: lnsF d f (nxL d k) else []
def lns (d : List Nat) : List Line := lnsF d d.length 0
theorem nxL_gt {d : List Nat} {k : Nat} (h : k < d.length) : k < nxL d k ∧ nxL d k ≤ d.length := by
  have h1 := eoL_ge d k
  have h2 := eoL_le (l := d) (i := k) (by omega)
  unfold nxL
  split
  · omega
  · omega
theorem lnsF_yes {d : List Nat} {k : Nat} (h : k < d.length) (f : Nat) : lnsF d (f + 1) k = (str ((d.take (eoL d k)).drop k), (k : Int), (nxL d k : Int)) :: lnsF d f (nxL d k) := if_pos h
theorem lnsF_no {d : List Nat} {k : Nat} (h : ¬ k < d.length) : ∀ f, lnsF d f k = []
  | 0 => rfl
  | _ + 1 => if_neg h
theorem lnsF_more {d : List Nat} : ∀ (f k : Nat), d.length ≤ f + k → lnsF d (f + 1) k = lnsF d f k
  | 0, k, h => by rw [lnsF_no (by omega), lnsF_no (by omega)]
  | f + 1, k, h => by
    by_cases hk : k < d.length
    · have := nxL_gt hk
      rw [lnsF_yes hk, lnsF_yes hk, lnsF_more f _ (by omega)]
    · rw [lnsF_no hk, lnsF_no hk]
theorem lnsF_step {d : List Nat} {k : Nat} (h : k < d.length) : lnsF d (d.length - k) k = (str ((d.take (eoL d k)).drop k), (k : Int), (nxL d k : Int)) :: lnsF d (d.length - nxL d k) (nxL d k) := by
  obtain ⟨h1, h2⟩ := nxL_gt h
  obtain ⟨m, hm⟩ : ∃ m, d.length - k = m + 1 := ⟨d.length - k - 1, by omega⟩
  rw [hm, lnsF_yes h]
  congr 1
  obtain ⟨j, hj⟩ : ∃ j, m = (d.length - nxL d k) + j := ⟨m - (d.length - nxL d k), by omega⟩
  rw [hj]
  clear hj hm
  induction j with
  | zero => rfl
  | succ j ih => rw [← Nat.add_assoc, lnsF_more _ _ (by omega), ih]
def encL (x : Line) : Array Value := #[.agg #[.string x.1, .int .i64 x.2.1, .int .i64 x.2.2]]

set_option maxRecDepth 100000 in
set_option maxHeartbeats 2000000 in
theorem lines_in (n Bn : Nat) (hn : 1 ≤ n) (l m cap : Nat) (a : Option Addr) (d : List Nat) (Kp : World → World → Prop) (hKc : ∀ W W', Kp W W' → W'.cell? ⟨Bn, 0, none⟩ = W.cell? ⟨Bn, 0, none⟩) (hKr : ∀ W W', Kp W W' → Rd W a d → Rd W' a d) (J Jx : List Line → World → Prop)
    (hY : ∀ pre x W, J pre W → pre.length < (lns d).length → YieldAt Fence.wide (n - 1) Tryz.prog l (encL x) W fun e W' =>
      (e = .returned (.bool true) ∧ J (pre ++ [x]) W' ∧ Kp W W') ∨ (e = .returned (.bool false) ∧ Jx (pre ++ [x]) W'))
    (W : World) (hBn : W.cell? ⟨Bn, 0, none⟩ = some (.slice a m cap)) (ha : 0 < m → ∃ b off, a = some ⟨b, off, none⟩) (hl : d.length = m) (hr : Rd W a d) (hB : IsB d) (hm : m ≤ 2000000) (hcap : m ≤ cap) (h0 : J [] W) :
    CallsIn Fence.wide n Tryz.prog 131 #[.func (.yield l) #[] #[], .pointer (some ⟨Bn, 0, none⟩)] W fun e W' => (∃ v, e = .returned v) ∧ ((∃ ys, ys = lns d ∧ J ys W') ∨ (∃ pre, pre <+: lns d ∧ Jx pre W')) := by
  refine callsIn_of_wp Tryz.func131 rfl trivial ?_ rfl
  simp only [Tryz.ntmps131, List.size_toArray, List.length_cons, List.length_nil, Nat.reduceAdd, Nat.reduceSub, Array.replicate_succ, Array.replicate_zero, List.push_toArray, List.append_toArray, List.nil_append, List.cons_append]
  have HL : Hid (d.length = m) := hl
  clear hl
  gi_wp2
  gi_loopw [3] (fun v wr => ∃ (k : Nat) (pre : List Line), v = .int .i64 k ∧ k ≤ m ∧ Hid (lns d = pre ++ lnsF d (m - k) k) ∧ J pre wr ∧ Hid (wr.cell? ⟨Bn, 0, none⟩ = some (.slice a m cap)) ∧ Hid (Rd wr a d)) (fun v _ => m - (intOf v).toNat)
  case atStart => exact ⟨0, [], rfl, Nat.zero_le _, (by show _ = _; rw [← HL.out]; rfl), h0, hBn, hr⟩
  case round =>
    obtain ⟨k, pre, rfl, hk, HX, hJ, HBn, HR⟩ := hrel
    have hc := HBn.out
    by_cases hkm : k < m
    · have hki : (k : Int) < (m : Int) := by omega
      obtain ⟨b, off, rfl⟩ := ha (by omega)
      have HLA := lineAt_wide b off m cap k d wr HL.out HR.out hB hm hcap hk
      obtain ⟨hg1, hg2⟩ := nxL_gt (d := d) (k := k) (by rw [HL.out]; exact hkm)
      rw [HL.out] at hg2
      have HX1 : Hid (lns d = (pre ++ [(str ((d.take (eoL d k)).drop k), (k : Int), (nxL d k : Int))]) ++ lnsF d (m - nxL d k) (nxL d k)) := by
        have h := HX.out
        have h2 := lnsF_step (d := d) (k := k) (by rw [HL.out]; exact hkm)
        rw [HL.out] at h2
        rw [h2] at h
        show _ = _
        rw [h]; simp
      have hlen : pre.length < (lns d).length := by rw [HX1.out]; simp
      obtain ⟨fn, tm, asg, bdy, hy, hR⟩ := hY pre (str ((d.take (eoL d k)).drop k), (k : Int), (nxL d k : Int)) wr hJ hlen
      have HN : Hid ((if eoL d k < m then eoL d k + 1 else eoL d k : Nat) = nxL d k) := by show _ = _; unfold nxL; rw [HL.out]
      rw [HN.out] at HLA
      dsimp only [encL] at hy
      clear HX hlen HN
      generalize str ((d.take (eoL d k)).drop k) = tx at *
      generalize nxL d k = nx at *
      gi_wp2_with (first | (gi_at_call 132; refine (callsIn_wide.2 HLA).mono ?_; rintro e w' ⟨rfl, rfl⟩) | (refine ⟨trivial, ?_⟩; gi_at_call 132; refine (callsIn_wide.2 HLA).mono ?_; rintro e w' ⟨rfl, rfl⟩))
      refine hR.mono ?_
      rintro e W3 (⟨rfl, hJ3, hk3⟩ | ⟨rfl, hJx3⟩)
      · have HBn3 : Hid (W3.cell? ⟨Bn, 0, none⟩ = some (.slice (some ⟨b, off, none⟩) m cap)) := (hKc _ _ hk3).trans HBn.out
        have HR3 : Hid (Rd W3 (some ⟨b, off, none⟩) d) := hKr _ _ hk3 HR.out
        gi_wp2
        go_roundw
        case rel => exact ⟨nx, pre ++ [(tx, (k : Int), (nx : Int))], rfl, by omega, HX1, hJ3, HBn3, HR3⟩
        case measure => simp [intOf]; omega
      · gi_wp2
        refine bodyPost_ret (results_none rfl _ _ _) rfl ?_
        exact ⟨⟨_, rfl⟩, .inr ⟨_, ⟨_, HX1.out.symm⟩, hJx3⟩⟩
    · have hki : ¬ (k : Int) < (m : Int) := by omega
      have HX1 : Hid (lns d = pre) := by
        have h := HX.out
        rw [lnsF_no (by rw [HL.out]; exact hkm), List.append_nil] at h
        exact h
      clear HX
      gi_wp2
      go_end0
      exact ⟨⟨_, rfl⟩, .inl (by rw [HX1.out]; exact hJ)⟩

theorem lines_stops (n Bn m cap : Nat) (hn : 1 ≤ n) (a : Option Addr) (d : List Nat) (Kp : World → World → Prop) (w : World) (hKc : ∀ W W', Kp W W' → W'.cell? ⟨Bn, 0, none⟩ = W.cell? ⟨Bn, 0, none⟩) (hKr : ∀ W W', Kp W W' → Rd W a d → Rd W' a d) (hBn : w.cell? ⟨Bn, 0, none⟩ = some (.slice a m cap)) (h0w : Bn < w.heap.size) (ha : 0 < m → ∃ b off, a = some ⟨b, off, none⟩) (hl : d.length = m) (hr : Rd w a d) (hB : IsB d) (hm : m ≤ 2000000) (hcap : m ≤ cap) :
    SeqStopsK Fence.wide n Tryz.prog 131 #[.pointer (some ⟨Bn, 0, none⟩)] encL Kp (fun ys => ys = lns d) (fun pre => pre <+: lns d) (lns d).length w := fun l J Jx W hW _ _ hY hJ0 =>
  lines_in n Bn hn l m cap a d Kp hKc hKr J Jx hY W ((hW.cell (p := ⟨Bn, 0, none⟩) h0w).trans hBn) ha hl (hr.below hW) hB hm hcap hJ0
theorem rd_belowL {n₀ : Nat} {a : Option Addr} {d : List Nat} {W W' : World} (h : Below n₀ W W') (hr : Rd W a d) (hlt : ∀ b off, a = some ⟨b, off, none⟩ → b < n₀) : Rd W' a d := by
  rcases hr with h1 | ⟨b, off, e, hb, hc⟩
  · exact .inl h1
  · exact .inr ⟨b, off, e, Nat.lt_of_lt_of_le hb h.size, fun i hi => (h.cell (p := ⟨b, off + i, none⟩) (hlt b off e)).trans (hc i hi)⟩
/-- The program's lines, as a value. -/
theorem linesOf_any (a : Option Addr) (m cap : Nat) (w : World) : Calls Tryz.prog 99 #[.slice a m cap] w fun e w' => e = .returned (.func (.func 131) #[] #[.pointer (some ⟨w.heap.size, 0, none⟩)]) ∧ w' = w.alloc (.cells #[.slice a m cap] 22) := by
  go_enter Tryz.func99, Tryz.ntmps99
  go_wp2
  go_ret
  exact ⟨rfl, rfl⟩
end Go.Proofs.YtooifkdbpghcfaaGreatDoor

namespace Go.Proofs.YtooifkdbpghcfaaGreatDoor
open Go.RowKit Go.Shelf
attribute [local go_sem] Oper.semAt_some

/-- A block that holds a line. -/
def LnAt (W : World) (B : Nat) (x : Line) : Prop := W.heap[B]? = some (.cells #[.string x.1, .int .i64 x.2.1, .int .i64 x.2.2] 143 (0, 0))
theorem LnAt.lt {W : World} {B : Nat} {x : Line} (h : LnAt W B x) : B < W.heap.size := (Array.getElem?_eq_some_iff.1 h).1
theorem LnAt.cells {W : World} {B : Nat} {x : Line} (h : LnAt W B x) : W.cell? ⟨B, 0, none⟩ = some (.string x.1) ∧ W.cell? ⟨B, 1, none⟩ = some (.int .i64 x.2.1) ∧ W.cell? ⟨B, 2, none⟩ = some (.int .i64 x.2.2) := by
  unfold LnAt at h
  simp [World.cell?, h]
theorem LnAt.kept {W W' : World} {B : Nat} {x : Line} {row : Option Nat} (h : LnAt W B x) (hg : W.grownBy W' row) (hr : ∀ r, row = some r → ∃ o : Obj, W.heap[r]? = some o ∧ o.isCells = false) : LnAt W' B x := by
  unfold LnAt
  rw [hg.block B h.lt (fun e => by
    obtain ⟨o, ho, hc⟩ := hr B e.symm
    unfold LnAt at h
    rw [h] at ho
    cases ho
    cases hc)]
  exact h

theorem cellA {W : World} {o : Obj} {p : Addr} {v : Value} (h : W.cell? p = some v) : (W.alloc o).cell? p = some v := (((Below.refl _ W).alloc (Nat.le_refl _) o).cell (World.block_lt_of_cell? W _ h)).trans h
end Go.Proofs.YtooifkdbpghcfaaGreatDoor

namespace Go.Proofs.YtooifkdbpghcfaaGreatDoor
open Go.RowKit

/-- A field: its name and its value. -/
abbrev RngP := Int × Int
def nthR (l : List RngP) (i : Nat) : RngP := l.getD i (0, 0)
/-- Fields as cells. -/
def rc (l : List RngP) : List Value := l.flatMap fun p => [Value.int .i64 p.1, Value.int .i64 p.2]
theorem rc_cons (p : RngP) (l : List RngP) : rc (p :: l) = .int .i64 p.1 :: .int .i64 p.2 :: rc l := rfl
theorem rc_len : ∀ l : List RngP, (rc l).length = l.length * 2
  | [] => rfl
  | p :: l => by rw [rc_cons, List.length_cons, List.length_cons, rc_len l, List.length_cons]; omega
theorem rc_app (a b : List RngP) : rc (a ++ b) = rc a ++ rc b := by simp [rc]
theorem rc_one (l : List RngP) : ∀ u ∈ rc l, u.oneCell' = true := by
  intro u hu
  simp only [rc, List.mem_flatMap, List.mem_cons, List.not_mem_nil, or_false] at hu
  obtain ⟨p, _, rfl | rfl⟩ := hu <;> rfl
theorem rc_get : ∀ (l : List RngP) (i : Nat), i < l.length → (rc l)[i * 2]? = some (.int .i64 (nthR l i).1) ∧ (rc l)[i * 2 + 1]? = some (.int .i64 (nthR l i).2)
  | [], _, h => by simp at h
  | p :: l, 0, _ => ⟨rfl, rfl⟩
  | p :: l, i + 1, h => by
    have := rc_get l i (by simpa using h)
    rw [rc_cons, show (i + 1) * 2 = i * 2 + 2 by omega]
    exact this
/-- WHERE A SLICE OF FIELDS IS READ. -/
def RdR (w : World) (a : Option Addr) (l : List RngP) : Prop :=
  l = [] ∨ ∃ b off, a = some ⟨b, off, none⟩ ∧ b < w.heap.size ∧ ∀ i, i < l.length → w.cell? ⟨b, off + i * 2, none⟩ = some (.int .i64 (nthR l i).1) ∧ w.cell? ⟨b, off + i * 2 + 1, none⟩ = some (.int .i64 (nthR l i).2)
theorem RdR.below {w w' : World} {a : Option Addr} {l : List RngP} (h : RdR w a l) (hb : Below w.heap.size w w') : RdR w' a l := by
  rcases h with h | ⟨b, off, e, hlt, hc⟩
  · exact .inl h
  · exact .inr ⟨b, off, e, Nat.lt_of_lt_of_le hlt hb.size, fun i hi => ⟨(hb.cell (p := ⟨b, off + i * 2, none⟩) hlt).trans (hc i hi).1, (hb.cell (p := ⟨b, off + i * 2 + 1, none⟩) hlt).trans (hc i hi).2⟩⟩
theorem RdR.at_ {w : World} {a : Option Addr} {l : List RngP} (h : RdR w a l) (hp : 0 < l.length) :
    ∃ b off, a = some ⟨b, off, none⟩ ∧ b < w.heap.size ∧ ∀ i, i < l.length → w.cell? ⟨b, off + i * 2, none⟩ = some (.int .i64 (nthR l i).1) ∧ w.cell? ⟨b, off + i * 2 + 1, none⟩ = some (.int .i64 (nthR l i).2) := by
  rcases h with h | h
  · rw [h] at hp; simp at hp
  · exact h
theorem RdR.own {w : World} {base e n cap : Nat} {a : Option Addr} {l : List RngP} (h : w.ownsRow base e 2 (.slice a n cap) n (rc l)) : RdR w a l := by
  have hl : l.length = n := by have := h.1; rw [rc_len] at this; omega
  rcases h.2 with ⟨_, h0⟩ | ⟨g, cap', cur, h', _, hg, _, _, _, htake⟩
  · left; exact List.length_eq_zero_iff.1 (by omega)
  · simp only [Value.slice.injEq] at h'
    obtain ⟨rfl, _, rfl⟩ := h'
    right
    refine ⟨g, 0, rfl, ?_, fun i hi => ?_⟩
    · rcases Nat.lt_or_ge g w.heap.size with hlt | hge
      · exact hlt
      · simp [Array.getElem?_eq_none hge] at hg
    · have hf := rc_get l i hi
      refine ⟨?_, ?_⟩
      · rw [cell_of_row w g (0 + i * 2) cur e (0, 0) hg, ← hf.1, ← htake, List.getElem?_take, if_pos (by omega)]
        simp
      · rw [cell_of_row w g (0 + i * 2 + 1) cur e (0, 0) hg, ← hf.2, ← htake, List.getElem?_take, if_pos (by omega)]
        simp

def zeroR : Value := .agg #[.int .i64 0, .int .i64 0]
theorem infoR : (Tryz.prog.info? 85).map (fun i => (i.zero, i.size, i.bytes)) = some (some zeroR, 2, 16) := by kernel_rfl

/-- THE SLICE v IS THE CALL's OWN AND HOLDS THE FIELDS l. -/
def OwnR (w : World) (B : Nat) (v : Value) (l : List RngP) : Prop := w.ownsRow B 85 2 v l.length (rc l)
theorem OwnR.nil (w : World) (B : Nat) : OwnR w B (.slice none 0 0) [] := World.ownsRow_nil _ _ _ _
theorem OwnR.alloc {w : World} {B : Nat} {v : Value} {l : List RngP} (h : OwnR w B v l) (o : Obj) : OwnR (w.alloc o) B v l := World.ownsRow.alloc h o
theorem OwnR.below {w w' : World} {B C : Nat} {v : Value} {l : List RngP} (h : OwnR w B v l) (hb : Below C w w') (hC : w.heap.size ≤ C) : OwnR w' B v l := by
  refine ⟨h.1, ?_⟩
  rcases h.2 with h' | ⟨g, cap, cur, h1, h2, h3, h4⟩
  · exact .inl h'
  · refine .inr ⟨g, cap, cur, h1, h2, ?_, h4⟩
    have hg : g < w.heap.size := by
      rcases Nat.lt_or_ge g w.heap.size with hlt | hge
      · exact hlt
      · simp [Array.getElem?_eq_none hge] at h3
    rw [hb.block g (by omega)]; exact h3
theorem OwnR.form {w : World} {B : Nat} {v : Value} {l : List RngP} (h : OwnR w B v l) : ∃ a cap, v = .slice a l.length cap ∧ l.length ≤ cap ∧ cap ≤ maxLen := by
  rcases h.2 with ⟨h', h0⟩ | ⟨g, cap, cur, h', _, _, h4, h5, _⟩
  · exact ⟨none, 0, by rw [h', h0], by omega, by decide⟩
  · exact ⟨_, cap, h', h4, h5⟩
theorem OwnR.rd {w : World} {B n cap : Nat} {a : Option Addr} {l : List RngP} (h : OwnR w B (.slice a n cap) l) : l.length = n ∧ RdR w a l := by
  have hf : l.length = n := by
    obtain ⟨a', c', e, _⟩ := h.form
    simp at e; omega
  subst hf
  exact ⟨rfl, RdR.own h⟩
theorem OwnR.low {w : World} {B C : Nat} {v : Value} {l : List RngP} (h : OwnR w B v l) (hC : C ≤ B) : OwnR w C v l := by
  refine ⟨h.1, ?_⟩
  rcases h.2 with h' | ⟨g, cap, cur, h1, h2, h3⟩
  · exact .inl h'
  · exact .inr ⟨g, cap, cur, h1, Nat.le_trans hC h2, h3⟩
theorem OwnR.kept {w : World} {B : Nat} {v : Value} {l : List RngP} (h : OwnR w B v l) (p : Addr) (hp : p.block < B) (u : Value) : OwnR (w.setCell p u) B v l := ownsRow_setCell_below h hp u
theorem OwnR.far {w w' : World} {B : Nat} {v : Value} {l : List RngP} {row : Option Nat} (h : OwnR w B v l) (hg : w.grownBy w' row) (hne : ∀ b, v.ownBlock = some b → some b ≠ row) : OwnR w' B v l := by
  refine ⟨h.1, ?_⟩
  rcases h.2 with h' | ⟨g, cap, cur, h1, h2, h3, h4⟩
  · exact .inl h'
  · refine .inr ⟨g, cap, cur, h1, h2, ?_, h4⟩
    have hlt : g < w.heap.size := by
      rcases Nat.lt_or_ge g w.heap.size with hlt | hge
      · exact hlt
      · simp [Array.getElem?_eq_none hge] at h3
    rw [hg.block g hlt (hne g (by rw [h1]; rfl))]; exact h3

end Go.Proofs.YtooifkdbpghcfaaGreatDoor
