/- A told word by its parts and by its places: the same; plain functions, with no program in them · The library's own bound · EncodeWords, the program's, at every slice of characters; the bytes that are seen. -/
import Derived.Test.YtfbjodbihenmjaaGreatDoorDecLToWpm
import Derived.Test.YtfbjodbihenmjaaGreatDoorJfqToInf
import Derived.Below
import Derived.Test.YtfbjodbihenmjaaGreatDoorDecQToEncQ2
import Derived.Test.YtfbjodbihenmjaaGreatDoorEncB3ToDecB3
import Derived.Test.YtfbjodbihenmjaaGreatDoorFldToWPl
import Derived.Test.YtfbjodbihenmjaaGreatDoorHdr7ToShf
import Derived.Handy
namespace Go.Proofs.YtfbjodbihenmjaaGreatDoor
open Go.RowKit

/-- The bytes of a word, by the text of its way. -/
def toldP (p2 t : List Nat) : Option (List Nat) := if p2.length = 1 then toldV (nth p2 0) t else none
/-- A told word, by its parts. -/
def tdP (v : List Nat) : Option (List Int × Nat) := match spl 4 v with
  | [p0, p1, p2, p3, p4] => if p0 = [61] ∧ nth p4 0 = 61 then (if csI (str (p1.map low)) = 0 then none else match toldP p2 p3 with
      | none => none
      | some bs => (decL (csI (str (p1.map low))) bs).map fun u => (u, v.length - p4.length + 1)) else none
  | _ => none
theorem tw_pre {p : Nat → Bool} : ∀ (a : List Nat) (x : Nat) (r : List Nat), a.all p = true → p x = false → (a ++ x :: r).takeWhile p = a
  | [], x, r, _, h => by rw [List.nil_append, List.takeWhile_cons, h]; rfl
  | c :: a, x, r, ha, h => by
    rw [List.all_cons, Bool.and_eq_true] at ha
    rw [List.cons_append, List.takeWhile_cons, ha.1, if_pos rfl, tw_pre a x r ha.2 h]
theorem drop_pre (a : List Nat) (x : Nat) (r : List Nat) : (a ++ x :: r).drop (a.length + 1) = r := by
  rw [show a ++ x :: r = (a ++ [x]) ++ r by simp, show a.length + 1 = (a ++ [x]).length by simp]
  exact List.drop_left
theorem spl_cut (k : Nat) (a r : List Nat) (ha : a.all noQu = true) : spl (k + 1) (a ++ 63 :: r) = a :: spl k r := by
  unfold spl
  rw [tw_pre a 63 r ha (by decide), if_pos (by rw [List.length_append, List.length_cons]; omega), drop_pre]
  cases k <;> rfl
theorem runL_pre (a r : List Nat) (k : Nat) (b : List Nat) (ha : a.all noQu = true) (hb : b.length = k) : runL noQu (b ++ (a ++ 63 :: r)) k = a.length := by
  unfold runL
  rw [← hb, List.drop_left, tw_pre a 63 r ha (by decide)]
/-- The form of a told word. -/
theorem wd_form (p1 p3 z : List Nat) (c : Nat) (h1 : p1.all noQu = true) (h3 : p3.all noQu = true) (v : List Nat) (hv : v = 61 :: 63 :: (p1 ++ 63 :: (c :: 63 :: (p3 ++ 63 :: (61 :: z))))) :
    wdA v = 2 + p1.length ∧ wdZ v = 2 + p1.length + 3 + p3.length ∧ wdF v ∧ (v.take (wdA v)).drop 2 = p1 ∧ nth v (wdA v + 1) = c ∧ (v.take (wdZ v)).drop (wdA v + 3) = p3 ∧ v.length = wdZ v + 2 + z.length := by
  have hA : wdA v = 2 + p1.length := by
    unfold wdA
    rw [hv, show 61 :: 63 :: (p1 ++ 63 :: (c :: 63 :: (p3 ++ 63 :: (61 :: z)))) = [61, 63] ++ (p1 ++ 63 :: (c :: 63 :: (p3 ++ 63 :: (61 :: z)))) from rfl, runL_pre _ _ 2 [61, 63] h1 rfl]
  have e2 : v = ([61, 63] ++ p1 ++ [63, c, 63]) ++ (p3 ++ 63 :: (61 :: z)) := by rw [hv]; simp
  have hl2 : ([61, 63] ++ p1 ++ [63, c, 63]).length = 2 + p1.length + 3 := by simp; omega
  have hZ : wdZ v = 2 + p1.length + 3 + p3.length := by
    unfold wdZ
    rw [hA]
    conv => lhs; rhs; rw [e2]
    rw [runL_pre p3 (61 :: z) _ _ h3 hl2]
  have gen : ∀ (a b : List Nat) (k j : Nat), a.length = k → nth (a ++ b) (k + j) = nth b j := fun a b k j h => by
    subst h
    simp [nth, List.getD_eq_getElem?_getD, List.getElem?_append_right]
  have e1 : v = ([61, 63] ++ p1) ++ (63 :: c :: 63 :: (p3 ++ 63 :: (61 :: z))) := by rw [hv]; simp
  have hl1 : ([61, 63] ++ p1).length = 2 + p1.length := by simp; omega
  have e3 : v = ([61, 63] ++ p1 ++ [63, c, 63] ++ p3) ++ (63 :: 61 :: z) := by rw [hv]; simp
  have hl3 : ([61, 63] ++ p1 ++ [63, c, 63] ++ p3).length = 2 + p1.length + 3 + p3.length := by simp; omega
  refine ⟨hA, hZ, ⟨?_, ?_, ?_, ?_⟩, ?_, ?_, ?_, ?_⟩
  · rw [hv]; rfl
  · rw [hv]; rfl
  · rw [hA]; conv => lhs; rw [e1]
    rw [gen _ _ _ 2 hl1]; rfl
  · rw [hZ]; conv => lhs; rw [e3]
    rw [gen _ _ _ 1 hl3]; rfl
  · rw [hA]; conv => lhs; rw [e1]
    rw [← hl1, List.take_left]; rfl
  · rw [hA]; conv => lhs; rw [e1]
    rw [gen _ _ _ 1 hl1]; rfl
  · rw [hZ, hA]; conv => lhs; rw [e3]
    rw [← hl3, List.take_left, ← hl2, List.drop_left]
  · rw [hZ, e3, List.length_append, hl3]; simp; omega
theorem noQu_no {x : Nat} (h : noQu x = false) : x = 63 := by
  have := of_decide_eq_false h
  omega
/-- What has the form is so built. -/
theorem wd_parts {v : List Nat} (hf : wdF v) : ∃ p1 c p3 z, p1.all noQu = true ∧ p3.all noQu = true ∧ v = 61 :: 63 :: (p1 ++ 63 :: (c :: 63 :: (p3 ++ 63 :: (61 :: z)))) := by
  obtain ⟨h0, h1, h2, h3⟩ := hf
  have l1 := nth_lt_len (l := v) (k := wdZ v + 1) (by rw [h3]; decide)
  match v, h0, h1, h2, h3, l1 with
  | a :: b :: u, h0, h1, h2, h3, l1 =>
    have ea : a = 61 := h0
    have eb : b = 63 := h1
    subst ea eb
    have hA : wdA (61 :: 63 :: u) = 2 + (u.takeWhile noQu).length := rfl
    have hl : (u.takeWhile noQu).length < u.length := by
      have := nth_lt_len (l := 61 :: 63 :: u) (k := wdA (61 :: 63 :: u) + 2) (by rw [h2]; decide)
      rw [hA] at this
      simp only [List.length_cons] at this
      omega
    obtain ⟨x, r, e1, hx, -, -⟩ := tw_split u hl
    have hx63 := noQu_no hx
    subst hx63
    have hp1 := tw_allp noQu u
    generalize u.takeWhile noQu = p1 at *
    subst e1
    -- r has the way and a mark
    have gen : ∀ (a b : List Nat) (k j : Nat), a.length = k → nth (a ++ b) (k + j) = nth b j := fun a b k j h => by
      subst h
      simp [nth, List.getD_eq_getElem?_getD, List.getElem?_append_right]
    have e2 : (61 :: 63 :: (p1 ++ 63 :: r)) = ([61, 63] ++ p1) ++ (63 :: r) := by simp
    have hl1 : ([61, 63] ++ p1).length = 2 + p1.length := by simp; omega
    have hr1 : nth r 1 = 63 := by
      rw [hA, e2, gen _ _ _ 2 hl1] at h2
      exact h2
    match r, hr1 with
    | c :: d :: y, hr1 =>
      have ed : d = 63 := hr1
      subst ed
      have hZ : wdZ (61 :: 63 :: (p1 ++ 63 :: c :: 63 :: y)) = 2 + p1.length + 3 + (y.takeWhile noQu).length := by
        unfold wdZ runL
        rw [hA, show 61 :: 63 :: (p1 ++ 63 :: c :: 63 :: y) = ([61, 63] ++ p1 ++ [63, c, 63]) ++ y by simp, show 2 + p1.length + 3 = ([61, 63] ++ p1 ++ [63, c, 63]).length by simp; omega, List.drop_left]
      have hly : (y.takeWhile noQu).length < y.length := by
        rw [hZ] at l1
        simp only [List.length_cons, List.length_append] at l1
        omega
      obtain ⟨x, q, e3, hx, -, -⟩ := tw_split y hly
      have hx63 := noQu_no hx
      subst hx63
      have hp3 := tw_allp noQu y
      generalize y.takeWhile noQu = p3 at *
      subst e3
      have e4 : (61 :: 63 :: (p1 ++ 63 :: c :: 63 :: (p3 ++ 63 :: q))) = ([61, 63] ++ p1 ++ [63, c, 63] ++ p3) ++ (63 :: q) := by simp
      have hl3 : ([61, 63] ++ p1 ++ [63, c, 63] ++ p3).length = 2 + p1.length + 3 + p3.length := by simp; omega
      have hq0 : nth q 0 = 61 := by
        rw [hZ, e4, gen _ _ _ 1 hl3] at h3
        exact h3
      match q, hq0 with
      | g :: z, hq0 =>
        have eg : g = 61 := hq0
        subst eg
        exact ⟨p1, c, p3, z, hp1, hp3, rfl⟩
theorem spl_step {k : Nat} {v p : List Nat} {ps : List (List Nat)} (h : spl (k + 1) v = p :: ps) (hp : ps ≠ []) : p.all noQu = true ∧ ∃ r, v = p ++ 63 :: r ∧ spl k r = ps := by
  unfold spl at h
  split at h
  · rename_i hl
    obtain ⟨x, r, e1, hx, h3, -⟩ := tw_split v hl
    have hx63 := noQu_no hx
    subst hx63
    rw [h3] at h
    cases h
    exact ⟨tw_allp noQu v, r, e1, by cases k <;> rfl⟩
  · cases h
    exact absurd rfl hp
theorem td_same (v : List Nat) : tdP v = wdV v := by
  cases hs : wdV v with
  | some r =>
    obtain ⟨hf, hc, bs, hb, hd, e⟩ := wdV_some hs
    obtain ⟨p1, c, p3, z, h1, h3, hv⟩ := wd_parts hf
    obtain ⟨hA, hZ, _, hq1, hqc, hq3, hlen⟩ := wd_form p1 p3 z c h1 h3 v hv
    have hc63 : noQu c = true := by
      unfold wdB at hb
      rw [hqc] at hb
      refine decide_eq_true (fun e => ?_)
      subst e
      rw [toldV_no (by decide) (by decide)] at hb
      cases hb
    have hsp : spl 4 v = [[61], p1, [c], p3, 61 :: z] := by
      rw [hv, show 61 :: 63 :: (p1 ++ 63 :: (c :: 63 :: (p3 ++ 63 :: (61 :: z)))) = [61] ++ 63 :: (p1 ++ 63 :: ([c] ++ 63 :: (p3 ++ 63 :: (61 :: z)))) from rfl,
        spl_cut 3 _ _ (by decide), spl_cut 2 _ _ h1, spl_cut 1 _ _ (by rw [List.all_cons, hc63]; rfl), spl_cut 0 _ _ h3]
      rfl
    unfold tdP
    rw [hsp]
    simp only
    rw [if_pos ⟨trivial, rfl⟩]
    unfold wdC at hc hd
    rw [hq1] at hc hd
    rw [if_neg hc]
    unfold wdB at hb
    rw [hqc, hq3] at hb
    have ht : toldP [c] p3 = some bs := (if_pos (show [c].length = 1 from rfl)).trans hb
    rw [ht]
    simp only
    rw [hd, hlen, List.length_cons]
    obtain ⟨r1, r2⟩ := r
    simp only at e
    subst e
    show some (r1, _) = some (r1, _)
    congr 2
    omega
  | none =>
    unfold tdP
    split
    · rename_i p0 p1 p2 p3 p4 hsp
      split
      · rename_i hc
        obtain ⟨h0, h4⟩ := hc
        obtain ⟨_, r0, e0, hs0⟩ := spl_step hsp (by simp)
        obtain ⟨ha1, r1, e1, hs1⟩ := spl_step hs0 (by simp)
        obtain ⟨ha2, r2, e2, hs2⟩ := spl_step hs1 (by simp)
        obtain ⟨ha3, r3, e3, hs3⟩ := spl_step hs2 (by simp)
        have e4 : r3 = p4 := by
          have : [r3] = [p4] := hs3
          simpa using this
        subst e4 e3 e2 e1 h0
        split
        · rfl
        · rename_i hcs
          cases htp : toldP p2 p3 with
          | none => rfl
          | some bs =>
            simp only
            unfold toldP at htp
            split at htp
            · rename_i h1
              match p2, h1 with
              | [c], _ =>
                match r3, h4 with
                | g :: z, h4 =>
                  have eg : g = 61 := h4
                  subst eg
                  obtain ⟨hA, hZ, hf, hq1, hqc, hq3, hlen⟩ := wd_form p1 p3 z c ha1 ha3 v (by rw [e0]; rfl)
                  have hd := wdV_dec (v := v) (bs := bs) hf (by unfold wdC; rw [hq1]; exact hcs) (by unfold wdB; rw [hqc, hq3]; exact htp)
                  rw [hs] at hd
                  unfold wdC at hd
                  rw [hq1] at hd
                  cases hdl : decL (csI (str (p1.map low))) bs with
                  | none => rfl
                  | some u => rw [hdl] at hd; cases hd
            · cases htp
      · rfl
    · rfl
end Go.Proofs.YtfbjodbihenmjaaGreatDoor

namespace Go.Proofs.YtfbjodbihenmjaaGreatDoor
open Go.RowKit

/-- The library's own bound lies in its variable. -/
def MaxI (w : World) : Prop := ∃ m, w.cell? ⟨1, 0, none⟩ = some (.int .i64 m)
theorem MaxI.below {w w' : World} (h : MaxI w) (hb : Below w.heap.size w w') : MaxI w' := by
  obtain ⟨m, hm⟩ := h
  exact ⟨m, (hb.cell (p := ⟨1, 0, none⟩) (World.block_lt_of_cell? _ _ hm)).trans hm⟩
end Go.Proofs.YtfbjodbihenmjaaGreatDoor

namespace Go.Proofs.YtfbjodbihenmjaaGreatDoor
open Go.RowKit

theorem isSeen_any (c : Nat) (w : World) (hc : c < 256) : Calls Tryz.prog 149 #[.int .u8 (c : Int)] w fun e w' => e = .returned (.bool (seenB c)) ∧ w = w' := by
  go_enter Tryz.func149, Tryz.ntmps149
  go_wp2
  all_goals (go_ret; refine ret_bool ?_; rw [Bool.eq_iff_iff]; unfold seenB; simp; try omega)
set_option maxHeartbeats 1600000 in
set_option maxRecDepth 100000 in
theorem areBytes_seen (t : List Nat) (n : Nat) (w : World) (hl : t.length = n) (hB : IsB t) (hn : n ≤ 1048576) :
    Calls Tryz.prog 108 #[.string (str t), .func (.func 149) #[] #[]] w fun e w' => e = .returned (.bool (t.all seenB)) ∧ w = w' := by
  have hsz : (str t).size = n := by rw [str_size, hl]
  have HL : Hid (t.length = n) := hl
  clear hl
  go_enter Tryz.func108, Tryz.ntmps108
  go_wp2
  go_loop [8] (fun v => ∃ k : Nat, k ≤ n ∧ v = .int .i64 k ∧ (t.take k).all seenB = true) (fun v => n - (intOf v).toNat)
  case atStart => exact ⟨0, Nat.zero_le _, rfl, by simp⟩
  case round =>
    obtain ⟨k, hk, rfl, hall⟩ := hrel
    by_cases hkn : k < n
    · have hki : (k : Int) < (n : Int) := by omega
      have g0 := str_get hB (i := k) (by rw [hsz]; exact hkn)
      have HY : Hid (seenB (nth t k) = true → (t.take (k + 1)).all seenB = true) := fun h => allN_step (by have := HL.out; omega) hall h
      have HN : Hid (seenB (nth t k) = false → t.all seenB = false) := fun h => allN_bad (by have := HL.out; omega) h
      have hx := nth_lt hB k
      have HC : Hid (∀ w, Calls Tryz.prog 149 #[.int .u8 (nth t k : Int)] w fun e w' => e = .returned (.bool (seenB (nth t k))) ∧ w = w') := fun w => isSeen_any (nth t k) w hx
      generalize hbv : seenB (nth t k) = bv at *
      clear hbv hall
      generalize nth t k = x at *
      cases bv with
      | true =>
        have HM : Hid (_) := HY.out rfl
        clear HY HN
        go_wp2_with fail
        refine (HC.out _).mono ?_
        rintro e w' ⟨rfl, rfl⟩
        go_wp2
        go_round
        case rel => exact ⟨k + 1, by omega, by go_num, HM.out⟩
        case measure => simp [intOf]; omega
      | false =>
        have HM : Hid (_) := HN.out rfl
        clear HY HN
        go_wp2_with fail
        refine (HC.out _).mono ?_
        rintro e w' ⟨rfl, rfl⟩
        go_wp2
        go_ret
        exact ⟨by rw [HM.out]; rfl, rfl⟩
    · have hki : ¬ (k : Int) < (n : Int) := by omega
      have HM : Hid (t.all seenB = true) := by
        show _ = _
        rw [show k = t.length by have := HL.out; omega, List.take_length] at hall
        exact hall
      clear hall
      go_wp2
      go_ret
      exact ⟨by rw [HM.out]; rfl, rfl⟩

theorem contains_any (t : List Nat) (n : Nat) (w : World) (hl : t.length = n) (hB : IsB t) (hn : n ≤ 1048576) (hm : MaxI w) : Calls Tryz.prog 128 #[.string (str t), .string ⟨#[61, 63]⟩] w fun e w' => e = .returned (.bool (eqq t)) ∧ w = w' := by
  obtain ⟨m, hm⟩ := hm
  have h := Tryz.strings_Contains (str t) ⟨#[61, 63]⟩ m w (by rw [str_size]; omega) hm
  rw [show (⟨#[61, 63]⟩ : ByteArray).data.toList = [61, 63] from rfl, show (str t).data.toList = t.map UInt8.ofNat by simp [str], contains_eqq t hB] at h
  exact h.mono fun e w' h => ⟨h.1, h.2.symm⟩
theorem str_sum (a b : List Nat) : str (a ++ b) = str a ++ str b := by
  unfold str
  apply ByteArray.ext
  simp [ByteArray.data_append]
theorem told_sum (o : List Nat) (h : (toldW o).length ≤ 1048576) : ∃ u : ByteArray, (∀ w, (Op.stringOp .add ⟨#[61, 63, 117, 116, 102, 45, 56, 63, 66, 63]⟩ (str (Xf.enc o))).run Tryz.prog w = .ok (.string u) w) ∧ ∀ w, (Op.stringOp .add u ⟨#[63, 61]⟩).run Tryz.prog w = .ok (.string (str (toldW o))) w := by
  rw [toldW_len] at h
  have e0 : (⟨#[61, 63, 117, 116, 102, 45, 56, 63, 66, 63]⟩ : ByteArray) = str twB := rfl
  have e1 : (⟨#[63, 61]⟩ : ByteArray) = str [63, 61] := rfl
  refine ⟨str (twB ++ Xf.enc o), fun w => ?_, fun w => ?_⟩
  · rw [e0, str_sum]
    exact run_string_add_sum w _ _ (by rw [str_size, str_size]; simp only [twB, List.length_cons, List.length_nil]; omega)
  · unfold toldW
    rw [e1, str_sum (twB ++ Xf.enc o)]
    exact run_string_add_sum w _ _ (by rw [str_size, str_size, List.length_append]; simp only [twB, List.length_cons, List.length_nil]; omega)
theorem enc_few {o : List Nat} (h : o.length ≤ 400) : (Xf.enc o).length ≤ 1000 := by
  rw [Xf.enc_len]; omega

/-- An answer with a text. -/
def TxtEnd (r : Int × List Nat) (w : World) (e : Ending) (w' : World) : Prop := e = .returned (.agg #[.int .i64 r.1, .string (str r.2)]) ∧ Below w.heap.size w w'
theorem TxtEnd.put {r : Int × List Nat} {w w1 : World} (hbel : Below w.heap.size w w1) (x y : Value) : TxtEnd r w (.returned (.agg #[.int .i64 r.1, .string (str r.2)])) ((w1.setCell ⟨w.heap.size, 0, none⟩ x).setCell ⟨w.heap.size, 1, none⟩ y) :=
  ⟨rfl, (hbel.setCell (by simp) _).setCell (by simp) _⟩

end Go.Proofs.YtfbjodbihenmjaaGreatDoor
