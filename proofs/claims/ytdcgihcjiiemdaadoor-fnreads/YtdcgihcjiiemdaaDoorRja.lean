/- The reader of an op's bytes: the program's; no conditions beyond those that each fact names. -/
import Derived.Test.YtdcgihcjiiemdaaDoorPke
namespace Go.Proofs.YtdcgihcjiiemdaaDoor
open Go.RowKit
set_option linter.unusedVariables false

/-- Where bytes are read, ahead of the block D. -/
def RdD (D : Nat) (w : World) (a : Option Addr) (l : List Nat) : Prop := l = [] ∨ ∃ b off, a = some ⟨b, off, none⟩ ∧ b < D ∧ b < w.heap.size ∧ ∀ i, i < l.length → w.cell? ⟨b, off + i, none⟩ = some (.int .u8 (nth l i : Int))
theorem RdD.rd {D : Nat} {w : World} {a : Option Addr} {l : List Nat} (h : RdD D w a l) : Rd w a l := by
  rcases h with h | ⟨b, off, e, -, hlt, hc⟩
  · exact .inl h
  · exact .inr ⟨b, off, e, hlt, hc⟩
theorem RdD.keep {D : Nat} {w w' : World} {a : Option Addr} {l : List Nat} (h : RdD D w a l) (hb : Below D w w') : RdD D w' a l := by
  rcases h with h | ⟨b, off, e, hD, hlt, hc⟩
  · exact .inl h
  · exact .inr ⟨b, off, e, hD, Nat.lt_of_lt_of_le hlt hb.size, fun i hi => (hb.cell (p := ⟨b, off + i, none⟩) hD).trans (hc i hi)⟩
theorem RdD.take {D : Nat} {w : World} {a : Option Addr} {l : List Nat} (h : RdD D w a l) (c : Nat) : RdD D w a (l.take c) := by
  rcases h with h | ⟨b, off, e, hD, hlt, hc⟩
  · left; rw [h]; simp
  · refine .inr ⟨b, off, e, hD, hlt, fun i hi => ?_⟩
    have hi' : i < c ∧ i < l.length := by rw [List.length_take] at hi; omega
    rw [hc i hi'.2, nth_get hi'.2, nth_get hi, List.getElem_take]
/-- The reader at the block R: what is left. -/
def RsJ (D R : Nat) (w : World) (l : List Nat) : Prop := ∃ a n cap, w.cell? ⟨R, 0, none⟩ = some (.slice a n cap) ∧ l.length = n ∧ n ≤ cap ∧ cap ≤ maxLen ∧ RdD D w a l ∧ w.frozen? ⟨R, 0, none⟩ = false

theorem RdD.drop {D : Nat} {w : World} {a : Option Addr} {l : List Nat} (h : RdD D w a l) (c : Nat) : RdD D w (Option.map (fun x => x.add c) a) (l.drop c) := by
  rcases h with h | ⟨b, off, e, hD, hlt, hc⟩
  · left; rw [h]; simp
  · refine .inr ⟨b, off + c, by rw [e]; simp [Go.WideShapes.add_plain], hD, hlt, fun i hi => ?_⟩
    have hi' : c + i < l.length := by rw [List.length_drop] at hi; omega
    rw [Nat.add_assoc, hc (c + i) hi', nth_get hi', nth_get hi, List.getElem_drop]
theorem RsJ.put {D R : Nat} {w : World} {l : List Nat} {a : Option Addr} {n cap : Nat} {x : Value} (hx : w.cell? ⟨R, 0, none⟩ = some x) (hf : w.frozen? ⟨R, 0, none⟩ = false) (hD : D ≤ R) (hl : l.length = n) (hnc : n ≤ cap) (hcm : cap ≤ maxLen) (h : RdD D w a l) : RsJ D R (w.setCell ⟨R, 0, none⟩ (.slice a n cap)) l :=
  ⟨a, n, cap, World.cell?_setCell_same _ _ _ hx, hl, hnc, hcm, h.keep ((Below.refl _ _).setCell hD _), by rw [World.frozen?_setCell]; exact hf⟩
theorem RsJ.keep {D R : Nat} {w w' : World} {l : List Nat} (h : RsJ D R w l) (hb : Below D w w') (hc : w'.cell? ⟨R, 0, none⟩ = w.cell? ⟨R, 0, none⟩) (hf : w'.frozen? ⟨R, 0, none⟩ = w.frozen? ⟨R, 0, none⟩) : RsJ D R w' l := by
  obtain ⟨a, n, cap, h1, h2, h3, h4, h5, h6⟩ := h
  exact ⟨a, n, cap, hc.trans h1, h2, h3, h4, h5.keep hb, hf.trans h6⟩
/-- How a taking ends: bytes of those that were left, and the reader goes on behind them. -/
def TkEnd (D R : Nat) (t r : List Nat) (w : World) (e : Ending) (w' : World) : Prop := ∃ a cp v, e = .returned (.slice a t.length cp) ∧ w' = w.setCell ⟨R, 0, none⟩ v ∧ t.length ≤ cp ∧ cp ≤ maxLen ∧ RdD D w a t ∧ RsJ D R w' r

set_option maxHeartbeats 800000 in
set_option maxRecDepth 100000 in
theorem take_any (D R c : Nat) (l : List Nat) (w : World) (h : RsJ D R w l) (hD : D ≤ R) (hc : c ≤ 65535) :
    Calls Tryd.prog 46 #[.pointer (some ⟨R, 0, none⟩), .int .i64 (c : Int)] w fun e w' => TkEnd D R (l.take c) (l.drop c) w e w' := by
  obtain ⟨a, n, cap, hcell, hl, hnc, hcm, hrd, hfz⟩ := h
  have HCM : Hid (cap ≤ maxLen) := hcm
  unfold maxLen at hcm
  have HL : Hid (l.length = n) := hl
  have HF : Hid (∀ s a', s ≤ n → RdD D w a' (l.drop s) → RsJ D R (w.setCell ⟨R, 0, none⟩ (.slice a' (n - s) (cap - s))) (l.drop s)) := fun s a' hs ha => RsJ.put hcell hfz hD (by rw [List.length_drop, hl]) (by omega) (Nat.le_trans (Nat.sub_le _ _) HCM.out) ha
  have HR : Hid (RdD D w a l) := hrd
  clear hl hrd
  by_cases hcn : c ≤ n
  · have h1 : (c : Int) ≤ (n : Int) := by omega
    have hmn : min (c : Int) (n : Int) = (c : Int) := by omega
    have HT : Hid ((l.take c).length = c) := by show _ = _; rw [List.length_take, HL.out]; omega
    go_enter Tryd.func46, Tryd.ntmps46
    go_wp2
    case inl =>
      go_ret
      have hcc : cap = c := by assumption
      have hd : l.drop c = [] := List.drop_of_length_le (by rw [HL.out]; omega)
      have h := HF.out c a hcn (by rw [hd]; exact .inl rfl)
      rw [hcc, Nat.sub_self] at h
      exact ⟨a, c, _, by rw [HT.out]; rfl, rfl, by rw [HT.out]; omega, by rw [← hcc]; exact HCM.out, HR.out.take c, h⟩
    case inr =>
      go_ret
      exact ⟨a, cap, _, by rw [HT.out]; rfl, rfl, by rw [HT.out]; omega, HCM.out, HR.out.take c, HF.out c _ hcn (HR.out.drop c)⟩
  · have h1 : ¬ (c : Int) ≤ (n : Int) := by omega
    have hmn : min (c : Int) (n : Int) = (n : Int) := by omega
    have h2 : (n : Int) < (c : Int) := by omega
    have hT : l.take c = l := List.take_of_length_le (by rw [HL.out]; omega)
    have hd : l.drop c = [] := List.drop_of_length_le (by rw [HL.out]; omega)
    have hd2 : l.drop n = [] := List.drop_of_length_le (by rw [HL.out]; omega)
    have HF2 : Hid (∀ a', RsJ D R (w.setCell ⟨R, 0, none⟩ (.slice a' 0 (cap - n))) []) := fun a' => by
      have h := HF.out n a' (Nat.le_refl _) (by rw [hd2]; exact .inl rfl)
      rw [Nat.sub_self, hd2] at h
      exact h
    rw [hT, hd]
    clear hT hd hd2 HF
    go_enter Tryd.func46, Tryd.ntmps46
    go_wp2
    case inl =>
      go_ret
      have hcc : cap = n := by assumption
      have h := HF2.out a
      rw [hcc, Nat.sub_self] at h
      exact ⟨a, n, _, by rw [HL.out]; rfl, rfl, by rw [HL.out]; omega, by rw [← hcc]; exact HCM.out, HR.out, h⟩
    case inr =>
      go_ret
      exact ⟨a, cap, _, by rw [HL.out]; rfl, rfl, by rw [HL.out]; omega, HCM.out, HR.out, HF2.out _⟩

theorem nmJ_snoc (l : List Nat) (k : Nat) (h : k < l.length) : nmJ (l.take (k + 1)) = nmJ (l.take k) * 256 + nth l k := by
  rw [take_snoc l k h]
  unfold nmJ
  rw [List.foldl_append]
  rfl
theorem nmJ_lt : ∀ (k : Nat) (l : List Nat), IsB l → l.length ≤ k → k ≤ 2 → nmJ l < 65536
  | k, [], _, _, _ => by simp [nmJ]
  | k, [b], h, _, _ => by
    have := h b (by simp)
    simp [nmJ]; omega
  | k, [b, c], h, _, _ => by
    have := h b (by simp)
    have := h c (by simp)
    simp [nmJ]; omega
  | k, _ :: _ :: _ :: _, _, h1, h2 => by simp at h1; omega
/-- How a number ends. -/
def NmEnd (D R : Nat) (k : Nat) (r : List Nat) (w : World) (e : Ending) (w' : World) : Prop := ∃ v, e = .returned (.int .i64 (k : Int)) ∧ w' = w.setCell ⟨R, 0, none⟩ v ∧ RsJ D R w' r

set_option maxHeartbeats 800000 in
set_option maxRecDepth 100000 in
theorem rdnum_any (D R c : Nat) (l : List Nat) (w : World) (h : RsJ D R w l) (hD : D ≤ R) (hc : c ≤ 2) (hB : IsB l) :
    Calls Tryd.prog 47 #[.pointer (some ⟨R, 0, none⟩), .int .i64 (c : Int)] w fun e w' => NmEnd D R (nmJ (l.take c)) (l.drop c) w e w' := by
  have HT := take_any D R c l w h hD (by omega)
  have hBt := isB_take hB c
  have HLT : Hid ((l.take c).length ≤ 2) := by show _ ≤ _; rw [List.length_take]; omega
  generalize l.take c = t at *
  generalize l.drop c = r at *
  clear h hB
  go_enter Tryd.func47, Tryd.ntmps47
  go_wp2_with fail
  refine HT.mono ?_
  rintro e w1 ⟨a, cp, v, rfl, hw1, hcp, hcm, hrd, hrs⟩
  obtain ⟨n, hn⟩ : ∃ n, t.length = n := ⟨_, rfl⟩
  have HN : Hid (t.length = n) := hn
  have hn2 : n ≤ 2 := by rw [← hn]; exact HLT.out
  have hrd1 := (hrd.keep (w' := w1) (by rw [hw1]; exact (Below.refl _ _).setCell hD _)).rd
  have HW : Hid (w1 = w.setCell ⟨R, 0, none⟩ v) := hw1
  rw [hn]
  clear HT hrd hn hw1 HLT
  go_wp2
  go_loop [5, 12] (fun q i => ∃ (j s : Nat), j ≤ n ∧ i = .int .i64 j ∧ q = .int .i64 (s : Int) ∧ s = nmJ (t.take j) ∧ s < 65536) (fun _ i => n - (intOf i).toNat)
  case atStart => exact ⟨0, 0, Nat.zero_le _, rfl, rfl, rfl, by omega⟩
  case round =>
    obtain ⟨j, s, hj, rfl, rfl, hs, hs1⟩ := hrel
    have HS : Hid (s = nmJ (t.take j)) := hs
    clear hs
    by_cases hjn : j < n
    · have hji : (j : Int) < (n : Int) := by omega
      obtain ⟨b, off, ea, -, hcc⟩ := hrd1.at_ (by rw [HN.out]; omega)
      subst ea
      have hcj := hcc j (by rw [HN.out]; omega)
      have hby := nth_lt hBt j
      have HS2 : Hid (s * 256 + nth t j = nmJ (t.take (j + 1))) := by show _ = _; rw [nmJ_snoc t j (by rw [HN.out]; omega), ← HS.out]
      have HS3 : Hid (nmJ (t.take (j + 1)) < 65536) := nmJ_lt 2 _ (isB_take hBt _) (by rw [List.length_take, HN.out]; omega) (by omega)
      clear hcc
      generalize nth t j = y at *
      have eor := orJ256 s y (by omega) hby
      rw [Int.natCast_add, Int.natCast_mul] at eor
      go_wp2
      go_round
      case rel => exact ⟨j + 1, s * 256 + y, by omega, by go_num, by go_num, HS2.out, by rw [HS2.out]; exact HS3.out⟩
      case measure => simp [intOf]; omega
    · have hjj : j = n := by omega
      have hji : ¬ (j : Int) < (n : Int) := by omega
      have HS2 : Hid (s = nmJ t) := by show _ = _; rw [HS.out, hjj, ← HN.out, List.take_length]
      clear HS
      go_wp2
      go_ret
      exact ⟨v, by rw [← HS2.out]; rfl, HW.out, hrs⟩
end Go.Proofs.YtdcgihcjiiemdaaDoor
