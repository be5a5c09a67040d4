/- PartCodes, both sides · The beginning of a text, with one blank for all that is white: both sides, by plain functions · The beginning of a text, the model's: l6Short. -/
import Derived.Test.YtooifkdbpghcfaaGreatDoorDec7ToPcm
import Derived.Test.YtooifkdbpghcfaaGreatDoorJfzToAppI
import Derived.Test.YtooifkdbpghcfaaGreatDoorMrk0ToSee
namespace Go.Proofs.YtooifkdbpghcfaaGreatDoor
open Go.RowKit

/-- What PartCodes answers. -/
def pqV (d : List Nat) (k : Int) : Int × List Int := if (pwV d k).1 = 0 then pcP d (ppV d k) else ((pwV d k).1, [])
theorem pqV_zero {d : List Nat} {k : Int} (h : (pqV d k).1 ≠ 0) : (pqV d k).2 = [] := by
  unfold pqV at h ⊢
  split
  · rename_i h1; rw [if_pos h1] at h; exact pcP_zero h
  · rfl
theorem pcP_len (d : List Nat) (p : PtP) : (pcP d p).2.length ≤ 400 := by
  unfold pcP
  split
  · simp
  · split
    · simp
    · split
      · simp
      · exact decT_few _ _
theorem CodEnd.at_ {c : Int} {w w1 : World} {v : Value} {l : List Int} {R : Nat} (hbel : Below w.heap.size w w1) (hR : w.heap.size ≤ R) (hown : OwnI w1 (R + 1) v l) (x y : Value) : CodEnd (c, l) w (.returned (.agg #[.int .i64 c, v])) ((w1.setCell ⟨R, 0, none⟩ x).setCell ⟨R, 1, none⟩ y) :=
  ⟨v, rfl, row_low (ownsRow_setCell_below (ownsRow_setCell_below hown (by simp) _) (by simp) _) (by omega), (hbel.setCell (p := ⟨R, 0, none⟩) hR _).setCell (p := ⟨R, 1, none⟩) hR _⟩

set_option maxHeartbeats 1600000 in
set_option maxRecDepth 100000 in
theorem partCodes1_any {cp : Nat} (b m B0 B1 : Nat) (d : List Nat) (k : Int) (w : World) (hr : Rd w (some ⟨b, 0, none⟩) d) (hT : TabC w) (hTB : TabB w) (hTH : TabH w) (hMI : MaxI w) (hB : IsB d) (hl : d.length = m)
    (h0 : w.cell? ⟨B0, 0, none⟩ = some (.slice (some ⟨b, 0, none⟩) m cp)) (h1 : w.cell? ⟨B1, 0, none⟩ = some (.int .i64 k)) (hcp : m ≤ cp := by omega) :
    Calls Tryz.prog 48 #[.pointer (some ⟨B0, 0, none⟩), .pointer (some ⟨B1, 0, none⟩)] w (SeeI (pqV d k) w) := by
  have l0 := World.block_lt_of_cell? w ⟨B0, 0, none⟩ h0
  have l1 := World.block_lt_of_cell? w ⟨B1, 0, none⟩ h1
  dsimp only at l0 l1
  have HP := partIn_any (cp := cp) b m d k w.drew hr hT hB hl
  have HY : Hid (∀ w', Below w.heap.size w w' → (pwV d k).1 = 0 → Calls Tryz.prog 46 #[.slice (some ⟨b, 0, none⟩) m cp, ptA (ppV d k)] w' (SeeI (pqV d k) w')) := fun w' hb h => by
    obtain ⟨h4, f, t, h1, h2, h3⟩ := ppV_in h
    have e : pqV d k = pcP d (ppV d k) := if_pos h
    rw [e]
    exact codesOfPart_any b m d (ppV d k) f t w' (hr.below hb) hB hl (by omega) h1 h2 (by omega) (hTB.below hb) (hTH.below hb) (hMI.below hb)
  have HZ : Hid ((pwV d k).1 ≠ 0 → pqV d k = ((pwV d k).1, [])) := fun h => if_neg h
  have HQ : Hid ((pwV d k).1 = 0 → nthP (pwV d k).2 k.toNat = ppV d k) := fun h => (if_pos h).symm
  generalize pqV d k = r at *
  generalize ppV d k = q at *
  generalize pwV d k = pw at *
  unfold ptA at *
  obtain ⟨⟨p0, p1, p2⟩, ⟨p3, p4⟩, p5, p6⟩ := q
  dsimp only at HY
  go_enter Tryz.func48, Tryz.ntmps48
  go_wp2_with fail
  refine wp_region_held_drew (S := fun w' => w'.cell? ⟨B0, 0, none⟩ = some (.slice (some ⟨b, 0, none⟩) m cp) ∧ w'.cell? ⟨B1, 0, none⟩ = some (.int .i64 k)) (by kernel_rfl) ?hS1 (fun hHeld => ?_)
  case hS1 => exact ⟨h0, h1⟩
  refine wpAnyH_take (i := 0) (v := ?_) rfl (by kernel_rfl) (by kernel_rfl) (by kernel_rfl) (fun _ _ _ h => h) (Or.inl ⟨by rfl, ?hy2⟩) (by assumption) ?ty2
  case hy2 => (intro w hSw; (try dsimp only at hSw); go_simp; all_goals with_reducible rfl)
  simp only [Act.put, List.getElem_toArray, List.getElem_cons_zero, List.setIfInBounds_toArray, List.set_cons_zero, List.set_cons_succ]
  refine wpAnyH_take (i := 1) (v := ?_) rfl (by kernel_rfl) (by kernel_rfl) (by kernel_rfl) (fun _ _ _ h => h) (Or.inl ⟨by rfl, ?hy3⟩) (by assumption) ?ty3
  case hy3 => (intro w hSw; (try dsimp only at hSw); go_simp; all_goals with_reducible rfl)
  simp only [Act.put, List.getElem_toArray, List.getElem_cons_zero, List.getElem_cons_succ, List.setIfInBounds_toArray, List.set_cons_zero, List.set_cons_succ]
  refine wpAnyH_take (i := 2) (v := ?_) rfl (by kernel_rfl) (by kernel_rfl) (by kernel_rfl) (fun _ _ _ h => h) (Or.inl ⟨by rfl, ?hy4⟩) (by assumption) ?ty4
  case hy4 => (intro w hSw; (try dsimp only at hSw); go_simp; all_goals with_reducible rfl)
  simp only [Act.put, List.getElem_toArray, List.getElem_cons_zero, List.getElem_cons_succ, List.setIfInBounds_toArray, List.set_cons_zero, List.set_cons_succ]
  refine wpAnyH_ready (rs := [3]) (by kernel_rfl) (by simp) ?_
  refine AllReadyH.cons rfl (fun K hK => ?_) AllReadyH.nil
  go_simp
  refine HP.mono ?_
  rintro e w1 ⟨⟨h2, he⟩ | ⟨h2, rfl⟩, hb1⟩
  · rw [HQ.out h2] at he
    subst he
    dsimp only [ptA]
    have hW : Below w.heap.size w w1 := (Below.refl _ _).drew.trans hb1
    have hsS : w1.cell? ⟨B0, 0, none⟩ = some (.slice (some ⟨b, 0, none⟩) m cp) ∧ w1.cell? ⟨B1, 0, none⟩ = some (.int .i64 k) := ⟨(hW.cell (p := ⟨B0, 0, none⟩) l0).trans h0, (hW.cell (p := ⟨B1, 0, none⟩) l1).trans h1⟩
    refine hK.out _ _ hsS (fun hHeld => ?_)
    clear hK K
    refine wpAnyH_ready (rs := [4]) (by kernel_rfl) (by simp) ?_
    refine AllReadyH.cons rfl (fun K hK => ?_) AllReadyH.nil
    go_simp
    refine (HY.out _ hW h2).mono ?_
    rintro e w2 ⟨⟨h3, v, rfl, ho⟩ | ⟨h3, rfl⟩, hb2⟩
    · have hW2 := hW.trans (hb2.mono hW.size)
      have ho2 : OwnI w2 w.heap.size v r.2 := row_low ho hW.size
      obtain ⟨a, cpv, hv, -, -⟩ := ho2.form
      subst hv
      have hsS2 : w2.cell? ⟨B0, 0, none⟩ = some (.slice (some ⟨b, 0, none⟩) m cp) ∧ w2.cell? ⟨B1, 0, none⟩ = some (.int .i64 k) := ⟨(hW2.cell (p := ⟨B0, 0, none⟩) l0).trans h0, (hW2.cell (p := ⟨B1, 0, none⟩) l1).trans h1⟩
      refine hK.out _ _ hsS2 (fun hHeld => ?_)
      clear hK K
      refine wpAnyH_take (i := 5) (v := ?_) rfl (by kernel_rfl) (by kernel_rfl) (by kernel_rfl) (fun _ _ _ h => h) (Or.inl ⟨by rfl, ?hy5⟩) (by assumption) ?ty5
      case hy5 => (intro w hSw; (try dsimp only at hSw); go_simp; all_goals with_reducible rfl)
      simp only [Act.put, List.getElem_toArray, List.getElem_cons_zero, List.getElem_cons_succ, List.setIfInBounds_toArray, List.set_cons_zero, List.set_cons_succ]
      refine wpAnyH_done (by kernel_rfl) ?_ _
      clear hHeld
      go_wp2
      go_ret
      exact ⟨.inl ⟨h3, _, rfl, ho2⟩, hW2⟩
    · exact ⟨rfl, .inr ⟨h3, rfl⟩, hW.trans (hb2.mono hW.size)⟩
  · refine ⟨rfl, ?_⟩
    rw [HZ.out h2]
    exact ⟨.inr ⟨h2, rfl⟩, (Below.refl _ _).drew.trans hb1⟩

set_option maxHeartbeats 1600000 in
set_option maxRecDepth 100000 in
theorem partCodes_any {cp : Nat} (b m : Nat) (d : List Nat) (k : Int) (w : World) (hr : Rd w (some ⟨b, 0, none⟩) d) (hT : TabC w) (hTB : TabB w) (hTH : TabH w) (hMI : MaxI w) (hB : IsB d) (hl : d.length = m) (hcp : m ≤ cp := by omega) :
    Calls Tryz.prog 17 #[.slice (some ⟨b, 0, none⟩) m cp, .int .i64 k] w (CodEnd (pqV d k) w) := by
  have hmf : ∀ (fn : Fn) (first cap : Array Value) (w : World), (Instr.makeFunc fn first cap).run Tryz.prog w = .ok (.func fn first cap) w := fun _ _ _ _ => rfl
  have hG : ∀ (args : Array Value) (w : World), (callFunc 48 args).run Tryz.prog w = .ok (.enter 48 args) w := fun _ _ => by kernel_rfl
  have hb0 : Below w.heap.size w (((w.alloc (.cells #[.slice (some ⟨b, 0, none⟩) m cp] 22)).alloc (.cells #[.int .i64 k] 2)).alloc (.cells #[.int .i64 0, .slice none 0 0] 33)) := (((Below.refl _ _).alloc (Nat.le_refl _) _).alloc (by simp) _).alloc (by simp; omega) _
  have HS : Hid (∀ W : World, Below w.heap.size w W → W.cell? ⟨w.heap.size, 0, none⟩ = some (.slice (some ⟨b, 0, none⟩) m cp) → W.cell? ⟨w.heap.size + 1, 0, none⟩ = some (.int .i64 k) → Calls Tryz.prog 34 #[.func (.func 48) #[] #[.pointer (some ⟨w.heap.size, 0, none⟩), .pointer (some ⟨w.heap.size + 1, 0, none⟩)]] W fun e w' => ∃ v, e = .returned (.tuple #[v, .int .i64 (pqV d k).1]) ∧ OwnI w' W.heap.size v (pqV d k).2 ∧ Below W.heap.size W w') := fun W hW c0 c1 => by
    have hbC := hW.alloc hW.size (.cells #[.int .i64 0] 2)
    exact seeI_of _ _ (pqV d k) W hG (fun h => pqV_zero h) (partCodes1_any b m _ _ d k _ (hr.below hbC) (hT.below hbC) (hTB.below hbC) (hTH.below hbC) (hMI.below hbC) hB hl (cellB c0) (cellB c1))
  generalize pqV d k = r at *
  obtain ⟨rc, rl⟩ := r
  dsimp only at HS
  have x0 : (((w.alloc (.cells #[.slice (some ⟨b, 0, none⟩) m cp] 22)).alloc (.cells #[.int .i64 k] 2)).alloc (.cells #[.int .i64 0, .slice none 0 0] 33)).cell? ⟨w.heap.size, 0, none⟩ = some (.slice (some ⟨b, 0, none⟩) m cp) := cellB (cellB (by simp))
  have x1 : (((w.alloc (.cells #[.slice (some ⟨b, 0, none⟩) m cp] 22)).alloc (.cells #[.int .i64 k] 2)).alloc (.cells #[.int .i64 0, .slice none 0 0] 33)).cell? ⟨w.heap.size + 1, 0, none⟩ = some (.int .i64 k) := cellB (new_cell1 (by simp) _ _)
  have hsz : (((w.alloc (.cells #[.slice (some ⟨b, 0, none⟩) m cp] 22)).alloc (.cells #[.int .i64 k] 2)).alloc (.cells #[.int .i64 0, .slice none 0 0] 33)).heap.size = w.heap.size + 1 + 1 + 1 := by simp
  have HRB := fun (wx : World) (hx : Below (w.heap.size + 1 + 1 + 1) (((w.alloc (.cells #[.slice (some ⟨b, 0, none⟩) m cp] 22)).alloc (.cells #[.int .i64 k] 2)).alloc (.cells #[.int .i64 0, .slice none 0 0] 33)) wx) => res_block (w := ((w.alloc (.cells #[.slice (some ⟨b, 0, none⟩) m cp] 22)).alloc (.cells #[.int .i64 k] 2))) (wr := wx) rfl (by simpa using hx)
  have hs3 : ((w.alloc (.cells #[.slice (some ⟨b, 0, none⟩) m cp] 22)).alloc (.cells #[.int .i64 k] 2)).heap.size = w.heap.size + 1 + 1 := by simp
  rw [hs3] at HRB
  go_enter Tryz.func17, Tryz.ntmps17
  go_wp2_with fail
  refine (HS.out _ hb0 x0 x1).mono ?_
  rintro e w1 ⟨v, rfl, ho, hb1⟩
  rw [hsz] at ho hb1
  obtain ⟨a0, a1, z0, z1⟩ := HRB w1 hb1
  have hbw := hb0.trans (hb1.mono (by omega))
  obtain ⟨a, cp, hv, -, -⟩ := ho.form
  subst hv
  obtain ⟨k0, k1⟩ := res_at a0 a1 (.int .i64 rc) (.slice a rl.length cp)
  have HE : Hid (_) := CodEnd.at_ (c := rc) hbw (R := w.heap.size + 1 + 1) (by omega) ho (.int .i64 rc) (.slice a rl.length cp)
  clear HRB x0 x1 HS hb0 hsz hs3 hb1 ho
  go_wp2
  refine bodyPost_ret (v := .agg #[.int .i64 rc, .slice a rl.length cp]) (by simp [results, Tryz.results17, go_sem, k0, k1]) rfl ?_
  exact HE.out

end Go.Proofs.YtooifkdbpghcfaaGreatDoor

namespace Go.Proofs.YtooifkdbpghcfaaGreatDoor
open Go.RowKit

/-- The program's way. -/
def shP : List Int → List Int → Bool → List Int
  | [], acc, _ => acc
  | c :: r, acc, b => if acc.length = 20 then acc else if 32 < c then shP r (acc ++ [c]) true else shP r (if b then acc ++ [32] else acc) false
/-- The model's way. -/
def shM : List Int → List Int → List Int
  | [], acc => acc
  | c :: r, acc => if 20 ≤ acc.length then acc else if c ≤ 32 then shM r (if 0 < acc.length ∧ nthI acc (acc.length - 1) ≠ 32 then acc ++ [32] else acc) else shM r (acc ++ [c])
def shV (l : List Int) : List Int := shP l [] false
theorem nthI_last (a : List Int) (x : Int) : nthI (a ++ [x]) ((a ++ [x]).length - 1) = x := by
  unfold nthI
  rw [List.getD_eq_getElem?_getD, List.length_append, List.length_singleton, Nat.add_sub_cancel, List.getElem?_append_right (Nat.le_refl _), Nat.sub_self]; rfl
theorem sh_same : ∀ (r acc : List Int) (b : Bool), acc.length ≤ 20 → (b = true → 0 < acc.length ∧ 32 < nthI acc (acc.length - 1)) → (b = false → 0 < acc.length → nthI acc (acc.length - 1) = 32) → shP r acc b = shM r acc
  | [], _, _, _, _, _ => rfl
  | c :: r, acc, b, hl, h1, h2 => by
    simp only [shP, shM]
    by_cases h20 : acc.length = 20
    · rw [if_pos h20, if_pos (by omega)]
    · rw [if_neg h20, if_neg (show ¬ 20 ≤ acc.length by omega)]
      by_cases hc : 32 < c
      · rw [if_pos hc, if_neg (show ¬ c ≤ 32 by omega)]
        exact sh_same r (acc ++ [c]) true (by simp; omega) (fun _ => ⟨by simp, by rw [nthI_last]; exact hc⟩) (fun h => by cases h)
      · rw [if_neg hc, if_pos (show c ≤ 32 by omega)]
        cases b with
        | true =>
          obtain ⟨k1, k2⟩ := h1 rfl
          rw [if_pos rfl, if_pos ⟨k1, by omega⟩]
          exact sh_same r (acc ++ [32]) false (by simp; omega) (fun h => by cases h) (fun _ _ => nthI_last _ _)
        | false =>
          have e : ¬ (0 < acc.length ∧ nthI acc (acc.length - 1) ≠ 32) := fun h => h.2 (h2 rfl h.1)
          rw [if_neg (by simp), if_neg e]
          exact sh_same r acc false hl (fun h => by cases h) (fun h h' => h2 h h')
theorem shV_M (l : List Int) : shV l = shM l [] := sh_same l [] false (by simp) (fun h => by cases h) (fun _ h => by simp at h)
theorem shP_len : ∀ (r acc : List Int) (b : Bool), acc.length ≤ 20 → (shP r acc b).length ≤ 20
  | [], _, _, h => h
  | c :: r, acc, b, h => by
    simp only [shP]
    split
    · exact h
    · split
      · exact shP_len r _ _ (by simp; omega)
      · refine shP_len r _ _ ?_
        split
        · simp; omega
        · exact h
theorem shV_len (l : List Int) : (shV l).length ≤ 20 := shP_len l [] false (by simp)

set_option maxHeartbeats 1600000 in
set_option maxRecDepth 100000 in
theorem firstOf_any (a : Option Addr) (n cap : Nat) (l : List Int) (w : World) (hl : l.length = n) (hr : RdI w a l) (hn : n ≤ 1048576) :
    Calls Tryz.prog 64 #[.slice a n cap] w fun e w' => ∃ v, e = .returned v ∧ OwnI w' w.heap.size v (shV l) ∧ Below w.heap.size w w' := by
  go_enter Tryz.func64, Tryz.ntmps64
  go_wp2
  go_loopw [3, 4, 9] (fun v q i wr => ∃ (k : Nat) (acc : List Int) (b : Bool), k ≤ n ∧ i = .int .i64 k ∧ q = .bool b ∧ OwnI wr w.heap.size v acc ∧ acc.length ≤ 20 ∧ Hid (shV l = shP (l.drop k) acc b) ∧ Below w.heap.size w wr) (fun _ _ i _ => n - (intOf i).toNat)
  case atStart => exact ⟨0, [], false, Nat.zero_le _, rfl, rfl, OwnI.nil _ _, by simp, rfl, Below.refl _ _⟩
  case round =>
    obtain ⟨k, acc, b, hk, rfl, rfl, hown, hacc, HV, hbel⟩ := hrel
    obtain ⟨av, cv, hv, -, -⟩ := hown.form
    obtain ⟨A, hA⟩ : ∃ A, acc.length = A := ⟨_, rfl⟩
    by_cases hkn : k < n
    · obtain ⟨g, off, rfl, hglt, hcell⟩ := hr.at_ (by omega)
      have hc : wr.cell? ⟨g, off + k, none⟩ = some (.int .i64 (nthI l k)) := (hbel.cell (p := ⟨g, off + k, none⟩) hglt).trans (hcell k (by omega))
      have hki : (k : Int) < (n : Int) := by omega
      have hdc : l.drop k = nthI l k :: l.drop (k + 1) := drop_consI l k (by omega)
      have HV2 : Hid (shV l = if acc.length = 20 then acc else if 32 < nthI l k then shP (l.drop (k + 1)) (acc ++ [nthI l k]) true else shP (l.drop (k + 1)) (if b then acc ++ [32] else acc) false) := by
        show _ = _
        rw [HV.out, hdc]; rfl
      clear HV hdc hcell
      generalize nthI l k = c at *
      have hz := hbel.size
      by_cases h20 : acc.length = 20
      · have HM : Hid (shV l = acc) := by show _ = _; rw [HV2.out, if_pos h20]
        rw [h20] at hv
        subst hv
        clear HV2
        go_wp2
        go_ret
        exact ⟨_, rfl, by rw [HM.out]; exact hown, hbel⟩
      · have h20' : ((A : Int) == 20) = false := by simp; omega
        rw [hA] at hv
        subst hv
        by_cases hc32 : 32 < c
        · have HM : Hid (shV l = shP (l.drop (k + 1)) (acc ++ [c]) true) := by show _ = _; rw [HV2.out, if_neg h20, if_pos hc32]
          clear HV2
          go_wp2_with (at_builtin; refine wpList_app_newI rfl _ _ rfl w.heap.size _ acc rfl hown 1 1 [c] rfl rfl rfl (by omega) hz ?_; intro v' w1 hown' hb')
          have hb2 := hbel.trans hb'
          go_wp2
          go_roundw
          case rel => exact ⟨k + 1, acc ++ [c], true, by omega, by go_num, by simp, hown', by simp; omega, HM.out, hb2⟩
          case measure => simp [intOf]; omega
        · cases b with
          | true =>
            have HM : Hid (shV l = shP (l.drop (k + 1)) (acc ++ [32]) false) := by show _ = _; rw [HV2.out, if_neg h20, if_neg hc32, if_pos rfl]
            clear HV2
            go_wp2_with (at_builtin; refine wpList_app_newI rfl _ _ rfl w.heap.size _ acc rfl hown 1 1 [32] rfl rfl rfl (by omega) hz ?_; intro v' w1 hown' hb')
            have hb2 := hbel.trans hb'
            go_wp2
            go_roundw
            case rel => exact ⟨k + 1, acc ++ [32], false, by omega, by go_num, by simp, hown', by simp; omega, HM.out, hb2⟩
            case measure => simp [intOf]; omega
          | false =>
            have HM : Hid (shV l = shP (l.drop (k + 1)) acc false) := by show _ = _; rw [HV2.out, if_neg h20, if_neg hc32, if_neg (by simp)]
            clear HV2
            go_wp2
            go_roundw
            case rel => exact ⟨k + 1, acc, false, by omega, by go_num, by simp, hown, hacc, HM.out, hbel⟩
            case measure => simp [intOf]; omega
    · have hki : ¬ (k : Int) < (n : Int) := by omega
      have HM : Hid (shV l = acc) := by show _ = _; rw [HV.out, List.drop_of_length_le (by omega)]; rfl
      rw [hA] at hv
      subst hv
      clear HV
      go_wp2
      go_ret
      exact ⟨_, rfl, by rw [HM.out]; exact hown, hbel⟩
end Go.Proofs.YtooifkdbpghcfaaGreatDoor

namespace Go.Proofs.YtooifkdbpghcfaaGreatDoor
open Go.RowKit

theorem OwnI.cellLast {w : World} {B g n cap : Nat} {l : List Int} (h : OwnI w B (.slice (some ⟨g, 0, none⟩) n cap) l) {k : Nat} (hk : k < l.length) : w.cell? ⟨g, k, none⟩ = some (.int .i64 (nthI l k)) := by
  obtain ⟨b, off, e, -, hc⟩ := (OwnI.rd h).2.at_ (by omega)
  cases e
  have := hc k hk
  rw [Nat.zero_add] at this
  exact this

set_option maxHeartbeats 3200000 in
set_option maxRecDepth 100000 in
theorem l6Short_any (a : Option Addr) (n cap : Nat) (l : List Int) (w : World) (hl : l.length = n) (hr : RdI w a l) (hn : n ≤ 1048576) :
    Calls Tryz.prog 39 #[.slice a n cap] w fun e w' => ∃ v, e = .returned v ∧ OwnI w' w.heap.size v (shV l) ∧ Below w.heap.size w w' := by
  have hown0 : OwnI (w.alloc (.cells #[] 2)) w.heap.size (.slice (some ⟨w.heap.size, 0, none⟩) 0 0) [] := OwnI.lit w _ (Nat.le_refl _) #[] [] rfl (by decide)
  go_enter Tryz.func39, Tryz.ntmps39
  go_wp2
  go_loopw [3, 4, 5] (fun v q i wr => ∃ (k : Nat) (acc : List Int) (b : Bool), k ≤ n ∧ i = .int .i64 k ∧ q = .bool b ∧ OwnI wr w.heap.size v acc ∧ acc.length ≤ 20 ∧ Hid (shV l = shM (l.drop k) acc) ∧ Below w.heap.size w wr) (fun _ _ i _ => n - (intOf i).toNat)
  case atStart => exact ⟨0, [], false, Nat.zero_le _, rfl, rfl, hown0, by simp, shV_M l, (Below.refl _ _).alloc (Nat.le_refl _) _⟩
  case round =>
    obtain ⟨k, acc, b, hk, rfl, rfl, hown, hacc, HV, hbel⟩ := hrel
    clear hown0
    obtain ⟨av, cv, hv, -, -⟩ := hown.form
    obtain ⟨A, hA⟩ : ∃ A, acc.length = A := ⟨_, rfl⟩
    rw [hA] at hv
    subst hv
    have hz := hbel.size
    by_cases hkn : k < n
    · obtain ⟨g, off, rfl, hglt, hcell⟩ := hr.at_ (by omega)
      have hc : wr.cell? ⟨g, off + k, none⟩ = some (.int .i64 (nthI l k)) := (hbel.cell (p := ⟨g, off + k, none⟩) hglt).trans (hcell k (by omega))
      have hki : (k : Int) < (n : Int) := by omega
      have hdc : l.drop k = nthI l k :: l.drop (k + 1) := drop_consI l k (by omega)
      have HV2 : Hid (shV l = if 20 ≤ acc.length then acc else if nthI l k ≤ 32 then shM (l.drop (k + 1)) (if 0 < acc.length ∧ nthI acc (acc.length - 1) ≠ 32 then acc ++ [32] else acc) else shM (l.drop (k + 1)) (acc ++ [nthI l k])) := by
        show _ = _
        rw [HV.out, hdc]; rfl
      clear HV hdc hcell
      generalize nthI l k = c at *
      by_cases h20 : 20 ≤ A
      · have HM : Hid (shV l = acc) := by show _ = _; rw [HV2.out, if_pos (by omega)]
        have h20' : ¬ (A : Int) < 20 := by omega
        clear HV2
        go_wp2
        go_ret
        exact ⟨_, rfl, by rw [HM.out]; exact hown, hbel⟩
      · have h20' : (A : Int) < 20 := by omega
        by_cases hc32 : c ≤ 32
        · by_cases hA0 : A = 0
          · have HM : Hid (shV l = shM (l.drop (k + 1)) acc) := by show _ = _; rw [HV2.out, if_neg (by omega), if_pos hc32, if_neg (fun h => by omega)]
            have hA0' : ¬ (0 : Int) < (A : Int) := by omega
            clear HV2
            go_wp2
            go_roundw
            case rel => exact ⟨k + 1, acc, _, by omega, by go_num, rfl, hown, hacc, HM.out, hbel⟩
            case measure => simp [intOf]; omega
          · have hA0' : (0 : Int) < (A : Int) := by omega
            obtain ⟨ga, hga⟩ : ∃ ga, av = some ⟨ga, 0, none⟩ := by
              rcases hown.2 with ⟨h', h1⟩ | ⟨g', cap', cur, h', _⟩
              · omega
              · simp at h'; exact ⟨g', h'.1⟩
            subst hga
            obtain ⟨A1, hA1⟩ : ∃ A1, A = A1 + 1 := ⟨A - 1, by omega⟩
            have hlast : wr.cell? ⟨ga, A1, none⟩ = some (.int .i64 (nthI acc A1)) := hown.cellLast (by omega)
            have HN : Hid (nthI acc (acc.length - 1) = nthI acc A1) := by show _ = _; congr 1; omega
            subst hA1
            have hi1 : ((A1 + 1 : Nat) : Int) - 1 = (A1 : Int) := by omega
            by_cases hx : nthI acc A1 = 32
            · have HM : Hid (shV l = shM (l.drop (k + 1)) acc) := by show _ = _; rw [HV2.out, if_neg (by omega), if_pos hc32, if_neg (fun h => h.2 (HN.out.trans hx))]
              rw [hx] at hlast
              clear HV2 HN
              go_wp2
              go_roundw
              case rel => exact ⟨k + 1, acc, _, by omega, by go_num, rfl, hown, hacc, HM.out, hbel⟩
              case measure => simp [intOf]; omega
            · have HM : Hid (shV l = shM (l.drop (k + 1)) (acc ++ [32])) := by show _ = _; rw [HV2.out, if_neg (by omega), if_pos hc32, if_pos ⟨by omega, by rw [HN.out]; exact hx⟩]
              have hx' : (nthI acc A1 != 32) = true := by simpa using hx
              clear HV2 HN
              generalize nthI acc A1 = xl at *
              go_wp2_with (at_builtin; refine wpList_app_newI rfl _ _ rfl w.heap.size _ acc rfl hown 1 1 [32] rfl rfl rfl (by omega) hz ?_; intro v' w1 hown' hb')
              have hb2 := hbel.trans hb'
              go_wp2
              go_roundw
              case rel => exact ⟨k + 1, acc ++ [32], _, by omega, by go_num, rfl, hown', by simp; omega, HM.out, hb2⟩
              case measure => simp [intOf]; omega
        · have HM : Hid (shV l = shM (l.drop (k + 1)) (acc ++ [c])) := by show _ = _; rw [HV2.out, if_neg (by omega), if_neg hc32]
          clear HV2
          go_wp2_with (at_builtin; refine wpList_app_newI rfl _ _ rfl w.heap.size _ acc rfl hown 1 1 [c] rfl rfl rfl (by omega) hz ?_; intro v' w1 hown' hb')
          have hb2 := hbel.trans hb'
          go_roundw
          case rel => exact ⟨k + 1, acc ++ [c], _, by omega, by go_num, rfl, hown', by simp; omega, HM.out, hb2⟩
          case measure => simp [intOf]; omega
    · have hki : ¬ (k : Int) < (n : Int) := by omega
      have HM : Hid (shV l = acc) := by show _ = _; rw [HV.out, List.drop_of_length_le (by omega)]; rfl
      clear HV
      go_wp2
      go_ret
      exact ⟨_, rfl, by rw [HM.out]; exact hown, hbel⟩
end Go.Proofs.YtooifkdbpghcfaaGreatDoor
