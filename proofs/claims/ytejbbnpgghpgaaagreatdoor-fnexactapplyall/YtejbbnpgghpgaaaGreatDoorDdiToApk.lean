/- An op done to a store: the program's ApplyOp; no conditions beyond those that each fact names · What is done to a store without a fault leaves it without one: plain facts. -/
import Derived.Test.YtejbbnpgghpgaaaGreatDoorDdh
import Derived.Test.YtejbbnpgghpgaaaGreatDoorMsbToBxs
namespace Go.Proofs.YtejbbnpgghpgaaaGreatDoor
open Go.RowKit List
set_option linter.unusedVariables false
theorem sxV_all {v : Int} {l : List Bx} : ∀ (r k : Nat), sxV v l r k = 0 → ∀ j, k ≤ j → j < k + r → sbE v l j = 0
  | 0, k, _, j, h1, h2 => by omega
  | r + 1, k, h, j, h1, h2 => by
    unfold sxV at h
    split at h <;> rename_i hs
    · rcases Nat.eq_or_lt_of_le h1 with e | e
      · rw [← e]; exact hs
      · exact sxV_all r (k + 1) h j (by omega) (by omega)
    · exact absurd h hs
theorem bmV_all {x : Int} : ∀ (l : List Msg) (p : Int), bmV x p l = 0 → ∀ m ∈ l, mfV m = 0
  | [], _, _, m, hm => by simp at hm
  | a :: l, p, h, m, hm => by
    unfold bmV at h
    split at h <;> rename_i h1
    · split at h <;> rename_i h2
      · cases h
      · rcases List.mem_cons.1 hm with rfl | hm
        · exact h1
        · exact bmV_all l _ h m hm
    · exact absurd h h1
theorem stV_good {v : Int} {l : List Bx} (h : stV v l = 0) : GdS v l := by
  unfold stV at h
  split at h <;> rename_i h1
  · split at h <;> rename_i h2
    · cases h
    · refine ⟨of_decide_eq_true h1, by omega, fun b hb => ?_⟩
      obtain ⟨k, hk, e⟩ := List.getElem_of_mem hb
      have hs := sxV_all l.length 0 h k (Nat.zero_le _) (by omega)
      unfold sbE at hs
      rw [nthX_get hk, e] at hs
      split at hs <;> rename_i h3
      · unfold bfV at h3
        split at h3
        · split at h3 <;> rename_i h4
          · split at h3 <;> rename_i h5
            · cases h3
            · refine ⟨of_decide_eq_true h4.2, by omega, fun m hm => ?_⟩
              have hf := bmV_all _ _ h3 m hm
              unfold mfV at hf
              split at hf <;> rename_i h6
              · split at hf <;> rename_i h7
                · cases hf
                · exact ⟨of_decide_eq_true h6.2.1, by omega⟩
              · cases hf
          · cases h3
        · cases h3
      · exact absurd hs h3
  · cases h
set_option maxHeartbeats 1600000 in
set_option maxRecDepth 100000 in
theorem store_any (g : Nat) (v : Int) (s : SlQ) (w : World) (hD : Dw w g (.int .i64 v, slW s)) :
    Calls Tryz.prog 65 #[.pointer (some ⟨g, 0, none⟩)] w fun e w' => e = .returned (.agg #[.int .i64 v, slW s]) ∧ Below w.heap.size w w' := by
  have hb0 : Below w.heap.size w (w.alloc (.cells #[.int .i64 0, .slice none 0 0] 33)) := (Below.refl _ _).alloc (Nat.le_refl _) _
  have hD0 := hD.below hb0 hD.lt
  have hZ0 := Dw.new w (.int .i64 0) (.slice none 0 0) 33
  have hgl := hD.lt
  go_enter Tryz.func65, Tryz.ntmps65
  go_wp2_with fail
  generalize w.alloc (.cells #[.int .i64 0, .slice none 0 0] 33) = W at *
  have hbD : Below W.heap.size W W.drew := (Below.refl _ _).drew
  have hD1 := hD0.below hbD hD0.lt
  have hZ1 := hZ0.below hbD hZ0.lt
  have hb1 := hb0.trans (hbD.mono hb0.size)
  clear hD0 hZ0 hb0 hbD
  refine wp_region_held_drew (S := fun w' => w'.cell? ⟨g, 0, none⟩ = some (.int .i64 v) ∧ w'.cell? ⟨g, 1, none⟩ = some (slW s)) (by kernel_rfl) ?hS1 (fun hHeld => ?_)
  case hS1 => exact ⟨hD1.1.1, hD1.1.2⟩
  refine tk (i := 0) (v := ?_) rfl (Or.inl ⟨by rfl, ?hy2⟩) ?ty2
  case hy2 => (intro w5 hSw; obtain ⟨p0, p1⟩ := hSw; go_simp; all_goals with_reducible rfl)
  simp only [Act.put, J1, J2, J4, J5, J6]
  refine tk (i := 1) (v := ?_) rfl (Or.inl ⟨by rfl, ?hy3⟩) ?ty3
  case hy3 => (intro w5 hSw; obtain ⟨p0, p1⟩ := hSw; go_simp; all_goals with_reducible rfl)
  simp only [Act.put, J1, J2, J3, J4, J5, J6]
  refine tk (i := 2) (v := ?_) rfl (Or.inl ⟨by rfl, ?hy4⟩) ?ty4
  case hy4 => (intro w5 hSw; obtain ⟨p0, p1⟩ := hSw; go_simp; all_goals with_reducible rfl)
  simp only [Act.put, J1, J2, J3, J4, J5, J6]
  refine tk (i := 3) (v := ?_) rfl (Or.inl ⟨by rfl, ?hy5⟩) ?ty5
  case hy5 => (intro w5 hSw; obtain ⟨p0, p1⟩ := hSw; go_simp; all_goals with_reducible rfl)
  simp only [Act.put, J1, J2, J3, J4, J5, J6]
  refine tk (i := 4) (v := ?_) rfl (Or.inl ⟨by rfl, ?hy6⟩) ?ty6
  case hy6 => (intro w5 hSw; obtain ⟨p0, p1⟩ := hSw; go_simp; all_goals with_reducible rfl)
  simp only [Act.put, J1, J2, J3, J4, J5, J6]
  refine tk (i := 5) (v := ?_) rfl (Or.inl ⟨by rfl, ?hy7⟩) ?ty7
  case hy7 => (intro w5 hSw; obtain ⟨p0, p1⟩ := hSw; go_simp; all_goals with_reducible rfl)
  simp only [Act.put, J1, J2, J3, J4, J5, J6]
  refine tk (i := 6) (v := ?_) rfl (Or.inl ⟨by rfl, ?hy8⟩) ?ty8
  case hy8 => (intro w5 hSw; obtain ⟨p0, p1⟩ := hSw; go_simp; all_goals with_reducible rfl)
  simp only [Act.put, J1, J2, J3, J4, J5, J6]
  refine tk (i := 7) (v := ?_) rfl (Or.inl ⟨by rfl, ?hy9⟩) ?ty9
  case hy9 => (intro w5 hSw; obtain ⟨p0, p1⟩ := hSw; go_simp; all_goals with_reducible rfl)
  simp only [Act.put, J1, J2, J3, J4, J5, J6]
  refine tk (i := 8) (v := ?_) rfl (Or.inl ⟨by rfl, ?hy10⟩) ?ty10
  case hy10 => (intro w5 hSw; obtain ⟨p0, p1⟩ := hSw; go_simp; all_goals with_reducible rfl)
  simp only [Act.put, J1, J2, J3, J4, J5, J6]
  generalize World.drew W = Y0 at *
  obtain ⟨⟨z0, z1⟩, zf⟩ := id hZ1
  have zf0 := zf 0
  have zf1 := zf 1
  dsimp only at z0 z1
  refine wpAnyH_ready (rs := [9]) (by kernel_rfl) (by simp) ?_
  refine AllReadyH.cons rfl (fun K hK => ?_) AllReadyH.nil
  have hZ2 := (hZ1.set0 (.int .i64 v)).set1 (slW s)
  have hD2 := (hD1.far w.heap.size 0 (.int .i64 v) (by omega)).far w.heap.size 1 (slW s) (by omega)
  have hb2 := below_put (below_put hb1 w.heap.size 0 (.int .i64 v) (Nat.le_refl _)) w.heap.size 1 (slW s) (Nat.le_refl _)
  go_simp
  generalize World.setCell (World.setCell Y0 ⟨w.heap.size, 0, none⟩ (.int .i64 v)) ⟨w.heap.size, 1, none⟩ (slW s) = Y1 at *
  refine hK.out _ _ ⟨hD2.1.1, hD2.1.2⟩ (fun hHeld => ?_)
  clear hK K
  refine wpAnyH_done (by kernel_rfl) ?_ _
  clear hHeld z0 z1 zf zf0 zf1
  obtain ⟨r0, r1⟩ := id hZ2.1
  dsimp only at r0 r1
  go_wp2
  refine bodyPost_ret (v := .agg #[.int .i64 v, slW s]) (by simp [results, Tryz.results65, go_sem, r0, r1]) rfl ?_
  exact ⟨rfl, hb2⟩
def SrEnd (r : Rs) (w : World) (e : Ending) (w' : World) : Prop :=
  (r.1 ≠ 0 ∧ e = .returned (.agg #[.int .i64 r.1, .slice none 0 0, .int .i64 0, .slice none 0 0]) ∧ Below w.heap.size w w') ∨
  (r.1 = 0 ∧ ∃ su s xs, e = .returned (.agg #[.int .i64 0, slW su, .int .i64 r.2.2.1, slW s]) ∧ OwZ 2 w' su r.2.1 ∧ CX w.heap.size w' s r.2.2.2 xs ∧ (∀ g ∈ blkS su, w.heap.size ≤ g ∧ g ∉ blkS s ++ fpX xs) ∧ Below w.heap.size w w')
def aoR (v : Int) (l : List Bx) (o : OpR) : Rs := if stV v l = 0 then apR v l o else badR (stV v l)
end Go.Proofs.YtejbbnpgghpgaaaGreatDoor
namespace Go.Proofs.YtejbbnpgghpgaaaGreatDoor
open Go.RowKit List
set_option linter.unusedVariables false
def BmOk (x p : Int) (l : List Msg) : Prop := (∀ m ∈ l, mfV m = 0 ∧ p < m.u ∧ m.u < x) ∧ l.Pairwise fun a b => a.u < b.u
theorem bmV_ok {x : Int} : ∀ {l : List Msg} {p : Int}, bmV x p l = 0 ↔ BmOk x p l
  | [], p => by simp [bmV, BmOk]
  | m :: l, p => by
    unfold bmV
    by_cases h0 : mfV m = 0
    · rw [if_pos h0]
      by_cases h1 : m.u ≤ p ∨ x ≤ m.u
      · rw [if_pos h1]
        refine ⟨fun h => by simp at h, fun h => ?_⟩
        have := h.1 m (by simp)
        omega
      · rw [if_neg h1, bmV_ok]
        constructor
        · rintro ⟨h2, h3⟩
          refine ⟨fun a ha => ?_, List.pairwise_cons.2 ⟨fun a ha => (h2 a ha).2.1, h3⟩⟩
          rcases List.mem_cons.1 ha with e | e
          · rw [e]; exact ⟨h0, by omega, by omega⟩
          · have := h2 a e
            exact ⟨this.1, by omega, this.2.2⟩
        · rintro ⟨h2, h3⟩
          obtain ⟨h4, h5⟩ := List.pairwise_cons.1 h3
          exact ⟨fun a ha => ⟨(h2 a (List.mem_cons_of_mem _ ha)).1, h4 a ha, (h2 a (List.mem_cons_of_mem _ ha)).2.2⟩, h5⟩
    · rw [if_neg h0]
      exact ⟨fun h => absurd h h0, fun h => absurd (h.1 m (by simp)).1 h0⟩
theorem bfV_ok {b : Bx} : bfV b = 0 ↔ bnOk (txB b.n) = true ∧ (1 ≤ b.v ∧ b.v ≤ 999) ∧ (1 ≤ b.x ∧ b.x ≤ 1000) ∧ b.m.length ≤ 6 ∧ BmOk b.x 0 b.m := by
  unfold bfV
  by_cases h0 : bnOk (txB b.n) = true
  · rw [if_pos h0]
    by_cases h1 : bt b.v 1 999 = true ∧ bt b.x 1 1000 = true
    · rw [if_pos h1]
      have h1' : (1 ≤ b.v ∧ b.v ≤ 999) ∧ (1 ≤ b.x ∧ b.x ≤ 1000) := ⟨of_decide_eq_true h1.1, of_decide_eq_true h1.2⟩
      by_cases h2 : 6 < b.m.length
      · rw [if_pos h2]
        exact ⟨fun h => by simp at h, fun h => by omega⟩
      · rw [if_neg h2, bmV_ok]
        exact ⟨fun h => ⟨h0, h1'.1, h1'.2, by omega, h⟩, fun h => h.2.2.2.2⟩
    · rw [if_neg h1]
      exact ⟨fun h => by simp at h, fun h => absurd ⟨decide_eq_true h.2.1, decide_eq_true h.2.2.1⟩ h1⟩
  · rw [if_neg h0]
    exact ⟨fun h => by simp at h, fun h => absurd h.1 h0⟩
def StOk (v : Int) (l : List Bx) : Prop := (1 ≤ v ∧ v ≤ 1000) ∧ l.length ≤ 3 ∧ (∀ b ∈ l, bfV b = 0 ∧ b.v < v) ∧ (l.map fun b => (b.n, b.v)).Pairwise fun a b => a.1 ≠ b.1 ∧ a.2 ≠ b.2
theorem sxV_of {v : Int} {l : List Bx} : ∀ (r k : Nat), (∀ j, k ≤ j → j < k + r → sbE v l j = 0) → sxV v l r k = 0
  | 0, k, _ => rfl
  | r + 1, k, h => by
    unfold sxV
    rw [if_pos (h k (Nat.le_refl _) (by omega))]
    exact sxV_of r (k + 1) fun j h1 h2 => h j (by omega) (by omega)
theorem sbE_ok {v : Int} {l : List Bx} {k : Nat} : sbE v l k = 0 ↔ bfV (nthX l k) = 0 ∧ (nthX l k).v < v ∧ ∀ j, j < k → (nthX l j).n ≠ (nthX l k).n ∧ (nthX l j).v ≠ (nthX l k).v := by
  unfold sbE
  by_cases h0 : bfV (nthX l k) = 0
  · rw [if_pos h0]
    by_cases h1 : v ≤ (nthX l k).v
    · rw [if_pos h1]
      exact ⟨fun h => by simp at h, fun h => by omega⟩
    · rw [if_neg h1]
      rcases ixG_cases k (tkB l k) with ⟨e, hall⟩ | ⟨j, hj, e, hp, -⟩
      · rw [e, if_neg (by omega)]
        refine ⟨fun _ => ⟨h0, by omega, fun j hj => ?_⟩, fun _ => rfl⟩
        have := of_decide_eq_false (hall j hj)
        exact ⟨fun h => this (.inl h), fun h => this (.inr h)⟩
      · rw [e, if_pos (by omega)]
        refine ⟨fun h => by simp at h, fun h => ?_⟩
        have h3 := h.2.2 j hj
        rcases of_decide_eq_true hp with q | q
        · exact absurd q h3.1
        · exact absurd q h3.2
  · rw [if_neg h0]
    exact ⟨fun h => absurd h h0, fun h => absurd h.1 h0⟩
theorem stV_ok {v : Int} {l : List Bx} : stV v l = 0 ↔ StOk v l := by
  have key : (∀ j, 0 ≤ j → j < 0 + l.length → sbE v l j = 0) ↔ (∀ b ∈ l, bfV b = 0 ∧ b.v < v) ∧ (l.map fun b => (b.n, b.v)).Pairwise fun a b => a.1 ≠ b.1 ∧ a.2 ≠ b.2 := by
    constructor
    · intro h
      refine ⟨fun b hb => ?_, ?_⟩
      · obtain ⟨k, hk, e⟩ := List.getElem_of_mem hb
        have := sbE_ok.1 (h k (Nat.zero_le _) (by omega))
        rw [nthX_get hk, e] at this
        exact ⟨this.1, this.2.1⟩
      · rw [List.pairwise_map, List.pairwise_iff_getElem]
        intro i j hi hj hij
        have := (sbE_ok.1 (h j (Nat.zero_le _) (by omega))).2.2 i hij
        rw [nthX_get hi, nthX_get hj] at this
        exact this
    · rintro ⟨h1, h2⟩ j _ hj
      have hj' : j < l.length := by omega
      refine sbE_ok.2 ?_
      rw [nthX_get hj']
      refine ⟨(h1 _ (List.getElem_mem hj')).1, (h1 _ (List.getElem_mem hj')).2, fun i hi => ?_⟩
      have hi' : i < l.length := by omega
      rw [nthX_get hi']
      rw [List.pairwise_map, List.pairwise_iff_getElem] at h2
      exact h2 i j hi' hj' hi
  unfold stV
  by_cases h1 : bt v 1 1000 = true
  · rw [if_pos h1]
    have h1' : 1 ≤ v ∧ v ≤ 1000 := of_decide_eq_true h1
    by_cases h2 : 3 < l.length
    · rw [if_pos h2]
      exact ⟨fun h => by simp at h, fun h => by have := h.2.1; omega⟩
    · rw [if_neg h2]
      constructor
      · intro h
        have := key.1 (sxV_all _ _ h)
        exact ⟨h1', by omega, this.1, this.2⟩
      · intro h
        exact sxV_of _ _ (key.2 ⟨h.2.2.1, h.2.2.2⟩)
  · rw [if_neg h1]
    exact ⟨fun h => by simp at h, fun h => absurd (decide_eq_true h.1) h1⟩
theorem StOk.set {v : Int} {l : List Bx} (h : StOk v l) {i : Nat} (hi : i < l.length) {b : Bx} (hn : b.n = (nthX l i).n) (hv : b.v = (nthX l i).v) (hb : bfV b = 0) : StOk v (l.set i b) := by
  refine ⟨h.1, by rw [List.length_set]; exact h.2.1, fun a ha => ?_, ?_⟩
  · rcases List.mem_or_eq_of_mem_set ha with q | q
    · exact h.2.2.1 a q
    · rw [q]
      refine ⟨hb, ?_⟩
      rw [hv, nthX_get hi]
      exact (h.2.2.1 _ (List.getElem_mem hi)).2
  · rw [List.map_set, show (b.n, b.v) = (l.map fun b => (b.n, b.v))[i]'(by rw [List.length_map]; exact hi) by rw [List.getElem_map, hn, hv, nthX_get hi], List.set_getElem_self]
    exact h.2.2.2
theorem StOk.box {v : Int} {l : List Bx} (h : StOk v l) {i : Nat} (hi : i < l.length) : bfV (nthX l i) = 0 := by
  rw [nthX_get hi]; exact (h.2.2.1 _ (List.getElem_mem hi)).1
theorem mfV_ok {m : Msg} : mfV m = 0 ↔ (1 ≤ m.u ∧ m.u ≤ 999) ∧ (0 ≤ m.f ∧ m.f ≤ 15) ∧ (0 ≤ m.d ∧ m.d ≤ 9999) ∧ m.b.length ≤ 400 := by
  unfold mfV
  by_cases h1 : bt m.u 1 999 = true ∧ bt m.f 0 15 = true ∧ bt m.d 0 9999 = true
  · rw [if_pos h1]
    have h1' : (1 ≤ m.u ∧ m.u ≤ 999) ∧ (0 ≤ m.f ∧ m.f ≤ 15) ∧ (0 ≤ m.d ∧ m.d ≤ 9999) := ⟨of_decide_eq_true h1.1, of_decide_eq_true h1.2.1, of_decide_eq_true h1.2.2⟩
    by_cases h2 : 400 < m.b.length
    · rw [if_pos h2]
      exact ⟨fun h => by simp at h, fun h => by omega⟩
    · rw [if_neg h2]
      exact ⟨fun _ => ⟨h1'.1, h1'.2.1, h1'.2.2, by omega⟩, fun _ => rfl⟩
  · rw [if_neg h1]
    exact ⟨fun h => by simp at h, fun h => absurd ⟨decide_eq_true h.1, decide_eq_true h.2.1, decide_eq_true h.2.2.1⟩ h1⟩
theorem bfV_put {b : Bx} (h : bfV b = 0) {f d : Int} {c : List Nat} (hf : 0 ≤ f ∧ f ≤ 15) (hd : 0 ≤ d ∧ d ≤ 9999) (hc : c.length ≤ 400) (h6 : b.m.length + 1 ≤ 6) (hx : b.x + 1 ≤ 1000) : bfV (putB b f d c) = 0 := by
  obtain ⟨h1, h2, h3, h4, h5, h7⟩ := bfV_ok.1 h
  refine bfV_ok.2 ⟨h1, h2, ⟨by show 1 ≤ b.x + 1; omega, hx⟩, by show (b.m ++ _).length ≤ 6; rw [List.length_append]; exact h6, fun a ha => ?_, ?_⟩
  · rcases List.mem_append.1 ha with q | q
    · have := h5 a q
      exact ⟨this.1, this.2.1, by show a.u < b.x + 1; omega⟩
    · have e : a = ⟨b.x, f, d, c⟩ := by simpa using q
      subst e
      exact ⟨mfV_ok.2 ⟨⟨h3.1, by show b.x ≤ 999; omega⟩, hf, hd, hc⟩, by show (0 : Int) < b.x; omega, by show b.x < b.x + 1; omega⟩
  · refine List.pairwise_append.2 ⟨h7, by simp, fun a ha y hy => ?_⟩
    have e : y = ⟨b.x, f, d, c⟩ := by simpa using hy
    subst e
    exact (h5 a ha).2.2
theorem bfV_puts : ∀ (sel : List Msg) {b : Bx}, bfV b = 0 → (∀ m ∈ sel, mfV m = 0) → b.m.length + sel.length ≤ 6 → b.x + (sel.length : Int) ≤ 1000 → bfV (putsB b sel) = 0
  | [], b, h, _, _, _ => h
  | m :: sel, b, h, hm, h6, hx => by
    obtain ⟨-, hf, hd, hc⟩ := mfV_ok.1 (hm m (by simp))
    simp only [List.length_cons] at h6 hx
    refine bfV_puts sel (b := putB b m.f m.d m.b) (bfV_put h hf hd hc (by omega) (by omega)) (fun a ha => hm a (by simp [ha])) ?_ ?_
    · show (b.m ++ _).length + _ ≤ 6
      rw [List.length_append]; simp only [List.length_singleton]; omega
    · show b.x + 1 + _ ≤ 1000
      omega
theorem putsB_nv : ∀ (sel : List Msg) (b : Bx), (putsB b sel).n = b.n ∧ (putsB b sel).v = b.v
  | [], b => ⟨rfl, rfl⟩
  | m :: sel, b => putsB_nv sel (putB b m.f m.d m.b)
theorem bfV_filt {b : Bx} (h : bfV b = 0) (p : Msg → Bool) : bfV ⟨b.n, b.v, b.x, b.m.filter p⟩ = 0 := by
  obtain ⟨h1, h2, h3, h4, h5, h7⟩ := bfV_ok.1 h
  exact bfV_ok.2 ⟨h1, h2, h3, Nat.le_trans (List.length_filter_le _ _) h4, fun a ha => h5 a (List.mem_filter.1 ha).1, h7.sublist List.filter_sublist⟩
theorem bfV_map {b : Bx} (h : bfV b = 0) (g : Msg → Msg) (hu : ∀ m, (g m).u = m.u) (hg : ∀ m ∈ b.m, mfV m = 0 → mfV (g m) = 0) : bfV ⟨b.n, b.v, b.x, b.m.map g⟩ = 0 := by
  obtain ⟨h1, h2, h3, h4, h5, h7⟩ := bfV_ok.1 h
  refine bfV_ok.2 ⟨h1, h2, h3, by show (b.m.map g).length ≤ 6; rw [List.length_map]; exact h4, fun a ha => ?_, ?_⟩
  · obtain ⟨m, hm, e⟩ := List.mem_map.1 ha
    subst e
    have := h5 m hm
    rw [hu]
    exact ⟨hg m hm this.1, this.2.1, this.2.2⟩
  · show (b.m.map g).Pairwise _
    rw [List.pairwise_map]
    exact h7.imp fun {a b} hab => by rw [hu, hu]; exact hab
theorem tuF_in {f m b : Int} (hf : 0 ≤ f ∧ f ≤ 15) (hb : 0 ≤ b ∧ b ≤ 15) : 0 ≤ tuF f m b ∧ tuF f m b ≤ 15 := by
  have key : ∀ x y : Fin 16, (0 ≤ bits .or .i64 (x.val : Int) (y.val : Int) ∧ bits .or .i64 (x.val : Int) (y.val : Int) ≤ 15) ∧ (0 ≤ bits .andNot .i64 (x.val : Int) (y.val : Int) ∧ bits .andNot .i64 (x.val : Int) (y.val : Int) ≤ 15) := by decide
  obtain ⟨x, rfl⟩ : ∃ x : Fin 16, (x.val : Int) = f := ⟨⟨f.toNat, by omega⟩, by simp; omega⟩
  obtain ⟨y, rfl⟩ : ∃ y : Fin 16, (y.val : Int) = b := ⟨⟨b.toNat, by omega⟩, by simp; omega⟩
  unfold tuF
  split
  · exact (key x y).1
  · split
    · exact (key x y).2
    · exact hb
theorem flM_ok {us : List Int} {m b : Int} (hb : 0 ≤ b ∧ b ≤ 15) {x : Msg} (h : mfV x = 0) : mfV (flM us m b x) = 0 := by
  unfold flM
  split
  · obtain ⟨h1, h2, h3, h4⟩ := mfV_ok.1 h
    exact mfV_ok.2 ⟨h1, tuF_in h2 hb, h3, h4⟩
  · exact h
theorem flM_u (us : List Int) (m b : Int) (x : Msg) : (flM us m b x).u = x.u := by unfold flM; split <;> rfl
theorem ixG_in {l : List Bx} {nm : ByteArray} (h : ¬ ixG l.length (nmX l nm) < 0) : (ixG l.length (nmX l nm)).toNat < l.length ∧ (nthX l (ixG l.length (nmX l nm)).toNat).n = nm := by
  rcases ixG_cases l.length (nmX l nm) with ⟨e, -⟩ | ⟨k, hk, e, hp, -⟩
  · omega
  · rw [e]
    exact ⟨by simpa using hk, by simpa using of_decide_eq_true hp⟩
theorem cpR_ok {v : Int} {l : List Bx} {i : Nat} {us : List Int} {nm : ByteArray} (h : StOk v l) (hi : i < l.length) (h0 : (cpR v l i us nm).1 = 0) : StOk (cpR v l i us nm).2.2.1 (cpR v l i us nm).2.2.2 := by
  unfold cpR at h0 ⊢
  split at h0 <;> rename_i h1
  · exact absurd h0 (by decide)
  · rw [if_neg h1]
    split at h0 <;> rename_i h2
    · rw [if_pos h2]
      obtain ⟨hj, -⟩ := ixG_in h1
      have hr := of_decide_eq_true h2
      refine h.set hj (putsB_nv _ _).1 (putsB_nv _ _).2 (bfV_puts _ (h.box hj) (fun m hm => ?_) hr.1 hr.2)
      exact ((bfV_ok.1 (h.box hi)).2.2.2.2.1 m (List.mem_filter.1 hm).1).1
    · exact absurd h0 (by decide)
theorem apR_ok {v : Int} {l : List Bx} {o : OpR} (h : StOk v l) (h0 : (apR v l o).1 = 0) : StOk (apR v l o).2.2.1 (apR v l o).2.2.2 := by
  unfold apR at h0 ⊢
  by_cases hof : ofV o = 0
  case neg =>
    rw [if_neg hof] at h0
    exact absurd h0 hof
  rw [if_pos hof] at h0 ⊢
  obtain ⟨hk, hu, hb, hri, hf, hd, hm, hx, ht⟩ := ofV_zero hof
  split at h0 <;> rename_i hn
  · exact absurd h0 (by decide)
  rw [if_neg hn]
  unfold kdR at h0 ⊢
  by_cases k1 : o.k = 1
  · rw [if_pos k1] at h0 ⊢
    unfold mkR at h0 ⊢
    split at h0 <;> rename_i c1
    · exact absurd h0 (by decide)
    rw [if_neg c1]
    split at h0 <;> rename_i c2
    · exact absurd h0 (by decide)
    rw [if_neg c2]
    obtain ⟨q1, q2, q3, q4⟩ := h
    have hno : ∀ b ∈ l, b.n ≠ o.x := fun b hb e => by
      rcases ixG_cases l.length (nmX l o.x) with ⟨-, hall⟩ | ⟨k, _, e', -, -⟩
      · obtain ⟨k, hk, e2⟩ := List.getElem_of_mem hb
        have := of_decide_eq_false (hall k hk)
        rw [nthX_get hk, e2] at this
        exact this e
      · omega
    have hv9 : v ≤ 999 := by omega
    refine ⟨⟨by show 1 ≤ v + 1; omega, by show v + 1 ≤ 1000; omega⟩, by show (l ++ _).length ≤ 3; rw [List.length_append]; simp only [List.length_singleton]; omega, fun b hb => ?_, ?_⟩
    · rcases List.mem_append.1 hb with q | q
      · exact ⟨(q3 b q).1, by have := (q3 b q).2; show b.v < v + 1; omega⟩
      · have e : b = ⟨o.x, v, 1, []⟩ := by simpa using q
        subst e
        exact ⟨bfV_ok.2 ⟨hx, ⟨q1.1, hv9⟩, ⟨by show (1 : Int) ≤ 1; omega, by show (1 : Int) ≤ 1000; omega⟩, Nat.zero_le _, fun a ha => by simp at ha, List.Pairwise.nil⟩, by show v < v + 1; omega⟩
    · show ((l ++ [(⟨o.x, v, 1, []⟩ : Bx)]).map fun b => (b.n, b.v)).Pairwise _
      rw [List.map_append]
      refine List.pairwise_append.2 ⟨q4, by simp, fun a ha c hc => ?_⟩
      have e : c = (o.x, v) := by simpa using hc
      subst e
      obtain ⟨b, hb, rfl⟩ := List.mem_map.1 ha
      exact ⟨hno b hb, by have := (q3 b hb).2; show b.v ≠ v; omega⟩
  rw [if_neg k1] at h0 ⊢
  have hpl : ¬ ixG l.length (nmX l o.x) < 0 := fun c => hn ⟨c, k1⟩
  obtain ⟨hi, hnm⟩ := ixG_in hpl
  generalize (ixG l.length (nmX l o.x)).toNat = i at *
  by_cases k2 : o.k = 2
  · rw [if_pos k2]
    obtain ⟨q1, q2, q3, q4⟩ := h
    exact ⟨q1, by show (l.eraseIdx i).length ≤ 3; have := List.length_eraseIdx_le l i; omega, fun b hb => q3 b (List.mem_of_mem_eraseIdx hb), q4.sublist ((List.eraseIdx_sublist l i).map _)⟩
  rw [if_neg k2] at h0 ⊢
  by_cases k3 : o.k = 3
  · rw [if_pos k3] at h0 ⊢
    unfold adR at h0 ⊢
    split at h0 <;> rename_i c1
    · rw [if_pos c1]
      have hr := of_decide_eq_true c1
      exact h.set hi rfl rfl (bfV_put (h.box hi) hf hd hb hr.1 (by have := hr.2; omega))
    · exact absurd h0 (by decide)
  rw [if_neg k3] at h0 ⊢
  by_cases k4 : o.k = 4
  · rw [if_pos k4]
    exact h.set hi rfl rfl (bfV_map (h.box hi) _ (flM_u _ _ _) (fun m _ hm => flM_ok hf hm))
  rw [if_neg k4] at h0 ⊢
  by_cases k5 : o.k = 5
  · rw [if_pos k5] at h0 ⊢
    exact cpR_ok h hi h0
  rw [if_neg k5] at h0 ⊢
  by_cases k6 : o.k = 6
  · rw [if_pos k6] at h0 ⊢
    unfold mvR at h0 ⊢
    split at h0 <;> rename_i c1
    · exact absurd h0 (by decide)
    rw [if_neg c1]
    split at h0 <;> rename_i c2
    · rw [if_pos c2]
      obtain ⟨e1, e2, e3⟩ := cpR_other hi (fun e => c1 (e.symm.trans hnm)) c2
      have hc := cpR_ok h hi c2
      refine hc.set (by rw [e2]; exact hi) ?_ ?_ ?_
      · rw [e1]
      · rw [e1]
      · exact bfV_filt (h.box hi) _
    · exact absurd h0 c2
  rw [if_neg k6]
  exact h.set hi rfl rfl (bfV_filt (h.box hi) _)
end Go.Proofs.YtejbbnpgghpgaaaGreatDoor
