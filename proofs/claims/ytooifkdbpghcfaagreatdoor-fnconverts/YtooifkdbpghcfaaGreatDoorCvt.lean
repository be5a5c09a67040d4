/- ConvertPart, both sides. -/
import Derived.Test.YtooifkdbpghcfaaGreatDoorDec7ToEncT2
namespace Go.Proofs.YtooifkdbpghcfaaGreatDoor
open Go.RowKit

theorem encT_codesP (cs : Int) (u : List Int) : (encT cs u).1 = 0 ∨ (encT cs u).1 ≠ 0 ∧ (encT cs u).2 = [] := by
  unfold encT
  split
  · split
    · unfold encV
      split
      · split
        · exact .inr ⟨by decide, rfl⟩
        · exact .inl rfl
      · exact .inr ⟨by decide, rfl⟩
    · exact .inr ⟨by assumption, rfl⟩
  · exact .inr ⟨by decide, rfl⟩
/-- What ConvertPart answers. -/
def cvV (d : List Nat) (k cs : Int) : Int × List Nat := if (pqV d k).1 = 0 then encT cs (pqV d k).2 else ((pqV d k).1, [])
theorem cvV_zero {d : List Nat} {k cs : Int} (h : (cvV d k cs).1 ≠ 0) : (cvV d k cs).2 = [] := by
  unfold cvV at h ⊢
  split
  · rename_i h1
    rw [if_pos h1] at h
    rcases encT_codesP cs (pqV d k).2 with h' | h'
    · exact absurd h' h
    · exact h'.2
  · rfl
theorem cvV_len (d : List Nat) (k cs : Int) : (cvV d k cs).2.length ≤ 400 := by
  unfold cvV
  split
  · exact encT_few _ _
  · simp

set_option maxHeartbeats 3200000 in
set_option maxRecDepth 100000 in
theorem convertPart1_any {cp : Nat} (b m B0 B1 B2 : Nat) (d : List Nat) (k cs : Int) (w : World) (hr : Rd w (some ⟨b, 0, none⟩) d) (hT : TabC w) (hTB : TabB w) (hTH : TabH w) (hMI : MaxI w) (hB : IsB d) (hl : d.length = m)
    (h0 : w.cell? ⟨B0, 0, none⟩ = some (.int .i64 cs)) (h1 : w.cell? ⟨B1, 0, none⟩ = some (.slice (some ⟨b, 0, none⟩) m cp)) (h2 : w.cell? ⟨B2, 0, none⟩ = some (.int .i64 k)) (hcp : m ≤ cp := by omega) :
    Calls Tryz.prog 43 #[.pointer (some ⟨B0, 0, none⟩), .pointer (some ⟨B1, 0, none⟩), .pointer (some ⟨B2, 0, none⟩)] w (SeeB (cvV d k cs) w) := by
  have l0 := World.block_lt_of_cell? w ⟨B0, 0, none⟩ h0
  have l1 := World.block_lt_of_cell? w ⟨B1, 0, none⟩ h1
  have l2 := World.block_lt_of_cell? w ⟨B2, 0, none⟩ h2
  dsimp only at l0 l1 l2
  have HP := partIn_any (cp := cp) b m d k w.drew hr hT hB hl
  have HY : Hid (∀ w', Below w.heap.size w w' → (pwV d k).1 = 0 → Calls Tryz.prog 46 #[.slice (some ⟨b, 0, none⟩) m cp, ptA (ppV d k)] w' (SeeI (pcP d (ppV d k)) w')) := fun w' hb h => by
    obtain ⟨h4, f, t, h1, h2, h3⟩ := ppV_in h
    exact codesOfPart_any b m d (ppV d k) f t w' (hr.below hb) hB hl (by omega) h1 h2 (by omega) (hTB.below hb) (hTH.below hb) (hMI.below hb)
  have HZ : Hid ((pwV d k).1 ≠ 0 → cvV d k cs = ((pwV d k).1, [])) := fun h => by
    have e : pqV d k = ((pwV d k).1, []) := if_neg h
    unfold cvV
    rw [e, if_neg h]
  have HZ2 : Hid ((pwV d k).1 = 0 → (pcP d (ppV d k)).1 ≠ 0 → cvV d k cs = ((pcP d (ppV d k)).1, [])) := fun h h' => by
    have e : pqV d k = pcP d (ppV d k) := if_pos h
    unfold cvV
    rw [e, if_neg h']
  have HR : Hid ((pwV d k).1 = 0 → (pcP d (ppV d k)).1 = 0 → cvV d k cs = encT cs (pcP d (ppV d k)).2) := fun h h' => by
    have e : pqV d k = pcP d (ppV d k) := if_pos h
    unfold cvV
    rw [e, if_pos h']
  have HQ : Hid ((pwV d k).1 = 0 → nthP (pwV d k).2 k.toNat = ppV d k) := fun h => (if_pos h).symm
  have hpl := pcP_len d (ppV d k)
  generalize cvV d k cs = r at *
  generalize pcP d (ppV d k) = rp at *
  generalize ppV d k = q at *
  generalize pwV d k = pw at *
  unfold ptA at *
  obtain ⟨⟨p0, p1, p2⟩, ⟨p3, p4⟩, p5, p6⟩ := q
  dsimp only at HY
  go_enter Tryz.func43, Tryz.ntmps43
  go_wp2_with fail
  refine wp_region_held_drew (S := (fun w' => w'.cell? ⟨B0, 0, none⟩ = some (.int .i64 cs) ∧ w'.cell? ⟨B1, 0, none⟩ = some (.slice (some ⟨b, 0, none⟩) m cp) ∧ w'.cell? ⟨B2, 0, none⟩ = some (.int .i64 k))) (by kernel_rfl) ?hS1 (fun hHeld => ?_)
  case hS1 => exact ⟨h0, h1, h2⟩
  refine wpAnyH_take (i := 0) (v := ?_) rfl (by kernel_rfl) (by kernel_rfl) (by kernel_rfl) (fun _ _ _ h => h) (Or.inl ⟨by rfl, ?hy2⟩) (by assumption) ?ty2
  case hy2 => (intro w hSw; (try dsimp only at hSw); go_simp; all_goals with_reducible rfl)
  simp only [Act.put, List.getElem_toArray, List.getElem_cons_zero, List.setIfInBounds_toArray, List.set_cons_zero, List.set_cons_succ]
  refine wpAnyH_take (i := 1) (v := ?_) rfl (by kernel_rfl) (by kernel_rfl) (by kernel_rfl) (fun _ _ _ h => h) (Or.inl ⟨by rfl, ?hy3⟩) (by assumption) ?ty3
  case hy3 => (intro w hSw; (try dsimp only at hSw); go_simp; all_goals with_reducible rfl)
  simp only [Act.put, List.getElem_toArray, List.getElem_cons_zero, List.getElem_cons_succ, List.setIfInBounds_toArray, List.set_cons_zero, List.set_cons_succ]
  refine wpAnyH_take (i := 2) (v := ?_) rfl (by kernel_rfl) (by kernel_rfl) (by kernel_rfl) (fun _ _ _ h => h) (Or.inl ⟨by rfl, ?hy4⟩) (by assumption) ?ty4
  case hy4 => (intro w hSw; (try dsimp only at hSw); go_simp; all_goals with_reducible rfl)
  simp only [Act.put, List.getElem_toArray, List.getElem_cons_zero, List.getElem_cons_succ, List.setIfInBounds_toArray, List.set_cons_zero, List.set_cons_succ]
  refine wpAnyH_take (i := 3) (v := ?_) rfl (by kernel_rfl) (by kernel_rfl) (by kernel_rfl) (fun _ _ _ h => h) (Or.inl ⟨by rfl, ?hy5⟩) (by assumption) ?ty5
  case hy5 => (intro w hSw; (try dsimp only at hSw); go_simp; all_goals with_reducible rfl)
  simp only [Act.put, List.getElem_toArray, List.getElem_cons_zero, List.getElem_cons_succ, List.setIfInBounds_toArray, List.set_cons_zero, List.set_cons_succ]
  refine wpAnyH_ready (rs := [4]) (by kernel_rfl) (by simp) ?_
  refine AllReadyH.cons rfl (fun K hK => ?_) AllReadyH.nil
  go_simp
  refine HP.mono ?_
  rintro e w1 ⟨⟨g2, he⟩ | ⟨g2, rfl⟩, hb1⟩
  · rw [HQ.out g2] at he
    subst he
    dsimp only [ptA]
    have hW : Below w.heap.size w w1 := (Below.refl _ _).drew.trans hb1
    refine hK.out _ _ ⟨(hW.cell (p := ⟨B0, 0, none⟩) l0).trans h0, (hW.cell (p := ⟨B1, 0, none⟩) l1).trans h1, (hW.cell (p := ⟨B2, 0, none⟩) l2).trans h2⟩ (fun hHeld => ?_)
    clear hK K
    refine wpAnyH_ready (rs := [5]) (by kernel_rfl) (by simp) ?_
    refine AllReadyH.cons rfl (fun K hK => ?_) AllReadyH.nil
    go_simp
    refine (HY.out _ hW g2).mono ?_
    rintro e w2 ⟨⟨g3, v, rfl, ho⟩ | ⟨g3, rfl⟩, hb2⟩
    · have hW2 := hW.trans (hb2.mono hW.size)
      obtain ⟨a, cq, hv, -, -⟩ := ho.form
      subst hv
      refine hK.out _ _ ⟨(hW2.cell (p := ⟨B0, 0, none⟩) l0).trans h0, (hW2.cell (p := ⟨B1, 0, none⟩) l1).trans h1, (hW2.cell (p := ⟨B2, 0, none⟩) l2).trans h2⟩ (fun hHeld => ?_)
      clear hK K
      have HD := encodeText_any cs a rp.2.length cq rp.2 w2 rfl (OwnI.rd ho).2 (by omega)
      rw [← HR.out g2 g3] at HD
      refine wpAnyH_ready (rs := [6]) (by kernel_rfl) (by simp) ?_
      refine AllReadyH.cons rfl (fun K hK => ?_) AllReadyH.nil
      go_simp
      refine HD.mono ?_
      rintro e w3 ⟨v3, rfl, ho3, hb3⟩
      have hW3 := hW2.trans (hb3.mono hW2.size)
      have ho4 : Own w3 w.heap.size v3 r.2 := row_low ho3 hW2.size
      obtain ⟨a3, c3, hv3, -, -⟩ := ho4.form
      subst hv3
      refine hK.out _ _ ⟨(hW3.cell (p := ⟨B0, 0, none⟩) l0).trans h0, (hW3.cell (p := ⟨B1, 0, none⟩) l1).trans h1, (hW3.cell (p := ⟨B2, 0, none⟩) l2).trans h2⟩ (fun hHeld => ?_)
      clear hK K
      refine wpAnyH_ready (rs := [7]) (by kernel_rfl) (by simp) ?_
      refine AllReadyH.cons rfl (fun K hK => ?_) AllReadyH.nil
      go_simp
      by_cases hc : r.1 = 0
      · rw [hc]
        refine (bytesIn_ok a3 _ c3 _).mono ?_
        rintro e w4 ⟨rfl, hb4⟩
        have hW4 := hW3.trans (hb4.mono hW3.size)
        have ho5 := ho4.below hb4 (Nat.le_refl _)
        refine hK.out _ _ ⟨(hW4.cell (p := ⟨B0, 0, none⟩) l0).trans h0, (hW4.cell (p := ⟨B1, 0, none⟩) l1).trans h1, (hW4.cell (p := ⟨B2, 0, none⟩) l2).trans h2⟩ (fun hHeld => ?_)
        clear hK K
        refine wpAnyH_take (i := 8) (v := ?_) rfl (by kernel_rfl) (by kernel_rfl) (by kernel_rfl) (fun _ _ _ h => h) (Or.inl ⟨by rfl, ?hy6⟩) (by assumption) ?ty6
        case hy6 => (intro w hSw; (try dsimp only at hSw); go_simp; all_goals with_reducible rfl)
        simp only [Act.put, List.getElem_toArray, List.getElem_cons_zero, List.getElem_cons_succ, List.setIfInBounds_toArray, List.set_cons_zero, List.set_cons_succ]
        refine wpAnyH_done (by kernel_rfl) ?_ _
        clear hHeld
        go_wp2
        go_ret
        exact ⟨.inl ⟨hc, _, rfl, ho5⟩, hW4⟩
      · refine (bytesIn_bad _ hc a3 _ c3 _).mono ?_
        rintro e w4 ⟨rfl, hb4⟩
        exact ⟨rfl, .inr ⟨hc, rfl⟩, hW3.trans (hb4.mono hW3.size)⟩
    · rw [HZ2.out g2 g3]
      exact ⟨rfl, .inr ⟨g3, rfl⟩, hW.trans (hb2.mono hW.size)⟩
  · refine ⟨rfl, ?_⟩
    rw [HZ.out g2]
    exact ⟨.inr ⟨g2, rfl⟩, (Below.refl _ _).drew.trans hb1⟩

set_option maxHeartbeats 1600000 in
set_option maxRecDepth 100000 in
theorem convertPart_any {cp : Nat} (b m : Nat) (d : List Nat) (k cs : Int) (w : World) (hr : Rd w (some ⟨b, 0, none⟩) d) (hT : TabC w) (hTB : TabB w) (hTH : TabH w) (hMI : MaxI w) (hB : IsB d) (hl : d.length = m) (hcp : m ≤ cp := by omega) :
    Calls Tryz.prog 16 #[.slice (some ⟨b, 0, none⟩) m cp, .int .i64 k, .int .i64 cs] w (BytEnd (cvV d k cs) w) := by
  have hmf : ∀ (fn : Fn) (first cap : Array Value) (w : World), (Instr.makeFunc fn first cap).run Tryz.prog w = .ok (.func fn first cap) w := fun _ _ _ _ => rfl
  have hG : ∀ (args : Array Value) (w : World), (callFunc 43 args).run Tryz.prog w = .ok (.enter 43 args) w := fun _ _ => by kernel_rfl
  have hb0 : Below w.heap.size w ((((w.alloc (.cells #[.slice (some ⟨b, 0, none⟩) m cp] 22)).alloc (.cells #[.int .i64 k] 2)).alloc (.cells #[.int .i64 cs] 2)).alloc (.cells #[.int .i64 0, .slice none 0 0] 27)) := ((((Below.refl _ _).alloc (Nat.le_refl _) _).alloc (by simp) _).alloc (by simp; omega) _).alloc (by simp; omega) _
  have HS : Hid (∀ W : World, Below w.heap.size w W → W.cell? ⟨w.heap.size, 0, none⟩ = some (.slice (some ⟨b, 0, none⟩) m cp) → W.cell? ⟨w.heap.size + 1, 0, none⟩ = some (.int .i64 k) → W.cell? ⟨w.heap.size + 1 + 1, 0, none⟩ = some (.int .i64 cs) → Calls Tryz.prog 27 #[.func (.func 43) #[] #[.pointer (some ⟨w.heap.size + 1 + 1, 0, none⟩), .pointer (some ⟨w.heap.size, 0, none⟩), .pointer (some ⟨w.heap.size + 1, 0, none⟩)]] W fun e w' => ∃ v, e = .returned (.tuple #[v, .int .i64 (cvV d k cs).1]) ∧ Own w' W.heap.size v (cvV d k cs).2 ∧ Below W.heap.size W w') := fun W hW c0 c1 c2 => by
    have hbC := hW.alloc hW.size (.cells #[.int .i64 0] 2)
    exact seeB_of _ _ (cvV d k cs) W hG (fun h => cvV_zero h) (convertPart1_any b m _ _ _ d k cs _ (hr.below hbC) (hT.below hbC) (hTB.below hbC) (hTH.below hbC) (hMI.below hbC) hB hl (cellB c2) (cellB c0) (cellB c1))
  generalize cvV d k cs = r at *
  obtain ⟨rc, rl⟩ := r
  dsimp only at HS
  have x0 : ((((w.alloc (.cells #[.slice (some ⟨b, 0, none⟩) m cp] 22)).alloc (.cells #[.int .i64 k] 2)).alloc (.cells #[.int .i64 cs] 2)).alloc (.cells #[.int .i64 0, .slice none 0 0] 27)).cell? ⟨w.heap.size, 0, none⟩ = some (.slice (some ⟨b, 0, none⟩) m cp) := cellB (cellB (cellB (by simp)))
  have x1 : ((((w.alloc (.cells #[.slice (some ⟨b, 0, none⟩) m cp] 22)).alloc (.cells #[.int .i64 k] 2)).alloc (.cells #[.int .i64 cs] 2)).alloc (.cells #[.int .i64 0, .slice none 0 0] 27)).cell? ⟨w.heap.size + 1, 0, none⟩ = some (.int .i64 k) := cellB (cellB (new_cell1 (by simp) _ _))
  have x2 : ((((w.alloc (.cells #[.slice (some ⟨b, 0, none⟩) m cp] 22)).alloc (.cells #[.int .i64 k] 2)).alloc (.cells #[.int .i64 cs] 2)).alloc (.cells #[.int .i64 0, .slice none 0 0] 27)).cell? ⟨w.heap.size + 1 + 1, 0, none⟩ = some (.int .i64 cs) := cellB (new_cell1 (by simp) _ _)
  have hsz : ((((w.alloc (.cells #[.slice (some ⟨b, 0, none⟩) m cp] 22)).alloc (.cells #[.int .i64 k] 2)).alloc (.cells #[.int .i64 cs] 2)).alloc (.cells #[.int .i64 0, .slice none 0 0] 27)).heap.size = w.heap.size + 1 + 1 + 1 + 1 := by simp
  have HRB := fun (wx : World) (hx : Below (w.heap.size + 1 + 1 + 1 + 1) ((((w.alloc (.cells #[.slice (some ⟨b, 0, none⟩) m cp] 22)).alloc (.cells #[.int .i64 k] 2)).alloc (.cells #[.int .i64 cs] 2)).alloc (.cells #[.int .i64 0, .slice none 0 0] 27)) wx) => res_block (w := (((w.alloc (.cells #[.slice (some ⟨b, 0, none⟩) m cp] 22)).alloc (.cells #[.int .i64 k] 2)).alloc (.cells #[.int .i64 cs] 2))) (wr := wx) rfl (by simpa using hx)
  have hs3 : (((w.alloc (.cells #[.slice (some ⟨b, 0, none⟩) m cp] 22)).alloc (.cells #[.int .i64 k] 2)).alloc (.cells #[.int .i64 cs] 2)).heap.size = w.heap.size + 1 + 1 + 1 := by simp
  rw [hs3] at HRB
  go_enter Tryz.func16, Tryz.ntmps16
  go_wp2_with fail
  refine (HS.out _ hb0 x0 x1 x2).mono ?_
  rintro e w1 ⟨v, rfl, ho, hb1⟩
  rw [hsz] at ho hb1
  obtain ⟨a0, a1, z0, z1⟩ := HRB w1 hb1
  have hbw := hb0.trans (hb1.mono (by omega))
  obtain ⟨a, cp, hv, -, -⟩ := ho.form
  subst hv
  obtain ⟨k0, k1⟩ := res_at a0 a1 (.int .i64 rc) (.slice a rl.length cp)
  have HE : Hid (_) := BytEnd.at_ (c := rc) hbw (R := w.heap.size + 1 + 1 + 1) (by omega) ho (.int .i64 rc) (.slice a rl.length cp)
  clear HRB x0 x1 x2 HS hb0 hsz hs3 hb1 ho
  go_wp2
  refine bodyPost_ret (v := .agg #[.int .i64 rc, .slice a rl.length cp]) (by simp [results, Tryz.results16, go_sem, k0, k1]) rfl ?_
  exact HE.out

set_option maxHeartbeats 1600000 in
set_option maxRecDepth 100000 in
theorem specConvertPart_any {cp : Nat} (b m : Nat) (d : List Nat) (k cs : Int) (w : World) (hr : Rd w (some ⟨b, 0, none⟩) d) (hb : b < w.heap.size) (hB : IsB d) (hl : d.length = m) (hcp : m ≤ cp := by omega) :
    Calls Tryz.prog 18 #[.slice (some ⟨b, 0, none⟩) m cp, .int .i64 k, .int .i64 cs] w (BytEnd (cvV d k cs) w) := by
  have hb0 : Below w.heap.size w (w.alloc (.cells #[.int .i64 0, .slice none 0 0] 27)) := (Below.refl _ _).alloc (Nat.le_refl _) _
  have HL := specPartCodes_any (cp := cp) b m d k _ (hr.below hb0) (Nat.lt_of_lt_of_le hb hb0.size) hB hl
  have HZ : Hid ((pqV d k).1 ≠ 0 → cvV d k cs = ((pqV d k).1, [])) := fun h => if_neg h
  have HR : Hid ((pqV d k).1 = 0 → cvV d k cs = encT cs (pqV d k).2) := fun h => if_pos h
  have hpl := pqV_len d k
  generalize cvV d k cs = r at *
  generalize pqV d k = q at *
  obtain ⟨c, l⟩ := q
  dsimp only at HZ HR hpl
  go_enter Tryz.func18, Tryz.ntmps18
  go_wp2_with fail
  refine HL.mono ?_
  rintro e w1 ⟨v, rfl, ho, hb1⟩
  dsimp only at ho
  obtain ⟨a, cp, hv, -, -⟩ := ho.form
  obtain ⟨N, hN⟩ : ∃ N, l.length = N := ⟨_, rfl⟩
  rw [hN] at hv
  subst hv
  have hbl : Below (w.heap.size + 1) (w.alloc (.cells #[.int .i64 0, .slice none 0 0] 27)) w1 := hb1.mono (by simp)
  have hbw := hb0.trans (hbl.mono (by omega))
  have hlt : w.heap.size < w1.heap.size := by have hz := hbl.size; rw [World.size_alloc] at hz; omega
  have hbA : Below w1.heap.size w1 (w1.alloc (.cells #[.int .i64 c, .slice a N cp] 33)) := (Below.refl _ _).alloc (Nat.le_refl _) _
  have hblA := hbl.trans (hbA.mono (by have hz := hbl.size; simpa using hz))
  clear HL hb1
  by_cases hc : c = 0
  · subst hc
    have HD := specEncodeText_any cs a N cp l _ hN ((OwnI.rd ho).2.below hbA) (by omega)
    rw [← HR.out rfl] at HD
    clear HR HZ
    go_wp2_with fail
    refine HD.mono ?_
    rintro e w2 ⟨v2, rfl, ho2, hb2⟩
    have hbl2 := hblA.trans (hb2.mono (by simp; omega))
    have hbw2 := hb0.trans (hbl2.mono (by omega))
    have ho3 : Own w2 (w.heap.size + 1) v2 r.2 := row_low ho2 (by simp; omega)
    obtain ⟨a2, c2, hv2, -, -⟩ := ho3.form
    subst hv2
    obtain ⟨a0, a1, z0, z1⟩ := res_block rfl hbl2
    obtain ⟨rc, rl⟩ := r
    dsimp only at ho3 a0 a1 ⊢
    obtain ⟨k0, k1⟩ := res_at a0 a1 (.int .i64 rc) (.slice a2 rl.length c2)
    have HE : Hid (_) := BytEnd.at_ (c := rc) hbw2 (R := w.heap.size) (Nat.le_refl _) ho3 (.int .i64 rc) (.slice a2 rl.length c2)
    clear ho ho2 ho3 hb2 HD
    go_wp2
    refine bodyPost_ret (v := .agg #[.int .i64 rc, .slice a2 rl.length c2]) (by simp [results, Tryz.results18, go_sem, k0, k1]) rfl ?_
    exact HE.out
  · have hM : r = (c, []) := HZ.out hc
    subst hM
    have hc' : (c != 0) = true := by simpa using hc
    obtain ⟨a0, a1, z0, z1⟩ := res_block rfl hbl
    obtain ⟨k0', k1'⟩ := res_at a0 a1 (.int .i64 c) (.slice none 0 0)
    have HK : Hid (∀ ob : Obj, (((w1.setCell ⟨w.heap.size, 0, none⟩ (.int .i64 c)).setCell ⟨w.heap.size, 1, none⟩ (.slice none 0 0)).alloc ob).cell? ⟨w.heap.size, 0, none⟩ = some (.int .i64 c) ∧ (((w1.setCell ⟨w.heap.size, 0, none⟩ (.int .i64 c)).setCell ⟨w.heap.size, 1, none⟩ (.slice none 0 0)).alloc ob).cell? ⟨w.heap.size, 1, none⟩ = some (.slice none 0 0)) := fun ob => ⟨cellB k0', cellB k1'⟩
    obtain ⟨k0, k1⟩ := HK.out (.cells #[.int .i64 c, .slice a N cp] 33)
    have HE : Hid (∀ ob : Obj, BytEnd (c, []) w (.returned (.agg #[.int .i64 c, .slice none 0 0])) (((w1.setCell ⟨w.heap.size, 0, none⟩ (.int .i64 c)).setCell ⟨w.heap.size, 1, none⟩ (.slice none 0 0)).alloc ob)) := fun ob =>
      ⟨_, rfl, Own.nil _ _, ((hbw.setCell (p := ⟨w.heap.size, 0, none⟩) (Nat.le_refl _) _).setCell (p := ⟨w.heap.size, 1, none⟩) (Nat.le_refl _) _).alloc (by simp; omega) _⟩
    clear HR HZ HK k0' k1'
    go_wp2
    refine bodyPost_ret (v := .agg #[.int .i64 c, .slice none 0 0]) (by simp [results, Tryz.results18, go_sem, k0, k1]) rfl ?_
    exact HE.out _

end Go.Proofs.YtooifkdbpghcfaaGreatDoor
