/- PartBytes, both sides. -/
import Derived.Test.YtkjnhcnbbojajaaGreatDoorPbf
import Derived.Test.YtkjnhcnbbojajaaGreatDoorVwnToVwo
import Derived.Test.YtkjnhcnbbojajaaGreatDoorEncQ3ToSeo
namespace Go.Proofs.YtkjnhcnbbojajaaGreatDoor
open Go.RowKit

theorem decB_zero {t : List Nat} (h : (decB t).1 ≠ 0) : (decB t).2 = [] := by
  unfold decB at h ⊢
  split
  · rfl
  · rename_i h1
    rw [if_neg h1] at h
    split
    · rfl
    · rename_i h2
      rw [h2] at h
      dsimp only at h ⊢
      split
      · rfl
      · rename_i h3
        rw [if_neg h3] at h
        exact absurd rfl h
theorem decQ_zero {t : List Nat} (h : (decQ t).1 ≠ 0) : (decQ t).2 = [] := by
  unfold decQ at h ⊢
  split
  · rfl
  · rename_i h1
    rw [if_neg h1] at h
    split
    · rfl
    · rename_i h2
      rw [h2] at h
      dsimp only at h ⊢
      split
      · rfl
      · rename_i h3
        rw [if_neg h3] at h
        exact absurd rfl h
theorem decB_len (t : List Nat) : (decB t).2.length ≤ 400 := by
  unfold decB
  split
  · simp
  · split
    · simp
    · split
      · simp
      · dsimp only; omega
theorem decQ_len (t : List Nat) : (decQ t).2.length ≤ 400 := by
  unfold decQ
  split
  · simp
  · split
    · simp
    · split
      · simp
      · dsimp only; omega
theorem byV_zero {l : List Nat} {g : Int} (h : (byV l g).1 ≠ 0) : (byV l g).2 = [] := by
  unfold byV at h ⊢
  split
  · rename_i h1; rw [if_pos h1] at h; exact decB_zero h
  · rename_i h1
    rw [if_neg h1] at h
    split
    · rename_i h2; rw [if_pos h2] at h; exact decQ_zero h
    · rename_i h2; rw [if_neg h2] at h; exact absurd rfl h
theorem pbV_zero {d : List Nat} {k : Int} (h : (pbV d k).1 ≠ 0) : (pbV d k).2 = [] := by
  unfold pbV at h ⊢
  split
  · rename_i h1; rw [if_pos h1] at h; exact byV_zero h
  · rfl

set_option maxHeartbeats 1600000 in
set_option maxRecDepth 100000 in
theorem partBytes_any (b m : Nat) (d : List Nat) (k : Int) (w : World) (hr : Rd w (some ⟨b, 0, none⟩) d) (hT : TabC w) (hTB : TabB w) (hTH : TabH w) (hMI : MaxI w) (hB : IsB d) (hl : d.length = m) :
    Calls Tryz.prog 41 #[.slice (some ⟨b, 0, none⟩) m m, .int .i64 k] w (BytEnd (pbV d k) w) := by
  have hmf : ∀ (fn : Fn) (first cap : Array Value) (w : World), (Instr.makeFunc fn first cap).run Tryz.prog w = .ok (.func fn first cap) w := fun _ _ _ _ => rfl
  have hG : ∀ (args : Array Value) (w : World), (callFunc 95 args).run Tryz.prog w = .ok (.enter 95 args) w := fun _ _ => by kernel_rfl
  have hb0 : Below w.heap.size w (((w.alloc (.cells #[.slice (some ⟨b, 0, none⟩) m m] 22)).alloc (.cells #[.int .i64 k] 2)).alloc (.cells #[.int .i64 0, .slice none 0 0] 46)) := (((Below.refl _ _).alloc (Nat.le_refl _) _).alloc (by simp) _).alloc (by simp; omega) _
  have HS : Hid (∀ W : World, Below w.heap.size w W → W.cell? ⟨w.heap.size, 0, none⟩ = some (.slice (some ⟨b, 0, none⟩) m m) → W.cell? ⟨w.heap.size + 1, 0, none⟩ = some (.int .i64 k) → Calls Tryz.prog 94 #[.func (.func 95) #[] #[.pointer (some ⟨w.heap.size, 0, none⟩), .pointer (some ⟨w.heap.size + 1, 0, none⟩)]] W fun e w' => ∃ v, e = .returned (.tuple #[v, .int .i64 (pbV d k).1]) ∧ Own w' W.heap.size v (pbV d k).2 ∧ Below W.heap.size W w') := fun W hW c0 c1 => by
    have hbC := hW.alloc hW.size (.cells #[.int .i64 0] 2)
    exact seeB_of _ _ (pbV d k) W hG (fun h => pbV_zero h) (partBytes1_any b m _ _ d k _ (hr.below hbC) (hT.below hbC) (hTB.below hbC) (hTH.below hbC) (hMI.below hbC) hB hl (cellB c0) (cellB c1))
  generalize pbV d k = r at *
  obtain ⟨rc, rl⟩ := r
  dsimp only at HS
  have x0 : (((w.alloc (.cells #[.slice (some ⟨b, 0, none⟩) m m] 22)).alloc (.cells #[.int .i64 k] 2)).alloc (.cells #[.int .i64 0, .slice none 0 0] 46)).cell? ⟨w.heap.size, 0, none⟩ = some (.slice (some ⟨b, 0, none⟩) m m) := cellB (cellB (by simp))
  have x1 : (((w.alloc (.cells #[.slice (some ⟨b, 0, none⟩) m m] 22)).alloc (.cells #[.int .i64 k] 2)).alloc (.cells #[.int .i64 0, .slice none 0 0] 46)).cell? ⟨w.heap.size + 1, 0, none⟩ = some (.int .i64 k) := cellB (new_cell1 (by simp) _ _)
  have hsz : (((w.alloc (.cells #[.slice (some ⟨b, 0, none⟩) m m] 22)).alloc (.cells #[.int .i64 k] 2)).alloc (.cells #[.int .i64 0, .slice none 0 0] 46)).heap.size = w.heap.size + 1 + 1 + 1 := by simp
  have HRB := fun (wx : World) (hx : Below (w.heap.size + 1 + 1 + 1) (((w.alloc (.cells #[.slice (some ⟨b, 0, none⟩) m m] 22)).alloc (.cells #[.int .i64 k] 2)).alloc (.cells #[.int .i64 0, .slice none 0 0] 46)) wx) => res_block (w := ((w.alloc (.cells #[.slice (some ⟨b, 0, none⟩) m m] 22)).alloc (.cells #[.int .i64 k] 2))) (wr := wx) rfl (by simpa using hx)
  have hs3 : ((w.alloc (.cells #[.slice (some ⟨b, 0, none⟩) m m] 22)).alloc (.cells #[.int .i64 k] 2)).heap.size = w.heap.size + 1 + 1 := by simp
  rw [hs3] at HRB
  go_enter Tryz.func41, Tryz.ntmps41
  go_wp2_with fail
  refine (HS.out _ hb0 x0 x1).mono ?_
  rintro e w1 ⟨v, rfl, ho, hb1⟩
  rw [hsz] at ho hb1
  obtain ⟨a0, a1, z0, z1⟩ := HRB w1 hb1
  have hbw := hb0.trans (hb1.mono (by omega))
  obtain ⟨a, cp, hv, -, -⟩ := ho.form
  subst hv
  obtain ⟨k0, k1⟩ := res_at a0 a1 (.int .i64 rc) (.slice a rl.length cp)
  have HE : Hid (_) := BytEnd.at_ (c := rc) hbw (R := w.heap.size + 1 + 1) (by omega) ho (.int .i64 rc) (.slice a rl.length cp)
  clear HRB x0 x1 HS hb0 hsz hs3 hb1 ho
  go_wp2
  refine bodyPost_ret (v := .agg #[.int .i64 rc, .slice a rl.length cp]) (by simp [results, Tryz.results41, go_sem, k0, k1]) rfl ?_
  exact HE.out

set_option maxHeartbeats 1600000 in
set_option maxRecDepth 100000 in
theorem specPartBytes_any (b m : Nat) (d : List Nat) (k : Int) (w : World) (hr : Rd w (some ⟨b, 0, none⟩) d) (hb : b < w.heap.size) (hB : IsB d) (hl : d.length = m) :
    Calls Tryz.prog 42 #[.slice (some ⟨b, 0, none⟩) m m, .int .i64 k] w (BytEnd (pbV d k) w) := by
  have hb0 : Below w.heap.size w (w.alloc (.cells #[.int .i64 0, .slice none 0 0] 46)) := (Below.refl _ _).alloc (Nat.le_refl _) _
  have HL := l6Part_any b m d k _ (hr.below hb0) (Nat.lt_of_lt_of_le hb hb0.size) hB hl
  have HZ : Hid ((pwV d k).1 ≠ 0 → pbV d k = ((pwV d k).1, [])) := fun h => if_neg h
  have HY : Hid (∀ W P, Below w.heap.size w W → (pwV d k).1 = 0 → PtAt W P (ppV d k).1.1 (ppV d k).1.2.1 (ppV d k).1.2.2 (ppV d k).2.1.1 (ppV d k).2.1.2 (ppV d k).2.2.1 (ppV d k).2.2.2 → Calls Tryz.prog 99 #[.slice (some ⟨b, 0, none⟩) m m, .pointer (some ⟨P, 0, none⟩)] W fun e w' => ∃ v, e = .returned (.tuple #[v, .int .i64 (pbV d k).1]) ∧ Own w' W.heap.size v (pbV d k).2 ∧ Below W.heap.size W w') := fun W P hW h hP => by
    obtain ⟨h4, f, t, h1, h2, h3⟩ := ppV_in h
    have e : pbV d k = byV (cutN d f t) (ppV d k).1.2.2 := by
      unfold pbV pbP
      rw [if_pos h, h1]
      simp
    rw [e]
    exact l6Bytes_any b m P 0 d (ppV d k) f t W (hr.below hW) hB hl (by omega) h1 h2 (by omega) (PtC.of hP)
  generalize pbV d k = r at *
  generalize ppV d k = q at *
  generalize (pwV d k).1 = c at *
  unfold ptA at HL
  obtain ⟨⟨p0, p1, p2⟩, ⟨p3, p4⟩, p5, p6⟩ := q
  dsimp only at HL HY
  go_enter Tryz.func42, Tryz.ntmps42
  go_wp2_with fail
  refine HL.mono ?_
  rintro e w1 ⟨rfl, hb1⟩
  have hbl : Below (w.heap.size + 1) (w.alloc (.cells #[.int .i64 0, .slice none 0 0] 46)) w1 := hb1.mono (by simp)
  have hbw := hb0.trans (hbl.mono (by omega))
  have hlt : w.heap.size < w1.heap.size := by have hz := hbl.size; rw [World.size_alloc] at hz; omega
  have hbA : Below w1.heap.size w1 (w1.alloc (.cells #[.int .i64 p0, .int .i64 p1, .int .i64 p2, .int .i64 p3, .int .i64 p4, .int .i64 p5, .int .i64 p6] 30)) := (Below.refl _ _).alloc (Nat.le_refl _) _
  have hbwA := hbw.trans (hbA.mono hbw.size)
  have hblA := hbl.trans (hbA.mono (by have hz := hbl.size; simpa using hz))
  clear HL hb1
  by_cases hc : c = 0
  · subst hc
    have hP : PtAt (w1.alloc (.cells #[.int .i64 p0, .int .i64 p1, .int .i64 p2, .int .i64 p3, .int .i64 p4, .int .i64 p5, .int .i64 p6] 30)) w1.heap.size p0 p1 p2 p3 p4 p5 p6 := heap_alloc_new w1 _
    have HY2 := HY.out _ _ hbwA rfl hP
    clear HY HZ hP
    go_wp2_with fail
    refine HY2.mono ?_
    rintro e w2 ⟨v, rfl, ho, hb2⟩
    have hbl2 := hblA.trans (hb2.mono (by simp; omega))
    have hbw2 := hb0.trans (hbl2.mono (by omega))
    have ho2 : Own w2 (w.heap.size + 1) v r.2 := row_low ho (by simp; omega)
    obtain ⟨a, cp, hv, -, -⟩ := ho2.form
    subst hv
    obtain ⟨a0, a1, z0, z1⟩ := res_block rfl hbl2
    obtain ⟨rc, rl⟩ := r
    dsimp only at ho2 a0 a1 ⊢
    obtain ⟨k0, k1⟩ := res_at a0 a1 (.int .i64 rc) (.slice a rl.length cp)
    have HE : Hid (_) := BytEnd.at_ (c := rc) hbw2 (R := w.heap.size) (Nat.le_refl _) ho2 (.int .i64 rc) (.slice a rl.length cp)
    clear ho ho2 hb2 HY2
    go_wp2
    refine bodyPost_ret (v := .agg #[.int .i64 rc, .slice a rl.length cp]) (by simp [results, Tryz.results42, go_sem, k0, k1]) rfl ?_
    exact HE.out
  · have hM : r = (c, []) := HZ.out hc
    subst hM
    have hc' : (c != 0) = true := by simpa using hc
    obtain ⟨a0, a1, z0, z1⟩ := res_block rfl hbl
    obtain ⟨k0', k1'⟩ := res_at a0 a1 (.int .i64 c) (.slice none 0 0)
    have HK : Hid (∀ ob : Obj, (((w1.setCell ⟨w.heap.size, 0, none⟩ (.int .i64 c)).setCell ⟨w.heap.size, 1, none⟩ (.slice none 0 0)).alloc ob).cell? ⟨w.heap.size, 0, none⟩ = some (.int .i64 c) ∧ (((w1.setCell ⟨w.heap.size, 0, none⟩ (.int .i64 c)).setCell ⟨w.heap.size, 1, none⟩ (.slice none 0 0)).alloc ob).cell? ⟨w.heap.size, 1, none⟩ = some (.slice none 0 0)) := fun ob => ⟨cellB k0', cellB k1'⟩
    obtain ⟨k0, k1⟩ := HK.out (.cells #[.int .i64 p0, .int .i64 p1, .int .i64 p2, .int .i64 p3, .int .i64 p4, .int .i64 p5, .int .i64 p6] 30)
    have HE : Hid (∀ ob : Obj, BytEnd (c, []) w (.returned (.agg #[.int .i64 c, .slice none 0 0])) (((w1.setCell ⟨w.heap.size, 0, none⟩ (.int .i64 c)).setCell ⟨w.heap.size, 1, none⟩ (.slice none 0 0)).alloc ob)) := fun ob =>
      ⟨_, rfl, Own.nil _ _, ((hbw.setCell (p := ⟨w.heap.size, 0, none⟩) (Nat.le_refl _) _).setCell (p := ⟨w.heap.size, 1, none⟩) (Nat.le_refl _) _).alloc (by simp; omega) _⟩
    clear HY HZ HK k0' k1'
    go_wp2
    refine bodyPost_ret (v := .agg #[.int .i64 c, .slice none 0 0]) (by simp [results, Tryz.results42, go_sem, k0, k1]) rfl ?_
    exact HE.out _
theorem byV_len {l : List Nat} {g : Int} (h : l.length ≤ 400) : (byV l g).2.length ≤ 400 := by
  unfold byV
  split
  · exact decB_len _
  · split
    · exact decQ_len _
    · exact h
theorem pbV_len (d : List Nat) (k : Int) : (pbV d k).2.length ≤ 400 := by
  unfold pbV
  split
  · rename_i h
    obtain ⟨h4, f, t, h1, h2, h3⟩ := ppV_in h
    unfold pbP
    refine byV_len ?_
    unfold cutN
    rw [List.length_drop, List.length_take]; omega
  · simp

/-- PartBytes, both sides. -/
theorem bothPartBytes (w : World) (hT : TabC w) (hTB : TabB w) (hTH : TabH w) (hMI : MaxI w) (k : Int) (_hk : (Lit.int .i64 k).wf = true) (m : Nat) (s : List Nat) (hl : s.length = m) (hB : IsB s) (_hm : m ≤ 1048576) : ∃ (c : Int) (l : List Nat), l.length ≤ 400 ∧
    (∀ (b : Nat) (wx : World), Below w.heap.size w wx → b < wx.heap.size → Rd wx (some ⟨b, 0, none⟩) s → Calls Tryz.prog 42 #[.slice (some ⟨b, 0, none⟩) m m, .int .i64 k] wx fun e w' => ∃ v, e = .returned (.agg #[.int .i64 c, v]) ∧ Own w' wx.heap.size v l ∧ Below wx.heap.size wx w') ∧
    (∀ (b : Nat) (wx : World), Below w.heap.size w wx → b < wx.heap.size → Rd wx (some ⟨b, 0, none⟩) s → Calls Tryz.prog 41 #[.slice (some ⟨b, 0, none⟩) m m, .int .i64 k] wx fun e w' => ∃ v, e = .returned (.agg #[.int .i64 c, v]) ∧ Own w' wx.heap.size v l ∧ Below wx.heap.size wx w') :=
  ⟨(pbV s k).1, (pbV s k).2, pbV_len s k, fun b wx _ hlt hr => specPartBytes_any b m s k wx hr hlt hB hl, fun b wx hb _ hr => partBytes_any b m s k wx hr (hT.below hb) (hTB.below hb) (hTH.below hb) (hMI.below hb) hB hl⟩
end Go.Proofs.YtkjnhcnbbojajaaGreatDoor
