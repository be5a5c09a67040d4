/- SliceOf, both sides. -/
import Derived.Test.YtkjnhcnbbojajaaSlc
import Derived.Test.YtkjnhcnbbojajaaSeo
namespace Go.Proofs.Ytkjnhcnbbojajaa
open Go.RowKit

theorem slV_zero {d : List Nat} {f n : Int} (h : (slV d f n).1 ≠ 0) : (slV d f n).2 = [] := by
  unfold slV at h ⊢
  split
  · rfl
  · rename_i h1
    rw [if_neg h1] at h
    split
    · rename_i h2; rw [if_pos h2] at h; exact absurd rfl h
    · rfl
theorem slV_len (d : List Nat) (f n : Int) : (slV d f n).2.length ≤ 400 := by
  unfold slV
  split
  · simp
  · split
    · rw [List.length_drop, List.length_take]; omega
    · simp

set_option maxHeartbeats 800000 in
set_option maxRecDepth 100000 in
theorem sliceOf1_any (b m B0 B1 B2 : Nat) (d : List Nat) (f n : Int) (w : World) (hr : Rd w (some ⟨b, 0, none⟩) d) (hl : d.length = m)
    (h0 : w.cell? ⟨B0, 0, none⟩ = some (.slice (some ⟨b, 0, none⟩) m m)) (h1 : w.cell? ⟨B1, 0, none⟩ = some (.int .i64 f)) (h2 : w.cell? ⟨B2, 0, none⟩ = some (.int .i64 n)) :
    Calls Try.prog 32 #[.pointer (some ⟨B0, 0, none⟩), .pointer (some ⟨B1, 0, none⟩), .pointer (some ⟨B2, 0, none⟩)] w (SeeB (slV d f n) w) := by
  have HP := sliceIn_any b m d f n w hr hl
  generalize slV d f n = r at *
  go_enter Try.func32, Try.ntmps32
  go_wp2_with fail
  refine HP.mono ?_
  rintro e w1 ⟨⟨h3, v, rfl, ho⟩ | ⟨h3, rfl⟩, hb⟩
  · obtain ⟨a, cp, hv, -, -⟩ := ho.form
    subst hv
    go_wp2
    go_ret
    exact ⟨.inl ⟨h3, _, rfl, ho⟩, hb⟩
  · exact ⟨rfl, .inr ⟨h3, rfl⟩, hb⟩

set_option maxHeartbeats 1600000 in
set_option maxRecDepth 100000 in
theorem sliceOf_any (b m : Nat) (d : List Nat) (f n : Int) (w : World) (hr : Rd w (some ⟨b, 0, none⟩) d) (hl : d.length = m) :
    Calls Try.prog 16 #[.slice (some ⟨b, 0, none⟩) m m, .int .i64 f, .int .i64 n] w (BytEnd (slV d f n) w) := by
  have hmf : ∀ (fn : Fn) (first cap : Array Value) (w : World), (Instr.makeFunc fn first cap).run Try.prog w = .ok (.func fn first cap) w := fun _ _ _ _ => rfl
  have hG : ∀ (args : Array Value) (w : World), (callFunc 32 args).run Try.prog w = .ok (.enter 32 args) w := fun _ _ => by kernel_rfl
  have hb0 : Below w.heap.size w ((((w.alloc (.cells #[.slice (some ⟨b, 0, none⟩) m m] 24)).alloc (.cells #[.int .i64 f] 2)).alloc (.cells #[.int .i64 n] 2)).alloc (.cells #[.int .i64 0, .slice none 0 0] 26)) := ((((Below.refl _ _).alloc (Nat.le_refl _) _).alloc (by simp) _).alloc (by simp; omega) _).alloc (by simp; omega) _
  have HS : Hid (∀ W : World, Below w.heap.size w W → W.cell? ⟨w.heap.size, 0, none⟩ = some (.slice (some ⟨b, 0, none⟩) m m) → W.cell? ⟨w.heap.size + 1, 0, none⟩ = some (.int .i64 f) → W.cell? ⟨w.heap.size + 1 + 1, 0, none⟩ = some (.int .i64 n) → Calls Try.prog 31 #[.func (.func 32) #[] #[.pointer (some ⟨w.heap.size, 0, none⟩), .pointer (some ⟨w.heap.size + 1, 0, none⟩), .pointer (some ⟨w.heap.size + 1 + 1, 0, none⟩)]] W fun e w' => ∃ v, e = .returned (.tuple #[v, .int .i64 (slV d f n).1]) ∧ Own w' W.heap.size v (slV d f n).2 ∧ Below W.heap.size W w') := fun W hW c0 c1 c2 => by
    have hbC := hW.alloc hW.size (.cells #[.int .i64 0] 2)
    exact seeB_of _ _ (slV d f n) W hG (fun h => slV_zero h) (sliceOf1_any b m _ _ _ d f n _ (hr.below hbC) hl (cellB c0) (cellB c1) (cellB c2))
  generalize slV d f n = r at *
  obtain ⟨rc, rl⟩ := r
  dsimp only at HS
  have x0 : ((((w.alloc (.cells #[.slice (some ⟨b, 0, none⟩) m m] 24)).alloc (.cells #[.int .i64 f] 2)).alloc (.cells #[.int .i64 n] 2)).alloc (.cells #[.int .i64 0, .slice none 0 0] 26)).cell? ⟨w.heap.size, 0, none⟩ = some (.slice (some ⟨b, 0, none⟩) m m) := cellB (cellB (cellB (by simp)))
  have x1 : ((((w.alloc (.cells #[.slice (some ⟨b, 0, none⟩) m m] 24)).alloc (.cells #[.int .i64 f] 2)).alloc (.cells #[.int .i64 n] 2)).alloc (.cells #[.int .i64 0, .slice none 0 0] 26)).cell? ⟨w.heap.size + 1, 0, none⟩ = some (.int .i64 f) := cellB (cellB (new_cell1 (by simp) _ _))
  have x2 : ((((w.alloc (.cells #[.slice (some ⟨b, 0, none⟩) m m] 24)).alloc (.cells #[.int .i64 f] 2)).alloc (.cells #[.int .i64 n] 2)).alloc (.cells #[.int .i64 0, .slice none 0 0] 26)).cell? ⟨w.heap.size + 1 + 1, 0, none⟩ = some (.int .i64 n) := cellB (new_cell1 (by simp) _ _)
  have hsz : ((((w.alloc (.cells #[.slice (some ⟨b, 0, none⟩) m m] 24)).alloc (.cells #[.int .i64 f] 2)).alloc (.cells #[.int .i64 n] 2)).alloc (.cells #[.int .i64 0, .slice none 0 0] 26)).heap.size = w.heap.size + 1 + 1 + 1 + 1 := by simp
  have HRB := fun (wx : World) (hx : Below (w.heap.size + 1 + 1 + 1 + 1) ((((w.alloc (.cells #[.slice (some ⟨b, 0, none⟩) m m] 24)).alloc (.cells #[.int .i64 f] 2)).alloc (.cells #[.int .i64 n] 2)).alloc (.cells #[.int .i64 0, .slice none 0 0] 26)) wx) => res_block (w := ((w.alloc (.cells #[.slice (some ⟨b, 0, none⟩) m m] 24)).alloc (.cells #[.int .i64 f] 2)).alloc (.cells #[.int .i64 n] 2)) (wr := wx) rfl (by simpa using hx)
  have hs3 : (((w.alloc (.cells #[.slice (some ⟨b, 0, none⟩) m m] 24)).alloc (.cells #[.int .i64 f] 2)).alloc (.cells #[.int .i64 n] 2)).heap.size = w.heap.size + 1 + 1 + 1 := by simp
  rw [hs3] at HRB
  go_enter Try.func16, Try.ntmps16
  go_wp2_with fail
  refine (HS.out _ hb0 x0 x1 x2).mono ?_
  rintro e w1 ⟨v, rfl, ho, hb1⟩
  rw [hsz] at ho hb1
  obtain ⟨a0, a1, z0, z1⟩ := HRB w1 hb1
  have hbw := hb0.trans (hb1.mono (by omega))
  obtain ⟨a, cp, hv, -, -⟩ := ho.form
  subst hv
  obtain ⟨k0, k1⟩ := res_at a0 a1 (.int .i64 rc) (.slice a rl.length cp)
  have HE : Hid (_) := BytEnd.at_ (c := rc) hbw (R := w.heap.size + 1 + 1 + 1) (by omega) ho (.int .i64 rc) (.slice a rl.length cp)
  clear HRB x0 x1 x2 HS hb0 hsz hs3 hb1 ho
  go_wp2
  refine bodyPost_ret (v := .agg #[.int .i64 rc, .slice a rl.length cp]) (by simp [results, Try.results16, go_sem, k0, k1]) rfl ?_
  exact HE.out

set_option maxHeartbeats 1600000 in
set_option maxRecDepth 100000 in
theorem specSliceOf_any (b m : Nat) (d : List Nat) (f n : Int) (w : World) (hr : Rd w (some ⟨b, 0, none⟩) d) (hl : d.length = m) :
    Calls Try.prog 14 #[.slice (some ⟨b, 0, none⟩) m m, .int .i64 f, .int .i64 n] w (BytEnd (slV d f n) w) := by
  have hb0 : Below w.heap.size w (w.alloc (.cells #[.int .i64 0, .slice none 0 0] 26)) := (Below.refl _ _).alloc (Nat.le_refl _) _
  by_cases h4 : 400 < m
  · have h4' : (400 : Int) < (m : Int) := by omega
    have e : slV d f n = (2, []) := if_pos (by omega)
    rw [e]
    go_enter Try.func14, Try.ntmps14
    go_wp2
    go_returns
    exact ⟨_, rfl, Own.nil _ _, by go_grown⟩
  · have h4' : ¬ (400 : Int) < (m : Int) := by omega
    by_cases hf : 0 ≤ f ∧ f ≤ 400
    · by_cases hn : 0 ≤ n ∧ n ≤ 400
      · obtain ⟨F, rfl⟩ : ∃ F : Nat, f = (F : Int) := ⟨f.toNat, by omega⟩
        obtain ⟨N, rfl⟩ : ∃ N : Nat, n = (N : Int) := ⟨n.toNat, by omega⟩
        have e : slV d (F : Int) (N : Int) = (0, (d.take (min (F + N) m)).drop (min F m)) := by unfold slV; rw [if_neg (by omega), if_pos ⟨hf, hn⟩, hl]; simp
        rw [e]
        obtain ⟨x, hx⟩ : ∃ x, x = min F m := ⟨_, rfl⟩
        obtain ⟨y, hy⟩ : ∃ y, y = min (F + N) m := ⟨_, rfl⟩
        have ex : (if (F : Int) < (m : Int) then (F : Int) else (m : Int)) = (x : Int) := by split <;> omega
        have ey : (if (m : Int) < (x : Int) + (N : Int) then (m : Int) else (x : Int) + (N : Int)) = (y : Int) := by split <;> omega
        have EX : Hid (_) := ex
        have EY : Hid (_) := ey
        have hxy : (x : Int) ≤ (y : Int) := by omega
        have hym : (y : Int) ≤ (m : Int) := by omega
        have hxN : (x : Int) ≤ 400 := by omega
        have hNi : (N : Int) ≤ 400 := by omega
        rw [← hx, ← hy]
        have hcl : ((d.take y).drop x).length = y - x := by rw [List.length_drop, List.length_take]; omega
        have HC1 := fun W (hW : Below w.heap.size w W) cq => l1Copy_any b x (y - x) cq ((d.take y).drop x) W hcl (by
          have h := (rd_takeS (hr.below hW) y).drop x
          rw [Nat.zero_add] at h; exact h) (by omega)
        have HC0 := fun (hmx : m = x) W cq => l1Copy_any b 0 (y - x) cq ((d.take y).drop x) W hcl (by
          rw [List.length_eq_zero_iff.1 (show ((d.take y).drop x).length = 0 by omega)]; exact .inl rfl) (by omega)
        have H1 : Hid (_) := HC1
        have H0 : Hid (_) := HC0
        clear e hx hy ex ey HC1 HC0
        go_enter Try.func14, Try.ntmps14
        go_wp2_with fail
        refine (l1In_any (F : Int) 0 400 _).mono ?_
        rintro e w1 ⟨rfl, rfl⟩
        rw [decide_eq_true hf]
        go_wp2_with fail
        refine (l1In_any (N : Int) 0 400 _).mono ?_
        rintro e w1 ⟨rfl, rfl⟩
        rw [decide_eq_true hn]
        clear hf hn
        go_wp2_with fail
        refine (l1Min_s _ _ _).mono ?_
        rintro e w1 ⟨rfl, rfl⟩
        rw [EX.out]
        go_wp2_with fail
        refine (l1Min_s _ _ _).mono ?_
        rintro e w1 ⟨rfl, rfl⟩
        rw [EY.out]
        clear EX EY
        go_wp2_with fail
        case inl =>
          refine (H0.out (by omega) _ _).mono ?_
          rintro e w1 ⟨v, rfl, ho, hb1⟩
          have hbl : Below (w.heap.size + 1) (w.alloc (.cells #[.int .i64 0, .slice none 0 0] 26)) w1 := hb1.mono (by simp)
          have hbw := hb0.trans (hbl.mono (by omega))
          have ho2 : Own w1 (w.heap.size + 1) v ((d.take y).drop x) := row_low ho (by simp)
          obtain ⟨a0, a1, z0, z1⟩ := res_block rfl hbl
          obtain ⟨a, cp, hv, -, -⟩ := ho2.form
          obtain ⟨K, hK⟩ : ∃ K, ((d.take y).drop x).length = K := ⟨_, rfl⟩
          rw [hK] at hv
          subst hv
          obtain ⟨k0, k1⟩ := res_at a0 a1 (.int .i64 0) (.slice a K cp)
          have HE : Hid (_) := BytEnd.at_ (c := 0) hbw (R := w.heap.size) (Nat.le_refl _) ho2 (.int .i64 0) (.slice a K cp)
          clear ho ho2 hb1 hcl hK H0 H1
          go_wp2
          refine bodyPost_ret (v := .agg #[.int .i64 0, .slice a K cp]) (by simp [results, Try.results14, go_sem, k0, k1]) rfl ?_
          exact HE.out
        case inr =>
          refine (H1.out _ hb0 _).mono ?_
          rintro e w1 ⟨v, rfl, ho, hb1⟩
          have hbl : Below (w.heap.size + 1) (w.alloc (.cells #[.int .i64 0, .slice none 0 0] 26)) w1 := hb1.mono (by simp)
          have hbw := hb0.trans (hbl.mono (by omega))
          have ho2 : Own w1 (w.heap.size + 1) v ((d.take y).drop x) := row_low ho (by simp)
          obtain ⟨a0, a1, z0, z1⟩ := res_block rfl hbl
          obtain ⟨a, cp, hv, -, -⟩ := ho2.form
          obtain ⟨K, hK⟩ : ∃ K, ((d.take y).drop x).length = K := ⟨_, rfl⟩
          rw [hK] at hv
          subst hv
          obtain ⟨k0, k1⟩ := res_at a0 a1 (.int .i64 0) (.slice a K cp)
          have HE : Hid (_) := BytEnd.at_ (c := 0) hbw (R := w.heap.size) (Nat.le_refl _) ho2 (.int .i64 0) (.slice a K cp)
          clear ho ho2 hb1 hcl hK H0 H1
          go_wp2
          refine bodyPost_ret (v := .agg #[.int .i64 0, .slice a K cp]) (by simp [results, Try.results14, go_sem, k0, k1]) rfl ?_
          exact HE.out
      · have e : slV d f n = (3, []) := by unfold slV; rw [if_neg (by omega), if_neg (fun h => hn h.2)]
        rw [e]
        go_enter Try.func14, Try.ntmps14
        go_wp2_with fail
        refine (l1In_any f 0 400 _).mono ?_
        rintro e w1 ⟨rfl, rfl⟩
        rw [decide_eq_true hf]
        go_wp2_with fail
        refine (l1In_any n 0 400 _).mono ?_
        rintro e w1 ⟨rfl, rfl⟩
        rw [decide_eq_false hn]
        go_wp2
        go_returns
        exact ⟨_, rfl, Own.nil _ _, by go_grown⟩
    · have e : slV d f n = (3, []) := by unfold slV; rw [if_neg (by omega), if_neg (fun h => hf h.1)]
      rw [e]
      go_enter Try.func14, Try.ntmps14
      go_wp2_with fail
      refine (l1In_any f 0 400 _).mono ?_
      rintro e w1 ⟨rfl, rfl⟩
      rw [decide_eq_false hf]
      go_wp2
      go_returns
      exact ⟨_, rfl, Own.nil _ _, by go_grown⟩

/-- SliceOf, both sides. -/
theorem bothSlice (w : World) (f : Int) (_hf : (Lit.int .i64 f).wf = true) (n : Int) (_hn : (Lit.int .i64 n).wf = true) (m : Nat) (s : List Nat) (hl : s.length = m) (_hB : IsB s) (_hm : m ≤ 1048576) : ∃ (c : Int) (l : List Nat), l.length ≤ 400 ∧
    (∀ (b : Nat) (wx : World), Below w.heap.size w wx → b < wx.heap.size → Rd wx (some ⟨b, 0, none⟩) s → Calls Try.prog 14 #[.slice (some ⟨b, 0, none⟩) m m, .int .i64 f, .int .i64 n] wx fun e w' => ∃ v, e = .returned (.agg #[.int .i64 c, v]) ∧ Own w' wx.heap.size v l ∧ Below wx.heap.size wx w') ∧
    (∀ (b : Nat) (wx : World), Below w.heap.size w wx → b < wx.heap.size → Rd wx (some ⟨b, 0, none⟩) s → Calls Try.prog 16 #[.slice (some ⟨b, 0, none⟩) m m, .int .i64 f, .int .i64 n] wx fun e w' => ∃ v, e = .returned (.agg #[.int .i64 c, v]) ∧ Own w' wx.heap.size v l ∧ Below wx.heap.size wx w') :=
  ⟨(slV s f n).1, (slV s f n).2, slV_len s f n, fun b wx _ _ hr => specSliceOf_any b m s f n wx hr hl, fun b wx _ _ hr => sliceOf_any b m s f n wx hr hl⟩
end Go.Proofs.Ytkjnhcnbbojajaa
