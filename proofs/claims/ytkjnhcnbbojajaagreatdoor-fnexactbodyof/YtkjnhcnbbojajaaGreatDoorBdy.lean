/- BodyOf, both sides. -/
import Derived.Test.YtkjnhcnbbojajaaGreatDoorMrkPToPwi
import Derived.Test.YtkjnhcnbbojajaaGreatDoorPbyToDecQ4
import Derived.Test.YtkjnhcnbbojajaaGreatDoorVwnToVwo
import Derived.Test.YtkjnhcnbbojajaaGreatDoorEncQ3ToSeo
namespace Go.Proofs.YtkjnhcnbbojajaaGreatDoor
open Go.RowKit

set_option maxHeartbeats 800000 in
set_option maxRecDepth 100000 in
theorem clone_any (b off n cap : Nat) (l : List Nat) (w : World) (hl : l.length = n) (hr : Rd w (some ⟨b, off, none⟩) l) (hn : n ≤ 1048576) :
    Calls Tryz.prog 88 #[.slice (some ⟨b, off, none⟩) n cap] w fun e w' => ∃ v, e = .returned v ∧ Own w' w.heap.size v l ∧ Below w.heap.size w w' := by
  have HC : Hid (∀ j, j < n → (w.alloc (.cells #[] 5)).cell? ((⟨b, off, none⟩ : Addr).add j) = some (.int .u8 (nth l j : Int))) := fun j hj => by
    obtain ⟨b', off', e, -, hc⟩ := (hr.below ((Below.refl _ w).alloc (Nat.le_refl _) (.cells #[] 5))).at_ (by omega)
    cases e
    rw [Go.WideShapes.add_plain]
    exact hc j (by omega)
  have hnil : ∀ (a : Addr) (n c : Nat) (w : World), (binOp BinOp.eql 22 (.slice (some a) n c) (.slice none 0 0)).run Tryz.prog w = .ok (.bool false) w := fun _ _ _ _ => by kernel_rfl
  go_enter Tryz.func88, Tryz.ntmps88
  go_wp2_with (at_builtin; refine wpList_app rfl _ _ rfl w.heap.size _ [] rfl (Own.lit w w.heap.size (Nat.le_refl _) #[] [] rfl (Nat.zero_le _)) ⟨b, off, none⟩ n cap l rfl hl HC.out (by simp; omega) (by simp) ?_; intro v' w1 hown' hb')
  have hb : Below w.heap.size w w1 := ((Below.refl _ _).alloc (Nat.le_refl _) _).trans hb'
  obtain ⟨a, cp, hv, -, -⟩ := hown'.form
  subst hv
  go_wp2
  go_ret
  exact ⟨_, rfl, hown', hb⟩

/-- What BodyOf answers. -/
def bdV (d : List Nat) (k : Int) : Int × List Nat := if (pwV d k).1 = 0 then (0, cutN d (ppV d k).2.1.1.toNat (ppV d k).2.1.2.toNat) else ((pwV d k).1, [])
theorem bdV_len (d : List Nat) (k : Int) : (bdV d k).2.length ≤ 400 := by
  unfold bdV
  split
  · rename_i h
    obtain ⟨h4, f, t, h1, h2, h3⟩ := ppV_in h
    unfold cutN
    rw [List.length_drop, List.length_take]; omega
  · simp

set_option maxHeartbeats 3200000 in
set_option maxRecDepth 100000 in
theorem bodyOf_any (b m : Nat) (d : List Nat) (k : Int) (w : World) (hr : Rd w (some ⟨b, 0, none⟩) d) (hT : TabC w) (hB : IsB d) (hl : d.length = m) :
    Calls Tryz.prog 33 #[.slice (some ⟨b, 0, none⟩) m m, .int .i64 k] w (BytEnd (bdV d k) w) := by
  have hb0 : Below w.heap.size w (w.alloc (.cells #[.int .i64 0, .slice none 0 0] 46)) := (Below.refl _ _).alloc (Nat.le_refl _) _
  have HP := partsWith_any b m d k _ (hr.below hb0) (hT.below hb0) hB hl
  have HZ : Hid ((pwV d k).1 ≠ 0 → bdV d k = ((pwV d k).1, [])) := fun h => if_neg h
  have HI : Hid ((pwV d k).1 = 0 → m ≤ 400 ∧ ∃ n f t : Nat, k = (n : Int) ∧ n < (pwV d k).2.length ∧ (nthP (pwV d k).2 n).2.1 = ((f : Int), (t : Int)) ∧ f ≤ t ∧ t ≤ m ∧ bdV d k = (0, cutN d f t)) := fun h => by
    obtain ⟨e, n, h1, h2, _⟩ := pwV_in h
    obtain ⟨h4, f, t, h5, h6, h7⟩ := ppV_in h
    have e2 : ppV d k = nthP (pwV d k).2 n := by unfold ppV; rw [if_pos h, h1, Int.toNat_natCast]
    refine ⟨by omega, n, f, t, h1, by rw [e]; exact h2, by rw [← e2]; exact h5, h6, by omega, ?_⟩
    unfold bdV
    rw [if_pos h, h5]
    simp
  generalize bdV d k = r at *
  generalize pwV d k = pw at *
  obtain ⟨c, l⟩ := pw
  obtain ⟨N, hN⟩ : ∃ N, l.length = N := ⟨_, rfl⟩
  dsimp only at HI HZ
  go_enter Tryz.func33, Tryz.ntmps33
  go_wp2_with fail
  refine HP.mono ?_
  rintro e w1 ⟨v, rfl, ho, hb1⟩
  dsimp only at ho
  obtain ⟨a, cp, hv, -, -⟩ := ho.form
  rw [hN] at hv
  subst hv
  have hbl : Below (w.heap.size + 1) (w.alloc (.cells #[.int .i64 0, .slice none 0 0] 46)) w1 := hb1.mono (by simp)
  have hbw := hb0.trans (hbl.mono (by omega))
  have hlt : w.heap.size < w1.heap.size := by have hz := hbl.size; rw [World.size_alloc] at hz; omega
  have hrd := ho.rd.2
  have hbg := fun g hg => (ho.lt g hg).1
  clear HP hb1 ho
  by_cases hc : c = 0
  · subst hc
    obtain ⟨h4, n, f, t, rfl, hnl, hp, hft, htm, rfl⟩ := HI.out rfl
    obtain ⟨g, rfl, hglt, hcell⟩ := hrd.at_ (by omega)
    have hsg : w.heap.size + 1 ≤ g := by have := hbg g rfl; simpa using this
    obtain ⟨y0, y1, y2, y3, y4, y5, y6⟩ := hcell n hnl
    rw [hp] at y3 y4
    dsimp only at y3 y4
    have hnN : (n : Int) < (N : Int) := by omega
    have hbA : Below w1.heap.size w1 (w1.alloc (.cells #[.int .i64 0, .slice (some ⟨g, 0, none⟩) N cp] 27)) := (Below.refl _ _).alloc (Nat.le_refl _) _
    have hblA := hbl.trans (hbA.mono (by omega))
    have hbwA := hb0.trans (hblA.mono (by omega))
    obtain ⟨a0, a1, z0, z1⟩ := res_block rfl hblA
    have x3 : (w1.alloc (.cells #[.int .i64 0, .slice (some ⟨g, 0, none⟩) N cp] 27)).cell? ⟨g, n * 7 + 3, none⟩ = some (.int .i64 (f : Int)) := cellB y3
    have x4 : (w1.alloc (.cells #[.int .i64 0, .slice (some ⟨g, 0, none⟩) N cp] 27)).cell? ⟨g, n * 7 + 4, none⟩ = some (.int .i64 (t : Int)) := cellB y4
    have hcl : (cutN d f t).length = t - f := by unfold cutN; rw [List.length_drop, List.length_take]; omega
    have hgW : g < (w1.alloc (.cells #[.int .i64 0, .slice (some ⟨g, 0, none⟩) N cp] 27)).heap.size := by rw [World.size_alloc]; omega
    have hsW : w.heap.size < (w1.alloc (.cells #[.int .i64 0, .slice (some ⟨g, 0, none⟩) N cp] 27)).heap.size := by rw [World.size_alloc]; omega
    have HCL : Hid (∀ W, Below w.heap.size w W → ∃ o, (if m = f then (some ⟨b, 0, none⟩ : Option Addr) else some ⟨b, f, none⟩) = some ⟨b, o, none⟩ ∧ ∀ cq, Calls Tryz.prog 88 #[.slice (some ⟨b, o, none⟩) (t - f) cq] W fun e w' => ∃ v, e = .returned v ∧ Own w' W.heap.size v (cutN d f t) ∧ Below W.heap.size W w') := fun W hW => by
      by_cases h : m = f
      · refine ⟨0, if_pos h, fun cq => clone_any b 0 (t - f) cq (cutN d f t) W hcl ?_ (by omega)⟩
        rw [List.length_eq_zero_iff.1 (show (cutN d f t).length = 0 by omega)]; exact .inl rfl
      · refine ⟨f, if_neg h, fun cq => clone_any b f (t - f) cq (cutN d f t) W hcl ?_ (by omega)⟩
        have h := (rd_takeH (hr.below hW) t).drop f
        rw [Nat.zero_add] at h; exact h
    have hi1 : (f : Int) ≤ (t : Int) := by omega
    have hi2 : (t : Int) ≤ (m : Int) := by omega
    clear hcell y0 y1 y2 y3 y4 y5 y6 hp HI HZ hbA

    go_wp2_with fail
    refine wp_region_held_drew (S := (fun w' => w'.cell? ⟨g, n * 7 + 3, none⟩ = some (.int .i64 (f : Int)) ∧ w'.cell? ⟨g, n * 7 + 4, none⟩ = some (.int .i64 (t : Int)))) (by kernel_rfl) ?hS1 (fun hHeld => ?_)
    case hS1 => exact ⟨x3, x4⟩
    refine wpAnyH_take (i := 0) (v := ?_) rfl (by kernel_rfl) (by kernel_rfl) (by kernel_rfl) (fun _ _ _ h => h) (Or.inl ⟨by rfl, ?hy2⟩) (by assumption) ?ty2
    case hy2 => (intro w hSw; (try dsimp only at hSw); go_simp; all_goals with_reducible rfl)
    simp only [Act.put, List.getElem_toArray, List.getElem_cons_zero, List.setIfInBounds_toArray, List.set_cons_zero, List.set_cons_succ]
    refine wpAnyH_take (i := 1) (v := ?_) rfl (by kernel_rfl) (by kernel_rfl) (by kernel_rfl) (fun _ _ _ h => h) (Or.inl ⟨by rfl, ?hy3⟩) (by assumption) ?ty3
    case hy3 => (intro w hSw; (try dsimp only at hSw); go_simp; all_goals with_reducible rfl)
    simp only [Act.put, List.getElem_toArray, List.getElem_cons_zero, List.getElem_cons_succ, List.setIfInBounds_toArray, List.set_cons_zero, List.set_cons_succ]
    refine wpAnyH_take (i := 2) (v := ?_) rfl (by kernel_rfl) (by kernel_rfl) (by kernel_rfl) (fun _ _ _ h => h) (Or.inl ⟨by rfl, ?hy4⟩) (by assumption) ?ty4
    case hy4 => (intro w hSw; (try dsimp only at hSw); go_simp; all_goals with_reducible rfl)
    simp only [Act.put, List.getElem_toArray, List.getElem_cons_zero, List.getElem_cons_succ, List.setIfInBounds_toArray, List.set_cons_zero, List.set_cons_succ]
    refine wpAnyH_take (i := 3) (v := ?_) rfl (by kernel_rfl) (by kernel_rfl) (by kernel_rfl) (fun _ _ _ h => h) (Or.inl ⟨by rfl, ?hy5⟩) (by assumption) ?ty5
    case hy5 => (intro w hSw; (try dsimp only at hSw); go_simp; all_goals with_reducible rfl)
    simp only [Act.put, List.getElem_toArray, List.getElem_cons_zero, List.getElem_cons_succ, List.setIfInBounds_toArray, List.set_cons_zero, List.set_cons_succ]
    refine wpAnyH_take (i := 4) (v := ?_) rfl (by kernel_rfl) (by kernel_rfl) (by kernel_rfl) (fun _ _ _ h => h) (Or.inl ⟨by rfl, ?hy6⟩) (by assumption) ?ty6
    case hy6 => (intro w hSw; (try dsimp only at hSw); go_simp; all_goals with_reducible rfl)
    simp only [Act.put, List.getElem_toArray, List.getElem_cons_zero, List.getElem_cons_succ, List.setIfInBounds_toArray, List.set_cons_zero, List.set_cons_succ]
    refine wpAnyH_take (i := 5) (v := ?_) rfl (by kernel_rfl) (by kernel_rfl) (by kernel_rfl) (fun _ _ _ h => h) (Or.inl ⟨by rfl, ?hy7⟩) (by assumption) ?ty7
    case hy7 => (intro w hSw; (try dsimp only at hSw); go_simp; all_goals with_reducible rfl)
    simp only [Act.put, List.getElem_toArray, List.getElem_cons_zero, List.getElem_cons_succ, List.setIfInBounds_toArray, List.set_cons_zero, List.set_cons_succ]
    refine wpAnyH_take (i := 6) (v := ?_) rfl (by kernel_rfl) (by kernel_rfl) (by kernel_rfl) (fun _ _ _ h => h) (Or.inl ⟨by rfl, ?hy8⟩) (by assumption) ?ty8
    case hy8 => (intro w hSw; (try dsimp only at hSw); go_simp; all_goals with_reducible rfl)
    simp only [Act.put, List.getElem_toArray, List.getElem_cons_zero, List.getElem_cons_succ, List.setIfInBounds_toArray, List.set_cons_zero, List.set_cons_succ]
    refine wpAnyH_take (i := 7) (v := ?_) rfl (by kernel_rfl) (by kernel_rfl) (by kernel_rfl) (fun _ _ _ h => h) (Or.inl ⟨by rfl, ?hy9⟩) (by assumption) ?ty9
    case hy9 => (intro w hSw; (try dsimp only at hSw); go_simp; all_goals with_reducible rfl)
    simp only [Act.put, List.getElem_toArray, List.getElem_cons_zero, List.getElem_cons_succ, List.setIfInBounds_toArray, List.set_cons_zero, List.set_cons_succ]
    refine wpAnyH_take (i := 8) (v := ?_) rfl (by kernel_rfl) (by kernel_rfl) (by kernel_rfl) (fun _ _ _ h => h) (Or.inl ⟨by rfl, ?hy10⟩) (by assumption) ?ty10
    case hy10 => (intro w hSw; (try dsimp only at hSw); go_simp; all_goals with_reducible rfl)
    simp only [Act.put, List.getElem_toArray, List.getElem_cons_zero, List.getElem_cons_succ, List.setIfInBounds_toArray, List.set_cons_zero, List.set_cons_succ]
    refine wpAnyH_take (i := 9) (v := (.slice (if m = f then (some ⟨b, 0, none⟩ : Option Addr) else some ⟨b, f, none⟩) (t - f) (m - f))) rfl (by kernel_rfl) (by kernel_rfl) (by kernel_rfl) (fun _ _ _ h => h) (Or.inl ⟨by rfl, ?hy11⟩) (by assumption) ?ty11
    case hy11 => (intro w hSw; (try dsimp only at hSw); go_simp; (first | (simp; done) | (all_goals with_reducible rfl)))
    simp only [Act.put, List.getElem_toArray, List.getElem_cons_zero, List.getElem_cons_succ, List.setIfInBounds_toArray, List.set_cons_zero, List.set_cons_succ]
    obtain ⟨o, ho, HC⟩ := HCL.out _ (hbwA.drew)
    rw [ho]
    refine wpAnyH_ready (rs := [10]) (by kernel_rfl) (by simp) ?_
    refine AllReadyH.cons rfl (fun K hK => ?_) AllReadyH.nil
    go_simp
    refine (HC _).mono ?_
    rintro e w3 ⟨v3, rfl, ho3, hb3⟩
    obtain ⟨K3, hK3⟩ : ∃ K3, (cutN d f t).length = K3 := ⟨_, rfl⟩
    obtain ⟨a3, c3, hv3, -, -⟩ := ho3.form
    rw [hK3] at hv3
    subst hv3
    have hbl3 := hblA.drew.trans (hb3.mono (by show _ ≤ (w1.alloc _).heap.size; rw [World.size_alloc]; omega))
    have hbw3 := hb0.trans (hbl3.mono (by omega))
    obtain ⟨r0, r1, s0, s1⟩ := res_block rfl hbl3
    have u3 : w3.cell? ⟨g, n * 7 + 3, none⟩ = some (.int .i64 (f : Int)) := (hb3.cell (p := ⟨g, n * 7 + 3, none⟩) hgW).trans x3
    have u4 : w3.cell? ⟨g, n * 7 + 4, none⟩ = some (.int .i64 (t : Int)) := (hb3.cell (p := ⟨g, n * 7 + 4, none⟩) hgW).trans x4
    have hne : ¬ w.heap.size = g := by omega
    have ho4 : Own w3 (w.heap.size + 1) (.slice a3 K3 c3) (cutN d f t) := row_low ho3 (by show _ ≤ (w1.alloc _).heap.size; rw [World.size_alloc]; omega)
    obtain ⟨k0, k1⟩ := res_at r0 r1 (.int .i64 0) (.slice a3 K3 c3)
    have HE : Hid (_) := BytEnd.at_ (c := 0) hbw3 (R := w.heap.size) (Nat.le_refl _) ho4 (.int .i64 0) (.slice a3 K3 c3)
    refine hK.out _ _ ⟨u3, u4⟩ (fun hHeld => ?_)
    clear hK K HC HCL
    refine wpAnyH_take (i := 11) (v := ?_) rfl (by kernel_rfl) (by kernel_rfl) (by kernel_rfl) (fun _ _ _ h => h) (Or.inl ⟨by rfl, ?hy12⟩) (by assumption) ?ty12
    case hy12 => (intro w hSw; (try dsimp only at hSw); go_simp; all_goals with_reducible rfl)
    simp only [Act.put, List.getElem_toArray, List.getElem_cons_zero, List.getElem_cons_succ, List.setIfInBounds_toArray, List.set_cons_zero, List.set_cons_succ]
    refine wpAnyH_ready (rs := [12]) (by kernel_rfl) (by simp) ?_
    refine AllReadyH.cons rfl (fun K hK => ?_) AllReadyH.nil
    go_simp
    refine hK.out _ _ ⟨by simp [go_sem, u3], by simp [go_sem, u4]⟩ (fun hHeld => ?_)
    clear hK K
    refine wpAnyH_done (by kernel_rfl) ?_ _
    clear hHeld ho3 ho4 hb3
    go_wp2
    refine bodyPost_ret (v := .agg #[.int .i64 0, .slice a3 K3 c3]) (by simp [results, Tryz.results33, go_sem, k0, k1]) rfl ?_
    exact HE.out
  · have hM : r = (c, []) := HZ.out hc
    subst hM
    have hc' : (c != 0) = true := by simpa using hc
    obtain ⟨a0, a1, z0, z1⟩ := res_block rfl hbl
    obtain ⟨k0', k1'⟩ := res_at a0 a1 (.int .i64 c) (.slice none 0 0)
    have HK : Hid (∀ ob : Obj, (((w1.setCell ⟨w.heap.size, 0, none⟩ (.int .i64 c)).setCell ⟨w.heap.size, 1, none⟩ (.slice none 0 0)).alloc ob).cell? ⟨w.heap.size, 0, none⟩ = some (.int .i64 c) ∧ (((w1.setCell ⟨w.heap.size, 0, none⟩ (.int .i64 c)).setCell ⟨w.heap.size, 1, none⟩ (.slice none 0 0)).alloc ob).cell? ⟨w.heap.size, 1, none⟩ = some (.slice none 0 0)) := fun ob => ⟨cellB k0', cellB k1'⟩
    obtain ⟨k0, k1⟩ := HK.out (.cells #[.int .i64 c, .slice a N cp] 27)
    have HE : Hid (∀ ob : Obj, BytEnd (c, []) w (.returned (.agg #[.int .i64 c, .slice none 0 0])) (((w1.setCell ⟨w.heap.size, 0, none⟩ (.int .i64 c)).setCell ⟨w.heap.size, 1, none⟩ (.slice none 0 0)).alloc ob)) := fun ob =>
      ⟨_, rfl, Own.nil _ _, ((hbw.setCell (p := ⟨w.heap.size, 0, none⟩) (Nat.le_refl _) _).setCell (p := ⟨w.heap.size, 1, none⟩) (Nat.le_refl _) _).alloc (by simp; omega) _⟩
    clear HI HZ HK k0' k1'
    go_wp2
    refine bodyPost_ret (v := .agg #[.int .i64 c, .slice none 0 0]) (by simp [results, Tryz.results33, go_sem, k0, k1]) rfl ?_
    exact HE.out _

set_option maxHeartbeats 1600000 in
set_option maxRecDepth 100000 in
theorem specBodyOf_any (b m : Nat) (d : List Nat) (k : Int) (w : World) (hr : Rd w (some ⟨b, 0, none⟩) d) (hb : b < w.heap.size) (hB : IsB d) (hl : d.length = m) :
    Calls Tryz.prog 32 #[.slice (some ⟨b, 0, none⟩) m m, .int .i64 k] w (BytEnd (bdV d k) w) := by
  have hb0 : Below w.heap.size w (w.alloc (.cells #[.int .i64 0, .slice none 0 0] 46)) := (Below.refl _ _).alloc (Nat.le_refl _) _
  by_cases h4 : 400 < m
  · have h4' : (400 : Int) < (m : Int) := by omega
    have HM : Hid (bdV d k = (2, [])) := by
      have e : psV d = (2, []) := if_pos (by omega)
      have e2 : pwV d k = (2, []) := by unfold pwV; rw [e, if_neg (fun h => by cases h.1)]
      show _ = _
      unfold bdV
      rw [e2, if_neg (by decide)]
    go_enter Tryz.func32, Tryz.ntmps32
    go_wp2
    go_returns
    rw [HM.out]
    exact ⟨_, rfl, Own.nil _ _, by go_grown⟩
  · have h4' : ¬ (400 : Int) < (m : Int) := by omega
    have HA := l5Parse_any b m d _ (hr.below hb0) (Nat.lt_of_lt_of_le hb hb0.size) hB hl (by omega)
    have hps : psV d = (0, adV d 2 0 d.length (-1) 0 []) := if_neg (by omega)
    have h8 := parts_le d
    have HOK := parts_ok d (by omega)
    have HV3 : Hid ((k < 0 ∨ ((adV d 2 0 d.length (-1) 0 []).length : Int) ≤ k) → bdV d k = (3, [])) := fun h => by
      have e2 : pwV d k = (3, []) := by unfold pwV; rw [hps, if_pos ⟨rfl, h⟩]
      unfold bdV
      rw [e2, if_neg (by decide)]
    have HV0 : Hid (∀ n : Nat, k = (n : Int) → n < (adV d 2 0 d.length (-1) 0 []).length → ∀ f t : Nat, (nthP (adV d 2 0 d.length (-1) 0 []) n).2.1 = ((f : Int), (t : Int)) → bdV d k = (0, cutN d f t)) := fun n hk hn f t hp => by
      have e2 : pwV d k = psV d := by unfold pwV; rw [hps, if_neg (fun h => by
        obtain ⟨_, h' | h'⟩ := h
        · omega
        · dsimp only at h'; omega)]
      have e3 : ppV d k = nthP (adV d 2 0 d.length (-1) 0 []) n := by unfold ppV; rw [e2, hps, if_pos rfl, hk, Int.toNat_natCast]
      unfold bdV
      rw [e3, hp, e2, hps, if_pos rfl]
      simp
    generalize adV d 2 0 d.length (-1) 0 [] = l at *
    generalize bdV d k = r at *
    obtain ⟨N, hN⟩ : ∃ N, l.length = N := ⟨_, rfl⟩
    clear hps
    go_enter Tryz.func32, Tryz.ntmps32
    go_wp2_with fail
    refine HA.mono ?_
    rintro e w1 ⟨v, rfl, ho, hb1⟩
    obtain ⟨a, cp, hv, -, -⟩ := ho.form
    rw [hN] at hv
    subst hv
    have hbl : Below (w.heap.size + 1) (w.alloc (.cells #[.int .i64 0, .slice none 0 0] 46)) w1 := hb1.mono (by simp)
    have hbw := hb0.trans (hbl.mono (by omega))
    have hrd := ho.rd.2
    have hbg := fun g hg => (ho.lt g hg).1
    obtain ⟨a0, a1, z0, z1⟩ := res_block rfl hbl
    clear HA hb1 ho
    go_wp2_with fail
    refine (l1In_any k 0 _ _).mono ?_
    rintro e w2 ⟨rfl, rfl⟩
    by_cases hk : k < 0 ∨ (N : Int) ≤ k
    · have hd : decide (0 ≤ k ∧ k ≤ (N : Int) - 1) = false := by simp; omega
      have HM : Hid (r = (3, [])) := HV3.out (by rw [hN]; exact hk)
      obtain ⟨k0, k1⟩ := res_at a0 a1 (.int .i64 3) (.slice none 0 0)
      have HE : Hid (_) := BytEnd.at_ (c := 3) (l := []) hbw (R := w.heap.size) (Nat.le_refl _) (Own.nil _ _) (.int .i64 3) (.slice none 0 0)
      rw [hd]
      clear HV3 HV0 hd hk
      go_wp2
      refine bodyPost_ret (v := .agg #[.int .i64 3, .slice none 0 0]) (by simp [results, Tryz.results32, go_sem, k0, k1]) rfl ?_
      rw [HM.out]
      exact HE.out
    · obtain ⟨n, hkn⟩ : ∃ n : Nat, k = (n : Int) := ⟨k.toNat, by omega⟩
      subst hkn
      have hnl : n < N := by omega
      have hd : decide (0 ≤ (n : Int) ∧ (n : Int) ≤ (N : Int) - 1) = true := by simp; omega
      obtain ⟨f, t, hp, hft, htm⟩ := (HOK n (by omega)).1
      have HM : Hid (r = (0, cutN d f t)) := HV0.out n rfl (by omega) f t hp
      obtain ⟨g, rfl, hglt, hcell⟩ := hrd.at_ (by omega)
      have hsg : w.heap.size + 1 ≤ g := by have := hbg g rfl; simpa using this
      obtain ⟨-, -, -, x3, x4, -, -⟩ := hcell n (by omega)
      rw [hp] at x3 x4
      dsimp only at x3 x4
      have hnN : (n : Int) < (N : Int) := by omega
      have hcl : (cutN d f t).length = t - f := by unfold cutN; rw [List.length_drop, List.length_take]; omega
      have hi1 : (f : Int) ≤ (t : Int) := by omega
      have hi2 : (t : Int) ≤ (m : Int) := by omega
      rw [hd]
      clear HV3 HV0 hd hk hcell HOK hp

      have HCL : Hid (∀ W, Below w.heap.size w W → ∃ o, (if m = f then (some ⟨b, 0, none⟩ : Option Addr) else some ⟨b, f, none⟩) = some ⟨b, o, none⟩ ∧ ∀ cq, Calls Tryz.prog 87 #[.slice (some ⟨b, o, none⟩) (t - f) cq] W fun e w' => ∃ v, e = .returned v ∧ Own w' W.heap.size v (cutN d f t) ∧ Below W.heap.size W w') := fun W hW => by
        by_cases h : m = f
        · refine ⟨0, if_pos h, fun cq => l1Copy_any b 0 (t - f) cq (cutN d f t) W hcl ?_ (by omega)⟩
          rw [List.length_eq_zero_iff.1 (show (cutN d f t).length = 0 by omega)]; exact .inl rfl
        · refine ⟨f, if_neg h, fun cq => l1Copy_any b f (t - f) cq (cutN d f t) W hcl ?_ (by omega)⟩
          have h := (rd_takeH (hr.below hW) t).drop f
          rw [Nat.zero_add] at h; exact h
      go_wp2_with fail
      refine wp_region_held_drew (S := (fun w' => w'.cell? ⟨g, n * 7 + 3, none⟩ = some (.int .i64 (f : Int)) ∧ w'.cell? ⟨g, n * 7 + 4, none⟩ = some (.int .i64 (t : Int)))) (by kernel_rfl) ?hS13 (fun hHeld => ?_)
      case hS13 => exact ⟨x3, x4⟩
      refine wpAnyH_take (i := 0) (v := ?_) rfl (by kernel_rfl) (by kernel_rfl) (by kernel_rfl) (fun _ _ _ h => h) (Or.inl ⟨by rfl, ?hy14⟩) (by assumption) ?ty14
      case hy14 => (intro w hSw; (try dsimp only at hSw); go_simp; all_goals with_reducible rfl)
      simp only [Act.put, List.getElem_toArray, List.getElem_cons_zero, List.setIfInBounds_toArray, List.set_cons_zero, List.set_cons_succ]
      refine wpAnyH_take (i := 1) (v := ?_) rfl (by kernel_rfl) (by kernel_rfl) (by kernel_rfl) (fun _ _ _ h => h) (Or.inl ⟨by rfl, ?hy15⟩) (by assumption) ?ty15
      case hy15 => (intro w hSw; (try dsimp only at hSw); go_simp; all_goals with_reducible rfl)
      simp only [Act.put, List.getElem_toArray, List.getElem_cons_zero, List.getElem_cons_succ, List.setIfInBounds_toArray, List.set_cons_zero, List.set_cons_succ]
      refine wpAnyH_take (i := 2) (v := ?_) rfl (by kernel_rfl) (by kernel_rfl) (by kernel_rfl) (fun _ _ _ h => h) (Or.inl ⟨by rfl, ?hy16⟩) (by assumption) ?ty16
      case hy16 => (intro w hSw; (try dsimp only at hSw); go_simp; all_goals with_reducible rfl)
      simp only [Act.put, List.getElem_toArray, List.getElem_cons_zero, List.getElem_cons_succ, List.setIfInBounds_toArray, List.set_cons_zero, List.set_cons_succ]
      refine wpAnyH_take (i := 3) (v := ?_) rfl (by kernel_rfl) (by kernel_rfl) (by kernel_rfl) (fun _ _ _ h => h) (Or.inl ⟨by rfl, ?hy17⟩) (by assumption) ?ty17
      case hy17 => (intro w hSw; (try dsimp only at hSw); go_simp; all_goals with_reducible rfl)
      simp only [Act.put, List.getElem_toArray, List.getElem_cons_zero, List.getElem_cons_succ, List.setIfInBounds_toArray, List.set_cons_zero, List.set_cons_succ]
      refine wpAnyH_take (i := 4) (v := ?_) rfl (by kernel_rfl) (by kernel_rfl) (by kernel_rfl) (fun _ _ _ h => h) (Or.inl ⟨by rfl, ?hy18⟩) (by assumption) ?ty18
      case hy18 => (intro w hSw; (try dsimp only at hSw); go_simp; all_goals with_reducible rfl)
      simp only [Act.put, List.getElem_toArray, List.getElem_cons_zero, List.getElem_cons_succ, List.setIfInBounds_toArray, List.set_cons_zero, List.set_cons_succ]
      refine wpAnyH_take (i := 5) (v := ?_) rfl (by kernel_rfl) (by kernel_rfl) (by kernel_rfl) (fun _ _ _ h => h) (Or.inl ⟨by rfl, ?hy19⟩) (by assumption) ?ty19
      case hy19 => (intro w hSw; (try dsimp only at hSw); go_simp; all_goals with_reducible rfl)
      simp only [Act.put, List.getElem_toArray, List.getElem_cons_zero, List.getElem_cons_succ, List.setIfInBounds_toArray, List.set_cons_zero, List.set_cons_succ]
      refine wpAnyH_take (i := 6) (v := ?_) rfl (by kernel_rfl) (by kernel_rfl) (by kernel_rfl) (fun _ _ _ h => h) (Or.inl ⟨by rfl, ?hy20⟩) (by assumption) ?ty20
      case hy20 => (intro w hSw; (try dsimp only at hSw); go_simp; all_goals with_reducible rfl)
      simp only [Act.put, List.getElem_toArray, List.getElem_cons_zero, List.getElem_cons_succ, List.setIfInBounds_toArray, List.set_cons_zero, List.set_cons_succ]
      refine wpAnyH_take (i := 7) (v := ?_) rfl (by kernel_rfl) (by kernel_rfl) (by kernel_rfl) (fun _ _ _ h => h) (Or.inl ⟨by rfl, ?hy21⟩) (by assumption) ?ty21
      case hy21 => (intro w hSw; (try dsimp only at hSw); go_simp; all_goals with_reducible rfl)
      simp only [Act.put, List.getElem_toArray, List.getElem_cons_zero, List.getElem_cons_succ, List.setIfInBounds_toArray, List.set_cons_zero, List.set_cons_succ]
      refine wpAnyH_take (i := 8) (v := ?_) rfl (by kernel_rfl) (by kernel_rfl) (by kernel_rfl) (fun _ _ _ h => h) (Or.inl ⟨by rfl, ?hy22⟩) (by assumption) ?ty22
      case hy22 => (intro w hSw; (try dsimp only at hSw); go_simp; all_goals with_reducible rfl)
      simp only [Act.put, List.getElem_toArray, List.getElem_cons_zero, List.getElem_cons_succ, List.setIfInBounds_toArray, List.set_cons_zero, List.set_cons_succ]
      refine wpAnyH_take (i := 9) (v := ?_) rfl (by kernel_rfl) (by kernel_rfl) (by kernel_rfl) (fun _ _ _ h => h) (Or.inl ⟨by rfl, ?hy23⟩) (by assumption) ?ty23
      case hy23 => (intro w hSw; (try dsimp only at hSw); go_simp; all_goals with_reducible rfl)
      simp only [Act.put, List.getElem_toArray, List.getElem_cons_zero, List.getElem_cons_succ, List.setIfInBounds_toArray, List.set_cons_zero, List.set_cons_succ]
      refine wpAnyH_take (i := 10) (v := ?_) rfl (by kernel_rfl) (by kernel_rfl) (by kernel_rfl) (fun _ _ _ h => h) (Or.inl ⟨by rfl, ?hy24⟩) (by assumption) ?ty24
      case hy24 => (intro w hSw; (try dsimp only at hSw); go_simp; all_goals with_reducible rfl)
      simp only [Act.put, List.getElem_toArray, List.getElem_cons_zero, List.getElem_cons_succ, List.setIfInBounds_toArray, List.set_cons_zero, List.set_cons_succ]
      refine wpAnyH_take (i := 11) (v := (.slice (if m = f then (some ⟨b, 0, none⟩ : Option Addr) else some ⟨b, f, none⟩) (t - f) (m - f))) rfl (by kernel_rfl) (by kernel_rfl) (by kernel_rfl) (fun _ _ _ h => h) (Or.inl ⟨by rfl, ?hy25⟩) (by assumption) ?ty25
      case hy25 => (intro w hSw; (try dsimp only at hSw); go_simp; (first | (simp; done) | (all_goals with_reducible rfl)))
      simp only [Act.put, List.getElem_toArray, List.getElem_cons_zero, List.getElem_cons_succ, List.setIfInBounds_toArray, List.set_cons_zero, List.set_cons_succ]
      obtain ⟨o, ho, HC⟩ := HCL.out _ (hbw.drew)
      rw [ho]
      refine wpAnyH_ready (rs := [12]) (by kernel_rfl) (by simp) ?_
      refine AllReadyH.cons rfl (fun K hK => ?_) AllReadyH.nil
      go_simp
      refine (HC _).mono ?_
      rintro e w3 ⟨v3, rfl, ho3, hb3⟩
      obtain ⟨K3, hK3⟩ : ∃ K3, (cutN d f t).length = K3 := ⟨_, rfl⟩
      obtain ⟨a3, c3, hv3, -, -⟩ := ho3.form
      rw [hK3] at hv3
      subst hv3
      have hz1 : w.heap.size + 1 ≤ w1.heap.size := by have hz := hbl.size; rw [World.size_alloc] at hz; exact hz
      have hbl3 := hbl.drew.trans (hb3.mono hz1)
      have hbw3 := hb0.trans (hbl3.mono (by omega))
      obtain ⟨r0, r1, s0, s1⟩ := res_block rfl hbl3
      have u3 : w3.cell? ⟨g, n * 7 + 3, none⟩ = some (.int .i64 (f : Int)) := (hb3.cell (p := ⟨g, n * 7 + 3, none⟩) hglt).trans x3
      have u4 : w3.cell? ⟨g, n * 7 + 4, none⟩ = some (.int .i64 (t : Int)) := (hb3.cell (p := ⟨g, n * 7 + 4, none⟩) hglt).trans x4
      have hne : ¬ w.heap.size = g := by omega
      have ho4 : Own w3 (w.heap.size + 1) (.slice a3 K3 c3) (cutN d f t) := row_low ho3 hz1
      obtain ⟨k0, k1⟩ := res_at r0 r1 (.int .i64 0) (.slice a3 K3 c3)
      have HE : Hid (_) := BytEnd.at_ (c := 0) hbw3 (R := w.heap.size) (Nat.le_refl _) ho4 (.int .i64 0) (.slice a3 K3 c3)
      refine hK.out _ _ ⟨u3, u4⟩ (fun hHeld => ?_)
      clear hK K HC HCL
      refine wpAnyH_take (i := 13) (v := ?_) rfl (by kernel_rfl) (by kernel_rfl) (by kernel_rfl) (fun _ _ _ h => h) (Or.inl ⟨by rfl, ?hy26⟩) (by assumption) ?ty26
      case hy26 => (intro w hSw; (try dsimp only at hSw); go_simp; all_goals with_reducible rfl)
      simp only [Act.put, List.getElem_toArray, List.getElem_cons_zero, List.getElem_cons_succ, List.setIfInBounds_toArray, List.set_cons_zero, List.set_cons_succ]
      refine wpAnyH_ready (rs := [14]) (by kernel_rfl) (by simp) ?_
      refine AllReadyH.cons rfl (fun K hK => ?_) AllReadyH.nil
      go_simp
      refine hK.out _ _ ⟨by simp [go_sem, u3], by simp [go_sem, u4]⟩ (fun hHeld => ?_)
      clear hK K
      refine wpAnyH_done (by kernel_rfl) ?_ _
      clear hHeld ho3 ho4 hb3
      go_wp2
      refine bodyPost_ret (v := .agg #[.int .i64 0, .slice a3 K3 c3]) (by simp [results, Tryz.results32, go_sem, k0, k1]) rfl ?_
      rw [HM.out]
      exact HE.out

/-- BodyOf, both sides. -/
theorem bothBody (w : World) (hT : TabC w) (k : Int) (_hk : (Lit.int .i64 k).wf = true) (m : Nat) (s : List Nat) (hl : s.length = m) (hB : IsB s) (_hm : m ≤ 1048576) : ∃ (c : Int) (l : List Nat), l.length ≤ 400 ∧
    (∀ (b : Nat) (wx : World), Below w.heap.size w wx → b < wx.heap.size → Rd wx (some ⟨b, 0, none⟩) s → Calls Tryz.prog 32 #[.slice (some ⟨b, 0, none⟩) m m, .int .i64 k] wx fun e w' => ∃ v, e = .returned (.agg #[.int .i64 c, v]) ∧ Own w' wx.heap.size v l ∧ Below wx.heap.size wx w') ∧
    (∀ (b : Nat) (wx : World), Below w.heap.size w wx → b < wx.heap.size → Rd wx (some ⟨b, 0, none⟩) s → Calls Tryz.prog 33 #[.slice (some ⟨b, 0, none⟩) m m, .int .i64 k] wx fun e w' => ∃ v, e = .returned (.agg #[.int .i64 c, v]) ∧ Own w' wx.heap.size v l ∧ Below wx.heap.size wx w') :=
  ⟨(bdV s k).1, (bdV s k).2, bdV_len s k, fun b wx _ hlt hr => specBodyOf_any b m s k wx hr hlt hB hl, fun b wx hb _ hr => bodyOf_any b m s k wx hr (hT.below hb) hB hl⟩
end Go.Proofs.YtkjnhcnbbojajaaGreatDoor
