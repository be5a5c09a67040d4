/- Whether two messages, two mailboxes, two stores are the same: the model's side; no conditions beyond those that each fact names. -/
import Derived.Test.YtnnanhjpnilndaaSma
namespace Go.Proofs.Ytnnanhjpnilndaa
open Go.RowKit

set_option maxHeartbeats 3200000 in
set_option maxRecDepth 100000 in
theorem l7SameMessage_any (a b : Msg) (s s' : SlQ) (g o h k : Nat) {lo lo' : Nat} (w : World) (hs : IsSl lo w s a.b) (hs' : IsSl lo' w s' b.b)
    (c0 : w.cell? ⟨g, o, none⟩ = some (.int .i64 a.u)) (c1 : w.cell? ⟨g, o + 1, none⟩ = some (.int .i64 a.f)) (c2 : w.cell? ⟨g, o + 2, none⟩ = some (.int .i64 a.d)) (c3 : w.cell? ⟨g, o + 3, none⟩ = some (slW s))
    (d0 : w.cell? ⟨h, k, none⟩ = some (.int .i64 b.u)) (d1 : w.cell? ⟨h, k + 1, none⟩ = some (.int .i64 b.f)) (d2 : w.cell? ⟨h, k + 2, none⟩ = some (.int .i64 b.d)) (d3 : w.cell? ⟨h, k + 3, none⟩ = some (slW s')) :
    Calls Try.prog 68 #[.pointer (some ⟨g, o, none⟩), .pointer (some ⟨h, k, none⟩)] w fun e w' => e = .returned (.bool (smM a b)) ∧ Below w.heap.size w w' := by
  have HV : Hid (smM a b = (decide (a.u = b.u) && (decide (a.f = b.f) && (decide (a.d = b.d) && decide (str a.b = str b.b))))) := rfl
  generalize smM a b = r at *
  obtain ⟨au, af, ad, ab⟩ := a
  obtain ⟨bu, bf, bd, bb⟩ := b
  dsimp only at *
  go_enter Try.func68, Try.ntmps68
  by_cases h1 : au = bu
  · by_cases h2 : af = bf
    · by_cases h3 : ad = bd
      · by_cases h4 : str ab = str bb
        · have HM : Hid (r = true) := HV.out.trans (by simp [h1, h2, h3, h4])
          have hst : (str ab).toList = (str bb).toList := by rw [h4]
          clear HV
          go_wp2_with fail
          refine wp_region_held_drew (S := fun w' => ((w'.cell? ⟨g, o, none⟩ = some (.int .i64 au) ∧ w'.cell? ⟨g, o + 1, none⟩ = some (.int .i64 af) ∧ w'.cell? ⟨g, o + 2, none⟩ = some (.int .i64 ad) ∧ w'.cell? ⟨g, o + 3, none⟩ = some (slW s)) ∧ (w'.cell? ⟨h, k, none⟩ = some (.int .i64 bu) ∧ w'.cell? ⟨h, k + 1, none⟩ = some (.int .i64 bf) ∧ w'.cell? ⟨h, k + 2, none⟩ = some (.int .i64 bd) ∧ w'.cell? ⟨h, k + 3, none⟩ = some (slW s'))) ∧ IsSl lo w' s ab ∧ IsSl lo' w' s' bb) (by kernel_rfl) ?hS1 (fun hHeld => ?_)
          case hS1 => exact ⟨⟨⟨c0, c1, c2, c3⟩, ⟨d0, d1, d2, d3⟩⟩, hs, hs'⟩
          refine wpAnyH_take (i := 0) (v := ?_) rfl (by kernel_rfl) (by kernel_rfl) (by kernel_rfl) (fun _ _ _ h => h) (Or.inl ⟨by rfl, ?hy2⟩) (by assumption) ?ty2
          case hy2 => (intro w hSw; (try dsimp only at hSw); obtain ⟨⟨⟨e0, e1, e2, e3⟩, ⟨f0, f1, f2, f3⟩⟩, hA, hB⟩ := hSw;  go_simp; all_goals with_reducible rfl)
          simp only [Act.put, List.getElem_toArray, List.getElem_cons_zero, List.setIfInBounds_toArray, List.set_cons_zero, List.set_cons_succ]
          refine wpAnyH_take (i := 1) (v := ?_) rfl (by kernel_rfl) (by kernel_rfl) (by kernel_rfl) (fun _ _ _ h => h) (Or.inl ⟨by rfl, ?hy3⟩) (by assumption) ?ty3
          case hy3 => (intro w hSw; (try dsimp only at hSw); obtain ⟨⟨⟨e0, e1, e2, e3⟩, ⟨f0, f1, f2, f3⟩⟩, hA, hB⟩ := hSw;  go_simp; all_goals with_reducible rfl)
          simp only [Act.put, List.getElem_toArray, List.getElem_cons_zero, List.getElem_cons_succ, List.setIfInBounds_toArray, List.set_cons_zero, List.set_cons_succ]
          refine wpAnyH_take (i := 2) (v := ?_) rfl (by kernel_rfl) (by kernel_rfl) (by kernel_rfl) (fun _ _ _ h => h) (Or.inl ⟨by rfl, ?hy4⟩) (by assumption) ?ty4
          case hy4 => (intro w hSw; (try dsimp only at hSw); obtain ⟨⟨⟨e0, e1, e2, e3⟩, ⟨f0, f1, f2, f3⟩⟩, hA, hB⟩ := hSw;  go_simp; all_goals with_reducible rfl)
          simp only [Act.put, List.getElem_toArray, List.getElem_cons_zero, List.getElem_cons_succ, List.setIfInBounds_toArray, List.set_cons_zero, List.set_cons_succ]
          refine wpAnyH_take (i := 3) (v := ?_) rfl (by kernel_rfl) (by kernel_rfl) (by kernel_rfl) (fun _ _ _ h => h) (Or.inl ⟨by rfl, ?hy5⟩) (by assumption) ?ty5
          case hy5 => (intro w hSw; (try dsimp only at hSw); obtain ⟨⟨⟨e0, e1, e2, e3⟩, ⟨f0, f1, f2, f3⟩⟩, hA, hB⟩ := hSw;  go_simp; all_goals with_reducible rfl)
          simp only [Act.put, List.getElem_toArray, List.getElem_cons_zero, List.getElem_cons_succ, List.setIfInBounds_toArray, List.set_cons_zero, List.set_cons_succ]
          refine wpAnyH_take (i := 4) (v := ?_) rfl (by kernel_rfl) (by kernel_rfl) (by kernel_rfl) (fun _ _ _ h => h) (Or.inl ⟨by rfl, ?hy6⟩) (by assumption) ?ty6
          case hy6 => (intro w hSw; (try dsimp only at hSw); obtain ⟨⟨⟨e0, e1, e2, e3⟩, ⟨f0, f1, f2, f3⟩⟩, hA, hB⟩ := hSw;  go_simp; all_goals with_reducible rfl)
          simp only [Act.put, List.getElem_toArray, List.getElem_cons_zero, List.getElem_cons_succ, List.setIfInBounds_toArray, List.set_cons_zero, List.set_cons_succ]
          refine wpAnyH_take (i := 5) (v := ?_) rfl (by kernel_rfl) (by kernel_rfl) (by kernel_rfl) (fun _ _ _ h => h) (Or.inl ⟨by rfl, ?hy7⟩) (by assumption) ?ty7
          case hy7 => (intro w hSw; (try dsimp only at hSw); obtain ⟨⟨⟨e0, e1, e2, e3⟩, ⟨f0, f1, f2, f3⟩⟩, hA, hB⟩ := hSw;  go_simp; all_goals with_reducible rfl)
          simp only [Act.put, List.getElem_toArray, List.getElem_cons_zero, List.getElem_cons_succ, List.setIfInBounds_toArray, List.set_cons_zero, List.set_cons_succ]
          refine wpAnyH_take (i := 6) (v := ?_) rfl (by kernel_rfl) (by kernel_rfl) (by kernel_rfl) (fun _ _ _ h => h) (Or.inl ⟨by rfl, ?hy8⟩) (by assumption) ?ty8
          case hy8 => (intro w hSw; (try dsimp only at hSw); obtain ⟨⟨⟨e0, e1, e2, e3⟩, ⟨f0, f1, f2, f3⟩⟩, hA, hB⟩ := hSw;  go_simp; all_goals with_reducible rfl)
          simp only [Act.put, List.getElem_toArray, List.getElem_cons_zero, List.getElem_cons_succ, List.setIfInBounds_toArray, List.set_cons_zero, List.set_cons_succ]
          refine wpAnyH_take (i := 7) (v := ?_) rfl (by kernel_rfl) (by kernel_rfl) (by kernel_rfl) (fun _ _ _ h => h) (Or.inl ⟨by rfl, ?hy9⟩) (by assumption) ?ty9
          case hy9 => (intro w hSw; (try dsimp only at hSw); obtain ⟨⟨⟨e0, e1, e2, e3⟩, ⟨f0, f1, f2, f3⟩⟩, hA, hB⟩ := hSw;  go_simp; all_goals with_reducible rfl)
          simp only [Act.put, List.getElem_toArray, List.getElem_cons_zero, List.getElem_cons_succ, List.setIfInBounds_toArray, List.set_cons_zero, List.set_cons_succ]
          refine wpAnyH_take (i := 8) (v := .bool true) rfl (by kernel_rfl) (by kernel_rfl) (by kernel_rfl) (fun _ _ _ h => h) (Or.inl ⟨by rfl, ?hy10⟩) (by assumption) ?ty10
          case hy10 => (intro w hSw; (try dsimp only at hSw); obtain ⟨⟨⟨e0, e1, e2, e3⟩, ⟨f0, f1, f2, f3⟩⟩, hA, hB⟩ := hSw;  go_simp; first | (all_goals with_reducible rfl) | (simp; done) | (simp; omega))
          simp only [Act.put, List.getElem_toArray, List.getElem_cons_zero, List.getElem_cons_succ, List.setIfInBounds_toArray, List.set_cons_zero, List.set_cons_succ]
          refine wpAnyH_take (i := 9) (v := ?_) rfl (by kernel_rfl) (by kernel_rfl) (by kernel_rfl) (fun _ _ _ h => h) (Or.inl ⟨by rfl, ?hy11⟩) (by assumption) ?ty11
          case hy11 => (intro w hSw; (try dsimp only at hSw); obtain ⟨⟨⟨e0, e1, e2, e3⟩, ⟨f0, f1, f2, f3⟩⟩, hA, hB⟩ := hSw;  go_simp; all_goals with_reducible rfl)
          simp only [Act.put, List.getElem_toArray, List.getElem_cons_zero, List.getElem_cons_succ, List.setIfInBounds_toArray, List.set_cons_zero, List.set_cons_succ]
          refine wpAnyH_take (i := 10) (v := ?_) rfl (by kernel_rfl) (by kernel_rfl) (by kernel_rfl) (fun _ _ _ h => h) (Or.inl ⟨by rfl, ?hy12⟩) (by assumption) ?ty12
          case hy12 => (intro w hSw; (try dsimp only at hSw); obtain ⟨⟨⟨e0, e1, e2, e3⟩, ⟨f0, f1, f2, f3⟩⟩, hA, hB⟩ := hSw;  go_simp; all_goals with_reducible rfl)
          simp only [Act.put, List.getElem_toArray, List.getElem_cons_zero, List.getElem_cons_succ, List.setIfInBounds_toArray, List.set_cons_zero, List.set_cons_succ]
          refine wpAnyH_take (i := 11) (v := ?_) rfl (by kernel_rfl) (by kernel_rfl) (by kernel_rfl) (fun _ _ _ h => h) (Or.inl ⟨by rfl, ?hy13⟩) (by assumption) ?ty13
          case hy13 => (intro w hSw; (try dsimp only at hSw); obtain ⟨⟨⟨e0, e1, e2, e3⟩, ⟨f0, f1, f2, f3⟩⟩, hA, hB⟩ := hSw;  go_simp; all_goals with_reducible rfl)
          simp only [Act.put, List.getElem_toArray, List.getElem_cons_zero, List.getElem_cons_succ, List.setIfInBounds_toArray, List.set_cons_zero, List.set_cons_succ]
          refine wpAnyH_take (i := 12) (v := ?_) rfl (by kernel_rfl) (by kernel_rfl) (by kernel_rfl) (fun _ _ _ h => h) (Or.inl ⟨by rfl, ?hy14⟩) (by assumption) ?ty14
          case hy14 => (intro w hSw; (try dsimp only at hSw); obtain ⟨⟨⟨e0, e1, e2, e3⟩, ⟨f0, f1, f2, f3⟩⟩, hA, hB⟩ := hSw;  go_simp; all_goals with_reducible rfl)
          simp only [Act.put, List.getElem_toArray, List.getElem_cons_zero, List.getElem_cons_succ, List.setIfInBounds_toArray, List.set_cons_zero, List.set_cons_succ]
          refine wpAnyH_take (i := 13) (v := ?_) rfl (by kernel_rfl) (by kernel_rfl) (by kernel_rfl) (fun _ _ _ h => h) (Or.inl ⟨by rfl, ?hy15⟩) (by assumption) ?ty15
          case hy15 => (intro w hSw; (try dsimp only at hSw); obtain ⟨⟨⟨e0, e1, e2, e3⟩, ⟨f0, f1, f2, f3⟩⟩, hA, hB⟩ := hSw;  go_simp; all_goals with_reducible rfl)
          simp only [Act.put, List.getElem_toArray, List.getElem_cons_zero, List.getElem_cons_succ, List.setIfInBounds_toArray, List.set_cons_zero, List.set_cons_succ]
          refine wpAnyH_take (i := 14) (v := ?_) rfl (by kernel_rfl) (by kernel_rfl) (by kernel_rfl) (fun _ _ _ h => h) (Or.inl ⟨by rfl, ?hy16⟩) (by assumption) ?ty16
          case hy16 => (intro w hSw; (try dsimp only at hSw); obtain ⟨⟨⟨e0, e1, e2, e3⟩, ⟨f0, f1, f2, f3⟩⟩, hA, hB⟩ := hSw;  go_simp; all_goals with_reducible rfl)
          simp only [Act.put, List.getElem_toArray, List.getElem_cons_zero, List.getElem_cons_succ, List.setIfInBounds_toArray, List.set_cons_zero, List.set_cons_succ]
          refine wpAnyH_take (i := 15) (v := ?_) rfl (by kernel_rfl) (by kernel_rfl) (by kernel_rfl) (fun _ _ _ h => h) (Or.inl ⟨by rfl, ?hy17⟩) (by assumption) ?ty17
          case hy17 => (intro w hSw; (try dsimp only at hSw); obtain ⟨⟨⟨e0, e1, e2, e3⟩, ⟨f0, f1, f2, f3⟩⟩, hA, hB⟩ := hSw;  go_simp; all_goals with_reducible rfl)
          simp only [Act.put, List.getElem_toArray, List.getElem_cons_zero, List.getElem_cons_succ, List.setIfInBounds_toArray, List.set_cons_zero, List.set_cons_succ]
          refine wpAnyH_take (i := 16) (v := ?_) rfl (by kernel_rfl) (by kernel_rfl) (by kernel_rfl) (fun _ _ _ h => h) (Or.inl ⟨by rfl, ?hy18⟩) (by assumption) ?ty18
          case hy18 => (intro w hSw; (try dsimp only at hSw); obtain ⟨⟨⟨e0, e1, e2, e3⟩, ⟨f0, f1, f2, f3⟩⟩, hA, hB⟩ := hSw;  go_simp; all_goals with_reducible rfl)
          simp only [Act.put, List.getElem_toArray, List.getElem_cons_zero, List.getElem_cons_succ, List.setIfInBounds_toArray, List.set_cons_zero, List.set_cons_succ]
          refine wpAnyH_take (i := 17) (v := ?_) rfl (by kernel_rfl) (by kernel_rfl) (by kernel_rfl) (fun _ _ _ h => h) (Or.inl ⟨by rfl, ?hy19⟩) (by assumption) ?ty19
          case hy19 => (intro w hSw; (try dsimp only at hSw); obtain ⟨⟨⟨e0, e1, e2, e3⟩, ⟨f0, f1, f2, f3⟩⟩, hA, hB⟩ := hSw;  go_simp; all_goals with_reducible rfl)
          simp only [Act.put, List.getElem_toArray, List.getElem_cons_zero, List.getElem_cons_succ, List.setIfInBounds_toArray, List.set_cons_zero, List.set_cons_succ]
          refine wpAnyH_take (i := 18) (v := .bool true) rfl (by kernel_rfl) (by kernel_rfl) (by kernel_rfl) (fun _ _ _ h => h) (Or.inl ⟨by rfl, ?hy20⟩) (by assumption) ?ty20
          case hy20 => (intro w hSw; (try dsimp only at hSw); obtain ⟨⟨⟨e0, e1, e2, e3⟩, ⟨f0, f1, f2, f3⟩⟩, hA, hB⟩ := hSw;  go_simp; first | (all_goals with_reducible rfl) | (simp; done) | (simp; omega))
          simp only [Act.put, List.getElem_toArray, List.getElem_cons_zero, List.getElem_cons_succ, List.setIfInBounds_toArray, List.set_cons_zero, List.set_cons_succ]
          refine wpAnyH_take (i := 19) (v := .bool true) rfl (by kernel_rfl) (by kernel_rfl) (by kernel_rfl) (fun _ _ _ h => h) (Or.inl ⟨by rfl, ?hy21⟩) (by assumption) ?ty21
          case hy21 => (intro w hSw; (try dsimp only at hSw); obtain ⟨⟨⟨e0, e1, e2, e3⟩, ⟨f0, f1, f2, f3⟩⟩, hA, hB⟩ := hSw;  go_simp; first | (all_goals with_reducible rfl) | (simp; done) | (simp; omega))
          simp only [Act.put, List.getElem_toArray, List.getElem_cons_zero, List.getElem_cons_succ, List.setIfInBounds_toArray, List.set_cons_zero, List.set_cons_succ]
          refine wpAnyH_take (i := 20) (v := ?_) rfl (by kernel_rfl) (by kernel_rfl) (by kernel_rfl) (fun _ _ _ h => h) (Or.inl ⟨by rfl, ?hy22⟩) (by assumption) ?ty22
          case hy22 => (intro w hSw; (try dsimp only at hSw); obtain ⟨⟨⟨e0, e1, e2, e3⟩, ⟨f0, f1, f2, f3⟩⟩, hA, hB⟩ := hSw;  go_simp; all_goals with_reducible rfl)
          simp only [Act.put, List.getElem_toArray, List.getElem_cons_zero, List.getElem_cons_succ, List.setIfInBounds_toArray, List.set_cons_zero, List.set_cons_succ]
          refine wpAnyH_take (i := 21) (v := ?_) rfl (by kernel_rfl) (by kernel_rfl) (by kernel_rfl) (fun _ _ _ h => h) (Or.inl ⟨by rfl, ?hy23⟩) (by assumption) ?ty23
          case hy23 => (intro w hSw; (try dsimp only at hSw); obtain ⟨⟨⟨e0, e1, e2, e3⟩, ⟨f0, f1, f2, f3⟩⟩, hA, hB⟩ := hSw;  go_simp; all_goals with_reducible rfl)
          simp only [Act.put, List.getElem_toArray, List.getElem_cons_zero, List.getElem_cons_succ, List.setIfInBounds_toArray, List.set_cons_zero, List.set_cons_succ]
          refine wpAnyH_take (i := 22) (v := ?_) rfl (by kernel_rfl) (by kernel_rfl) (by kernel_rfl) (fun _ _ _ h => h) (Or.inl ⟨by rfl, ?hy24⟩) (by assumption) ?ty24
          case hy24 => (intro w hSw; (try dsimp only at hSw); obtain ⟨⟨⟨e0, e1, e2, e3⟩, ⟨f0, f1, f2, f3⟩⟩, hA, hB⟩ := hSw;  go_simp; all_goals with_reducible rfl)
          simp only [Act.put, List.getElem_toArray, List.getElem_cons_zero, List.getElem_cons_succ, List.setIfInBounds_toArray, List.set_cons_zero, List.set_cons_succ]
          refine wpAnyH_take (i := 23) (v := ?_) rfl (by kernel_rfl) (by kernel_rfl) (by kernel_rfl) (fun _ _ _ h => h) (Or.inl ⟨by rfl, ?hy25⟩) (by assumption) ?ty25
          case hy25 => (intro w hSw; (try dsimp only at hSw); obtain ⟨⟨⟨e0, e1, e2, e3⟩, ⟨f0, f1, f2, f3⟩⟩, hA, hB⟩ := hSw;  go_simp; all_goals with_reducible rfl)
          simp only [Act.put, List.getElem_toArray, List.getElem_cons_zero, List.getElem_cons_succ, List.setIfInBounds_toArray, List.set_cons_zero, List.set_cons_succ]
          refine wpAnyH_take (i := 24) (v := ?_) rfl (by kernel_rfl) (by kernel_rfl) (by kernel_rfl) (fun _ _ _ h => h) (Or.inl ⟨by rfl, ?hy26⟩) (by assumption) ?ty26
          case hy26 => (intro w hSw; (try dsimp only at hSw); obtain ⟨⟨⟨e0, e1, e2, e3⟩, ⟨f0, f1, f2, f3⟩⟩, hA, hB⟩ := hSw;  go_simp; all_goals with_reducible rfl)
          simp only [Act.put, List.getElem_toArray, List.getElem_cons_zero, List.getElem_cons_succ, List.setIfInBounds_toArray, List.set_cons_zero, List.set_cons_succ]
          refine wpAnyH_take (i := 25) (v := ?_) rfl (by kernel_rfl) (by kernel_rfl) (by kernel_rfl) (fun _ _ _ h => h) (Or.inl ⟨by rfl, ?hy27⟩) (by assumption) ?ty27
          case hy27 => (intro w hSw; (try dsimp only at hSw); obtain ⟨⟨⟨e0, e1, e2, e3⟩, ⟨f0, f1, f2, f3⟩⟩, hA, hB⟩ := hSw;  go_simp; all_goals with_reducible rfl)
          simp only [Act.put, List.getElem_toArray, List.getElem_cons_zero, List.getElem_cons_succ, List.setIfInBounds_toArray, List.set_cons_zero, List.set_cons_succ]
          refine wpAnyH_take (i := 26) (v := ?_) rfl (by kernel_rfl) (by kernel_rfl) (by kernel_rfl) (fun _ _ _ h => h) (Or.inl ⟨by rfl, ?hy28⟩) (by assumption) ?ty28
          case hy28 => (intro w hSw; (try dsimp only at hSw); obtain ⟨⟨⟨e0, e1, e2, e3⟩, ⟨f0, f1, f2, f3⟩⟩, hA, hB⟩ := hSw;  go_simp; all_goals with_reducible rfl)
          simp only [Act.put, List.getElem_toArray, List.getElem_cons_zero, List.getElem_cons_succ, List.setIfInBounds_toArray, List.set_cons_zero, List.set_cons_succ]
          refine wpAnyH_take (i := 27) (v := ?_) rfl (by kernel_rfl) (by kernel_rfl) (by kernel_rfl) (fun _ _ _ h => h) (Or.inl ⟨by rfl, ?hy29⟩) (by assumption) ?ty29
          case hy29 => (intro w hSw; (try dsimp only at hSw); obtain ⟨⟨⟨e0, e1, e2, e3⟩, ⟨f0, f1, f2, f3⟩⟩, hA, hB⟩ := hSw;  go_simp; all_goals with_reducible rfl)
          simp only [Act.put, List.getElem_toArray, List.getElem_cons_zero, List.getElem_cons_succ, List.setIfInBounds_toArray, List.set_cons_zero, List.set_cons_succ]
          refine wpAnyH_take (i := 28) (v := ?_) rfl (by kernel_rfl) (by kernel_rfl) (by kernel_rfl) (fun _ _ _ h => h) (Or.inl ⟨by rfl, ?hy30⟩) (by assumption) ?ty30
          case hy30 => (intro w hSw; (try dsimp only at hSw); obtain ⟨⟨⟨e0, e1, e2, e3⟩, ⟨f0, f1, f2, f3⟩⟩, hA, hB⟩ := hSw;  go_simp; all_goals with_reducible rfl)
          simp only [Act.put, List.getElem_toArray, List.getElem_cons_zero, List.getElem_cons_succ, List.setIfInBounds_toArray, List.set_cons_zero, List.set_cons_succ]
          refine wpAnyH_take (i := 29) (v := .bool true) rfl (by kernel_rfl) (by kernel_rfl) (by kernel_rfl) (fun _ _ _ h => h) (Or.inl ⟨by rfl, ?hy31⟩) (by assumption) ?ty31
          case hy31 => (intro w hSw; (try dsimp only at hSw); obtain ⟨⟨⟨e0, e1, e2, e3⟩, ⟨f0, f1, f2, f3⟩⟩, hA, hB⟩ := hSw;  go_simp; first | (all_goals with_reducible rfl) | (simp; done) | (simp; omega))
          simp only [Act.put, List.getElem_toArray, List.getElem_cons_zero, List.getElem_cons_succ, List.setIfInBounds_toArray, List.set_cons_zero, List.set_cons_succ]
          refine wpAnyH_take (i := 30) (v := .bool true) rfl (by kernel_rfl) (by kernel_rfl) (by kernel_rfl) (fun _ _ _ h => h) (Or.inl ⟨by rfl, ?hy32⟩) (by assumption) ?ty32
          case hy32 => (intro w hSw; (try dsimp only at hSw); obtain ⟨⟨⟨e0, e1, e2, e3⟩, ⟨f0, f1, f2, f3⟩⟩, hA, hB⟩ := hSw;  go_simp; first | (all_goals with_reducible rfl) | (simp; done) | (simp; omega))
          simp only [Act.put, List.getElem_toArray, List.getElem_cons_zero, List.getElem_cons_succ, List.setIfInBounds_toArray, List.set_cons_zero, List.set_cons_succ]
          refine wpAnyH_take (i := 31) (v := ?_) rfl (by kernel_rfl) (by kernel_rfl) (by kernel_rfl) (fun _ _ _ h => h) (Or.inl ⟨by rfl, ?hy33⟩) (by assumption) ?ty33
          case hy33 => (intro w hSw; (try dsimp only at hSw); obtain ⟨⟨⟨e0, e1, e2, e3⟩, ⟨f0, f1, f2, f3⟩⟩, hA, hB⟩ := hSw;  go_simp; all_goals with_reducible rfl)
          simp only [Act.put, List.getElem_toArray, List.getElem_cons_zero, List.getElem_cons_succ, List.setIfInBounds_toArray, List.set_cons_zero, List.set_cons_succ]
          refine wpAnyH_take (i := 32) (v := ?_) rfl (by kernel_rfl) (by kernel_rfl) (by kernel_rfl) (fun _ _ _ h => h) (Or.inl ⟨by rfl, ?hy34⟩) (by assumption) ?ty34
          case hy34 => (intro w hSw; (try dsimp only at hSw); obtain ⟨⟨⟨e0, e1, e2, e3⟩, ⟨f0, f1, f2, f3⟩⟩, hA, hB⟩ := hSw;  go_simp; all_goals with_reducible rfl)
          simp only [Act.put, List.getElem_toArray, List.getElem_cons_zero, List.getElem_cons_succ, List.setIfInBounds_toArray, List.set_cons_zero, List.set_cons_succ]
          refine wpAnyH_take (i := 33) (v := ?_) rfl (by kernel_rfl) (by kernel_rfl) (by kernel_rfl) (fun _ _ _ h => h) (Or.inl ⟨by rfl, ?hy35⟩) (by assumption) ?ty35
          case hy35 => (intro w hSw; (try dsimp only at hSw); obtain ⟨⟨⟨e0, e1, e2, e3⟩, ⟨f0, f1, f2, f3⟩⟩, hA, hB⟩ := hSw;  go_simp; all_goals with_reducible rfl)
          simp only [Act.put, List.getElem_toArray, List.getElem_cons_zero, List.getElem_cons_succ, List.setIfInBounds_toArray, List.set_cons_zero, List.set_cons_succ]
          refine wpAnyH_take (i := 34) (v := ?_) rfl (by kernel_rfl) (by kernel_rfl) (by kernel_rfl) (fun _ _ _ h => h) (Or.inl ⟨by rfl, ?hy36⟩) (by assumption) ?ty36
          case hy36 => (intro w hSw; (try dsimp only at hSw); obtain ⟨⟨⟨e0, e1, e2, e3⟩, ⟨f0, f1, f2, f3⟩⟩, hA, hB⟩ := hSw;  go_simp; all_goals with_reducible rfl)
          simp only [Act.put, List.getElem_toArray, List.getElem_cons_zero, List.getElem_cons_succ, List.setIfInBounds_toArray, List.set_cons_zero, List.set_cons_succ]
          refine wpAnyH_take (i := 35) (v := ?_) rfl (by kernel_rfl) (by kernel_rfl) (by kernel_rfl) (fun _ _ _ h => h) (Or.inl ⟨by rfl, ?hy37⟩) (by assumption) ?ty37
          case hy37 => (intro w hSw; (try dsimp only at hSw); obtain ⟨⟨⟨e0, e1, e2, e3⟩, ⟨f0, f1, f2, f3⟩⟩, hA, hB⟩ := hSw;  go_simp; all_goals with_reducible rfl)
          simp only [Act.put, List.getElem_toArray, List.getElem_cons_zero, List.getElem_cons_succ, List.setIfInBounds_toArray, List.set_cons_zero, List.set_cons_succ]
          refine wpAnyH_take (i := 36) (v := ?_) rfl (by kernel_rfl) (by kernel_rfl) (by kernel_rfl) (fun _ _ _ h => h) (Or.inl ⟨by rfl, ?hy38⟩) (by assumption) ?ty38
          case hy38 => (intro w hSw; (try dsimp only at hSw); obtain ⟨⟨⟨e0, e1, e2, e3⟩, ⟨f0, f1, f2, f3⟩⟩, hA, hB⟩ := hSw; have hrun := run_str (cap := s.2.2) hA.1 hA.2.2.2.2.1;  go_simp; all_goals with_reducible rfl)
          simp only [Act.put, List.getElem_toArray, List.getElem_cons_zero, List.getElem_cons_succ, List.setIfInBounds_toArray, List.set_cons_zero, List.set_cons_succ]
          refine wpAnyH_take (i := 37) (v := ?_) rfl (by kernel_rfl) (by kernel_rfl) (by kernel_rfl) (fun _ _ _ h => h) (Or.inl ⟨by rfl, ?hy39⟩) (by assumption) ?ty39
          case hy39 => (intro w hSw; (try dsimp only at hSw); obtain ⟨⟨⟨e0, e1, e2, e3⟩, ⟨f0, f1, f2, f3⟩⟩, hA, hB⟩ := hSw;  go_simp; all_goals with_reducible rfl)
          simp only [Act.put, List.getElem_toArray, List.getElem_cons_zero, List.getElem_cons_succ, List.setIfInBounds_toArray, List.set_cons_zero, List.set_cons_succ]
          refine wpAnyH_take (i := 38) (v := ?_) rfl (by kernel_rfl) (by kernel_rfl) (by kernel_rfl) (fun _ _ _ h => h) (Or.inl ⟨by rfl, ?hy40⟩) (by assumption) ?ty40
          case hy40 => (intro w hSw; (try dsimp only at hSw); obtain ⟨⟨⟨e0, e1, e2, e3⟩, ⟨f0, f1, f2, f3⟩⟩, hA, hB⟩ := hSw;  go_simp; all_goals with_reducible rfl)
          simp only [Act.put, List.getElem_toArray, List.getElem_cons_zero, List.getElem_cons_succ, List.setIfInBounds_toArray, List.set_cons_zero, List.set_cons_succ]
          refine wpAnyH_take (i := 39) (v := ?_) rfl (by kernel_rfl) (by kernel_rfl) (by kernel_rfl) (fun _ _ _ h => h) (Or.inl ⟨by rfl, ?hy41⟩) (by assumption) ?ty41
          case hy41 => (intro w hSw; (try dsimp only at hSw); obtain ⟨⟨⟨e0, e1, e2, e3⟩, ⟨f0, f1, f2, f3⟩⟩, hA, hB⟩ := hSw;  go_simp; all_goals with_reducible rfl)
          simp only [Act.put, List.getElem_toArray, List.getElem_cons_zero, List.getElem_cons_succ, List.setIfInBounds_toArray, List.set_cons_zero, List.set_cons_succ]
          refine wpAnyH_take (i := 40) (v := ?_) rfl (by kernel_rfl) (by kernel_rfl) (by kernel_rfl) (fun _ _ _ h => h) (Or.inl ⟨by rfl, ?hy42⟩) (by assumption) ?ty42
          case hy42 => (intro w hSw; (try dsimp only at hSw); obtain ⟨⟨⟨e0, e1, e2, e3⟩, ⟨f0, f1, f2, f3⟩⟩, hA, hB⟩ := hSw;  go_simp; all_goals with_reducible rfl)
          simp only [Act.put, List.getElem_toArray, List.getElem_cons_zero, List.getElem_cons_succ, List.setIfInBounds_toArray, List.set_cons_zero, List.set_cons_succ]
          refine wpAnyH_take (i := 41) (v := ?_) rfl (by kernel_rfl) (by kernel_rfl) (by kernel_rfl) (fun _ _ _ h => h) (Or.inl ⟨by rfl, ?hy43⟩) (by assumption) ?ty43
          case hy43 => (intro w hSw; (try dsimp only at hSw); obtain ⟨⟨⟨e0, e1, e2, e3⟩, ⟨f0, f1, f2, f3⟩⟩, hA, hB⟩ := hSw; have hrun := run_str (cap := s'.2.2) hB.1 hB.2.2.2.2.1;  go_simp; all_goals with_reducible rfl)
          simp only [Act.put, List.getElem_toArray, List.getElem_cons_zero, List.getElem_cons_succ, List.setIfInBounds_toArray, List.set_cons_zero, List.set_cons_succ]
          refine wpAnyH_take (i := 42) (v := .bool true) rfl (by kernel_rfl) (by kernel_rfl) (by kernel_rfl) (fun _ _ _ h => h) (Or.inl ⟨by rfl, ?hy44⟩) (by assumption) ?ty44
          case hy44 => (intro w hSw; (try dsimp only at hSw); obtain ⟨⟨⟨e0, e1, e2, e3⟩, ⟨f0, f1, f2, f3⟩⟩, hA, hB⟩ := hSw;  go_simp; first | (simp; done) | (simp [hst]; done) | (all_goals with_reducible rfl))
          simp only [Act.put, List.getElem_toArray, List.getElem_cons_zero, List.getElem_cons_succ, List.setIfInBounds_toArray, List.set_cons_zero, List.set_cons_succ]
          refine wpAnyH_take (i := 43) (v := .bool true) rfl (by kernel_rfl) (by kernel_rfl) (by kernel_rfl) (fun _ _ _ h => h) (Or.inl ⟨by rfl, ?hy45⟩) (by assumption) ?ty45
          case hy45 => (intro w hSw; (try dsimp only at hSw); obtain ⟨⟨⟨e0, e1, e2, e3⟩, ⟨f0, f1, f2, f3⟩⟩, hA, hB⟩ := hSw;  go_simp; first | (all_goals with_reducible rfl) | (simp; done) | (simp; omega))
          simp only [Act.put, List.getElem_toArray, List.getElem_cons_zero, List.getElem_cons_succ, List.setIfInBounds_toArray, List.set_cons_zero, List.set_cons_succ]
          refine wpAnyH_take (i := 44) (v := ?_) rfl (by kernel_rfl) (by kernel_rfl) (by kernel_rfl) (fun _ _ _ h => h) (Or.inl ⟨by rfl, ?hy46⟩) (by assumption) ?ty46
          case hy46 => (intro w hSw; (try dsimp only at hSw); obtain ⟨⟨⟨e0, e1, e2, e3⟩, ⟨f0, f1, f2, f3⟩⟩, hA, hB⟩ := hSw;  go_simp; all_goals with_reducible rfl)
          simp only [Act.put, List.getElem_toArray, List.getElem_cons_zero, List.getElem_cons_succ, List.setIfInBounds_toArray, List.set_cons_zero, List.set_cons_succ]
          refine wpAnyH_done (by kernel_rfl) ?_ _
          clear hHeld
          go_wp2
          go_ret
          exact ⟨by rw [HM.out]; rfl, (Below.refl _ _).drew⟩
        · have HM : Hid (r = false) := HV.out.trans (by simp [h4])
          have hst := toList_ne h4
          clear HV
          go_wp2_with fail
          refine wp_region_held_drew (S := fun w' => ((w'.cell? ⟨g, o, none⟩ = some (.int .i64 au) ∧ w'.cell? ⟨g, o + 1, none⟩ = some (.int .i64 af) ∧ w'.cell? ⟨g, o + 2, none⟩ = some (.int .i64 ad) ∧ w'.cell? ⟨g, o + 3, none⟩ = some (slW s)) ∧ (w'.cell? ⟨h, k, none⟩ = some (.int .i64 bu) ∧ w'.cell? ⟨h, k + 1, none⟩ = some (.int .i64 bf) ∧ w'.cell? ⟨h, k + 2, none⟩ = some (.int .i64 bd) ∧ w'.cell? ⟨h, k + 3, none⟩ = some (slW s'))) ∧ IsSl lo w' s ab ∧ IsSl lo' w' s' bb) (by kernel_rfl) ?hS47 (fun hHeld => ?_)
          case hS47 => exact ⟨⟨⟨c0, c1, c2, c3⟩, ⟨d0, d1, d2, d3⟩⟩, hs, hs'⟩
          refine wpAnyH_take (i := 0) (v := ?_) rfl (by kernel_rfl) (by kernel_rfl) (by kernel_rfl) (fun _ _ _ h => h) (Or.inl ⟨by rfl, ?hy48⟩) (by assumption) ?ty48
          case hy48 => (intro w hSw; (try dsimp only at hSw); obtain ⟨⟨⟨e0, e1, e2, e3⟩, ⟨f0, f1, f2, f3⟩⟩, hA, hB⟩ := hSw;  go_simp; all_goals with_reducible rfl)
          simp only [Act.put, List.getElem_toArray, List.getElem_cons_zero, List.setIfInBounds_toArray, List.set_cons_zero, List.set_cons_succ]
          refine wpAnyH_take (i := 1) (v := ?_) rfl (by kernel_rfl) (by kernel_rfl) (by kernel_rfl) (fun _ _ _ h => h) (Or.inl ⟨by rfl, ?hy49⟩) (by assumption) ?ty49
          case hy49 => (intro w hSw; (try dsimp only at hSw); obtain ⟨⟨⟨e0, e1, e2, e3⟩, ⟨f0, f1, f2, f3⟩⟩, hA, hB⟩ := hSw;  go_simp; all_goals with_reducible rfl)
          simp only [Act.put, List.getElem_toArray, List.getElem_cons_zero, List.getElem_cons_succ, List.setIfInBounds_toArray, List.set_cons_zero, List.set_cons_succ]
          refine wpAnyH_take (i := 2) (v := ?_) rfl (by kernel_rfl) (by kernel_rfl) (by kernel_rfl) (fun _ _ _ h => h) (Or.inl ⟨by rfl, ?hy50⟩) (by assumption) ?ty50
          case hy50 => (intro w hSw; (try dsimp only at hSw); obtain ⟨⟨⟨e0, e1, e2, e3⟩, ⟨f0, f1, f2, f3⟩⟩, hA, hB⟩ := hSw;  go_simp; all_goals with_reducible rfl)
          simp only [Act.put, List.getElem_toArray, List.getElem_cons_zero, List.getElem_cons_succ, List.setIfInBounds_toArray, List.set_cons_zero, List.set_cons_succ]
          refine wpAnyH_take (i := 3) (v := ?_) rfl (by kernel_rfl) (by kernel_rfl) (by kernel_rfl) (fun _ _ _ h => h) (Or.inl ⟨by rfl, ?hy51⟩) (by assumption) ?ty51
          case hy51 => (intro w hSw; (try dsimp only at hSw); obtain ⟨⟨⟨e0, e1, e2, e3⟩, ⟨f0, f1, f2, f3⟩⟩, hA, hB⟩ := hSw;  go_simp; all_goals with_reducible rfl)
          simp only [Act.put, List.getElem_toArray, List.getElem_cons_zero, List.getElem_cons_succ, List.setIfInBounds_toArray, List.set_cons_zero, List.set_cons_succ]
          refine wpAnyH_take (i := 4) (v := ?_) rfl (by kernel_rfl) (by kernel_rfl) (by kernel_rfl) (fun _ _ _ h => h) (Or.inl ⟨by rfl, ?hy52⟩) (by assumption) ?ty52
          case hy52 => (intro w hSw; (try dsimp only at hSw); obtain ⟨⟨⟨e0, e1, e2, e3⟩, ⟨f0, f1, f2, f3⟩⟩, hA, hB⟩ := hSw;  go_simp; all_goals with_reducible rfl)
          simp only [Act.put, List.getElem_toArray, List.getElem_cons_zero, List.getElem_cons_succ, List.setIfInBounds_toArray, List.set_cons_zero, List.set_cons_succ]
          refine wpAnyH_take (i := 5) (v := ?_) rfl (by kernel_rfl) (by kernel_rfl) (by kernel_rfl) (fun _ _ _ h => h) (Or.inl ⟨by rfl, ?hy53⟩) (by assumption) ?ty53
          case hy53 => (intro w hSw; (try dsimp only at hSw); obtain ⟨⟨⟨e0, e1, e2, e3⟩, ⟨f0, f1, f2, f3⟩⟩, hA, hB⟩ := hSw;  go_simp; all_goals with_reducible rfl)
          simp only [Act.put, List.getElem_toArray, List.getElem_cons_zero, List.getElem_cons_succ, List.setIfInBounds_toArray, List.set_cons_zero, List.set_cons_succ]
          refine wpAnyH_take (i := 6) (v := ?_) rfl (by kernel_rfl) (by kernel_rfl) (by kernel_rfl) (fun _ _ _ h => h) (Or.inl ⟨by rfl, ?hy54⟩) (by assumption) ?ty54
          case hy54 => (intro w hSw; (try dsimp only at hSw); obtain ⟨⟨⟨e0, e1, e2, e3⟩, ⟨f0, f1, f2, f3⟩⟩, hA, hB⟩ := hSw;  go_simp; all_goals with_reducible rfl)
          simp only [Act.put, List.getElem_toArray, List.getElem_cons_zero, List.getElem_cons_succ, List.setIfInBounds_toArray, List.set_cons_zero, List.set_cons_succ]
          refine wpAnyH_take (i := 7) (v := ?_) rfl (by kernel_rfl) (by kernel_rfl) (by kernel_rfl) (fun _ _ _ h => h) (Or.inl ⟨by rfl, ?hy55⟩) (by assumption) ?ty55
          case hy55 => (intro w hSw; (try dsimp only at hSw); obtain ⟨⟨⟨e0, e1, e2, e3⟩, ⟨f0, f1, f2, f3⟩⟩, hA, hB⟩ := hSw;  go_simp; all_goals with_reducible rfl)
          simp only [Act.put, List.getElem_toArray, List.getElem_cons_zero, List.getElem_cons_succ, List.setIfInBounds_toArray, List.set_cons_zero, List.set_cons_succ]
          refine wpAnyH_take (i := 8) (v := .bool true) rfl (by kernel_rfl) (by kernel_rfl) (by kernel_rfl) (fun _ _ _ h => h) (Or.inl ⟨by rfl, ?hy56⟩) (by assumption) ?ty56
          case hy56 => (intro w hSw; (try dsimp only at hSw); obtain ⟨⟨⟨e0, e1, e2, e3⟩, ⟨f0, f1, f2, f3⟩⟩, hA, hB⟩ := hSw;  go_simp; first | (all_goals with_reducible rfl) | (simp; done) | (simp; omega))
          simp only [Act.put, List.getElem_toArray, List.getElem_cons_zero, List.getElem_cons_succ, List.setIfInBounds_toArray, List.set_cons_zero, List.set_cons_succ]
          refine wpAnyH_take (i := 9) (v := ?_) rfl (by kernel_rfl) (by kernel_rfl) (by kernel_rfl) (fun _ _ _ h => h) (Or.inl ⟨by rfl, ?hy57⟩) (by assumption) ?ty57
          case hy57 => (intro w hSw; (try dsimp only at hSw); obtain ⟨⟨⟨e0, e1, e2, e3⟩, ⟨f0, f1, f2, f3⟩⟩, hA, hB⟩ := hSw;  go_simp; all_goals with_reducible rfl)
          simp only [Act.put, List.getElem_toArray, List.getElem_cons_zero, List.getElem_cons_succ, List.setIfInBounds_toArray, List.set_cons_zero, List.set_cons_succ]
          refine wpAnyH_take (i := 10) (v := ?_) rfl (by kernel_rfl) (by kernel_rfl) (by kernel_rfl) (fun _ _ _ h => h) (Or.inl ⟨by rfl, ?hy58⟩) (by assumption) ?ty58
          case hy58 => (intro w hSw; (try dsimp only at hSw); obtain ⟨⟨⟨e0, e1, e2, e3⟩, ⟨f0, f1, f2, f3⟩⟩, hA, hB⟩ := hSw;  go_simp; all_goals with_reducible rfl)
          simp only [Act.put, List.getElem_toArray, List.getElem_cons_zero, List.getElem_cons_succ, List.setIfInBounds_toArray, List.set_cons_zero, List.set_cons_succ]
          refine wpAnyH_take (i := 11) (v := ?_) rfl (by kernel_rfl) (by kernel_rfl) (by kernel_rfl) (fun _ _ _ h => h) (Or.inl ⟨by rfl, ?hy59⟩) (by assumption) ?ty59
          case hy59 => (intro w hSw; (try dsimp only at hSw); obtain ⟨⟨⟨e0, e1, e2, e3⟩, ⟨f0, f1, f2, f3⟩⟩, hA, hB⟩ := hSw;  go_simp; all_goals with_reducible rfl)
          simp only [Act.put, List.getElem_toArray, List.getElem_cons_zero, List.getElem_cons_succ, List.setIfInBounds_toArray, List.set_cons_zero, List.set_cons_succ]
          refine wpAnyH_take (i := 12) (v := ?_) rfl (by kernel_rfl) (by kernel_rfl) (by kernel_rfl) (fun _ _ _ h => h) (Or.inl ⟨by rfl, ?hy60⟩) (by assumption) ?ty60
          case hy60 => (intro w hSw; (try dsimp only at hSw); obtain ⟨⟨⟨e0, e1, e2, e3⟩, ⟨f0, f1, f2, f3⟩⟩, hA, hB⟩ := hSw;  go_simp; all_goals with_reducible rfl)
          simp only [Act.put, List.getElem_toArray, List.getElem_cons_zero, List.getElem_cons_succ, List.setIfInBounds_toArray, List.set_cons_zero, List.set_cons_succ]
          refine wpAnyH_take (i := 13) (v := ?_) rfl (by kernel_rfl) (by kernel_rfl) (by kernel_rfl) (fun _ _ _ h => h) (Or.inl ⟨by rfl, ?hy61⟩) (by assumption) ?ty61
          case hy61 => (intro w hSw; (try dsimp only at hSw); obtain ⟨⟨⟨e0, e1, e2, e3⟩, ⟨f0, f1, f2, f3⟩⟩, hA, hB⟩ := hSw;  go_simp; all_goals with_reducible rfl)
          simp only [Act.put, List.getElem_toArray, List.getElem_cons_zero, List.getElem_cons_succ, List.setIfInBounds_toArray, List.set_cons_zero, List.set_cons_succ]
          refine wpAnyH_take (i := 14) (v := ?_) rfl (by kernel_rfl) (by kernel_rfl) (by kernel_rfl) (fun _ _ _ h => h) (Or.inl ⟨by rfl, ?hy62⟩) (by assumption) ?ty62
          case hy62 => (intro w hSw; (try dsimp only at hSw); obtain ⟨⟨⟨e0, e1, e2, e3⟩, ⟨f0, f1, f2, f3⟩⟩, hA, hB⟩ := hSw;  go_simp; all_goals with_reducible rfl)
          simp only [Act.put, List.getElem_toArray, List.getElem_cons_zero, List.getElem_cons_succ, List.setIfInBounds_toArray, List.set_cons_zero, List.set_cons_succ]
          refine wpAnyH_take (i := 15) (v := ?_) rfl (by kernel_rfl) (by kernel_rfl) (by kernel_rfl) (fun _ _ _ h => h) (Or.inl ⟨by rfl, ?hy63⟩) (by assumption) ?ty63
          case hy63 => (intro w hSw; (try dsimp only at hSw); obtain ⟨⟨⟨e0, e1, e2, e3⟩, ⟨f0, f1, f2, f3⟩⟩, hA, hB⟩ := hSw;  go_simp; all_goals with_reducible rfl)
          simp only [Act.put, List.getElem_toArray, List.getElem_cons_zero, List.getElem_cons_succ, List.setIfInBounds_toArray, List.set_cons_zero, List.set_cons_succ]
          refine wpAnyH_take (i := 16) (v := ?_) rfl (by kernel_rfl) (by kernel_rfl) (by kernel_rfl) (fun _ _ _ h => h) (Or.inl ⟨by rfl, ?hy64⟩) (by assumption) ?ty64
          case hy64 => (intro w hSw; (try dsimp only at hSw); obtain ⟨⟨⟨e0, e1, e2, e3⟩, ⟨f0, f1, f2, f3⟩⟩, hA, hB⟩ := hSw;  go_simp; all_goals with_reducible rfl)
          simp only [Act.put, List.getElem_toArray, List.getElem_cons_zero, List.getElem_cons_succ, List.setIfInBounds_toArray, List.set_cons_zero, List.set_cons_succ]
          refine wpAnyH_take (i := 17) (v := ?_) rfl (by kernel_rfl) (by kernel_rfl) (by kernel_rfl) (fun _ _ _ h => h) (Or.inl ⟨by rfl, ?hy65⟩) (by assumption) ?ty65
          case hy65 => (intro w hSw; (try dsimp only at hSw); obtain ⟨⟨⟨e0, e1, e2, e3⟩, ⟨f0, f1, f2, f3⟩⟩, hA, hB⟩ := hSw;  go_simp; all_goals with_reducible rfl)
          simp only [Act.put, List.getElem_toArray, List.getElem_cons_zero, List.getElem_cons_succ, List.setIfInBounds_toArray, List.set_cons_zero, List.set_cons_succ]
          refine wpAnyH_take (i := 18) (v := .bool true) rfl (by kernel_rfl) (by kernel_rfl) (by kernel_rfl) (fun _ _ _ h => h) (Or.inl ⟨by rfl, ?hy66⟩) (by assumption) ?ty66
          case hy66 => (intro w hSw; (try dsimp only at hSw); obtain ⟨⟨⟨e0, e1, e2, e3⟩, ⟨f0, f1, f2, f3⟩⟩, hA, hB⟩ := hSw;  go_simp; first | (all_goals with_reducible rfl) | (simp; done) | (simp; omega))
          simp only [Act.put, List.getElem_toArray, List.getElem_cons_zero, List.getElem_cons_succ, List.setIfInBounds_toArray, List.set_cons_zero, List.set_cons_succ]
          refine wpAnyH_take (i := 19) (v := .bool true) rfl (by kernel_rfl) (by kernel_rfl) (by kernel_rfl) (fun _ _ _ h => h) (Or.inl ⟨by rfl, ?hy67⟩) (by assumption) ?ty67
          case hy67 => (intro w hSw; (try dsimp only at hSw); obtain ⟨⟨⟨e0, e1, e2, e3⟩, ⟨f0, f1, f2, f3⟩⟩, hA, hB⟩ := hSw;  go_simp; first | (all_goals with_reducible rfl) | (simp; done) | (simp; omega))
          simp only [Act.put, List.getElem_toArray, List.getElem_cons_zero, List.getElem_cons_succ, List.setIfInBounds_toArray, List.set_cons_zero, List.set_cons_succ]
          refine wpAnyH_take (i := 20) (v := ?_) rfl (by kernel_rfl) (by kernel_rfl) (by kernel_rfl) (fun _ _ _ h => h) (Or.inl ⟨by rfl, ?hy68⟩) (by assumption) ?ty68
          case hy68 => (intro w hSw; (try dsimp only at hSw); obtain ⟨⟨⟨e0, e1, e2, e3⟩, ⟨f0, f1, f2, f3⟩⟩, hA, hB⟩ := hSw;  go_simp; all_goals with_reducible rfl)
          simp only [Act.put, List.getElem_toArray, List.getElem_cons_zero, List.getElem_cons_succ, List.setIfInBounds_toArray, List.set_cons_zero, List.set_cons_succ]
          refine wpAnyH_take (i := 21) (v := ?_) rfl (by kernel_rfl) (by kernel_rfl) (by kernel_rfl) (fun _ _ _ h => h) (Or.inl ⟨by rfl, ?hy69⟩) (by assumption) ?ty69
          case hy69 => (intro w hSw; (try dsimp only at hSw); obtain ⟨⟨⟨e0, e1, e2, e3⟩, ⟨f0, f1, f2, f3⟩⟩, hA, hB⟩ := hSw;  go_simp; all_goals with_reducible rfl)
          simp only [Act.put, List.getElem_toArray, List.getElem_cons_zero, List.getElem_cons_succ, List.setIfInBounds_toArray, List.set_cons_zero, List.set_cons_succ]
          refine wpAnyH_take (i := 22) (v := ?_) rfl (by kernel_rfl) (by kernel_rfl) (by kernel_rfl) (fun _ _ _ h => h) (Or.inl ⟨by rfl, ?hy70⟩) (by assumption) ?ty70
          case hy70 => (intro w hSw; (try dsimp only at hSw); obtain ⟨⟨⟨e0, e1, e2, e3⟩, ⟨f0, f1, f2, f3⟩⟩, hA, hB⟩ := hSw;  go_simp; all_goals with_reducible rfl)
          simp only [Act.put, List.getElem_toArray, List.getElem_cons_zero, List.getElem_cons_succ, List.setIfInBounds_toArray, List.set_cons_zero, List.set_cons_succ]
          refine wpAnyH_take (i := 23) (v := ?_) rfl (by kernel_rfl) (by kernel_rfl) (by kernel_rfl) (fun _ _ _ h => h) (Or.inl ⟨by rfl, ?hy71⟩) (by assumption) ?ty71
          case hy71 => (intro w hSw; (try dsimp only at hSw); obtain ⟨⟨⟨e0, e1, e2, e3⟩, ⟨f0, f1, f2, f3⟩⟩, hA, hB⟩ := hSw;  go_simp; all_goals with_reducible rfl)
          simp only [Act.put, List.getElem_toArray, List.getElem_cons_zero, List.getElem_cons_succ, List.setIfInBounds_toArray, List.set_cons_zero, List.set_cons_succ]
          refine wpAnyH_take (i := 24) (v := ?_) rfl (by kernel_rfl) (by kernel_rfl) (by kernel_rfl) (fun _ _ _ h => h) (Or.inl ⟨by rfl, ?hy72⟩) (by assumption) ?ty72
          case hy72 => (intro w hSw; (try dsimp only at hSw); obtain ⟨⟨⟨e0, e1, e2, e3⟩, ⟨f0, f1, f2, f3⟩⟩, hA, hB⟩ := hSw;  go_simp; all_goals with_reducible rfl)
          simp only [Act.put, List.getElem_toArray, List.getElem_cons_zero, List.getElem_cons_succ, List.setIfInBounds_toArray, List.set_cons_zero, List.set_cons_succ]
          refine wpAnyH_take (i := 25) (v := ?_) rfl (by kernel_rfl) (by kernel_rfl) (by kernel_rfl) (fun _ _ _ h => h) (Or.inl ⟨by rfl, ?hy73⟩) (by assumption) ?ty73
          case hy73 => (intro w hSw; (try dsimp only at hSw); obtain ⟨⟨⟨e0, e1, e2, e3⟩, ⟨f0, f1, f2, f3⟩⟩, hA, hB⟩ := hSw;  go_simp; all_goals with_reducible rfl)
          simp only [Act.put, List.getElem_toArray, List.getElem_cons_zero, List.getElem_cons_succ, List.setIfInBounds_toArray, List.set_cons_zero, List.set_cons_succ]
          refine wpAnyH_take (i := 26) (v := ?_) rfl (by kernel_rfl) (by kernel_rfl) (by kernel_rfl) (fun _ _ _ h => h) (Or.inl ⟨by rfl, ?hy74⟩) (by assumption) ?ty74
          case hy74 => (intro w hSw; (try dsimp only at hSw); obtain ⟨⟨⟨e0, e1, e2, e3⟩, ⟨f0, f1, f2, f3⟩⟩, hA, hB⟩ := hSw;  go_simp; all_goals with_reducible rfl)
          simp only [Act.put, List.getElem_toArray, List.getElem_cons_zero, List.getElem_cons_succ, List.setIfInBounds_toArray, List.set_cons_zero, List.set_cons_succ]
          refine wpAnyH_take (i := 27) (v := ?_) rfl (by kernel_rfl) (by kernel_rfl) (by kernel_rfl) (fun _ _ _ h => h) (Or.inl ⟨by rfl, ?hy75⟩) (by assumption) ?ty75
          case hy75 => (intro w hSw; (try dsimp only at hSw); obtain ⟨⟨⟨e0, e1, e2, e3⟩, ⟨f0, f1, f2, f3⟩⟩, hA, hB⟩ := hSw;  go_simp; all_goals with_reducible rfl)
          simp only [Act.put, List.getElem_toArray, List.getElem_cons_zero, List.getElem_cons_succ, List.setIfInBounds_toArray, List.set_cons_zero, List.set_cons_succ]
          refine wpAnyH_take (i := 28) (v := ?_) rfl (by kernel_rfl) (by kernel_rfl) (by kernel_rfl) (fun _ _ _ h => h) (Or.inl ⟨by rfl, ?hy76⟩) (by assumption) ?ty76
          case hy76 => (intro w hSw; (try dsimp only at hSw); obtain ⟨⟨⟨e0, e1, e2, e3⟩, ⟨f0, f1, f2, f3⟩⟩, hA, hB⟩ := hSw;  go_simp; all_goals with_reducible rfl)
          simp only [Act.put, List.getElem_toArray, List.getElem_cons_zero, List.getElem_cons_succ, List.setIfInBounds_toArray, List.set_cons_zero, List.set_cons_succ]
          refine wpAnyH_take (i := 29) (v := .bool true) rfl (by kernel_rfl) (by kernel_rfl) (by kernel_rfl) (fun _ _ _ h => h) (Or.inl ⟨by rfl, ?hy77⟩) (by assumption) ?ty77
          case hy77 => (intro w hSw; (try dsimp only at hSw); obtain ⟨⟨⟨e0, e1, e2, e3⟩, ⟨f0, f1, f2, f3⟩⟩, hA, hB⟩ := hSw;  go_simp; first | (all_goals with_reducible rfl) | (simp; done) | (simp; omega))
          simp only [Act.put, List.getElem_toArray, List.getElem_cons_zero, List.getElem_cons_succ, List.setIfInBounds_toArray, List.set_cons_zero, List.set_cons_succ]
          refine wpAnyH_take (i := 30) (v := .bool true) rfl (by kernel_rfl) (by kernel_rfl) (by kernel_rfl) (fun _ _ _ h => h) (Or.inl ⟨by rfl, ?hy78⟩) (by assumption) ?ty78
          case hy78 => (intro w hSw; (try dsimp only at hSw); obtain ⟨⟨⟨e0, e1, e2, e3⟩, ⟨f0, f1, f2, f3⟩⟩, hA, hB⟩ := hSw;  go_simp; first | (all_goals with_reducible rfl) | (simp; done) | (simp; omega))
          simp only [Act.put, List.getElem_toArray, List.getElem_cons_zero, List.getElem_cons_succ, List.setIfInBounds_toArray, List.set_cons_zero, List.set_cons_succ]
          refine wpAnyH_take (i := 31) (v := ?_) rfl (by kernel_rfl) (by kernel_rfl) (by kernel_rfl) (fun _ _ _ h => h) (Or.inl ⟨by rfl, ?hy79⟩) (by assumption) ?ty79
          case hy79 => (intro w hSw; (try dsimp only at hSw); obtain ⟨⟨⟨e0, e1, e2, e3⟩, ⟨f0, f1, f2, f3⟩⟩, hA, hB⟩ := hSw;  go_simp; all_goals with_reducible rfl)
          simp only [Act.put, List.getElem_toArray, List.getElem_cons_zero, List.getElem_cons_succ, List.setIfInBounds_toArray, List.set_cons_zero, List.set_cons_succ]
          refine wpAnyH_take (i := 32) (v := ?_) rfl (by kernel_rfl) (by kernel_rfl) (by kernel_rfl) (fun _ _ _ h => h) (Or.inl ⟨by rfl, ?hy80⟩) (by assumption) ?ty80
          case hy80 => (intro w hSw; (try dsimp only at hSw); obtain ⟨⟨⟨e0, e1, e2, e3⟩, ⟨f0, f1, f2, f3⟩⟩, hA, hB⟩ := hSw;  go_simp; all_goals with_reducible rfl)
          simp only [Act.put, List.getElem_toArray, List.getElem_cons_zero, List.getElem_cons_succ, List.setIfInBounds_toArray, List.set_cons_zero, List.set_cons_succ]
          refine wpAnyH_take (i := 33) (v := ?_) rfl (by kernel_rfl) (by kernel_rfl) (by kernel_rfl) (fun _ _ _ h => h) (Or.inl ⟨by rfl, ?hy81⟩) (by assumption) ?ty81
          case hy81 => (intro w hSw; (try dsimp only at hSw); obtain ⟨⟨⟨e0, e1, e2, e3⟩, ⟨f0, f1, f2, f3⟩⟩, hA, hB⟩ := hSw;  go_simp; all_goals with_reducible rfl)
          simp only [Act.put, List.getElem_toArray, List.getElem_cons_zero, List.getElem_cons_succ, List.setIfInBounds_toArray, List.set_cons_zero, List.set_cons_succ]
          refine wpAnyH_take (i := 34) (v := ?_) rfl (by kernel_rfl) (by kernel_rfl) (by kernel_rfl) (fun _ _ _ h => h) (Or.inl ⟨by rfl, ?hy82⟩) (by assumption) ?ty82
          case hy82 => (intro w hSw; (try dsimp only at hSw); obtain ⟨⟨⟨e0, e1, e2, e3⟩, ⟨f0, f1, f2, f3⟩⟩, hA, hB⟩ := hSw;  go_simp; all_goals with_reducible rfl)
          simp only [Act.put, List.getElem_toArray, List.getElem_cons_zero, List.getElem_cons_succ, List.setIfInBounds_toArray, List.set_cons_zero, List.set_cons_succ]
          refine wpAnyH_take (i := 35) (v := ?_) rfl (by kernel_rfl) (by kernel_rfl) (by kernel_rfl) (fun _ _ _ h => h) (Or.inl ⟨by rfl, ?hy83⟩) (by assumption) ?ty83
          case hy83 => (intro w hSw; (try dsimp only at hSw); obtain ⟨⟨⟨e0, e1, e2, e3⟩, ⟨f0, f1, f2, f3⟩⟩, hA, hB⟩ := hSw;  go_simp; all_goals with_reducible rfl)
          simp only [Act.put, List.getElem_toArray, List.getElem_cons_zero, List.getElem_cons_succ, List.setIfInBounds_toArray, List.set_cons_zero, List.set_cons_succ]
          refine wpAnyH_take (i := 36) (v := ?_) rfl (by kernel_rfl) (by kernel_rfl) (by kernel_rfl) (fun _ _ _ h => h) (Or.inl ⟨by rfl, ?hy84⟩) (by assumption) ?ty84
          case hy84 => (intro w hSw; (try dsimp only at hSw); obtain ⟨⟨⟨e0, e1, e2, e3⟩, ⟨f0, f1, f2, f3⟩⟩, hA, hB⟩ := hSw; have hrun := run_str (cap := s.2.2) hA.1 hA.2.2.2.2.1;  go_simp; all_goals with_reducible rfl)
          simp only [Act.put, List.getElem_toArray, List.getElem_cons_zero, List.getElem_cons_succ, List.setIfInBounds_toArray, List.set_cons_zero, List.set_cons_succ]
          refine wpAnyH_take (i := 37) (v := ?_) rfl (by kernel_rfl) (by kernel_rfl) (by kernel_rfl) (fun _ _ _ h => h) (Or.inl ⟨by rfl, ?hy85⟩) (by assumption) ?ty85
          case hy85 => (intro w hSw; (try dsimp only at hSw); obtain ⟨⟨⟨e0, e1, e2, e3⟩, ⟨f0, f1, f2, f3⟩⟩, hA, hB⟩ := hSw;  go_simp; all_goals with_reducible rfl)
          simp only [Act.put, List.getElem_toArray, List.getElem_cons_zero, List.getElem_cons_succ, List.setIfInBounds_toArray, List.set_cons_zero, List.set_cons_succ]
          refine wpAnyH_take (i := 38) (v := ?_) rfl (by kernel_rfl) (by kernel_rfl) (by kernel_rfl) (fun _ _ _ h => h) (Or.inl ⟨by rfl, ?hy86⟩) (by assumption) ?ty86
          case hy86 => (intro w hSw; (try dsimp only at hSw); obtain ⟨⟨⟨e0, e1, e2, e3⟩, ⟨f0, f1, f2, f3⟩⟩, hA, hB⟩ := hSw;  go_simp; all_goals with_reducible rfl)
          simp only [Act.put, List.getElem_toArray, List.getElem_cons_zero, List.getElem_cons_succ, List.setIfInBounds_toArray, List.set_cons_zero, List.set_cons_succ]
          refine wpAnyH_take (i := 39) (v := ?_) rfl (by kernel_rfl) (by kernel_rfl) (by kernel_rfl) (fun _ _ _ h => h) (Or.inl ⟨by rfl, ?hy87⟩) (by assumption) ?ty87
          case hy87 => (intro w hSw; (try dsimp only at hSw); obtain ⟨⟨⟨e0, e1, e2, e3⟩, ⟨f0, f1, f2, f3⟩⟩, hA, hB⟩ := hSw;  go_simp; all_goals with_reducible rfl)
          simp only [Act.put, List.getElem_toArray, List.getElem_cons_zero, List.getElem_cons_succ, List.setIfInBounds_toArray, List.set_cons_zero, List.set_cons_succ]
          refine wpAnyH_take (i := 40) (v := ?_) rfl (by kernel_rfl) (by kernel_rfl) (by kernel_rfl) (fun _ _ _ h => h) (Or.inl ⟨by rfl, ?hy88⟩) (by assumption) ?ty88
          case hy88 => (intro w hSw; (try dsimp only at hSw); obtain ⟨⟨⟨e0, e1, e2, e3⟩, ⟨f0, f1, f2, f3⟩⟩, hA, hB⟩ := hSw;  go_simp; all_goals with_reducible rfl)
          simp only [Act.put, List.getElem_toArray, List.getElem_cons_zero, List.getElem_cons_succ, List.setIfInBounds_toArray, List.set_cons_zero, List.set_cons_succ]
          refine wpAnyH_take (i := 41) (v := ?_) rfl (by kernel_rfl) (by kernel_rfl) (by kernel_rfl) (fun _ _ _ h => h) (Or.inl ⟨by rfl, ?hy89⟩) (by assumption) ?ty89
          case hy89 => (intro w hSw; (try dsimp only at hSw); obtain ⟨⟨⟨e0, e1, e2, e3⟩, ⟨f0, f1, f2, f3⟩⟩, hA, hB⟩ := hSw; have hrun := run_str (cap := s'.2.2) hB.1 hB.2.2.2.2.1;  go_simp; all_goals with_reducible rfl)
          simp only [Act.put, List.getElem_toArray, List.getElem_cons_zero, List.getElem_cons_succ, List.setIfInBounds_toArray, List.set_cons_zero, List.set_cons_succ]
          refine wpAnyH_take (i := 42) (v := .bool false) rfl (by kernel_rfl) (by kernel_rfl) (by kernel_rfl) (fun _ _ _ h => h) (Or.inl ⟨by rfl, ?hy90⟩) (by assumption) ?ty90
          case hy90 => (intro w hSw; (try dsimp only at hSw); obtain ⟨⟨⟨e0, e1, e2, e3⟩, ⟨f0, f1, f2, f3⟩⟩, hA, hB⟩ := hSw;  go_simp; first | (simp; done) | (simp [hst]; done) | (all_goals with_reducible rfl))
          simp only [Act.put, List.getElem_toArray, List.getElem_cons_zero, List.getElem_cons_succ, List.setIfInBounds_toArray, List.set_cons_zero, List.set_cons_succ]
          refine wpAnyH_take (i := 43) (v := .bool false) rfl (by kernel_rfl) (by kernel_rfl) (by kernel_rfl) (fun _ _ _ h => h) (Or.inl ⟨by rfl, ?hy91⟩) (by assumption) ?ty91
          case hy91 => (intro w hSw; (try dsimp only at hSw); obtain ⟨⟨⟨e0, e1, e2, e3⟩, ⟨f0, f1, f2, f3⟩⟩, hA, hB⟩ := hSw;  go_simp; first | (all_goals with_reducible rfl) | (simp; done) | (simp; omega))
          simp only [Act.put, List.getElem_toArray, List.getElem_cons_zero, List.getElem_cons_succ, List.setIfInBounds_toArray, List.set_cons_zero, List.set_cons_succ]
          refine wpAnyH_take (i := 44) (v := ?_) rfl (by kernel_rfl) (by kernel_rfl) (by kernel_rfl) (fun _ _ _ h => h) (Or.inl ⟨by rfl, ?hy92⟩) (by assumption) ?ty92
          case hy92 => (intro w hSw; (try dsimp only at hSw); obtain ⟨⟨⟨e0, e1, e2, e3⟩, ⟨f0, f1, f2, f3⟩⟩, hA, hB⟩ := hSw;  go_simp; all_goals with_reducible rfl)
          simp only [Act.put, List.getElem_toArray, List.getElem_cons_zero, List.getElem_cons_succ, List.setIfInBounds_toArray, List.set_cons_zero, List.set_cons_succ]
          refine wpAnyH_done (by kernel_rfl) ?_ _
          clear hHeld
          go_wp2
          go_ret
          exact ⟨by rw [HM.out]; rfl, (Below.refl _ _).drew⟩
      · have HM : Hid (r = false) := HV.out.trans (by simp [h3])
        clear HV
        go_wp2_with fail
        refine wp_region_held_drew (S := fun w' => ((w'.cell? ⟨g, o, none⟩ = some (.int .i64 au) ∧ w'.cell? ⟨g, o + 1, none⟩ = some (.int .i64 af) ∧ w'.cell? ⟨g, o + 2, none⟩ = some (.int .i64 ad) ∧ w'.cell? ⟨g, o + 3, none⟩ = some (slW s)) ∧ (w'.cell? ⟨h, k, none⟩ = some (.int .i64 bu) ∧ w'.cell? ⟨h, k + 1, none⟩ = some (.int .i64 bf) ∧ w'.cell? ⟨h, k + 2, none⟩ = some (.int .i64 bd) ∧ w'.cell? ⟨h, k + 3, none⟩ = some (slW s'))) ∧ IsSl lo w' s ab ∧ IsSl lo' w' s' bb) (by kernel_rfl) ?hS93 (fun hHeld => ?_)
        case hS93 => exact ⟨⟨⟨c0, c1, c2, c3⟩, ⟨d0, d1, d2, d3⟩⟩, hs, hs'⟩
        refine wpAnyH_take (i := 0) (v := ?_) rfl (by kernel_rfl) (by kernel_rfl) (by kernel_rfl) (fun _ _ _ h => h) (Or.inl ⟨by rfl, ?hy94⟩) (by assumption) ?ty94
        case hy94 => (intro w hSw; (try dsimp only at hSw); obtain ⟨⟨⟨e0, e1, e2, e3⟩, ⟨f0, f1, f2, f3⟩⟩, hA, hB⟩ := hSw;  go_simp; all_goals with_reducible rfl)
        simp only [Act.put, List.getElem_toArray, List.getElem_cons_zero, List.setIfInBounds_toArray, List.set_cons_zero, List.set_cons_succ]
        refine wpAnyH_take (i := 1) (v := ?_) rfl (by kernel_rfl) (by kernel_rfl) (by kernel_rfl) (fun _ _ _ h => h) (Or.inl ⟨by rfl, ?hy95⟩) (by assumption) ?ty95
        case hy95 => (intro w hSw; (try dsimp only at hSw); obtain ⟨⟨⟨e0, e1, e2, e3⟩, ⟨f0, f1, f2, f3⟩⟩, hA, hB⟩ := hSw;  go_simp; all_goals with_reducible rfl)
        simp only [Act.put, List.getElem_toArray, List.getElem_cons_zero, List.getElem_cons_succ, List.setIfInBounds_toArray, List.set_cons_zero, List.set_cons_succ]
        refine wpAnyH_take (i := 2) (v := ?_) rfl (by kernel_rfl) (by kernel_rfl) (by kernel_rfl) (fun _ _ _ h => h) (Or.inl ⟨by rfl, ?hy96⟩) (by assumption) ?ty96
        case hy96 => (intro w hSw; (try dsimp only at hSw); obtain ⟨⟨⟨e0, e1, e2, e3⟩, ⟨f0, f1, f2, f3⟩⟩, hA, hB⟩ := hSw;  go_simp; all_goals with_reducible rfl)
        simp only [Act.put, List.getElem_toArray, List.getElem_cons_zero, List.getElem_cons_succ, List.setIfInBounds_toArray, List.set_cons_zero, List.set_cons_succ]
        refine wpAnyH_take (i := 3) (v := ?_) rfl (by kernel_rfl) (by kernel_rfl) (by kernel_rfl) (fun _ _ _ h => h) (Or.inl ⟨by rfl, ?hy97⟩) (by assumption) ?ty97
        case hy97 => (intro w hSw; (try dsimp only at hSw); obtain ⟨⟨⟨e0, e1, e2, e3⟩, ⟨f0, f1, f2, f3⟩⟩, hA, hB⟩ := hSw;  go_simp; all_goals with_reducible rfl)
        simp only [Act.put, List.getElem_toArray, List.getElem_cons_zero, List.getElem_cons_succ, List.setIfInBounds_toArray, List.set_cons_zero, List.set_cons_succ]
        refine wpAnyH_take (i := 4) (v := ?_) rfl (by kernel_rfl) (by kernel_rfl) (by kernel_rfl) (fun _ _ _ h => h) (Or.inl ⟨by rfl, ?hy98⟩) (by assumption) ?ty98
        case hy98 => (intro w hSw; (try dsimp only at hSw); obtain ⟨⟨⟨e0, e1, e2, e3⟩, ⟨f0, f1, f2, f3⟩⟩, hA, hB⟩ := hSw;  go_simp; all_goals with_reducible rfl)
        simp only [Act.put, List.getElem_toArray, List.getElem_cons_zero, List.getElem_cons_succ, List.setIfInBounds_toArray, List.set_cons_zero, List.set_cons_succ]
        refine wpAnyH_take (i := 5) (v := ?_) rfl (by kernel_rfl) (by kernel_rfl) (by kernel_rfl) (fun _ _ _ h => h) (Or.inl ⟨by rfl, ?hy99⟩) (by assumption) ?ty99
        case hy99 => (intro w hSw; (try dsimp only at hSw); obtain ⟨⟨⟨e0, e1, e2, e3⟩, ⟨f0, f1, f2, f3⟩⟩, hA, hB⟩ := hSw;  go_simp; all_goals with_reducible rfl)
        simp only [Act.put, List.getElem_toArray, List.getElem_cons_zero, List.getElem_cons_succ, List.setIfInBounds_toArray, List.set_cons_zero, List.set_cons_succ]
        refine wpAnyH_take (i := 6) (v := ?_) rfl (by kernel_rfl) (by kernel_rfl) (by kernel_rfl) (fun _ _ _ h => h) (Or.inl ⟨by rfl, ?hy100⟩) (by assumption) ?ty100
        case hy100 => (intro w hSw; (try dsimp only at hSw); obtain ⟨⟨⟨e0, e1, e2, e3⟩, ⟨f0, f1, f2, f3⟩⟩, hA, hB⟩ := hSw;  go_simp; all_goals with_reducible rfl)
        simp only [Act.put, List.getElem_toArray, List.getElem_cons_zero, List.getElem_cons_succ, List.setIfInBounds_toArray, List.set_cons_zero, List.set_cons_succ]
        refine wpAnyH_take (i := 7) (v := ?_) rfl (by kernel_rfl) (by kernel_rfl) (by kernel_rfl) (fun _ _ _ h => h) (Or.inl ⟨by rfl, ?hy101⟩) (by assumption) ?ty101
        case hy101 => (intro w hSw; (try dsimp only at hSw); obtain ⟨⟨⟨e0, e1, e2, e3⟩, ⟨f0, f1, f2, f3⟩⟩, hA, hB⟩ := hSw;  go_simp; all_goals with_reducible rfl)
        simp only [Act.put, List.getElem_toArray, List.getElem_cons_zero, List.getElem_cons_succ, List.setIfInBounds_toArray, List.set_cons_zero, List.set_cons_succ]
        refine wpAnyH_take (i := 8) (v := .bool true) rfl (by kernel_rfl) (by kernel_rfl) (by kernel_rfl) (fun _ _ _ h => h) (Or.inl ⟨by rfl, ?hy102⟩) (by assumption) ?ty102
        case hy102 => (intro w hSw; (try dsimp only at hSw); obtain ⟨⟨⟨e0, e1, e2, e3⟩, ⟨f0, f1, f2, f3⟩⟩, hA, hB⟩ := hSw;  go_simp; first | (all_goals with_reducible rfl) | (simp; done) | (simp; omega))
        simp only [Act.put, List.getElem_toArray, List.getElem_cons_zero, List.getElem_cons_succ, List.setIfInBounds_toArray, List.set_cons_zero, List.set_cons_succ]
        refine wpAnyH_take (i := 9) (v := ?_) rfl (by kernel_rfl) (by kernel_rfl) (by kernel_rfl) (fun _ _ _ h => h) (Or.inl ⟨by rfl, ?hy103⟩) (by assumption) ?ty103
        case hy103 => (intro w hSw; (try dsimp only at hSw); obtain ⟨⟨⟨e0, e1, e2, e3⟩, ⟨f0, f1, f2, f3⟩⟩, hA, hB⟩ := hSw;  go_simp; all_goals with_reducible rfl)
        simp only [Act.put, List.getElem_toArray, List.getElem_cons_zero, List.getElem_cons_succ, List.setIfInBounds_toArray, List.set_cons_zero, List.set_cons_succ]
        refine wpAnyH_take (i := 10) (v := ?_) rfl (by kernel_rfl) (by kernel_rfl) (by kernel_rfl) (fun _ _ _ h => h) (Or.inl ⟨by rfl, ?hy104⟩) (by assumption) ?ty104
        case hy104 => (intro w hSw; (try dsimp only at hSw); obtain ⟨⟨⟨e0, e1, e2, e3⟩, ⟨f0, f1, f2, f3⟩⟩, hA, hB⟩ := hSw;  go_simp; all_goals with_reducible rfl)
        simp only [Act.put, List.getElem_toArray, List.getElem_cons_zero, List.getElem_cons_succ, List.setIfInBounds_toArray, List.set_cons_zero, List.set_cons_succ]
        refine wpAnyH_take (i := 11) (v := ?_) rfl (by kernel_rfl) (by kernel_rfl) (by kernel_rfl) (fun _ _ _ h => h) (Or.inl ⟨by rfl, ?hy105⟩) (by assumption) ?ty105
        case hy105 => (intro w hSw; (try dsimp only at hSw); obtain ⟨⟨⟨e0, e1, e2, e3⟩, ⟨f0, f1, f2, f3⟩⟩, hA, hB⟩ := hSw;  go_simp; all_goals with_reducible rfl)
        simp only [Act.put, List.getElem_toArray, List.getElem_cons_zero, List.getElem_cons_succ, List.setIfInBounds_toArray, List.set_cons_zero, List.set_cons_succ]
        refine wpAnyH_take (i := 12) (v := ?_) rfl (by kernel_rfl) (by kernel_rfl) (by kernel_rfl) (fun _ _ _ h => h) (Or.inl ⟨by rfl, ?hy106⟩) (by assumption) ?ty106
        case hy106 => (intro w hSw; (try dsimp only at hSw); obtain ⟨⟨⟨e0, e1, e2, e3⟩, ⟨f0, f1, f2, f3⟩⟩, hA, hB⟩ := hSw;  go_simp; all_goals with_reducible rfl)
        simp only [Act.put, List.getElem_toArray, List.getElem_cons_zero, List.getElem_cons_succ, List.setIfInBounds_toArray, List.set_cons_zero, List.set_cons_succ]
        refine wpAnyH_take (i := 13) (v := ?_) rfl (by kernel_rfl) (by kernel_rfl) (by kernel_rfl) (fun _ _ _ h => h) (Or.inl ⟨by rfl, ?hy107⟩) (by assumption) ?ty107
        case hy107 => (intro w hSw; (try dsimp only at hSw); obtain ⟨⟨⟨e0, e1, e2, e3⟩, ⟨f0, f1, f2, f3⟩⟩, hA, hB⟩ := hSw;  go_simp; all_goals with_reducible rfl)
        simp only [Act.put, List.getElem_toArray, List.getElem_cons_zero, List.getElem_cons_succ, List.setIfInBounds_toArray, List.set_cons_zero, List.set_cons_succ]
        refine wpAnyH_take (i := 14) (v := ?_) rfl (by kernel_rfl) (by kernel_rfl) (by kernel_rfl) (fun _ _ _ h => h) (Or.inl ⟨by rfl, ?hy108⟩) (by assumption) ?ty108
        case hy108 => (intro w hSw; (try dsimp only at hSw); obtain ⟨⟨⟨e0, e1, e2, e3⟩, ⟨f0, f1, f2, f3⟩⟩, hA, hB⟩ := hSw;  go_simp; all_goals with_reducible rfl)
        simp only [Act.put, List.getElem_toArray, List.getElem_cons_zero, List.getElem_cons_succ, List.setIfInBounds_toArray, List.set_cons_zero, List.set_cons_succ]
        refine wpAnyH_take (i := 15) (v := ?_) rfl (by kernel_rfl) (by kernel_rfl) (by kernel_rfl) (fun _ _ _ h => h) (Or.inl ⟨by rfl, ?hy109⟩) (by assumption) ?ty109
        case hy109 => (intro w hSw; (try dsimp only at hSw); obtain ⟨⟨⟨e0, e1, e2, e3⟩, ⟨f0, f1, f2, f3⟩⟩, hA, hB⟩ := hSw;  go_simp; all_goals with_reducible rfl)
        simp only [Act.put, List.getElem_toArray, List.getElem_cons_zero, List.getElem_cons_succ, List.setIfInBounds_toArray, List.set_cons_zero, List.set_cons_succ]
        refine wpAnyH_take (i := 16) (v := ?_) rfl (by kernel_rfl) (by kernel_rfl) (by kernel_rfl) (fun _ _ _ h => h) (Or.inl ⟨by rfl, ?hy110⟩) (by assumption) ?ty110
        case hy110 => (intro w hSw; (try dsimp only at hSw); obtain ⟨⟨⟨e0, e1, e2, e3⟩, ⟨f0, f1, f2, f3⟩⟩, hA, hB⟩ := hSw;  go_simp; all_goals with_reducible rfl)
        simp only [Act.put, List.getElem_toArray, List.getElem_cons_zero, List.getElem_cons_succ, List.setIfInBounds_toArray, List.set_cons_zero, List.set_cons_succ]
        refine wpAnyH_take (i := 17) (v := ?_) rfl (by kernel_rfl) (by kernel_rfl) (by kernel_rfl) (fun _ _ _ h => h) (Or.inl ⟨by rfl, ?hy111⟩) (by assumption) ?ty111
        case hy111 => (intro w hSw; (try dsimp only at hSw); obtain ⟨⟨⟨e0, e1, e2, e3⟩, ⟨f0, f1, f2, f3⟩⟩, hA, hB⟩ := hSw;  go_simp; all_goals with_reducible rfl)
        simp only [Act.put, List.getElem_toArray, List.getElem_cons_zero, List.getElem_cons_succ, List.setIfInBounds_toArray, List.set_cons_zero, List.set_cons_succ]
        refine wpAnyH_take (i := 18) (v := .bool true) rfl (by kernel_rfl) (by kernel_rfl) (by kernel_rfl) (fun _ _ _ h => h) (Or.inl ⟨by rfl, ?hy112⟩) (by assumption) ?ty112
        case hy112 => (intro w hSw; (try dsimp only at hSw); obtain ⟨⟨⟨e0, e1, e2, e3⟩, ⟨f0, f1, f2, f3⟩⟩, hA, hB⟩ := hSw;  go_simp; first | (all_goals with_reducible rfl) | (simp; done) | (simp; omega))
        simp only [Act.put, List.getElem_toArray, List.getElem_cons_zero, List.getElem_cons_succ, List.setIfInBounds_toArray, List.set_cons_zero, List.set_cons_succ]
        refine wpAnyH_take (i := 19) (v := .bool true) rfl (by kernel_rfl) (by kernel_rfl) (by kernel_rfl) (fun _ _ _ h => h) (Or.inl ⟨by rfl, ?hy113⟩) (by assumption) ?ty113
        case hy113 => (intro w hSw; (try dsimp only at hSw); obtain ⟨⟨⟨e0, e1, e2, e3⟩, ⟨f0, f1, f2, f3⟩⟩, hA, hB⟩ := hSw;  go_simp; first | (all_goals with_reducible rfl) | (simp; done) | (simp; omega))
        simp only [Act.put, List.getElem_toArray, List.getElem_cons_zero, List.getElem_cons_succ, List.setIfInBounds_toArray, List.set_cons_zero, List.set_cons_succ]
        refine wpAnyH_take (i := 20) (v := ?_) rfl (by kernel_rfl) (by kernel_rfl) (by kernel_rfl) (fun _ _ _ h => h) (Or.inl ⟨by rfl, ?hy114⟩) (by assumption) ?ty114
        case hy114 => (intro w hSw; (try dsimp only at hSw); obtain ⟨⟨⟨e0, e1, e2, e3⟩, ⟨f0, f1, f2, f3⟩⟩, hA, hB⟩ := hSw;  go_simp; all_goals with_reducible rfl)
        simp only [Act.put, List.getElem_toArray, List.getElem_cons_zero, List.getElem_cons_succ, List.setIfInBounds_toArray, List.set_cons_zero, List.set_cons_succ]
        refine wpAnyH_take (i := 21) (v := ?_) rfl (by kernel_rfl) (by kernel_rfl) (by kernel_rfl) (fun _ _ _ h => h) (Or.inl ⟨by rfl, ?hy115⟩) (by assumption) ?ty115
        case hy115 => (intro w hSw; (try dsimp only at hSw); obtain ⟨⟨⟨e0, e1, e2, e3⟩, ⟨f0, f1, f2, f3⟩⟩, hA, hB⟩ := hSw;  go_simp; all_goals with_reducible rfl)
        simp only [Act.put, List.getElem_toArray, List.getElem_cons_zero, List.getElem_cons_succ, List.setIfInBounds_toArray, List.set_cons_zero, List.set_cons_succ]
        refine wpAnyH_take (i := 22) (v := ?_) rfl (by kernel_rfl) (by kernel_rfl) (by kernel_rfl) (fun _ _ _ h => h) (Or.inl ⟨by rfl, ?hy116⟩) (by assumption) ?ty116
        case hy116 => (intro w hSw; (try dsimp only at hSw); obtain ⟨⟨⟨e0, e1, e2, e3⟩, ⟨f0, f1, f2, f3⟩⟩, hA, hB⟩ := hSw;  go_simp; all_goals with_reducible rfl)
        simp only [Act.put, List.getElem_toArray, List.getElem_cons_zero, List.getElem_cons_succ, List.setIfInBounds_toArray, List.set_cons_zero, List.set_cons_succ]
        refine wpAnyH_take (i := 23) (v := ?_) rfl (by kernel_rfl) (by kernel_rfl) (by kernel_rfl) (fun _ _ _ h => h) (Or.inl ⟨by rfl, ?hy117⟩) (by assumption) ?ty117
        case hy117 => (intro w hSw; (try dsimp only at hSw); obtain ⟨⟨⟨e0, e1, e2, e3⟩, ⟨f0, f1, f2, f3⟩⟩, hA, hB⟩ := hSw;  go_simp; all_goals with_reducible rfl)
        simp only [Act.put, List.getElem_toArray, List.getElem_cons_zero, List.getElem_cons_succ, List.setIfInBounds_toArray, List.set_cons_zero, List.set_cons_succ]
        refine wpAnyH_take (i := 24) (v := ?_) rfl (by kernel_rfl) (by kernel_rfl) (by kernel_rfl) (fun _ _ _ h => h) (Or.inl ⟨by rfl, ?hy118⟩) (by assumption) ?ty118
        case hy118 => (intro w hSw; (try dsimp only at hSw); obtain ⟨⟨⟨e0, e1, e2, e3⟩, ⟨f0, f1, f2, f3⟩⟩, hA, hB⟩ := hSw;  go_simp; all_goals with_reducible rfl)
        simp only [Act.put, List.getElem_toArray, List.getElem_cons_zero, List.getElem_cons_succ, List.setIfInBounds_toArray, List.set_cons_zero, List.set_cons_succ]
        refine wpAnyH_take (i := 25) (v := ?_) rfl (by kernel_rfl) (by kernel_rfl) (by kernel_rfl) (fun _ _ _ h => h) (Or.inl ⟨by rfl, ?hy119⟩) (by assumption) ?ty119
        case hy119 => (intro w hSw; (try dsimp only at hSw); obtain ⟨⟨⟨e0, e1, e2, e3⟩, ⟨f0, f1, f2, f3⟩⟩, hA, hB⟩ := hSw;  go_simp; all_goals with_reducible rfl)
        simp only [Act.put, List.getElem_toArray, List.getElem_cons_zero, List.getElem_cons_succ, List.setIfInBounds_toArray, List.set_cons_zero, List.set_cons_succ]
        refine wpAnyH_take (i := 26) (v := ?_) rfl (by kernel_rfl) (by kernel_rfl) (by kernel_rfl) (fun _ _ _ h => h) (Or.inl ⟨by rfl, ?hy120⟩) (by assumption) ?ty120
        case hy120 => (intro w hSw; (try dsimp only at hSw); obtain ⟨⟨⟨e0, e1, e2, e3⟩, ⟨f0, f1, f2, f3⟩⟩, hA, hB⟩ := hSw;  go_simp; all_goals with_reducible rfl)
        simp only [Act.put, List.getElem_toArray, List.getElem_cons_zero, List.getElem_cons_succ, List.setIfInBounds_toArray, List.set_cons_zero, List.set_cons_succ]
        refine wpAnyH_take (i := 27) (v := ?_) rfl (by kernel_rfl) (by kernel_rfl) (by kernel_rfl) (fun _ _ _ h => h) (Or.inl ⟨by rfl, ?hy121⟩) (by assumption) ?ty121
        case hy121 => (intro w hSw; (try dsimp only at hSw); obtain ⟨⟨⟨e0, e1, e2, e3⟩, ⟨f0, f1, f2, f3⟩⟩, hA, hB⟩ := hSw;  go_simp; all_goals with_reducible rfl)
        simp only [Act.put, List.getElem_toArray, List.getElem_cons_zero, List.getElem_cons_succ, List.setIfInBounds_toArray, List.set_cons_zero, List.set_cons_succ]
        refine wpAnyH_take (i := 28) (v := ?_) rfl (by kernel_rfl) (by kernel_rfl) (by kernel_rfl) (fun _ _ _ h => h) (Or.inl ⟨by rfl, ?hy122⟩) (by assumption) ?ty122
        case hy122 => (intro w hSw; (try dsimp only at hSw); obtain ⟨⟨⟨e0, e1, e2, e3⟩, ⟨f0, f1, f2, f3⟩⟩, hA, hB⟩ := hSw;  go_simp; all_goals with_reducible rfl)
        simp only [Act.put, List.getElem_toArray, List.getElem_cons_zero, List.getElem_cons_succ, List.setIfInBounds_toArray, List.set_cons_zero, List.set_cons_succ]
        refine wpAnyH_take (i := 29) (v := .bool false) rfl (by kernel_rfl) (by kernel_rfl) (by kernel_rfl) (fun _ _ _ h => h) (Or.inl ⟨by rfl, ?hy123⟩) (by assumption) ?ty123
        case hy123 => (intro w hSw; (try dsimp only at hSw); obtain ⟨⟨⟨e0, e1, e2, e3⟩, ⟨f0, f1, f2, f3⟩⟩, hA, hB⟩ := hSw;  go_simp; first | (all_goals with_reducible rfl) | (simp; done) | (simp; omega))
        simp only [Act.put, List.getElem_toArray, List.getElem_cons_zero, List.getElem_cons_succ, List.setIfInBounds_toArray, List.set_cons_zero, List.set_cons_succ]
        refine wpAnyH_take (i := 30) (v := .bool false) rfl (by kernel_rfl) (by kernel_rfl) (by kernel_rfl) (fun _ _ _ h => h) (Or.inl ⟨by rfl, ?hy124⟩) (by assumption) ?ty124
        case hy124 => (intro w hSw; (try dsimp only at hSw); obtain ⟨⟨⟨e0, e1, e2, e3⟩, ⟨f0, f1, f2, f3⟩⟩, hA, hB⟩ := hSw;  go_simp; first | (all_goals with_reducible rfl) | (simp; done) | (simp; omega))
        simp only [Act.put, List.getElem_toArray, List.getElem_cons_zero, List.getElem_cons_succ, List.setIfInBounds_toArray, List.set_cons_zero, List.set_cons_succ]
        refine wpAnyH_take (i := 31) (v := ?_) rfl (by kernel_rfl) (by kernel_rfl) (by kernel_rfl) (fun _ _ _ h => h) (Or.inl ⟨by rfl, ?hy125⟩) (by assumption) ?ty125
        case hy125 => (intro w hSw; (try dsimp only at hSw); obtain ⟨⟨⟨e0, e1, e2, e3⟩, ⟨f0, f1, f2, f3⟩⟩, hA, hB⟩ := hSw;  go_simp; all_goals with_reducible rfl)
        simp only [Act.put, List.getElem_toArray, List.getElem_cons_zero, List.getElem_cons_succ, List.setIfInBounds_toArray, List.set_cons_zero, List.set_cons_succ]
        refine wpAnyH_take (i := 32) (v := undef) rfl (by kernel_rfl) (by kernel_rfl) (by kernel_rfl) (fun _ _ _ h => h) (Or.inr ⟨by rfl, rfl⟩) (by assumption) ?_
        simp only [Act.put, List.getElem_toArray, List.getElem_cons_zero, List.getElem_cons_succ, List.setIfInBounds_toArray, List.set_cons_zero, List.set_cons_succ]
        refine wpAnyH_take (i := 33) (v := undef) rfl (by kernel_rfl) (by kernel_rfl) (by kernel_rfl) (fun _ _ _ h => h) (Or.inr ⟨by rfl, rfl⟩) (by assumption) ?_
        simp only [Act.put, List.getElem_toArray, List.getElem_cons_zero, List.getElem_cons_succ, List.setIfInBounds_toArray, List.set_cons_zero, List.set_cons_succ]
        refine wpAnyH_take (i := 34) (v := undef) rfl (by kernel_rfl) (by kernel_rfl) (by kernel_rfl) (fun _ _ _ h => h) (Or.inr ⟨by rfl, rfl⟩) (by assumption) ?_
        simp only [Act.put, List.getElem_toArray, List.getElem_cons_zero, List.getElem_cons_succ, List.setIfInBounds_toArray, List.set_cons_zero, List.set_cons_succ]
        refine wpAnyH_take (i := 35) (v := undef) rfl (by kernel_rfl) (by kernel_rfl) (by kernel_rfl) (fun _ _ _ h => h) (Or.inr ⟨by rfl, rfl⟩) (by assumption) ?_
        simp only [Act.put, List.getElem_toArray, List.getElem_cons_zero, List.getElem_cons_succ, List.setIfInBounds_toArray, List.set_cons_zero, List.set_cons_succ]
        refine wpAnyH_take (i := 36) (v := undef) rfl (by kernel_rfl) (by kernel_rfl) (by kernel_rfl) (fun _ _ _ h => h) (Or.inr ⟨by rfl, rfl⟩) (by assumption) ?_
        simp only [Act.put, List.getElem_toArray, List.getElem_cons_zero, List.getElem_cons_succ, List.setIfInBounds_toArray, List.set_cons_zero, List.set_cons_succ]
        refine wpAnyH_take (i := 37) (v := undef) rfl (by kernel_rfl) (by kernel_rfl) (by kernel_rfl) (fun _ _ _ h => h) (Or.inr ⟨by rfl, rfl⟩) (by assumption) ?_
        simp only [Act.put, List.getElem_toArray, List.getElem_cons_zero, List.getElem_cons_succ, List.setIfInBounds_toArray, List.set_cons_zero, List.set_cons_succ]
        refine wpAnyH_take (i := 38) (v := undef) rfl (by kernel_rfl) (by kernel_rfl) (by kernel_rfl) (fun _ _ _ h => h) (Or.inr ⟨by rfl, rfl⟩) (by assumption) ?_
        simp only [Act.put, List.getElem_toArray, List.getElem_cons_zero, List.getElem_cons_succ, List.setIfInBounds_toArray, List.set_cons_zero, List.set_cons_succ]
        refine wpAnyH_take (i := 39) (v := undef) rfl (by kernel_rfl) (by kernel_rfl) (by kernel_rfl) (fun _ _ _ h => h) (Or.inr ⟨by rfl, rfl⟩) (by assumption) ?_
        simp only [Act.put, List.getElem_toArray, List.getElem_cons_zero, List.getElem_cons_succ, List.setIfInBounds_toArray, List.set_cons_zero, List.set_cons_succ]
        refine wpAnyH_take (i := 40) (v := undef) rfl (by kernel_rfl) (by kernel_rfl) (by kernel_rfl) (fun _ _ _ h => h) (Or.inr ⟨by rfl, rfl⟩) (by assumption) ?_
        simp only [Act.put, List.getElem_toArray, List.getElem_cons_zero, List.getElem_cons_succ, List.setIfInBounds_toArray, List.set_cons_zero, List.set_cons_succ]
        refine wpAnyH_take (i := 41) (v := undef) rfl (by kernel_rfl) (by kernel_rfl) (by kernel_rfl) (fun _ _ _ h => h) (Or.inr ⟨by rfl, rfl⟩) (by assumption) ?_
        simp only [Act.put, List.getElem_toArray, List.getElem_cons_zero, List.getElem_cons_succ, List.setIfInBounds_toArray, List.set_cons_zero, List.set_cons_succ]
        refine wpAnyH_take (i := 42) (v := undef) rfl (by kernel_rfl) (by kernel_rfl) (by kernel_rfl) (fun _ _ _ h => h) (Or.inr ⟨by rfl, rfl⟩) (by assumption) ?_
        simp only [Act.put, List.getElem_toArray, List.getElem_cons_zero, List.getElem_cons_succ, List.setIfInBounds_toArray, List.set_cons_zero, List.set_cons_succ]
        refine wpAnyH_take (i := 43) (v := .bool false) rfl (by kernel_rfl) (by kernel_rfl) (by kernel_rfl) (fun _ _ _ h => h) (Or.inl ⟨by rfl, ?hy126⟩) (by assumption) ?ty126
        case hy126 => (intro w hSw; (try dsimp only at hSw); obtain ⟨⟨⟨e0, e1, e2, e3⟩, ⟨f0, f1, f2, f3⟩⟩, hA, hB⟩ := hSw;  go_simp; first | (all_goals with_reducible rfl) | (simp; done) | (simp; omega))
        simp only [Act.put, List.getElem_toArray, List.getElem_cons_zero, List.getElem_cons_succ, List.setIfInBounds_toArray, List.set_cons_zero, List.set_cons_succ]
        refine wpAnyH_take (i := 44) (v := ?_) rfl (by kernel_rfl) (by kernel_rfl) (by kernel_rfl) (fun _ _ _ h => h) (Or.inl ⟨by rfl, ?hy127⟩) (by assumption) ?ty127
        case hy127 => (intro w hSw; (try dsimp only at hSw); obtain ⟨⟨⟨e0, e1, e2, e3⟩, ⟨f0, f1, f2, f3⟩⟩, hA, hB⟩ := hSw;  go_simp; all_goals with_reducible rfl)
        simp only [Act.put, List.getElem_toArray, List.getElem_cons_zero, List.getElem_cons_succ, List.setIfInBounds_toArray, List.set_cons_zero, List.set_cons_succ]
        refine wpAnyH_done (by kernel_rfl) ?_ _
        clear hHeld
        go_wp2
        go_ret
        exact ⟨by rw [HM.out]; rfl, (Below.refl _ _).drew⟩
    · have HM : Hid (r = false) := HV.out.trans (by simp [h2])
      clear HV
      go_wp2_with fail
      refine wp_region_held_drew (S := fun w' => ((w'.cell? ⟨g, o, none⟩ = some (.int .i64 au) ∧ w'.cell? ⟨g, o + 1, none⟩ = some (.int .i64 af) ∧ w'.cell? ⟨g, o + 2, none⟩ = some (.int .i64 ad) ∧ w'.cell? ⟨g, o + 3, none⟩ = some (slW s)) ∧ (w'.cell? ⟨h, k, none⟩ = some (.int .i64 bu) ∧ w'.cell? ⟨h, k + 1, none⟩ = some (.int .i64 bf) ∧ w'.cell? ⟨h, k + 2, none⟩ = some (.int .i64 bd) ∧ w'.cell? ⟨h, k + 3, none⟩ = some (slW s'))) ∧ IsSl lo w' s ab ∧ IsSl lo' w' s' bb) (by kernel_rfl) ?hS128 (fun hHeld => ?_)
      case hS128 => exact ⟨⟨⟨c0, c1, c2, c3⟩, ⟨d0, d1, d2, d3⟩⟩, hs, hs'⟩
      refine wpAnyH_take (i := 0) (v := ?_) rfl (by kernel_rfl) (by kernel_rfl) (by kernel_rfl) (fun _ _ _ h => h) (Or.inl ⟨by rfl, ?hy129⟩) (by assumption) ?ty129
      case hy129 => (intro w hSw; (try dsimp only at hSw); obtain ⟨⟨⟨e0, e1, e2, e3⟩, ⟨f0, f1, f2, f3⟩⟩, hA, hB⟩ := hSw;  go_simp; all_goals with_reducible rfl)
      simp only [Act.put, List.getElem_toArray, List.getElem_cons_zero, List.setIfInBounds_toArray, List.set_cons_zero, List.set_cons_succ]
      refine wpAnyH_take (i := 1) (v := ?_) rfl (by kernel_rfl) (by kernel_rfl) (by kernel_rfl) (fun _ _ _ h => h) (Or.inl ⟨by rfl, ?hy130⟩) (by assumption) ?ty130
      case hy130 => (intro w hSw; (try dsimp only at hSw); obtain ⟨⟨⟨e0, e1, e2, e3⟩, ⟨f0, f1, f2, f3⟩⟩, hA, hB⟩ := hSw;  go_simp; all_goals with_reducible rfl)
      simp only [Act.put, List.getElem_toArray, List.getElem_cons_zero, List.getElem_cons_succ, List.setIfInBounds_toArray, List.set_cons_zero, List.set_cons_succ]
      refine wpAnyH_take (i := 2) (v := ?_) rfl (by kernel_rfl) (by kernel_rfl) (by kernel_rfl) (fun _ _ _ h => h) (Or.inl ⟨by rfl, ?hy131⟩) (by assumption) ?ty131
      case hy131 => (intro w hSw; (try dsimp only at hSw); obtain ⟨⟨⟨e0, e1, e2, e3⟩, ⟨f0, f1, f2, f3⟩⟩, hA, hB⟩ := hSw;  go_simp; all_goals with_reducible rfl)
      simp only [Act.put, List.getElem_toArray, List.getElem_cons_zero, List.getElem_cons_succ, List.setIfInBounds_toArray, List.set_cons_zero, List.set_cons_succ]
      refine wpAnyH_take (i := 3) (v := ?_) rfl (by kernel_rfl) (by kernel_rfl) (by kernel_rfl) (fun _ _ _ h => h) (Or.inl ⟨by rfl, ?hy132⟩) (by assumption) ?ty132
      case hy132 => (intro w hSw; (try dsimp only at hSw); obtain ⟨⟨⟨e0, e1, e2, e3⟩, ⟨f0, f1, f2, f3⟩⟩, hA, hB⟩ := hSw;  go_simp; all_goals with_reducible rfl)
      simp only [Act.put, List.getElem_toArray, List.getElem_cons_zero, List.getElem_cons_succ, List.setIfInBounds_toArray, List.set_cons_zero, List.set_cons_succ]
      refine wpAnyH_take (i := 4) (v := ?_) rfl (by kernel_rfl) (by kernel_rfl) (by kernel_rfl) (fun _ _ _ h => h) (Or.inl ⟨by rfl, ?hy133⟩) (by assumption) ?ty133
      case hy133 => (intro w hSw; (try dsimp only at hSw); obtain ⟨⟨⟨e0, e1, e2, e3⟩, ⟨f0, f1, f2, f3⟩⟩, hA, hB⟩ := hSw;  go_simp; all_goals with_reducible rfl)
      simp only [Act.put, List.getElem_toArray, List.getElem_cons_zero, List.getElem_cons_succ, List.setIfInBounds_toArray, List.set_cons_zero, List.set_cons_succ]
      refine wpAnyH_take (i := 5) (v := ?_) rfl (by kernel_rfl) (by kernel_rfl) (by kernel_rfl) (fun _ _ _ h => h) (Or.inl ⟨by rfl, ?hy134⟩) (by assumption) ?ty134
      case hy134 => (intro w hSw; (try dsimp only at hSw); obtain ⟨⟨⟨e0, e1, e2, e3⟩, ⟨f0, f1, f2, f3⟩⟩, hA, hB⟩ := hSw;  go_simp; all_goals with_reducible rfl)
      simp only [Act.put, List.getElem_toArray, List.getElem_cons_zero, List.getElem_cons_succ, List.setIfInBounds_toArray, List.set_cons_zero, List.set_cons_succ]
      refine wpAnyH_take (i := 6) (v := ?_) rfl (by kernel_rfl) (by kernel_rfl) (by kernel_rfl) (fun _ _ _ h => h) (Or.inl ⟨by rfl, ?hy135⟩) (by assumption) ?ty135
      case hy135 => (intro w hSw; (try dsimp only at hSw); obtain ⟨⟨⟨e0, e1, e2, e3⟩, ⟨f0, f1, f2, f3⟩⟩, hA, hB⟩ := hSw;  go_simp; all_goals with_reducible rfl)
      simp only [Act.put, List.getElem_toArray, List.getElem_cons_zero, List.getElem_cons_succ, List.setIfInBounds_toArray, List.set_cons_zero, List.set_cons_succ]
      refine wpAnyH_take (i := 7) (v := ?_) rfl (by kernel_rfl) (by kernel_rfl) (by kernel_rfl) (fun _ _ _ h => h) (Or.inl ⟨by rfl, ?hy136⟩) (by assumption) ?ty136
      case hy136 => (intro w hSw; (try dsimp only at hSw); obtain ⟨⟨⟨e0, e1, e2, e3⟩, ⟨f0, f1, f2, f3⟩⟩, hA, hB⟩ := hSw;  go_simp; all_goals with_reducible rfl)
      simp only [Act.put, List.getElem_toArray, List.getElem_cons_zero, List.getElem_cons_succ, List.setIfInBounds_toArray, List.set_cons_zero, List.set_cons_succ]
      refine wpAnyH_take (i := 8) (v := .bool true) rfl (by kernel_rfl) (by kernel_rfl) (by kernel_rfl) (fun _ _ _ h => h) (Or.inl ⟨by rfl, ?hy137⟩) (by assumption) ?ty137
      case hy137 => (intro w hSw; (try dsimp only at hSw); obtain ⟨⟨⟨e0, e1, e2, e3⟩, ⟨f0, f1, f2, f3⟩⟩, hA, hB⟩ := hSw;  go_simp; first | (all_goals with_reducible rfl) | (simp; done) | (simp; omega))
      simp only [Act.put, List.getElem_toArray, List.getElem_cons_zero, List.getElem_cons_succ, List.setIfInBounds_toArray, List.set_cons_zero, List.set_cons_succ]
      refine wpAnyH_take (i := 9) (v := ?_) rfl (by kernel_rfl) (by kernel_rfl) (by kernel_rfl) (fun _ _ _ h => h) (Or.inl ⟨by rfl, ?hy138⟩) (by assumption) ?ty138
      case hy138 => (intro w hSw; (try dsimp only at hSw); obtain ⟨⟨⟨e0, e1, e2, e3⟩, ⟨f0, f1, f2, f3⟩⟩, hA, hB⟩ := hSw;  go_simp; all_goals with_reducible rfl)
      simp only [Act.put, List.getElem_toArray, List.getElem_cons_zero, List.getElem_cons_succ, List.setIfInBounds_toArray, List.set_cons_zero, List.set_cons_succ]
      refine wpAnyH_take (i := 10) (v := ?_) rfl (by kernel_rfl) (by kernel_rfl) (by kernel_rfl) (fun _ _ _ h => h) (Or.inl ⟨by rfl, ?hy139⟩) (by assumption) ?ty139
      case hy139 => (intro w hSw; (try dsimp only at hSw); obtain ⟨⟨⟨e0, e1, e2, e3⟩, ⟨f0, f1, f2, f3⟩⟩, hA, hB⟩ := hSw;  go_simp; all_goals with_reducible rfl)
      simp only [Act.put, List.getElem_toArray, List.getElem_cons_zero, List.getElem_cons_succ, List.setIfInBounds_toArray, List.set_cons_zero, List.set_cons_succ]
      refine wpAnyH_take (i := 11) (v := ?_) rfl (by kernel_rfl) (by kernel_rfl) (by kernel_rfl) (fun _ _ _ h => h) (Or.inl ⟨by rfl, ?hy140⟩) (by assumption) ?ty140
      case hy140 => (intro w hSw; (try dsimp only at hSw); obtain ⟨⟨⟨e0, e1, e2, e3⟩, ⟨f0, f1, f2, f3⟩⟩, hA, hB⟩ := hSw;  go_simp; all_goals with_reducible rfl)
      simp only [Act.put, List.getElem_toArray, List.getElem_cons_zero, List.getElem_cons_succ, List.setIfInBounds_toArray, List.set_cons_zero, List.set_cons_succ]
      refine wpAnyH_take (i := 12) (v := ?_) rfl (by kernel_rfl) (by kernel_rfl) (by kernel_rfl) (fun _ _ _ h => h) (Or.inl ⟨by rfl, ?hy141⟩) (by assumption) ?ty141
      case hy141 => (intro w hSw; (try dsimp only at hSw); obtain ⟨⟨⟨e0, e1, e2, e3⟩, ⟨f0, f1, f2, f3⟩⟩, hA, hB⟩ := hSw;  go_simp; all_goals with_reducible rfl)
      simp only [Act.put, List.getElem_toArray, List.getElem_cons_zero, List.getElem_cons_succ, List.setIfInBounds_toArray, List.set_cons_zero, List.set_cons_succ]
      refine wpAnyH_take (i := 13) (v := ?_) rfl (by kernel_rfl) (by kernel_rfl) (by kernel_rfl) (fun _ _ _ h => h) (Or.inl ⟨by rfl, ?hy142⟩) (by assumption) ?ty142
      case hy142 => (intro w hSw; (try dsimp only at hSw); obtain ⟨⟨⟨e0, e1, e2, e3⟩, ⟨f0, f1, f2, f3⟩⟩, hA, hB⟩ := hSw;  go_simp; all_goals with_reducible rfl)
      simp only [Act.put, List.getElem_toArray, List.getElem_cons_zero, List.getElem_cons_succ, List.setIfInBounds_toArray, List.set_cons_zero, List.set_cons_succ]
      refine wpAnyH_take (i := 14) (v := ?_) rfl (by kernel_rfl) (by kernel_rfl) (by kernel_rfl) (fun _ _ _ h => h) (Or.inl ⟨by rfl, ?hy143⟩) (by assumption) ?ty143
      case hy143 => (intro w hSw; (try dsimp only at hSw); obtain ⟨⟨⟨e0, e1, e2, e3⟩, ⟨f0, f1, f2, f3⟩⟩, hA, hB⟩ := hSw;  go_simp; all_goals with_reducible rfl)
      simp only [Act.put, List.getElem_toArray, List.getElem_cons_zero, List.getElem_cons_succ, List.setIfInBounds_toArray, List.set_cons_zero, List.set_cons_succ]
      refine wpAnyH_take (i := 15) (v := ?_) rfl (by kernel_rfl) (by kernel_rfl) (by kernel_rfl) (fun _ _ _ h => h) (Or.inl ⟨by rfl, ?hy144⟩) (by assumption) ?ty144
      case hy144 => (intro w hSw; (try dsimp only at hSw); obtain ⟨⟨⟨e0, e1, e2, e3⟩, ⟨f0, f1, f2, f3⟩⟩, hA, hB⟩ := hSw;  go_simp; all_goals with_reducible rfl)
      simp only [Act.put, List.getElem_toArray, List.getElem_cons_zero, List.getElem_cons_succ, List.setIfInBounds_toArray, List.set_cons_zero, List.set_cons_succ]
      refine wpAnyH_take (i := 16) (v := ?_) rfl (by kernel_rfl) (by kernel_rfl) (by kernel_rfl) (fun _ _ _ h => h) (Or.inl ⟨by rfl, ?hy145⟩) (by assumption) ?ty145
      case hy145 => (intro w hSw; (try dsimp only at hSw); obtain ⟨⟨⟨e0, e1, e2, e3⟩, ⟨f0, f1, f2, f3⟩⟩, hA, hB⟩ := hSw;  go_simp; all_goals with_reducible rfl)
      simp only [Act.put, List.getElem_toArray, List.getElem_cons_zero, List.getElem_cons_succ, List.setIfInBounds_toArray, List.set_cons_zero, List.set_cons_succ]
      refine wpAnyH_take (i := 17) (v := ?_) rfl (by kernel_rfl) (by kernel_rfl) (by kernel_rfl) (fun _ _ _ h => h) (Or.inl ⟨by rfl, ?hy146⟩) (by assumption) ?ty146
      case hy146 => (intro w hSw; (try dsimp only at hSw); obtain ⟨⟨⟨e0, e1, e2, e3⟩, ⟨f0, f1, f2, f3⟩⟩, hA, hB⟩ := hSw;  go_simp; all_goals with_reducible rfl)
      simp only [Act.put, List.getElem_toArray, List.getElem_cons_zero, List.getElem_cons_succ, List.setIfInBounds_toArray, List.set_cons_zero, List.set_cons_succ]
      refine wpAnyH_take (i := 18) (v := .bool false) rfl (by kernel_rfl) (by kernel_rfl) (by kernel_rfl) (fun _ _ _ h => h) (Or.inl ⟨by rfl, ?hy147⟩) (by assumption) ?ty147
      case hy147 => (intro w hSw; (try dsimp only at hSw); obtain ⟨⟨⟨e0, e1, e2, e3⟩, ⟨f0, f1, f2, f3⟩⟩, hA, hB⟩ := hSw;  go_simp; first | (all_goals with_reducible rfl) | (simp; done) | (simp; omega))
      simp only [Act.put, List.getElem_toArray, List.getElem_cons_zero, List.getElem_cons_succ, List.setIfInBounds_toArray, List.set_cons_zero, List.set_cons_succ]
      refine wpAnyH_take (i := 19) (v := .bool false) rfl (by kernel_rfl) (by kernel_rfl) (by kernel_rfl) (fun _ _ _ h => h) (Or.inl ⟨by rfl, ?hy148⟩) (by assumption) ?ty148
      case hy148 => (intro w hSw; (try dsimp only at hSw); obtain ⟨⟨⟨e0, e1, e2, e3⟩, ⟨f0, f1, f2, f3⟩⟩, hA, hB⟩ := hSw;  go_simp; first | (all_goals with_reducible rfl) | (simp; done) | (simp; omega))
      simp only [Act.put, List.getElem_toArray, List.getElem_cons_zero, List.getElem_cons_succ, List.setIfInBounds_toArray, List.set_cons_zero, List.set_cons_succ]
      refine wpAnyH_take (i := 20) (v := ?_) rfl (by kernel_rfl) (by kernel_rfl) (by kernel_rfl) (fun _ _ _ h => h) (Or.inl ⟨by rfl, ?hy149⟩) (by assumption) ?ty149
      case hy149 => (intro w hSw; (try dsimp only at hSw); obtain ⟨⟨⟨e0, e1, e2, e3⟩, ⟨f0, f1, f2, f3⟩⟩, hA, hB⟩ := hSw;  go_simp; all_goals with_reducible rfl)
      simp only [Act.put, List.getElem_toArray, List.getElem_cons_zero, List.getElem_cons_succ, List.setIfInBounds_toArray, List.set_cons_zero, List.set_cons_succ]
      refine wpAnyH_take (i := 21) (v := undef) rfl (by kernel_rfl) (by kernel_rfl) (by kernel_rfl) (fun _ _ _ h => h) (Or.inr ⟨by rfl, rfl⟩) (by assumption) ?_
      simp only [Act.put, List.getElem_toArray, List.getElem_cons_zero, List.getElem_cons_succ, List.setIfInBounds_toArray, List.set_cons_zero, List.set_cons_succ]
      refine wpAnyH_take (i := 22) (v := undef) rfl (by kernel_rfl) (by kernel_rfl) (by kernel_rfl) (fun _ _ _ h => h) (Or.inr ⟨by rfl, rfl⟩) (by assumption) ?_
      simp only [Act.put, List.getElem_toArray, List.getElem_cons_zero, List.getElem_cons_succ, List.setIfInBounds_toArray, List.set_cons_zero, List.set_cons_succ]
      refine wpAnyH_take (i := 23) (v := undef) rfl (by kernel_rfl) (by kernel_rfl) (by kernel_rfl) (fun _ _ _ h => h) (Or.inr ⟨by rfl, rfl⟩) (by assumption) ?_
      simp only [Act.put, List.getElem_toArray, List.getElem_cons_zero, List.getElem_cons_succ, List.setIfInBounds_toArray, List.set_cons_zero, List.set_cons_succ]
      refine wpAnyH_take (i := 24) (v := undef) rfl (by kernel_rfl) (by kernel_rfl) (by kernel_rfl) (fun _ _ _ h => h) (Or.inr ⟨by rfl, rfl⟩) (by assumption) ?_
      simp only [Act.put, List.getElem_toArray, List.getElem_cons_zero, List.getElem_cons_succ, List.setIfInBounds_toArray, List.set_cons_zero, List.set_cons_succ]
      refine wpAnyH_take (i := 25) (v := undef) rfl (by kernel_rfl) (by kernel_rfl) (by kernel_rfl) (fun _ _ _ h => h) (Or.inr ⟨by rfl, rfl⟩) (by assumption) ?_
      simp only [Act.put, List.getElem_toArray, List.getElem_cons_zero, List.getElem_cons_succ, List.setIfInBounds_toArray, List.set_cons_zero, List.set_cons_succ]
      refine wpAnyH_take (i := 26) (v := undef) rfl (by kernel_rfl) (by kernel_rfl) (by kernel_rfl) (fun _ _ _ h => h) (Or.inr ⟨by rfl, rfl⟩) (by assumption) ?_
      simp only [Act.put, List.getElem_toArray, List.getElem_cons_zero, List.getElem_cons_succ, List.setIfInBounds_toArray, List.set_cons_zero, List.set_cons_succ]
      refine wpAnyH_take (i := 27) (v := undef) rfl (by kernel_rfl) (by kernel_rfl) (by kernel_rfl) (fun _ _ _ h => h) (Or.inr ⟨by rfl, rfl⟩) (by assumption) ?_
      simp only [Act.put, List.getElem_toArray, List.getElem_cons_zero, List.getElem_cons_succ, List.setIfInBounds_toArray, List.set_cons_zero, List.set_cons_succ]
      refine wpAnyH_take (i := 28) (v := undef) rfl (by kernel_rfl) (by kernel_rfl) (by kernel_rfl) (fun _ _ _ h => h) (Or.inr ⟨by rfl, rfl⟩) (by assumption) ?_
      simp only [Act.put, List.getElem_toArray, List.getElem_cons_zero, List.getElem_cons_succ, List.setIfInBounds_toArray, List.set_cons_zero, List.set_cons_succ]
      refine wpAnyH_take (i := 29) (v := undef) rfl (by kernel_rfl) (by kernel_rfl) (by kernel_rfl) (fun _ _ _ h => h) (Or.inr ⟨by rfl, rfl⟩) (by assumption) ?_
      simp only [Act.put, List.getElem_toArray, List.getElem_cons_zero, List.getElem_cons_succ, List.setIfInBounds_toArray, List.set_cons_zero, List.set_cons_succ]
      refine wpAnyH_take (i := 30) (v := .bool false) rfl (by kernel_rfl) (by kernel_rfl) (by kernel_rfl) (fun _ _ _ h => h) (Or.inl ⟨by rfl, ?hy150⟩) (by assumption) ?ty150
      case hy150 => (intro w hSw; (try dsimp only at hSw); obtain ⟨⟨⟨e0, e1, e2, e3⟩, ⟨f0, f1, f2, f3⟩⟩, hA, hB⟩ := hSw;  go_simp; first | (all_goals with_reducible rfl) | (simp; done) | (simp; omega))
      simp only [Act.put, List.getElem_toArray, List.getElem_cons_zero, List.getElem_cons_succ, List.setIfInBounds_toArray, List.set_cons_zero, List.set_cons_succ]
      refine wpAnyH_take (i := 31) (v := ?_) rfl (by kernel_rfl) (by kernel_rfl) (by kernel_rfl) (fun _ _ _ h => h) (Or.inl ⟨by rfl, ?hy151⟩) (by assumption) ?ty151
      case hy151 => (intro w hSw; (try dsimp only at hSw); obtain ⟨⟨⟨e0, e1, e2, e3⟩, ⟨f0, f1, f2, f3⟩⟩, hA, hB⟩ := hSw;  go_simp; all_goals with_reducible rfl)
      simp only [Act.put, List.getElem_toArray, List.getElem_cons_zero, List.getElem_cons_succ, List.setIfInBounds_toArray, List.set_cons_zero, List.set_cons_succ]
      refine wpAnyH_take (i := 32) (v := undef) rfl (by kernel_rfl) (by kernel_rfl) (by kernel_rfl) (fun _ _ _ h => h) (Or.inr ⟨by rfl, rfl⟩) (by assumption) ?_
      simp only [Act.put, List.getElem_toArray, List.getElem_cons_zero, List.getElem_cons_succ, List.setIfInBounds_toArray, List.set_cons_zero, List.set_cons_succ]
      refine wpAnyH_take (i := 33) (v := undef) rfl (by kernel_rfl) (by kernel_rfl) (by kernel_rfl) (fun _ _ _ h => h) (Or.inr ⟨by rfl, rfl⟩) (by assumption) ?_
      simp only [Act.put, List.getElem_toArray, List.getElem_cons_zero, List.getElem_cons_succ, List.setIfInBounds_toArray, List.set_cons_zero, List.set_cons_succ]
      refine wpAnyH_take (i := 34) (v := undef) rfl (by kernel_rfl) (by kernel_rfl) (by kernel_rfl) (fun _ _ _ h => h) (Or.inr ⟨by rfl, rfl⟩) (by assumption) ?_
      simp only [Act.put, List.getElem_toArray, List.getElem_cons_zero, List.getElem_cons_succ, List.setIfInBounds_toArray, List.set_cons_zero, List.set_cons_succ]
      refine wpAnyH_take (i := 35) (v := undef) rfl (by kernel_rfl) (by kernel_rfl) (by kernel_rfl) (fun _ _ _ h => h) (Or.inr ⟨by rfl, rfl⟩) (by assumption) ?_
      simp only [Act.put, List.getElem_toArray, List.getElem_cons_zero, List.getElem_cons_succ, List.setIfInBounds_toArray, List.set_cons_zero, List.set_cons_succ]
      refine wpAnyH_take (i := 36) (v := undef) rfl (by kernel_rfl) (by kernel_rfl) (by kernel_rfl) (fun _ _ _ h => h) (Or.inr ⟨by rfl, rfl⟩) (by assumption) ?_
      simp only [Act.put, List.getElem_toArray, List.getElem_cons_zero, List.getElem_cons_succ, List.setIfInBounds_toArray, List.set_cons_zero, List.set_cons_succ]
      refine wpAnyH_take (i := 37) (v := undef) rfl (by kernel_rfl) (by kernel_rfl) (by kernel_rfl) (fun _ _ _ h => h) (Or.inr ⟨by rfl, rfl⟩) (by assumption) ?_
      simp only [Act.put, List.getElem_toArray, List.getElem_cons_zero, List.getElem_cons_succ, List.setIfInBounds_toArray, List.set_cons_zero, List.set_cons_succ]
      refine wpAnyH_take (i := 38) (v := undef) rfl (by kernel_rfl) (by kernel_rfl) (by kernel_rfl) (fun _ _ _ h => h) (Or.inr ⟨by rfl, rfl⟩) (by assumption) ?_
      simp only [Act.put, List.getElem_toArray, List.getElem_cons_zero, List.getElem_cons_succ, List.setIfInBounds_toArray, List.set_cons_zero, List.set_cons_succ]
      refine wpAnyH_take (i := 39) (v := undef) rfl (by kernel_rfl) (by kernel_rfl) (by kernel_rfl) (fun _ _ _ h => h) (Or.inr ⟨by rfl, rfl⟩) (by assumption) ?_
      simp only [Act.put, List.getElem_toArray, List.getElem_cons_zero, List.getElem_cons_succ, List.setIfInBounds_toArray, List.set_cons_zero, List.set_cons_succ]
      refine wpAnyH_take (i := 40) (v := undef) rfl (by kernel_rfl) (by kernel_rfl) (by kernel_rfl) (fun _ _ _ h => h) (Or.inr ⟨by rfl, rfl⟩) (by assumption) ?_
      simp only [Act.put, List.getElem_toArray, List.getElem_cons_zero, List.getElem_cons_succ, List.setIfInBounds_toArray, List.set_cons_zero, List.set_cons_succ]
      refine wpAnyH_take (i := 41) (v := undef) rfl (by kernel_rfl) (by kernel_rfl) (by kernel_rfl) (fun _ _ _ h => h) (Or.inr ⟨by rfl, rfl⟩) (by assumption) ?_
      simp only [Act.put, List.getElem_toArray, List.getElem_cons_zero, List.getElem_cons_succ, List.setIfInBounds_toArray, List.set_cons_zero, List.set_cons_succ]
      refine wpAnyH_take (i := 42) (v := undef) rfl (by kernel_rfl) (by kernel_rfl) (by kernel_rfl) (fun _ _ _ h => h) (Or.inr ⟨by rfl, rfl⟩) (by assumption) ?_
      simp only [Act.put, List.getElem_toArray, List.getElem_cons_zero, List.getElem_cons_succ, List.setIfInBounds_toArray, List.set_cons_zero, List.set_cons_succ]
      refine wpAnyH_take (i := 43) (v := .bool false) rfl (by kernel_rfl) (by kernel_rfl) (by kernel_rfl) (fun _ _ _ h => h) (Or.inl ⟨by rfl, ?hy152⟩) (by assumption) ?ty152
      case hy152 => (intro w hSw; (try dsimp only at hSw); obtain ⟨⟨⟨e0, e1, e2, e3⟩, ⟨f0, f1, f2, f3⟩⟩, hA, hB⟩ := hSw;  go_simp; first | (all_goals with_reducible rfl) | (simp; done) | (simp; omega))
      simp only [Act.put, List.getElem_toArray, List.getElem_cons_zero, List.getElem_cons_succ, List.setIfInBounds_toArray, List.set_cons_zero, List.set_cons_succ]
      refine wpAnyH_take (i := 44) (v := ?_) rfl (by kernel_rfl) (by kernel_rfl) (by kernel_rfl) (fun _ _ _ h => h) (Or.inl ⟨by rfl, ?hy153⟩) (by assumption) ?ty153
      case hy153 => (intro w hSw; (try dsimp only at hSw); obtain ⟨⟨⟨e0, e1, e2, e3⟩, ⟨f0, f1, f2, f3⟩⟩, hA, hB⟩ := hSw;  go_simp; all_goals with_reducible rfl)
      simp only [Act.put, List.getElem_toArray, List.getElem_cons_zero, List.getElem_cons_succ, List.setIfInBounds_toArray, List.set_cons_zero, List.set_cons_succ]
      refine wpAnyH_done (by kernel_rfl) ?_ _
      clear hHeld
      go_wp2
      go_ret
      exact ⟨by rw [HM.out]; rfl, (Below.refl _ _).drew⟩
  · have HM : Hid (r = false) := HV.out.trans (by simp [h1])
    clear HV
    go_wp2_with fail
    refine wp_region_held_drew (S := fun w' => ((w'.cell? ⟨g, o, none⟩ = some (.int .i64 au) ∧ w'.cell? ⟨g, o + 1, none⟩ = some (.int .i64 af) ∧ w'.cell? ⟨g, o + 2, none⟩ = some (.int .i64 ad) ∧ w'.cell? ⟨g, o + 3, none⟩ = some (slW s)) ∧ (w'.cell? ⟨h, k, none⟩ = some (.int .i64 bu) ∧ w'.cell? ⟨h, k + 1, none⟩ = some (.int .i64 bf) ∧ w'.cell? ⟨h, k + 2, none⟩ = some (.int .i64 bd) ∧ w'.cell? ⟨h, k + 3, none⟩ = some (slW s'))) ∧ IsSl lo w' s ab ∧ IsSl lo' w' s' bb) (by kernel_rfl) ?hS154 (fun hHeld => ?_)
    case hS154 => exact ⟨⟨⟨c0, c1, c2, c3⟩, ⟨d0, d1, d2, d3⟩⟩, hs, hs'⟩
    refine wpAnyH_take (i := 0) (v := ?_) rfl (by kernel_rfl) (by kernel_rfl) (by kernel_rfl) (fun _ _ _ h => h) (Or.inl ⟨by rfl, ?hy155⟩) (by assumption) ?ty155
    case hy155 => (intro w hSw; (try dsimp only at hSw); obtain ⟨⟨⟨e0, e1, e2, e3⟩, ⟨f0, f1, f2, f3⟩⟩, hA, hB⟩ := hSw;  go_simp; all_goals with_reducible rfl)
    simp only [Act.put, List.getElem_toArray, List.getElem_cons_zero, List.setIfInBounds_toArray, List.set_cons_zero, List.set_cons_succ]
    refine wpAnyH_take (i := 1) (v := ?_) rfl (by kernel_rfl) (by kernel_rfl) (by kernel_rfl) (fun _ _ _ h => h) (Or.inl ⟨by rfl, ?hy156⟩) (by assumption) ?ty156
    case hy156 => (intro w hSw; (try dsimp only at hSw); obtain ⟨⟨⟨e0, e1, e2, e3⟩, ⟨f0, f1, f2, f3⟩⟩, hA, hB⟩ := hSw;  go_simp; all_goals with_reducible rfl)
    simp only [Act.put, List.getElem_toArray, List.getElem_cons_zero, List.getElem_cons_succ, List.setIfInBounds_toArray, List.set_cons_zero, List.set_cons_succ]
    refine wpAnyH_take (i := 2) (v := ?_) rfl (by kernel_rfl) (by kernel_rfl) (by kernel_rfl) (fun _ _ _ h => h) (Or.inl ⟨by rfl, ?hy157⟩) (by assumption) ?ty157
    case hy157 => (intro w hSw; (try dsimp only at hSw); obtain ⟨⟨⟨e0, e1, e2, e3⟩, ⟨f0, f1, f2, f3⟩⟩, hA, hB⟩ := hSw;  go_simp; all_goals with_reducible rfl)
    simp only [Act.put, List.getElem_toArray, List.getElem_cons_zero, List.getElem_cons_succ, List.setIfInBounds_toArray, List.set_cons_zero, List.set_cons_succ]
    refine wpAnyH_take (i := 3) (v := ?_) rfl (by kernel_rfl) (by kernel_rfl) (by kernel_rfl) (fun _ _ _ h => h) (Or.inl ⟨by rfl, ?hy158⟩) (by assumption) ?ty158
    case hy158 => (intro w hSw; (try dsimp only at hSw); obtain ⟨⟨⟨e0, e1, e2, e3⟩, ⟨f0, f1, f2, f3⟩⟩, hA, hB⟩ := hSw;  go_simp; all_goals with_reducible rfl)
    simp only [Act.put, List.getElem_toArray, List.getElem_cons_zero, List.getElem_cons_succ, List.setIfInBounds_toArray, List.set_cons_zero, List.set_cons_succ]
    refine wpAnyH_take (i := 4) (v := ?_) rfl (by kernel_rfl) (by kernel_rfl) (by kernel_rfl) (fun _ _ _ h => h) (Or.inl ⟨by rfl, ?hy159⟩) (by assumption) ?ty159
    case hy159 => (intro w hSw; (try dsimp only at hSw); obtain ⟨⟨⟨e0, e1, e2, e3⟩, ⟨f0, f1, f2, f3⟩⟩, hA, hB⟩ := hSw;  go_simp; all_goals with_reducible rfl)
    simp only [Act.put, List.getElem_toArray, List.getElem_cons_zero, List.getElem_cons_succ, List.setIfInBounds_toArray, List.set_cons_zero, List.set_cons_succ]
    refine wpAnyH_take (i := 5) (v := ?_) rfl (by kernel_rfl) (by kernel_rfl) (by kernel_rfl) (fun _ _ _ h => h) (Or.inl ⟨by rfl, ?hy160⟩) (by assumption) ?ty160
    case hy160 => (intro w hSw; (try dsimp only at hSw); obtain ⟨⟨⟨e0, e1, e2, e3⟩, ⟨f0, f1, f2, f3⟩⟩, hA, hB⟩ := hSw;  go_simp; all_goals with_reducible rfl)
    simp only [Act.put, List.getElem_toArray, List.getElem_cons_zero, List.getElem_cons_succ, List.setIfInBounds_toArray, List.set_cons_zero, List.set_cons_succ]
    refine wpAnyH_take (i := 6) (v := ?_) rfl (by kernel_rfl) (by kernel_rfl) (by kernel_rfl) (fun _ _ _ h => h) (Or.inl ⟨by rfl, ?hy161⟩) (by assumption) ?ty161
    case hy161 => (intro w hSw; (try dsimp only at hSw); obtain ⟨⟨⟨e0, e1, e2, e3⟩, ⟨f0, f1, f2, f3⟩⟩, hA, hB⟩ := hSw;  go_simp; all_goals with_reducible rfl)
    simp only [Act.put, List.getElem_toArray, List.getElem_cons_zero, List.getElem_cons_succ, List.setIfInBounds_toArray, List.set_cons_zero, List.set_cons_succ]
    refine wpAnyH_take (i := 7) (v := ?_) rfl (by kernel_rfl) (by kernel_rfl) (by kernel_rfl) (fun _ _ _ h => h) (Or.inl ⟨by rfl, ?hy162⟩) (by assumption) ?ty162
    case hy162 => (intro w hSw; (try dsimp only at hSw); obtain ⟨⟨⟨e0, e1, e2, e3⟩, ⟨f0, f1, f2, f3⟩⟩, hA, hB⟩ := hSw;  go_simp; all_goals with_reducible rfl)
    simp only [Act.put, List.getElem_toArray, List.getElem_cons_zero, List.getElem_cons_succ, List.setIfInBounds_toArray, List.set_cons_zero, List.set_cons_succ]
    refine wpAnyH_take (i := 8) (v := .bool false) rfl (by kernel_rfl) (by kernel_rfl) (by kernel_rfl) (fun _ _ _ h => h) (Or.inl ⟨by rfl, ?hy163⟩) (by assumption) ?ty163
    case hy163 => (intro w hSw; (try dsimp only at hSw); obtain ⟨⟨⟨e0, e1, e2, e3⟩, ⟨f0, f1, f2, f3⟩⟩, hA, hB⟩ := hSw;  go_simp; first | (all_goals with_reducible rfl) | (simp; done) | (simp; omega))
    simp only [Act.put, List.getElem_toArray, List.getElem_cons_zero, List.getElem_cons_succ, List.setIfInBounds_toArray, List.set_cons_zero, List.set_cons_succ]
    refine wpAnyH_take (i := 9) (v := ?_) rfl (by kernel_rfl) (by kernel_rfl) (by kernel_rfl) (fun _ _ _ h => h) (Or.inl ⟨by rfl, ?hy164⟩) (by assumption) ?ty164
    case hy164 => (intro w hSw; (try dsimp only at hSw); obtain ⟨⟨⟨e0, e1, e2, e3⟩, ⟨f0, f1, f2, f3⟩⟩, hA, hB⟩ := hSw;  go_simp; all_goals with_reducible rfl)
    simp only [Act.put, List.getElem_toArray, List.getElem_cons_zero, List.getElem_cons_succ, List.setIfInBounds_toArray, List.set_cons_zero, List.set_cons_succ]
    refine wpAnyH_take (i := 10) (v := undef) rfl (by kernel_rfl) (by kernel_rfl) (by kernel_rfl) (fun _ _ _ h => h) (Or.inr ⟨by rfl, rfl⟩) (by assumption) ?_
    simp only [Act.put, List.getElem_toArray, List.getElem_cons_zero, List.getElem_cons_succ, List.setIfInBounds_toArray, List.set_cons_zero, List.set_cons_succ]
    refine wpAnyH_take (i := 11) (v := undef) rfl (by kernel_rfl) (by kernel_rfl) (by kernel_rfl) (fun _ _ _ h => h) (Or.inr ⟨by rfl, rfl⟩) (by assumption) ?_
    simp only [Act.put, List.getElem_toArray, List.getElem_cons_zero, List.getElem_cons_succ, List.setIfInBounds_toArray, List.set_cons_zero, List.set_cons_succ]
    refine wpAnyH_take (i := 12) (v := undef) rfl (by kernel_rfl) (by kernel_rfl) (by kernel_rfl) (fun _ _ _ h => h) (Or.inr ⟨by rfl, rfl⟩) (by assumption) ?_
    simp only [Act.put, List.getElem_toArray, List.getElem_cons_zero, List.getElem_cons_succ, List.setIfInBounds_toArray, List.set_cons_zero, List.set_cons_succ]
    refine wpAnyH_take (i := 13) (v := undef) rfl (by kernel_rfl) (by kernel_rfl) (by kernel_rfl) (fun _ _ _ h => h) (Or.inr ⟨by rfl, rfl⟩) (by assumption) ?_
    simp only [Act.put, List.getElem_toArray, List.getElem_cons_zero, List.getElem_cons_succ, List.setIfInBounds_toArray, List.set_cons_zero, List.set_cons_succ]
    refine wpAnyH_take (i := 14) (v := undef) rfl (by kernel_rfl) (by kernel_rfl) (by kernel_rfl) (fun _ _ _ h => h) (Or.inr ⟨by rfl, rfl⟩) (by assumption) ?_
    simp only [Act.put, List.getElem_toArray, List.getElem_cons_zero, List.getElem_cons_succ, List.setIfInBounds_toArray, List.set_cons_zero, List.set_cons_succ]
    refine wpAnyH_take (i := 15) (v := undef) rfl (by kernel_rfl) (by kernel_rfl) (by kernel_rfl) (fun _ _ _ h => h) (Or.inr ⟨by rfl, rfl⟩) (by assumption) ?_
    simp only [Act.put, List.getElem_toArray, List.getElem_cons_zero, List.getElem_cons_succ, List.setIfInBounds_toArray, List.set_cons_zero, List.set_cons_succ]
    refine wpAnyH_take (i := 16) (v := undef) rfl (by kernel_rfl) (by kernel_rfl) (by kernel_rfl) (fun _ _ _ h => h) (Or.inr ⟨by rfl, rfl⟩) (by assumption) ?_
    simp only [Act.put, List.getElem_toArray, List.getElem_cons_zero, List.getElem_cons_succ, List.setIfInBounds_toArray, List.set_cons_zero, List.set_cons_succ]
    refine wpAnyH_take (i := 17) (v := undef) rfl (by kernel_rfl) (by kernel_rfl) (by kernel_rfl) (fun _ _ _ h => h) (Or.inr ⟨by rfl, rfl⟩) (by assumption) ?_
    simp only [Act.put, List.getElem_toArray, List.getElem_cons_zero, List.getElem_cons_succ, List.setIfInBounds_toArray, List.set_cons_zero, List.set_cons_succ]
    refine wpAnyH_take (i := 18) (v := undef) rfl (by kernel_rfl) (by kernel_rfl) (by kernel_rfl) (fun _ _ _ h => h) (Or.inr ⟨by rfl, rfl⟩) (by assumption) ?_
    simp only [Act.put, List.getElem_toArray, List.getElem_cons_zero, List.getElem_cons_succ, List.setIfInBounds_toArray, List.set_cons_zero, List.set_cons_succ]
    refine wpAnyH_take (i := 19) (v := .bool false) rfl (by kernel_rfl) (by kernel_rfl) (by kernel_rfl) (fun _ _ _ h => h) (Or.inl ⟨by rfl, ?hy165⟩) (by assumption) ?ty165
    case hy165 => (intro w hSw; (try dsimp only at hSw); obtain ⟨⟨⟨e0, e1, e2, e3⟩, ⟨f0, f1, f2, f3⟩⟩, hA, hB⟩ := hSw;  go_simp; first | (all_goals with_reducible rfl) | (simp; done) | (simp; omega))
    simp only [Act.put, List.getElem_toArray, List.getElem_cons_zero, List.getElem_cons_succ, List.setIfInBounds_toArray, List.set_cons_zero, List.set_cons_succ]
    refine wpAnyH_take (i := 20) (v := ?_) rfl (by kernel_rfl) (by kernel_rfl) (by kernel_rfl) (fun _ _ _ h => h) (Or.inl ⟨by rfl, ?hy166⟩) (by assumption) ?ty166
    case hy166 => (intro w hSw; (try dsimp only at hSw); obtain ⟨⟨⟨e0, e1, e2, e3⟩, ⟨f0, f1, f2, f3⟩⟩, hA, hB⟩ := hSw;  go_simp; all_goals with_reducible rfl)
    simp only [Act.put, List.getElem_toArray, List.getElem_cons_zero, List.getElem_cons_succ, List.setIfInBounds_toArray, List.set_cons_zero, List.set_cons_succ]
    refine wpAnyH_take (i := 21) (v := undef) rfl (by kernel_rfl) (by kernel_rfl) (by kernel_rfl) (fun _ _ _ h => h) (Or.inr ⟨by rfl, rfl⟩) (by assumption) ?_
    simp only [Act.put, List.getElem_toArray, List.getElem_cons_zero, List.getElem_cons_succ, List.setIfInBounds_toArray, List.set_cons_zero, List.set_cons_succ]
    refine wpAnyH_take (i := 22) (v := undef) rfl (by kernel_rfl) (by kernel_rfl) (by kernel_rfl) (fun _ _ _ h => h) (Or.inr ⟨by rfl, rfl⟩) (by assumption) ?_
    simp only [Act.put, List.getElem_toArray, List.getElem_cons_zero, List.getElem_cons_succ, List.setIfInBounds_toArray, List.set_cons_zero, List.set_cons_succ]
    refine wpAnyH_take (i := 23) (v := undef) rfl (by kernel_rfl) (by kernel_rfl) (by kernel_rfl) (fun _ _ _ h => h) (Or.inr ⟨by rfl, rfl⟩) (by assumption) ?_
    simp only [Act.put, List.getElem_toArray, List.getElem_cons_zero, List.getElem_cons_succ, List.setIfInBounds_toArray, List.set_cons_zero, List.set_cons_succ]
    refine wpAnyH_take (i := 24) (v := undef) rfl (by kernel_rfl) (by kernel_rfl) (by kernel_rfl) (fun _ _ _ h => h) (Or.inr ⟨by rfl, rfl⟩) (by assumption) ?_
    simp only [Act.put, List.getElem_toArray, List.getElem_cons_zero, List.getElem_cons_succ, List.setIfInBounds_toArray, List.set_cons_zero, List.set_cons_succ]
    refine wpAnyH_take (i := 25) (v := undef) rfl (by kernel_rfl) (by kernel_rfl) (by kernel_rfl) (fun _ _ _ h => h) (Or.inr ⟨by rfl, rfl⟩) (by assumption) ?_
    simp only [Act.put, List.getElem_toArray, List.getElem_cons_zero, List.getElem_cons_succ, List.setIfInBounds_toArray, List.set_cons_zero, List.set_cons_succ]
    refine wpAnyH_take (i := 26) (v := undef) rfl (by kernel_rfl) (by kernel_rfl) (by kernel_rfl) (fun _ _ _ h => h) (Or.inr ⟨by rfl, rfl⟩) (by assumption) ?_
    simp only [Act.put, List.getElem_toArray, List.getElem_cons_zero, List.getElem_cons_succ, List.setIfInBounds_toArray, List.set_cons_zero, List.set_cons_succ]
    refine wpAnyH_take (i := 27) (v := undef) rfl (by kernel_rfl) (by kernel_rfl) (by kernel_rfl) (fun _ _ _ h => h) (Or.inr ⟨by rfl, rfl⟩) (by assumption) ?_
    simp only [Act.put, List.getElem_toArray, List.getElem_cons_zero, List.getElem_cons_succ, List.setIfInBounds_toArray, List.set_cons_zero, List.set_cons_succ]
    refine wpAnyH_take (i := 28) (v := undef) rfl (by kernel_rfl) (by kernel_rfl) (by kernel_rfl) (fun _ _ _ h => h) (Or.inr ⟨by rfl, rfl⟩) (by assumption) ?_
    simp only [Act.put, List.getElem_toArray, List.getElem_cons_zero, List.getElem_cons_succ, List.setIfInBounds_toArray, List.set_cons_zero, List.set_cons_succ]
    refine wpAnyH_take (i := 29) (v := undef) rfl (by kernel_rfl) (by kernel_rfl) (by kernel_rfl) (fun _ _ _ h => h) (Or.inr ⟨by rfl, rfl⟩) (by assumption) ?_
    simp only [Act.put, List.getElem_toArray, List.getElem_cons_zero, List.getElem_cons_succ, List.setIfInBounds_toArray, List.set_cons_zero, List.set_cons_succ]
    refine wpAnyH_take (i := 30) (v := .bool false) rfl (by kernel_rfl) (by kernel_rfl) (by kernel_rfl) (fun _ _ _ h => h) (Or.inl ⟨by rfl, ?hy167⟩) (by assumption) ?ty167
    case hy167 => (intro w hSw; (try dsimp only at hSw); obtain ⟨⟨⟨e0, e1, e2, e3⟩, ⟨f0, f1, f2, f3⟩⟩, hA, hB⟩ := hSw;  go_simp; first | (all_goals with_reducible rfl) | (simp; done) | (simp; omega))
    simp only [Act.put, List.getElem_toArray, List.getElem_cons_zero, List.getElem_cons_succ, List.setIfInBounds_toArray, List.set_cons_zero, List.set_cons_succ]
    refine wpAnyH_take (i := 31) (v := ?_) rfl (by kernel_rfl) (by kernel_rfl) (by kernel_rfl) (fun _ _ _ h => h) (Or.inl ⟨by rfl, ?hy168⟩) (by assumption) ?ty168
    case hy168 => (intro w hSw; (try dsimp only at hSw); obtain ⟨⟨⟨e0, e1, e2, e3⟩, ⟨f0, f1, f2, f3⟩⟩, hA, hB⟩ := hSw;  go_simp; all_goals with_reducible rfl)
    simp only [Act.put, List.getElem_toArray, List.getElem_cons_zero, List.getElem_cons_succ, List.setIfInBounds_toArray, List.set_cons_zero, List.set_cons_succ]
    refine wpAnyH_take (i := 32) (v := undef) rfl (by kernel_rfl) (by kernel_rfl) (by kernel_rfl) (fun _ _ _ h => h) (Or.inr ⟨by rfl, rfl⟩) (by assumption) ?_
    simp only [Act.put, List.getElem_toArray, List.getElem_cons_zero, List.getElem_cons_succ, List.setIfInBounds_toArray, List.set_cons_zero, List.set_cons_succ]
    refine wpAnyH_take (i := 33) (v := undef) rfl (by kernel_rfl) (by kernel_rfl) (by kernel_rfl) (fun _ _ _ h => h) (Or.inr ⟨by rfl, rfl⟩) (by assumption) ?_
    simp only [Act.put, List.getElem_toArray, List.getElem_cons_zero, List.getElem_cons_succ, List.setIfInBounds_toArray, List.set_cons_zero, List.set_cons_succ]
    refine wpAnyH_take (i := 34) (v := undef) rfl (by kernel_rfl) (by kernel_rfl) (by kernel_rfl) (fun _ _ _ h => h) (Or.inr ⟨by rfl, rfl⟩) (by assumption) ?_
    simp only [Act.put, List.getElem_toArray, List.getElem_cons_zero, List.getElem_cons_succ, List.setIfInBounds_toArray, List.set_cons_zero, List.set_cons_succ]
    refine wpAnyH_take (i := 35) (v := undef) rfl (by kernel_rfl) (by kernel_rfl) (by kernel_rfl) (fun _ _ _ h => h) (Or.inr ⟨by rfl, rfl⟩) (by assumption) ?_
    simp only [Act.put, List.getElem_toArray, List.getElem_cons_zero, List.getElem_cons_succ, List.setIfInBounds_toArray, List.set_cons_zero, List.set_cons_succ]
    refine wpAnyH_take (i := 36) (v := undef) rfl (by kernel_rfl) (by kernel_rfl) (by kernel_rfl) (fun _ _ _ h => h) (Or.inr ⟨by rfl, rfl⟩) (by assumption) ?_
    simp only [Act.put, List.getElem_toArray, List.getElem_cons_zero, List.getElem_cons_succ, List.setIfInBounds_toArray, List.set_cons_zero, List.set_cons_succ]
    refine wpAnyH_take (i := 37) (v := undef) rfl (by kernel_rfl) (by kernel_rfl) (by kernel_rfl) (fun _ _ _ h => h) (Or.inr ⟨by rfl, rfl⟩) (by assumption) ?_
    simp only [Act.put, List.getElem_toArray, List.getElem_cons_zero, List.getElem_cons_succ, List.setIfInBounds_toArray, List.set_cons_zero, List.set_cons_succ]
    refine wpAnyH_take (i := 38) (v := undef) rfl (by kernel_rfl) (by kernel_rfl) (by kernel_rfl) (fun _ _ _ h => h) (Or.inr ⟨by rfl, rfl⟩) (by assumption) ?_
    simp only [Act.put, List.getElem_toArray, List.getElem_cons_zero, List.getElem_cons_succ, List.setIfInBounds_toArray, List.set_cons_zero, List.set_cons_succ]
    refine wpAnyH_take (i := 39) (v := undef) rfl (by kernel_rfl) (by kernel_rfl) (by kernel_rfl) (fun _ _ _ h => h) (Or.inr ⟨by rfl, rfl⟩) (by assumption) ?_
    simp only [Act.put, List.getElem_toArray, List.getElem_cons_zero, List.getElem_cons_succ, List.setIfInBounds_toArray, List.set_cons_zero, List.set_cons_succ]
    refine wpAnyH_take (i := 40) (v := undef) rfl (by kernel_rfl) (by kernel_rfl) (by kernel_rfl) (fun _ _ _ h => h) (Or.inr ⟨by rfl, rfl⟩) (by assumption) ?_
    simp only [Act.put, List.getElem_toArray, List.getElem_cons_zero, List.getElem_cons_succ, List.setIfInBounds_toArray, List.set_cons_zero, List.set_cons_succ]
    refine wpAnyH_take (i := 41) (v := undef) rfl (by kernel_rfl) (by kernel_rfl) (by kernel_rfl) (fun _ _ _ h => h) (Or.inr ⟨by rfl, rfl⟩) (by assumption) ?_
    simp only [Act.put, List.getElem_toArray, List.getElem_cons_zero, List.getElem_cons_succ, List.setIfInBounds_toArray, List.set_cons_zero, List.set_cons_succ]
    refine wpAnyH_take (i := 42) (v := undef) rfl (by kernel_rfl) (by kernel_rfl) (by kernel_rfl) (fun _ _ _ h => h) (Or.inr ⟨by rfl, rfl⟩) (by assumption) ?_
    simp only [Act.put, List.getElem_toArray, List.getElem_cons_zero, List.getElem_cons_succ, List.setIfInBounds_toArray, List.set_cons_zero, List.set_cons_succ]
    refine wpAnyH_take (i := 43) (v := .bool false) rfl (by kernel_rfl) (by kernel_rfl) (by kernel_rfl) (fun _ _ _ h => h) (Or.inl ⟨by rfl, ?hy169⟩) (by assumption) ?ty169
    case hy169 => (intro w hSw; (try dsimp only at hSw); obtain ⟨⟨⟨e0, e1, e2, e3⟩, ⟨f0, f1, f2, f3⟩⟩, hA, hB⟩ := hSw;  go_simp; first | (all_goals with_reducible rfl) | (simp; done) | (simp; omega))
    simp only [Act.put, List.getElem_toArray, List.getElem_cons_zero, List.getElem_cons_succ, List.setIfInBounds_toArray, List.set_cons_zero, List.set_cons_succ]
    refine wpAnyH_take (i := 44) (v := ?_) rfl (by kernel_rfl) (by kernel_rfl) (by kernel_rfl) (fun _ _ _ h => h) (Or.inl ⟨by rfl, ?hy170⟩) (by assumption) ?ty170
    case hy170 => (intro w hSw; (try dsimp only at hSw); obtain ⟨⟨⟨e0, e1, e2, e3⟩, ⟨f0, f1, f2, f3⟩⟩, hA, hB⟩ := hSw;  go_simp; all_goals with_reducible rfl)
    simp only [Act.put, List.getElem_toArray, List.getElem_cons_zero, List.getElem_cons_succ, List.setIfInBounds_toArray, List.set_cons_zero, List.set_cons_succ]
    refine wpAnyH_done (by kernel_rfl) ?_ _
    clear hHeld
    go_wp2
    go_ret
    exact ⟨by rw [HM.out]; rfl, (Below.refl _ _).drew⟩

end Go.Proofs.Ytnnanhjpnilndaa
