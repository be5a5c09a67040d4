/- ReadJournal: what was told is read where it lies; the law's comparison; no conditions beyond those that each fact names. -/
import Derived.Test.YthiieeblpefcpaaDoorJrm
namespace Go.Proofs.YthiieeblpefcpaaDoor
open Go.RowKit
set_option linter.unusedVariables false

theorem OpsIn.at_ {w : World} {own : Option Nat} : ∀ {ps : List SlO} {os : List OpR} {lo hi : Nat}, OpsIn w own lo hi ps os → ∀ i, i < os.length → ∃ p k m, ps[i]? = some p ∧ lo ≤ k ∧ m ≤ hi ∧ OpIn w own k m p (nthO os i)
  | [], [], _, _, _, i, hi => by simp at hi
  | p :: ps, o :: os, _, _, ⟨k, m, h0, h1, h2⟩, 0, _ => ⟨p, k, m, rfl, h0, h2.le.1, h1⟩
  | p :: ps, o :: os, _, _, ⟨k, m, h0, h1, h2⟩, i + 1, hi => by
    obtain ⟨p', k', m', e, g0, g1, g2⟩ := OpsIn.at_ h2 i (by simpa using hi)
    exact ⟨p', k', m', by simpa using e, Nat.le_trans h0 (Nat.le_trans h1.le g0), g1, g2⟩
  | [], _ :: _, _, _, h, _, _ => h.elim
  | _ :: _, [], _, _, h, _, _ => h.elim
theorem nthOc_zip {os : List OpR} {ps : List SlO} {i : Nat} {p : SlO} (hi : i < os.length) (hp : ps[i]? = some p) : nthOc (List.zipWith opQ os ps) i = opQ (nthO os i) p := by
  unfold nthOc
  rw [List.getD_eq_getElem?_getD, List.getElem?_zipWith, hp, List.getElem?_eq_getElem hi, nthO_get hi]
  rfl
theorem RwO.os {w : World} {B : Nat} {a : Option Addr} {n cap : Nat} {os : List OpR} (h : RwO w B (.slice a n cap) os) : IsOs B w (a, n, cap) os := by
  obtain ⟨a', cap', e, h1, h2⟩ := h.form
  injection e with e1 e2 e3
  subst e1 e2 e3
  refine ⟨rfl, h1, h2, ?_⟩
  obtain ⟨ps, hl, ho, hi⟩ := h
  have hzl : (List.zipWith opQ os ps).length = os.length := by rw [List.length_zipWith, hl, Nat.min_self]
  rcases Nat.eq_zero_or_pos os.length with hz | hp
  · exact .inl (List.length_eq_zero_iff.1 hz)
  · have ho' : w.ownsRow B 38 8 (.slice a os.length cap) os.length (oc (List.zipWith opQ os ps)) := by have := ho; unfold OwnO at this; rw [hzl] at this; exact this
    rcases id ho'.2 with ⟨h', h0⟩ | ⟨g, cap', cur, h', hB, hg, _⟩
    · omega
    · injection h' with e1 e2 e3
      subst e1
      have hlt := (World.ownsRow.lt ho' g rfl).2
      refine .inr ⟨g, 0, rfl, hB, hlt, fun i hi' => ?_⟩
      obtain ⟨p, k, m, hp', hk, -, hin⟩ := hi.at_ i hi'
      have hc := ownO_cells ho' i (by rw [hzl]; exact hi')
      rw [nthOc_zip hi' hp'] at hc
      obtain ⟨-, c0, c1, c2, c3, c4, c5, c6, c7⟩ := hc
      simp only [Nat.zero_add]
      exact ⟨p, ⟨c0, c1, c2, c3, c4, c5, c6, c7⟩, hin.op.low hk⟩
theorem jG_ft : ∀ (k : Nat) (d : List Nat), ∀ o ∈ (jG k d).2, FtO o ∧ o.u.length ≤ 6 ∧ o.b.length ≤ 400
  | 0, d, o, h => by simp [jG] at h
  | k + 1, d, o, h => by
    unfold jG at h
    split at h
    · rcases List.mem_cons.1 h with rfl | h
      · exact rpV_ft d
      · exact jG_ft k _ o h
    · simp at h
theorem jG_len : ∀ (k : Nat) (d : List Nat), (jG k d).2.length ≤ k
  | 0, d => by simp [jG]
  | k + 1, d => by
    unfold jG
    split
    · have := jG_len k (d.drop (rpV d).2.1)
      simp only [List.length_cons]; omega
    · simp
theorem jV_len (d : List Nat) : (jV d).2.2.length ≤ 8000 := by
  unfold jV
  split
  · simp
  · have := jG_len d.length d
    show (jG d.length d).2.length ≤ 8000
    omega
theorem jV_ft (d : List Nat) : ∀ i, i < (jV d).2.2.length → FtO (nthO (jV d).2.2 i) ∧ (nthO (jV d).2.2 i).u.length ≤ 6 ∧ (nthO (jV d).2.2 i).b.length ≤ 400 := fun i hi => by
  rw [nthO_get hi]
  have hm := List.getElem_mem hi
  generalize (jV d).2.2[i] = o at *
  unfold jV at hm
  split at hm
  · simp at hm
  · exact jG_ft _ _ o hm
theorem jV_fts (d : List Nat) : FtOs (jV d).2.2 := ⟨Nat.le_trans (jV_len d) (by decide), fun i hi => (jV_ft d i hi).1⟩

set_option maxHeartbeats 800000 in
set_option maxRecDepth 100000 in
theorem eqOpsResult_same (c : Int) (u : Nat) (s s' : SlQ) (l : List OpR) {lo lo' : Nat} (w : World) (hs : IsOs lo w s l) (hs' : IsOs lo' w s' l) (hf : FtOs l) :
    Calls Tryd.prog 42 #[.agg #[.int .i64 c, .int .i64 (u : Int), slW s], .agg #[.int .i64 c, .int .i64 (u : Int), slW s']] w fun e w' => e = .returned (.bool true) ∧ Below w.heap.size w w' := by
  obtain ⟨W1, hW1⟩ : ∃ W1, w.alloc (.cells #[.int .i64 c, .int .i64 (u : Int), slW s] 27) = W1 := ⟨_, rfl⟩
  have b1 : Below w.heap.size w W1 := by rw [← hW1]; exact (Below.refl _ _).alloc (Nat.le_refl _) _
  have s1 : W1.heap.size = w.heap.size + 1 := by rw [← hW1]; simp
  obtain ⟨W2, hW2⟩ : ∃ W2, W1.alloc (.cells #[.int .i64 c, .int .i64 (u : Int), slW s'] 27) = W2 := ⟨_, rfl⟩
  have b2 : Below W1.heap.size W1 W2 := by rw [← hW2]; exact (Below.refl _ _).alloc (Nat.le_refl _) _
  have hB2 : Below w.heap.size w W2 := b1.trans (b2.mono (by omega))
  obtain ⟨x0, x1, x2, -⟩ := res_block3 hW1 (b2.mono (by omega))
  obtain ⟨y0, y1, y2, -⟩ := res_block3 hW2 (Below.refl _ W2)
  rw [s1] at y0 y1 y2
  have HC := eqOpS_ft s s' l W2 (hs.below hB2) (hs'.below hB2) hf
  clear b1 b2 hs hs'
  go_enter Tryd.func42, Tryd.ntmps42
  go_wp2_with fail
  refine HC.mono ?_
  rintro e w3 ⟨rfl, h3⟩
  have hB3 := hB2.trans (h3.mono hB2.size)
  clear HC
  go_wp2
  go_ret
  exact ⟨rfl, hB3⟩
end Go.Proofs.YthiieeblpefcpaaDoor
