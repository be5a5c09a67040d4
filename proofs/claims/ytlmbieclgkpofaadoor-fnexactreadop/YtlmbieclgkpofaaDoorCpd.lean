/- Bytes copied into memory of the call's own: the program's; no conditions beyond those that each fact names. -/
import Derived.Test.YtlmbieclgkpofaaDoorApp
import Derived.Laws.CopyOwn
namespace Go.Proofs.YtlmbieclgkpofaaDoor
open Go.RowKit

theorem rowJ {w : World} {B e g n : Nat} {xs : List Value} (h : w.ownsRow B e 1 (.slice (some ⟨g, 0, none⟩) n n) n xs) : ∃ cur : List Value, w.heap[g]? = some (.cells cur.toArray e (0, 0)) ∧ cur.length = n := by
  rcases h.2 with ⟨h', _⟩ | ⟨g', cap, cur, h1, _, h3, _, _, h6, _⟩
  · cases h'
  · injection h1 with h1 _ h2
    injection h1 with h1
    injection h1 with h1
    subst h1 h2
    exact ⟨cur.toList, by simpa using h3, by simpa using h6⟩

set_option maxHeartbeats 800000 in
set_option maxRecDepth 100000 in
theorem copiedJ (a : Option Addr) (n cap : Nat) (l : List Nat) (w : World) (hl : l.length = n) (hr : Rd w a l) (hn : n ≤ 1048576) :
    Calls Tryd.prog 82 #[.slice a n cap] w fun e w' => ∃ v, e = .returned v ∧ Own w' w.heap.size v l ∧ Below w.heap.size w w' := by
  obtain ⟨i0, hi, hz0, hz1, hz2⟩ := info_parts infoB
  have hsz1 : (Tryd.prog.info? 5).map (·.size) = some 1 := by rw [hi]; simp [hz1]
  have HP : Hid (∀ w0, Below w.heap.size w w0 → 0 < (bc l).length → ∃ ad, a = some ad ∧ ∀ j v, (bc l)[j]? = some v → w0.cell? (ad.add j) = some v) := fun w0 hb hp => by
    rw [bc_len] at hp
    obtain ⟨b, off, rfl, hlt, hc⟩ := hr.at_ hp
    refine ⟨_, rfl, fun j v hj => ?_⟩
    have hjl : j < l.length := by
      rcases Nat.lt_or_ge j l.length with hlt | hge
      · exact hlt
      · rw [List.getElem?_eq_none (by rw [bc_len]; exact hge)] at hj; cases hj
    rw [bc_get hjl] at hj
    cases hj
    rw [Go.WideShapes.add_plain]
    exact (hb.cell (p := ⟨b, off + j, none⟩) hlt).trans (hc j hjl)
  have HS : Hid (∀ cur : List Value, cur.length = n → splice cur 0 (bc l) = bc l) := fun cur hc => by
    unfold splice
    rw [List.drop_of_length_le (by rw [bc_len]; omega)]; simp
  have hbl : (bc l).length = n := by rw [bc_len, hl]
  go_enter Tryd.func82, Tryd.ntmps82
  go_wp2_with (first
    | (at_make; refine wpList_make_full _ rfl _ _ 23 rfl w.heap.size 5 i0 (.int .u8 0) 1 Tryd.underlying23 hi hz0 hz1 .i64 .i64 _ _ n rfl rfl rfl rfl (by rw [hz2]; omega) (by unfold maxLen; omega) (Nat.le_refl _) ?_; intro w0 hown0 hgrow0; obtain ⟨cur, hg, hcl⟩ := rowJ hown0; have hb0 : Below w.heap.size w w0 := (Below.refl _ _).grown hgrow0 (Nat.le_refl _) (by intro k hk; cases hk); clear hown0 hgrow0)
    | (refine wpList_copy_splice rfl _ _ 23 23 rfl 5 Tryd.underlying23 hsz1 (some ⟨w.heap.size, 0, none⟩) a n n n cap rfl rfl w.heap.size 0 cur 5 hg (bc l) (by rw [hbl]; exact (Nat.min_self n).symm) (fun hp => ⟨rfl, HP.out _ hb0 hp⟩) (by omega) (bc_one l) w.heap.size w hb0 (Nat.le_refl _) ?_; intro w1 hg1 hb1; have hg1' := hg1.out; rw [HS.out cur hcl] at hg1'; have HO : Hid (Own w1 w.heap.size (.slice (some ⟨w.heap.size, 0, none⟩) n n) l) := (by unfold Hid Own; rw [hl]; exact ⟨by rw [hbl]; simp, .inr ⟨w.heap.size, n, (bc l).toArray, rfl, Nat.le_refl _, hg1', Nat.le_refl _, by unfold maxLen; omega, by simp [hbl], by rw [List.take_of_length_le (by simp [hbl])]⟩⟩); clear hg1 hg1' hg HP HS))
  go_wp2
  go_ret
  exact ⟨_, rfl, HO.out, hb1⟩
end Go.Proofs.YtlmbieclgkpofaaDoor
