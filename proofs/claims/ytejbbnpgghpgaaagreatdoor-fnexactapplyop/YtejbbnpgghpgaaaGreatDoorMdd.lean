/- A store inside a result; a mailbox of a row put in place of another; no conditions beyond those that each fact names. -/
import Derived.Test.YtejbbnpgghpgaaaGreatDoorMdc
namespace Go.Proofs.YtejbbnpgghpgaaaGreatDoor
open Go.RowKit
set_option linter.unusedVariables false

set_option maxHeartbeats 1600000 in
set_option maxRecDepth 100000 in
theorem l7At2_any (l : List Bx) (s : SlQ) (nm : ByteArray) (g0 : Nat) {lo : Nat} (w : World) (hs : IsXs lo w s l) (hD : w.cell? ⟨g0, 3, none⟩ = some (slW s)) (hgl : g0 < w.heap.size) :
    Calls Tryz.prog 114 #[.pointer (some ⟨g0, 2, none⟩), .string nm] w fun e w' => e = .returned (.int .i64 (ixG l.length (nmX l nm))) ∧ Below w.heap.size w w' := by
  obtain ⟨a, n, cap⟩ := s
  obtain ⟨hl, hnc, hcm, hr⟩ := hs
  dsimp only [slW] at *
  unfold maxLen at hcm
  rw [hl]
  go_enter Tryz.func114, Tryz.ntmps114
  go_wp2
  go_loopw [5] (fun i wr => ∃ k : Nat, k ≤ n ∧ i = .int .i64 k ∧ (∀ j, j < k → nmX l nm j = false) ∧ Below w.heap.size w wr) (fun i _ => n - (intOf i).toNat)
  case atStart => exact ⟨0, Nat.zero_le _, rfl, fun j hj => absurd hj (Nat.not_lt_zero _), Below.refl _ _⟩
  case round =>
    obtain ⟨k, hk, rfl, hall, hbel⟩ := hrel
    have d1 := (World.cell?_of_block (hbel.block g0 hgl)).trans hD
    by_cases hkn : k < n
    · have hki : (k : Int) < (n : Int) := by omega
      obtain ⟨g, off, rfl, -, hglt, hcell⟩ := (hr.below hbel).at_ (by omega)
      obtain ⟨q, ⟨c0, -, -, -⟩, -⟩ := hcell k (by omega)
      have HY : Hid ((nthX l k).n = nm → ixG n (nmX l nm) = (k : Int)) := fun h => ixG_at hkn (decide_eq_true h) hall
      have HN : Hid ((nthX l k).n ≠ nm → ∀ j, j < k + 1 → nmX l nm j = false) := fun h j hj => by
        rcases Nat.lt_or_ge j k with h' | h'
        · exact hall j h'
        · obtain rfl : j = k := by omega
          exact decide_eq_false h
      clear hall hcell
      generalize (nthX l k).n = yn at *
      by_cases h : yn = nm
      · have HM : Hid (ixG n (nmX l nm) = (k : Int)) := HY.out h
        clear HY HN
        subst h
        go_wp2
        go_ret
        rw [HM.out]
        exact ⟨rfl, hbel⟩
      · have HM : Hid (_) := HN.out h
        have h' : (yn.toList == nm.toList) = false := by simpa using toList_ne h
        clear HY HN
        go_wp2
        go_roundw
        case rel => exact ⟨k + 1, by omega, by go_num, HM.out, hbel⟩
        case measure => simp [intOf]; omega
    · have hki : ¬ (k : Int) < (n : Int) := by omega
      have HM : Hid (ixG n (nmX l nm) = -1) := ixG_no (fun i hi => hall i (by omega))
      clear hall
      go_wp2
      go_ret
      rw [HM.out]
      exact ⟨rfl, hbel⟩

theorem nd_swap {α : Type} {f : α → List Nat} {l : List α} {i : Nat} {d : α} {A : List Nat} (hi : i < l.length) (h : (A ++ l.flatMap f).Nodup) (hd : (f d).Nodup) (hf : ∀ g ∈ f d, g ∉ A ++ l.flatMap f) : (A ++ (l.set i d).flatMap f).Nodup := by
  rw [flat_set f l i d hi]
  rw [flat_split f l i hi] at h hf
  have hA := nd_left h
  have hR := nd_right h
  have h1 := nd_left hR
  have h2 := nd_right hR
  have h3 := nd_right h2
  refine nd_app hA (nd_app h1 (nd_app hd h3 ?_) ?_) ?_
  · intro g hg hc
    exact hf g hg (by simp [hc])
  · intro g hg hc
    rcases List.mem_append.1 hc with hc | hc
    · exact hf g hc (by simp [hg])
    · exact nd_off hR hg (List.mem_append_right _ hc)
  · intro g hg hc
    rcases List.mem_append.1 hc with hc | hc
    · exact nd_off h hg (List.mem_append_left _ hc)
    · rcases List.mem_append.1 hc with hc | hc
      · exact hf g hc (by simp [hg])
      · exact nd_off h hg (List.mem_append_right _ (List.mem_append_right _ hc))
/-- A mailbox of a row gives way to one whose blocks are none of the row's. -/
theorem CX.swap4 {N : Nat} {W : World} {s : SlQ} {l : List Bx} {xs : List Dx} (h : CX N W s l xs) (i : Nat) (hi : i < xs.length) {g n cap : Nat} (hs : s = (some ⟨g, 0, none⟩, n, cap)) (d' : Dx) (hd : HM W d'.s d'.ms) (hdn : (fpD d').Nodup) (hf : ∀ k ∈ fpD d', k ∉ blkS s ++ fpX xs) (hge : ∀ k ∈ fpD d', N ≤ k) :
    CX N ((((W.setCell ⟨g, i * 4, none⟩ (.string d'.n)).setCell ⟨g, i * 4 + 1, none⟩ (.int .i64 d'.v)).setCell ⟨g, i * 4 + 2, none⟩ (.int .i64 d'.x)).setCell ⟨g, i * 4 + 3, none⟩ (slW d'.s)) s (l.set i d'.bx) (xs.set i d') := by
  subst hs
  have hgs : g ∈ blkS ((some ⟨g, 0, none⟩, n, cap) : SlQ) := by simp [blkS]
  have hr0 := h.1.1
  obtain ⟨⟨a', n', c'⟩, e, h2, -⟩ := row_form hr0
  cases e
  dsimp only at h2
  subst h2
  have hil : i < (xs.map Dx.q).length := by rw [List.length_map]; exact hi
  have hr1 := row_set0 hr0 hil (.string d'.n)
  have hr2 := row_set1 hr1 (i := i) (by rw [List.length_set]; exact hil) (.int .i64 d'.v)
  rw [nthQ_set hil, List.set_set] at hr2
  have hr3 := row_set2 hr2 (i := i) (by rw [List.length_set]; exact hil) (.int .i64 d'.x)
  rw [nthQ_set hil, List.set_set] at hr3
  have hr4 := row_set3 hr3 (i := i) (by rw [List.length_set]; exact hil) (slW d'.s)
  rw [nthQ_set hil, List.set_set] at hr4
  have hblk : ∀ k, k ≠ g → ((((W.setCell ⟨g, i * 4, none⟩ (.string d'.n)).setCell ⟨g, i * 4 + 1, none⟩ (.int .i64 d'.v)).setCell ⟨g, i * 4 + 2, none⟩ (.int .i64 d'.x)).setCell ⟨g, i * 4 + 3, none⟩ (slW d'.s)).heap[k]? = W.heap[k]? := fun k hne => by
    rw [Below.heap_setCell _ _ _ _ hne, Below.heap_setCell _ _ _ _ hne, Below.heap_setCell _ _ _ _ hne, Below.heap_setCell _ _ _ _ hne]
  have hHM := hd.keep (w' := ((((W.setCell ⟨g, i * 4, none⟩ (.string d'.n)).setCell ⟨g, i * 4 + 1, none⟩ (.int .i64 d'.v)).setCell ⟨g, i * 4 + 2, none⟩ (.int .i64 d'.x)).setCell ⟨g, i * 4 + 3, none⟩ (slW d'.s))) fun k hk => hblk k (fun e => hf k hk (List.mem_append_left _ (e ▸ hgs)))
  refine ⟨h.1.upd i d' hr4 hHM (fun j hj hne k hk => hblk k (fun e => h.off j hj hgs (e ▸ hk))), by rw [List.map_set, h.2.1], nd_swap hi h.2.2.1 hdn hf, fun k hk => ?_⟩
  rcases List.mem_append.1 hk with hk | hk
  · exact h.2.2.2 k (List.mem_append_left _ hk)
  · rcases flat_mem_set hi hk with hk | hk
    · exact h.2.2.2 k (List.mem_append_right _ hk)
    · exact hge k hk
/-- With no flag asked, the Uids alone decide. -/
theorem and0 (f : Int) (h : 0 ≤ f ∧ f ≤ 15) : bits .and .i64 f 0 = 0 := by
  obtain ⟨k, rfl⟩ : ∃ k : Nat, f = (k : Int) := ⟨f.toNat, by omega⟩
  have : ∀ k : Nat, k < 16 → bits .and .i64 (k : Int) 0 = 0 := by decide +kernel
  exact this k (by omega)
theorem tkM_none (us : List Int) (m : Msg) (h : 0 ≤ m.f ∧ m.f ≤ 15) : tkM us 0 m = hasZ us m.u := by
  unfold tkM
  rw [and0 _ h]
  simp
theorem tkM_del (m : Msg) (h : 0 ≤ m.f ∧ m.f ≤ 15) : tkM [] 8 m = delM m := by
  unfold tkM delM
  rw [and8 _ h]
  by_cases h8 : 8 ≤ m.f
  · rw [if_pos h8]; simp [hasZ, h8]
  · rw [if_neg h8]; simp [hasZ, h8]
end Go.Proofs.YtejbbnpgghpgaaaGreatDoor
