/- The program's reading of a set, whole: at every text of at most 1048576 bytes; the library's table and errors are there; no conditions beyond those that each fact names. -/
import Derived.Test.YtlkfmgfblfkgbaaGreatDoorYpe
import Derived.Test.YtlkfmgfblfkgbaaGreatDoorYtv
namespace Go.Proofs.YtlkfmgfblfkgbaaGreatDoor
open Go.RowKit

theorem ext_le (s : ByteArray) (a b : Nat) : (s.extract a b).size ≤ s.size := by
  rw [ByteArray.size_extract]; omega
theorem splitB_len (sep : ByteArray) : ∀ (k : Nat) (s : ByteArray), 1 ≤ (Lib.splitB sep 0 k s).length ∧ (Lib.splitB sep 0 k s).length ≤ k + 1
  | 0, s => by rw [Lib.splitB_zero]; simp
  | k + 1, s => by
    unfold Lib.splitB
    split
    · simp
    · have := splitB_len sep k (s.extract ((Lib.indexB s sep).toNat + sep.size) s.size)
      simp only [List.length_cons]; omega
theorem splitB_size (sep : ByteArray) : ∀ (k : Nat) (s : ByteArray), ∀ x ∈ Lib.splitB sep 0 k s, x.size ≤ s.size
  | 0, s, x, hx => by
    rw [Lib.splitB_zero] at hx
    simp at hx
    rw [hx]; exact Nat.le_refl _
  | k + 1, s, x, hx => by
    unfold Lib.splitB at hx
    split at hx
    · simp at hx
      rw [hx]; exact Nat.le_refl _
    · rcases List.mem_cons.1 hx with rfl | hx
      · exact ext_le _ _ _
      · exact Nat.le_trans (splitB_size sep k _ x hx) (ext_le _ _ _)
theorem cellsOf_get {ps : List ByteArray} {N k : Nat} (h : k < ps.length) : (Lib.cellsOf ps N)[k]? = some (.string ps[k]) := by
  unfold Lib.cellsOf
  rw [List.getElem?_toArray, List.getElem?_append_left (by rw [List.length_map]; exact h), List.getElem?_map, List.getElem?_eq_getElem h]
  rfl

set_option maxHeartbeats 1600000 in
set_option maxRecDepth 100000 in
theorem rangesIn_any (s : ByteArray) (w : World) (hs : s.size ≤ 1048576) (hv : VarE w) : Calls Tryz.prog 22 #[.string s] w fun e w' => ∃ v, e = .returned v ∧ OwnY w' w.heap.size v (lP s) ∧ Below w.heap.size w w' := by
  obtain ⟨⟨m, hm⟩, -, -⟩ := id hv
  have HSp := Tryz.strings_SplitN s ⟨#[44]⟩ 9 m w (by omega) hm (by decide) (by decide) (by decide)
  obtain ⟨hp1, hp9⟩ := splitB_len ⟨#[44]⟩ (min 9 (s.size + 1) - 1) s
  have HSZ : Hid (∀ x ∈ Lib.splitB ⟨#[44]⟩ 0 (min 9 (s.size + 1) - 1) s, x.size ≤ 1048576) := fun x hx => Nat.le_trans (splitB_size _ _ _ x hx) hs
  have HLP : Hid (lP s = (Lib.splitB ⟨#[44]⟩ 0 (min 9 (s.size + 1) - 1) s).map rgP) := rfl
  have hmin : min 9 (s.size + 1) - 1 ≤ 8 := by omega
  generalize Lib.splitB ⟨#[44]⟩ 0 (min 9 (s.size + 1) - 1) s = ps at *
  have HPL : Hid (∀ k, k < ps.length → (Lib.cellsOf ps (min 9 (s.size + 1)))[k]? = some (.string ps[k]!)) := fun k hk => by rw [cellsOf_get hk, getElem!_pos ps k hk]
  generalize Lib.cellsOf ps (min 9 (s.size + 1)) = cs at *
  generalize min 9 (s.size + 1) = cp at *
  have HC : Hid (_) := HSp
  obtain ⟨N, hN⟩ : ∃ N, ps.length = N := ⟨_, rfl⟩
  rw [hN] at HPL hp1 hp9 HC
  clear HSp hm
  go_enter Tryz.func22, Tryz.ntmps22
  go_wp2_with fail
  refine Calls.mono HC.out ?_
  rintro e w1 ⟨rfl, rfl⟩
  have hb1 : Below w.heap.size w (w.alloc (.cells cs 9)) := (Below.refl _ _).alloc (Nat.le_refl _) _
  have hv1 := hv.below hb1
  have hcell : ∀ k, k < N → (w.alloc (.cells cs 9)).cell? ⟨w.heap.size, k, none⟩ = some (.string ps[k]!) := fun k hk => by
    rw [World.cell?_alloc_mark]; exact HPL.out k hk
  have hsW : (w.alloc (.cells cs 9)).heap.size = w.heap.size + 1 := by simp
  generalize w.alloc (.cells cs 9) = W at *
  clear HC HPL
  go_wp2
  go_loopw [3, 9] (fun v iv wr => ∃ k : Nat, k ≤ N ∧ iv = .int .i64 k ∧ OwnY wr W.heap.size v ((ps.take k).map rgP) ∧ Below W.heap.size W wr) (fun _ iv _ => N - (intOf iv).toNat)
  case atStart => exact ⟨0, Nat.zero_le _, rfl, OwnY.nil _ _, Below.refl _ _⟩
  case round =>
    obtain ⟨k, hk, rfl, hown, hbel⟩ := hrel
    by_cases hkn : k < N
    · have hki : (k : Int) < (N : Int) := by omega
      have hc : wr.cell? ⟨w.heap.size, k, none⟩ = some (.string ps[k]!) := (hbel.cell (p := ⟨w.heap.size, k, none⟩) (by rw [hsW]; simp)).trans (hcell k hkn)
      have hkk : ps[k]! = ps[k]'(by omega) := getElem!_pos ps k (by omega)
      have hsz := HSZ.out ps[k]! (by rw [hkk]; exact List.getElem_mem _)
      have HT : Hid ((ps.take k).map rgP ++ [rgP ps[k]!] = (ps.take (k + 1)).map rgP) := by
        show _ = _
        rw [List.take_succ_eq_append_getElem (by omega), List.map_append, hkk]; rfl
      have hlt : ((ps.take k).map rgP).length = k := by rw [List.length_map, List.length_take]; omega
      have hvr := hv1.below hbel
      generalize (ps.take k).map rgP = out at *
      clear hkk
      generalize ps[k]! = x at *
      obtain ⟨av, cv, ev, _, _⟩ := hown.form
      rw [hlt] at ev
      subst ev
      have HR : Hid (_) := rangeIn_any x wr hsz hvr
      go_wp2_with fail
      refine Calls.mono HR.out ?_
      rintro e w2 ⟨rfl, hb2⟩
      have hown2 := hown.below hb2 (Nat.le_refl _)
      have hbel2 := hbel.trans (hb2.mono hbel.size)
      clear hown hbel hb2 HR
      obtain ⟨f, t, hfq⟩ : ∃ f t, rgP x = (f, t) := ⟨_, _, rfl⟩
      rw [hfq]
      simp only
      have HQ : Hid (rgP x = (f, t)) := hfq
      clear hfq
      go_wp2_with (at_builtin; refine wpList_app_newY rfl _ _ rfl W.heap.size _ out rfl hown2 f t rfl (by omega) hbel2.size ?_; intro v' w3 ho3 hb3)
      have hB3 := hbel2.trans hb3
      rw [← HQ.out, HT.out] at ho3
      clear hb3 hown2
      go_roundw
      case rel => exact ⟨k + 1, by omega, by go_num, ho3, hB3⟩
      case measure => simp [intOf]; omega
    · have hki : ¬ (k : Int) < (N : Int) := by omega
      have hkk : ps.take k = ps := List.take_of_length_le (by omega)
      rw [hkk, ← HLP.out] at hown
      have hO := hown.low (C := w.heap.size) (by omega)
      have hB := hb1.trans (hbel.mono (by omega))
      clear hown hbel
      go_wp2
      go_ret
      exact ⟨_, rfl, hO, hB⟩
theorem lP_len (s : ByteArray) : 1 ≤ (lP s).length ∧ (lP s).length ≤ 9 := by
  unfold lP piP
  rw [List.length_map]
  have := splitB_len ⟨#[44]⟩ (min 9 (s.size + 1) - 1) s
  omega
end Go.Proofs.YtlkfmgfblfkgbaaGreatDoor
