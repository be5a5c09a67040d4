/- The places of messages; no conditions beyond those that each fact names. -/
import Derived.Test.YtejbbnpgghpgaaaGreatDoorBytIToStw
namespace Go.Proofs.YtejbbnpgghpgaaaGreatDoor
open Go.RowKit
set_option linter.unusedVariables false
def psN (p : Nat → Bool) : Nat → List Nat
  | 0 => []
  | k + 1 => if p k = true then psN p k ++ [k] else psN p k
def psZ (p : Nat → Bool) (n : Nat) : List Int := (psN p n).map fun (k : Nat) => (k : Int)
theorem psZ_yes {p : Nat → Bool} {k : Nat} (h : p k = true) : psZ p (k + 1) = psZ p k ++ [(k : Int)] := by unfold psZ; rw [psN, if_pos h, List.map_append]; rfl
theorem psZ_no {p : Nat → Bool} {k : Nat} (h : p k = false) : psZ p (k + 1) = psZ p k := by unfold psZ; rw [psN, if_neg (by rw [h]; decide)]
theorem psN_len (p : Nat → Bool) : ∀ k, (psN p k).length ≤ k
  | 0 => Nat.le_refl _
  | k + 1 => by
    have := psN_len p k
    unfold psN
    split
    · simp; omega
    · omega
theorem psZ_len (p : Nat → Bool) (k : Nat) : (psZ p k).length ≤ k := by unfold psZ; rw [List.length_map]; exact psN_len p k
theorem infoZ : (Tryz.prog.info? 3).map (fun i => (i.zero, i.size, i.bytes)) = some (some (.int .i64 0), 1, 8) := by kernel_rfl
theorem infoZ64 : (Tryz.prog.info? 2).map (fun i => (i.zero, i.size, i.bytes)) = some (some (.int .i64 0), 1, 8) := by kernel_rfl
def PlEnd (ps : List Int) (w : World) (e : Ending) (w' : World) : Prop := ∃ s', e = .returned (slW s') ∧ OwZ 3 w' s' ps ∧ (∀ g ∈ blkS s', w.heap.size ≤ g) ∧ Below w.heap.size w w'
set_option maxHeartbeats 1600000 in
set_option maxRecDepth 100000 in
theorem placesOf_ct (G : Nat) (ct : Value) (s : SlQ) (l : List Msg) (p : Nat → Bool) {lo : Nat} (w : World) (hs : IsMs lo w s l) (hn : l.length ≤ 1000000)
    (hG : ∀ (args : Array Value) (w : World), (callFunc G args).run Tryz.prog w = .ok (.enter G args) w)
    (hI : ∀ k, k < l.length → ∀ (q : SlQ) (w' : World), Below w.heap.size w w' → Calls Tryz.prog G #[msX (nthM l k) q, ct] w' fun e w'' => e = .returned (.bool (p k)) ∧ Below w'.heap.size w' w'') :
    Calls Tryz.prog 193 #[slW s, .func (.func G) #[] #[ct]] w fun e w' => PlEnd (psZ p l.length) w e w' := by
  obtain ⟨a, n, cap⟩ := s
  obtain ⟨hl, hnc, hcm, hr⟩ := hs
  dsimp only [slW] at *
  unfold maxLen at hcm
  rw [hl] at hI hn ⊢
  have HI : Hid (∀ k, k < n → ∀ (q : SlQ) (w' : World), Below w.heap.size w w' → Calls Tryz.prog G #[msX (nthM l k) q, ct] w' fun e w'' => e = .returned (.bool (p k)) ∧ Below w'.heap.size w' w'') := hI
  clear hI
  go_enter Tryz.func193, Tryz.ntmps193
  go_wp2
  go_loopw [5, 10] (fun v i wr => ∃ (k : Nat) (s' : SlQ), k ≤ n ∧ i = .int .i64 k ∧ v = slW s' ∧ OwZ 3 wr s' (psZ p k) ∧ (∀ g ∈ blkS s', w.heap.size ≤ g) ∧ Below w.heap.size w wr) (fun _ i _ => n - (intOf i).toNat)
  case atStart => exact ⟨0, (none, 0, 0), Nat.zero_le _, rfl, rfl, OwZ.nil _ _, fun g hg => by simp [blkS] at hg, Below.refl _ _⟩
  case round =>
    obtain ⟨k, s', hk, rfl, rfl, hO, hge, hbel⟩ := hrel
    by_cases hkn : k < n
    · have hki : (k : Int) < (n : Int) := by omega
      obtain ⟨g, off, rfl, -, hglt, hcell⟩ := (hr.below hbel).at_ (by omega)
      obtain ⟨q, ⟨c0, c1, c2, c3⟩, -⟩ := hcell k (by omega)
      have HS1 : Hid (p k = true → psZ p (k + 1) = psZ p k ++ [(k : Int)]) := fun h => psZ_yes h
      have HS0 : Hid (p k = false → psZ p (k + 1) = psZ p k) := fun h => psZ_no h
      have hpl : (psZ p k).length ≤ k := psZ_len p k
      have HC := HI.out k hkn q
      clear hcell
      generalize p k = bv at *
      generalize nthM l k = y at *
      obtain ⟨mu, mf, md, mb⟩ := y
      dsimp only at c0 c1 c2 HC
      have hb0 : Below wr.heap.size wr (wr.alloc (.cells #[.int .i64 mu, .int .i64 mf, .int .i64 md, slW q] 136)) := (Below.refl _ _).alloc (Nat.le_refl _) _
      have hbel0 := hbel.trans (hb0.mono hbel.size)
      have hO0 := hO.below hb0 (Nat.le_refl _)
      go_wp2_with fail
      refine (HC _ hbel0).mono ?_
      rintro e w2 ⟨rfl, hb2⟩
      have hbel2 := hbel0.trans (hb2.mono hbel0.size)
      have hO2 := hO0.below hb2 (Nat.le_refl _)
      clear HC HI hG hb0 hbel0 hO0 hb2 hO
      cases bv with
      | true =>
        have HM : Hid (_) := HS1.out rfl
        clear HS1 HS0
        have hbw : Below w2.heap.size w2 (w2.alloc (.cells #[.int .i64 (k : Int)] 3)) := (Below.refl _ _).alloc (Nat.le_refl _) _
        have hbel3 : Below w.heap.size w (w2.alloc (.cells #[.int .i64 (k : Int)] 3)) := hbel2.trans (hbw.mono hbel2.size)
        have hO3 := hO2.below hbw (Nat.le_refl _)
        clear hbw hO2 hbel2
        go_wp2_with (at_builtin; go_loud (refine app1 rfl _ _ 207 3 rfl Tryz.underlying207 infoZ s' (psZ p k) rfl hO3 w2.heap.size (k : Int) rfl (by simp) (by omega) ?_; intro s2 w4 hO4 hgr hloc))
        have hbel4 : Below w.heap.size w w4 := hbel3.grown hgr hbel3.size (fun g hg => hge g (mem_blkS.2 hg))
        have hge4 : ∀ g ∈ blkS s2, w.heap.size ≤ g := fun g hg => by
          rcases hloc with e | e
          · exact hge g (e ▸ hg)
          · rw [e, List.mem_singleton] at hg; rw [hg]; exact hbel3.size
        have HO : Hid (OwZ 3 w4 s2 (psZ p (k + 1))) := by rw [HM.out]; exact hO4
        clear hO4 hgr hloc hO3 hbel3
        go_wp2
        go_roundw
        case rel => exact ⟨k + 1, s2, by omega, by go_num, rfl, HO.out, hge4, hbel4⟩
        case measure => simp [intOf]; omega
      | false =>
        have HM : Hid (_) := HS0.out rfl
        clear HS1 HS0
        go_wp2
        go_roundw
        case rel => exact ⟨k + 1, s', by omega, by go_num, rfl, by rw [HM.out]; exact hO2, hge, hbel2⟩
        case measure => simp [intOf]; omega
    · have hki : ¬ (k : Int) < (n : Int) := by omega
      obtain rfl : k = n := by omega
      go_wp2
      go_ret
      exact ⟨s', rfl, hO, hge, hbel⟩
set_option maxHeartbeats 1600000 in
set_option maxRecDepth 100000 in
theorem placesOf_fn (G : Nat) (s : SlQ) (l : List Msg) (p : Nat → Bool) {lo : Nat} (w : World) (hs : IsMs lo w s l) (hn : l.length ≤ 1000000)
    (hG : ∀ (args : Array Value) (w : World), (callFunc G args).run Tryz.prog w = .ok (.enter G args) w)
    (hI : ∀ k, k < l.length → ∀ (q : SlQ) (w' : World), Below w.heap.size w w' → Calls Tryz.prog G #[msX (nthM l k) q] w' fun e w'' => e = .returned (.bool (p k)) ∧ Below w'.heap.size w' w'') :
    Calls Tryz.prog 193 #[slW s, .func (.func G) #[] #[]] w fun e w' => PlEnd (psZ p l.length) w e w' := by
  obtain ⟨a, n, cap⟩ := s
  obtain ⟨hl, hnc, hcm, hr⟩ := hs
  dsimp only [slW] at *
  unfold maxLen at hcm
  rw [hl] at hI hn ⊢
  have HI : Hid (∀ k, k < n → ∀ (q : SlQ) (w' : World), Below w.heap.size w w' → Calls Tryz.prog G #[msX (nthM l k) q] w' fun e w'' => e = .returned (.bool (p k)) ∧ Below w'.heap.size w' w'') := hI
  clear hI
  go_enter Tryz.func193, Tryz.ntmps193
  go_wp2
  go_loopw [5, 10] (fun v i wr => ∃ (k : Nat) (s' : SlQ), k ≤ n ∧ i = .int .i64 k ∧ v = slW s' ∧ OwZ 3 wr s' (psZ p k) ∧ (∀ g ∈ blkS s', w.heap.size ≤ g) ∧ Below w.heap.size w wr) (fun _ i _ => n - (intOf i).toNat)
  case atStart => exact ⟨0, (none, 0, 0), Nat.zero_le _, rfl, rfl, OwZ.nil _ _, fun g hg => by simp [blkS] at hg, Below.refl _ _⟩
  case round =>
    obtain ⟨k, s', hk, rfl, rfl, hO, hge, hbel⟩ := hrel
    by_cases hkn : k < n
    · have hki : (k : Int) < (n : Int) := by omega
      obtain ⟨g, off, rfl, -, hglt, hcell⟩ := (hr.below hbel).at_ (by omega)
      obtain ⟨q, ⟨c0, c1, c2, c3⟩, -⟩ := hcell k (by omega)
      have HS1 : Hid (p k = true → psZ p (k + 1) = psZ p k ++ [(k : Int)]) := fun h => psZ_yes h
      have HS0 : Hid (p k = false → psZ p (k + 1) = psZ p k) := fun h => psZ_no h
      have hpl : (psZ p k).length ≤ k := psZ_len p k
      have HC := HI.out k hkn q
      clear hcell
      generalize p k = bv at *
      generalize nthM l k = y at *
      obtain ⟨mu, mf, md, mb⟩ := y
      dsimp only at c0 c1 c2 HC
      have hb0 : Below wr.heap.size wr (wr.alloc (.cells #[.int .i64 mu, .int .i64 mf, .int .i64 md, slW q] 136)) := (Below.refl _ _).alloc (Nat.le_refl _) _
      have hbel0 := hbel.trans (hb0.mono hbel.size)
      have hO0 := hO.below hb0 (Nat.le_refl _)
      go_wp2_with fail
      refine (HC _ hbel0).mono ?_
      rintro e w2 ⟨rfl, hb2⟩
      have hbel2 := hbel0.trans (hb2.mono hbel0.size)
      have hO2 := hO0.below hb2 (Nat.le_refl _)
      clear HC HI hG hb0 hbel0 hO0 hb2 hO
      cases bv with
      | true =>
        have HM : Hid (_) := HS1.out rfl
        clear HS1 HS0
        have hbw : Below w2.heap.size w2 (w2.alloc (.cells #[.int .i64 (k : Int)] 3)) := (Below.refl _ _).alloc (Nat.le_refl _) _
        have hbel3 : Below w.heap.size w (w2.alloc (.cells #[.int .i64 (k : Int)] 3)) := hbel2.trans (hbw.mono hbel2.size)
        have hO3 := hO2.below hbw (Nat.le_refl _)
        clear hbw hO2 hbel2
        go_wp2_with (at_builtin; go_loud (refine app1 rfl _ _ 207 3 rfl Tryz.underlying207 infoZ s' (psZ p k) rfl hO3 w2.heap.size (k : Int) rfl (by simp) (by omega) ?_; intro s2 w4 hO4 hgr hloc))
        have hbel4 : Below w.heap.size w w4 := hbel3.grown hgr hbel3.size (fun g hg => hge g (mem_blkS.2 hg))
        have hge4 : ∀ g ∈ blkS s2, w.heap.size ≤ g := fun g hg => by
          rcases hloc with e | e
          · exact hge g (e ▸ hg)
          · rw [e, List.mem_singleton] at hg; rw [hg]; exact hbel3.size
        have HO : Hid (OwZ 3 w4 s2 (psZ p (k + 1))) := by rw [HM.out]; exact hO4
        clear hO4 hgr hloc hO3 hbel3
        go_wp2
        go_roundw
        case rel => exact ⟨k + 1, s2, by omega, by go_num, rfl, HO.out, hge4, hbel4⟩
        case measure => simp [intOf]; omega
      | false =>
        have HM : Hid (_) := HS0.out rfl
        clear HS1 HS0
        go_wp2
        go_roundw
        case rel => exact ⟨k + 1, s', by omega, by go_num, rfl, by rw [HM.out]; exact hO2, hge, hbel2⟩
        case measure => simp [intOf]; omega
    · have hki : ¬ (k : Int) < (n : Int) := by omega
      obtain rfl : k = n := by omega
      go_wp2
      go_ret
      exact ⟨s', rfl, hO, hge, hbel⟩
end Go.Proofs.YtejbbnpgghpgaaaGreatDoor
