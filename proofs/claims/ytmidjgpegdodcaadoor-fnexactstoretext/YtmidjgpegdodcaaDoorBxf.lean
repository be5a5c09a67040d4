/- The fault of a mailbox: the program's side; no conditions beyond those that each fact names. -/
import Derived.Test.YtmidjgpegdodcaaDoorSmn
import Derived.Test.YtmidjgpegdodcaaDoorBxs
namespace Go.Proofs.YtmidjgpegdodcaaDoor
open Go.RowKit

/-- The fault of messages that follow one with the Uid p, below x. -/
def bmV (x : Int) : Int → List Msg → Int
  | _, [] => 0
  | p, m :: l => if mfV m = 0 then (if m.u ≤ p ∨ x ≤ m.u then 1 else bmV x m.u l) else mfV m
/-- THE FAULT OF A MAILBOX. -/
def bfV (b : Bx) : Int := if bnOk (txB b.n) = true then (if bt b.v 1 999 = true ∧ bt b.x 1 1000 = true then (if 6 < b.m.length then 2 else bmV b.x 0 b.m) else 3) else 5
theorem dropM (l : List Msg) (k : Nat) (h : k < l.length) : l.drop k = nthM l k :: l.drop (k + 1) := by
  rw [nthM_get h]; exact List.drop_eq_getElem_cons h
theorem bmV_step (x p : Int) (l : List Msg) (k : Nat) (h : k < l.length) : bmV x p (l.drop k) = if mfV (nthM l k) = 0 then (if (nthM l k).u ≤ p ∨ x ≤ (nthM l k).u then 1 else bmV x (nthM l k).u (l.drop (k + 1))) else mfV (nthM l k) := by
  rw [dropM l k h]; rfl
theorem bmV_end (x p : Int) (l : List Msg) (k : Nat) (h : l.length ≤ k) : bmV x p (l.drop k) = 0 := by
  rw [List.drop_of_length_le h]; rfl

set_option maxHeartbeats 3200000 in
set_option maxRecDepth 100000 in
theorem boxFault_any (m : Bx) (s : SlQ) {lo : Nat} (w : World) (hs : IsMs lo w s m.m) (hn : m.n.size ≤ 1048576) :
    Calls Tryd.prog 34 #[bxX m s] w fun e w' => e = .returned (.int .i64 (bfV m)) ∧ Below w.heap.size w w' := by
  have hb0 : Below w.heap.size w (w.alloc (.cells #[.string m.n, .int .i64 m.v, .int .i64 m.x, slW s] 45)) := (Below.refl _ _).alloc (Nat.le_refl _) _
  have hQ0 := Qc.new w (.string m.n) (.int .i64 m.v) (.int .i64 m.x) (slW s) 45
  have hs0 := hs.below hb0
  have HNM := isBoxName_nm m.n (w.alloc (.cells #[.string m.n, .int .i64 m.v, .int .i64 m.x, slW s] 45)) hn
  have HV : Hid (bfV m = if bnOk (txB m.n) = true then (if bt m.v 1 999 = true ∧ bt m.x 1 1000 = true then (if 6 < s.2.1 then 2 else bmV m.x 0 m.m) else 3) else 5) := by show _ = _; unfold bfV; rw [hs.1]
  clear hs
  obtain ⟨a, n, cap⟩ := s
  obtain ⟨nm, v, x, l⟩ := m
  dsimp only [slW] at *
  obtain ⟨hl, hnc, hcm, hr⟩ := hs0
  dsimp only at hl hnc hcm hr
  generalize bfV ⟨nm, v, x, l⟩ = r at *
  generalize bnOk (txB nm) = bn at *
  go_enter Tryd.func34, Tryd.ntmps34
  go_wp2_with fail
  generalize (w.alloc (.cells #[.string nm, .int .i64 v, .int .i64 x, .slice a n cap] 45)) = W0 at *
  refine HNM.mono ?_
  rintro e w1 ⟨rfl, hb1⟩
  have hB1 := hb0.trans (hb1.mono hb0.size)
  have hQ1 := hQ0.below hb1 hQ0.lt
  have hr1 := hr.below hb1
  clear HNM hb0 hb1 hQ0 hr
  obtain ⟨c0, c1, c2, c3⟩ := id hQ1
  dsimp only at c0 c1 c2 c3
  cases bn with
  | false =>
    have HM : Hid (r = 5) := HV.out.trans (by simp)
    clear HV
    go_wp2
    go_ret
    exact ⟨by rw [HM.out]; rfl, hB1⟩
  | true =>
    cases h0 : bt v 1 999 with
    | false =>
      have HM : Hid (r = 3) := HV.out.trans (by simp [h0])
      clear HV
      go_wp2_with (first | (go_at_call 23; refine (isBetween_bt _ _ _ _).mono ?_; rintro e w' ⟨rfl, rfl⟩))
      go_ret
      exact ⟨by rw [HM.out]; rfl, hB1⟩
    | true =>
      cases h1 : bt x 1 1000 with
      | false =>
        have HM : Hid (r = 3) := HV.out.trans (by simp [h0, h1])
        clear HV
        go_wp2_with (first | (go_at_call 23; refine (isBetween_bt _ _ _ _).mono ?_; rintro e w' ⟨rfl, rfl⟩))
        go_ret
        exact ⟨by rw [HM.out]; rfl, hB1⟩
      | true =>
        by_cases h6 : 6 < n
        · have h6' : (6 : Int) < (n : Int) := by omega
          have HM : Hid (r = 2) := HV.out.trans (by simp [h0, h1, h6])
          clear HV
          go_wp2_with (first | (go_at_call 23; refine (isBetween_bt _ _ _ _).mono ?_; rintro e w' ⟨rfl, rfl⟩))
          go_ret
          exact ⟨by rw [HM.out]; rfl, hB1⟩
        · have h6' : ¬ (6 : Int) < (n : Int) := by omega
          have HM : Hid (r = bmV x 0 l) := HV.out.trans (by simp [h0, h1, h6])
          clear HV
          go_wp2_with (first | (go_at_call 23; refine (isBetween_bt _ _ _ _).mono ?_; rintro e w' ⟨rfl, rfl⟩))
          go_loopw [3, 28] (fun q i wr => ∃ (k : Nat) (p : Int), k ≤ n ∧ i = .int .i64 k ∧ q = .int .i64 p ∧ Hid (r = bmV x p (l.drop k)) ∧ Below w1.heap.size w1 wr) (fun _ i _ => n - (intOf i).toNat)
          case atStart => exact ⟨0, 0, Nat.zero_le _, rfl, rfl, HM, Below.refl _ _⟩
          case round =>
            obtain ⟨k, p, hk, rfl, rfl, HR, hbel⟩ := hrel
            clear HM c0 c1 c2 c3
            have hB := hB1.trans (hbel.mono hB1.size)
            obtain ⟨c0, c1, c2, c3⟩ := hQ1.below hbel hQ1.lt
            dsimp only at c0 c1 c2 c3
            by_cases hkn : k < n
            · have hki : (k : Int) < (n : Int) := by omega
              obtain ⟨g, off, rfl, -, hglt, hcell⟩ := (hr1.below hbel).at_ (by omega)
              obtain ⟨sl, ⟨d0, d1, d2, d3⟩, hI⟩ := hcell k (by omega)
              have HST : Hid (r = if mfV (nthM l k) = 0 then (if (nthM l k).u ≤ p ∨ x ≤ (nthM l k).u then 1 else bmV x (nthM l k).u (l.drop (k + 1))) else mfV (nthM l k)) := HR.out.trans (bmV_step x p l k (by omega))
              clear HR hcell
              generalize nthM l k = y at *
              obtain ⟨yu, yf, yd, yb⟩ := y
              dsimp only at d0 d1 d2 hI HST
              have hbA : Below wr.heap.size wr (wr.alloc (.cells #[.int .i64 yu, .int .i64 yf, .int .i64 yd, slW sl] 60)) := (Below.refl _ _).alloc (Nat.le_refl _) _
              have HCM := messageFault_any ⟨yu, yf, yd, yb⟩ sl _ (hI.below hbA)
              have hQA := Qc.new wr (.int .i64 yu) (.int .i64 yf) (.int .i64 yd) (slW sl) 60
              have hbelA := hbel.trans (hbA.mono hbel.size)
              have hgA : wr.heap.size < (wr.alloc (.cells #[.int .i64 yu, .int .i64 yf, .int .i64 yd, slW sl] 60)).heap.size := by simp
              generalize mfV ⟨yu, yf, yd, yb⟩ = c at *
              go_wp2_with fail
              generalize (wr.alloc (.cells #[.int .i64 yu, .int .i64 yf, .int .i64 yd, slW sl] 60)) = WA at *
              generalize wr.heap.size = gA at *
              refine HCM.mono ?_
              rintro e w2 ⟨rfl, hb2⟩
              have hbel2 := hbelA.trans (hb2.mono hbelA.size)
              obtain ⟨e0, e1, e2, e3⟩ := hQA.below hb2 hgA
              obtain ⟨f0, f1, f2, f3⟩ := hQ1.below hbel2 hQ1.lt
              have hB2 := hB1.trans (hbel2.mono hB1.size)
              dsimp only at e0 e1 e2 e3 f0 f1 f2 f3
              clear HCM hb2 hbelA hbA hQA c0 c1 c2 c3 d0 d1 d2 d3 hI
              by_cases hc : c = 0
              · subst hc
                by_cases hp : yu ≤ p
                · have HM : Hid (r = 1) := HST.out.trans (by simp [hp])
                  clear HST
                  go_wp2
                  go_ret
                  exact ⟨by rw [HM.out]; rfl, hB2⟩
                · by_cases hx : x ≤ yu
                  · have HM : Hid (r = 1) := HST.out.trans (by simp [hx])
                    clear HST
                    go_wp2
                    go_ret
                    exact ⟨by rw [HM.out]; rfl, hB2⟩
                  · have HM : Hid (r = bmV x yu (l.drop (k + 1))) := HST.out.trans (by simp [hp, hx])
                    clear HST
                    go_wp2
                    go_roundw
                    case rel => exact ⟨k + 1, yu, by omega, by go_num, by trivial, HM, hbel2⟩
                    case measure => simp [intOf]; omega
              · have HM : Hid (r = c) := HST.out.trans (by simp [hc])
                clear HST
                go_wp2
                go_ret
                exact ⟨by rw [HM.out]; rfl, hB2⟩
            · have hki : ¬ (k : Int) < (n : Int) := by omega
              have HM : Hid (r = 0) := HR.out.trans (bmV_end x p l k (by omega))
              clear HR
              go_wp2
              go_ret
              exact ⟨by rw [HM.out]; rfl, hB⟩
end Go.Proofs.YtmidjgpegdodcaaDoor
