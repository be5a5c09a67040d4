/- ComesAhead, the program's and the model's, whole · ComesAhead of the model. -/
import Derived.Test.YtfbjodbihenmjaaGreatDoorMsbToCah
namespace Go.Proofs.YtfbjodbihenmjaaGreatDoor
open Go.RowKit

theorem isKey_any (x : Int) (w : World) : Calls Tryz.prog 24 #[.int .i64 x] w fun e w' => e = .returned (.bool (bt x 1 4)) ∧ w = w' := by
  go_enter Tryz.func24, Tryz.ntmps24
  go_wp2_with fail
  refine (isBetween_bt x 1 4 _).mono ?_
  rintro e w' ⟨rfl, rfl⟩
  go_wp2
  go_ret
  exact ⟨rfl, rfl⟩
theorem isComparator_bt (x : Int) (w : World) : Calls Tryz.prog 23 #[.int .i64 x] w fun e w' => e = .returned (.bool (bt x 1 3)) ∧ w = w' := by
  go_enter Tryz.func23, Tryz.ntmps23
  go_wp2_with fail
  refine (isBetween_bt x 1 3 _).mono ?_
  rintro e w' ⟨rfl, rfl⟩
  go_wp2
  go_ret
  exact ⟨rfl, rfl⟩
theorem l13Key_any (x : Int) (w : World) : Calls Tryz.prog 28 #[.int .i64 x] w fun e w' => e = .returned (.bool (bt x 1 4)) ∧ w = w' := by
  go_enter Tryz.func28, Tryz.ntmps28
  go_wp2_with fail
  refine (l1In_bt x 1 4 _).mono ?_
  rintro e w' ⟨rfl, rfl⟩
  go_wp2
  go_ret
  exact ⟨rfl, rfl⟩
theorem l3Cmp_bt (x : Int) (w : World) : Calls Tryz.prog 27 #[.int .i64 x] w fun e w' => e = .returned (.bool (bt x 1 3)) ∧ w = w' := by
  go_enter Tryz.func27, Tryz.ntmps27
  go_wp2_with fail
  refine (l1In_bt x 1 3 _).mono ?_
  rintro e w' ⟨rfl, rfl⟩
  go_wp2
  go_ret
  exact ⟨rfl, rfl⟩
theorem caV_bt (k key : Int) (m n : Msg) : caV k key m n = (if mfV m = 0 then (if mfV n = 0 then (if bt k 1 3 = true then (if bt key 1 4 = true then decide (ahV k key m n < 0) else false) else false) else false) else false) := by
  unfold caV bt
  by_cases h1 : mfV m = 0
  · by_cases h2 : mfV n = 0
    · by_cases h3 : 1 ≤ k ∧ k ≤ 3
      · by_cases h4 : 1 ≤ key ∧ key ≤ 4
        · simp [h1, h2, h3, h4]
        · rw [if_pos h1, if_pos h2, if_pos (decide_eq_true h3), if_neg (by rw [decide_eq_true_eq]; exact h4), decide_eq_false (fun h => h4 h.2.2.2.1)]
      · rw [if_pos h1, if_pos h2, if_neg (by rw [decide_eq_true_eq]; exact h3), decide_eq_false (fun h => h3 h.2.2.1)]
    · rw [if_pos h1, if_neg h2, decide_eq_false (fun h => h2 h.2.1)]
  · rw [if_neg h1, decide_eq_false (fun h => h1 h.1)]

set_option maxHeartbeats 3200000 in
set_option maxRecDepth 100000 in
theorem comesAhead_any (k key : Int) (m n : Msg) (g h : Nat) {lo lo' : Nat} (w : World) (cm cn : Nat) (hs : IsSl lo w (some ⟨g, 0, none⟩, m.b.length, cm) m.b) (hs' : IsSl lo' w (some ⟨h, 0, none⟩, n.b.length, cn) n.b)
    (hT : TabC w) (hTB : TabB w) (hTH : TabH w) (hMI : MaxI w) :
    Calls Tryz.prog 7 #[msX m (some ⟨g, 0, none⟩, m.b.length, cm), msX n (some ⟨h, 0, none⟩, n.b.length, cn), .int .i64 k, .int .i64 key] w fun e w' => e = .returned (.bool (caV k key m n)) ∧ Below w.heap.size w w' := by
  have HV : Hid (_ = _) := caV_bt k key m n
  obtain ⟨r, hr⟩ : ∃ r, caV k key m n = r := ⟨_, rfl⟩
  rw [hr] at HV ⊢
  clear hr
  have HM : Hid (∀ W : World, Below w.heap.size w W → Calls Tryz.prog 22 #[msX m (some ⟨g, 0, none⟩, m.b.length, cm)] W fun e w' => e = .returned (.int .i64 (mfV m)) ∧ Below W.heap.size W w') := fun W hW => messageFault_any m _ W (hs.below hW)
  have HN : Hid (∀ W : World, Below w.heap.size w W → Calls Tryz.prog 22 #[msX n (some ⟨h, 0, none⟩, n.b.length, cn)] W fun e w' => e = .returned (.int .i64 (mfV n)) ∧ Below W.heap.size W w') := fun W hW => messageFault_any n _ W (hs'.below hW)
  have HC : Hid (∀ W : World, Below w.heap.size w W → bt k 1 3 = true → Calls Tryz.prog 25 #[.agg #[.int .i64 k, .int .i64 key, .bool false], msX m (some ⟨g, 0, none⟩, m.b.length, cm), msX n (some ⟨h, 0, none⟩, n.b.length, cn)] W fun e w' => e = .returned (.int .i64 (ahV k key m n)) ∧ Below W.heap.size W w') := fun W hW hk => compare_any k key false m n g h W cm cn (hs.below hW) (hs'.below hW) (hT.below hW) (hTB.below hW) (hTH.below hW) (hMI.below hW) (of_decide_eq_true hk)
  generalize ahV k key m n = V at *
  generalize mfV m = M at *
  generalize mfV n = N at *
  obtain ⟨mu, mf, md, ma⟩ := m
  obtain ⟨nu, nf, nd, mb⟩ := n
  dsimp only [msX, slW] at HM HN HC ⊢
  generalize ma.length = lm at *
  generalize mb.length = ln at *
  clear hs hs' hT hTB hTH hMI
  have hbW : Below w.heap.size w ((w.alloc (.cells #[.int .i64 mu, .int .i64 mf, .int .i64 md, .slice (some ⟨g, 0, none⟩) lm cm] 25)).alloc (.cells #[.int .i64 nu, .int .i64 nf, .int .i64 nd, .slice (some ⟨h, 0, none⟩) ln cn] 25)) :=
    ((Below.refl _ _).alloc (Nat.le_refl _) _).alloc (by simp) _
  have hA := Qc.new w (.int .i64 mu) (.int .i64 mf) (.int .i64 md) (.slice (some ⟨g, 0, none⟩) lm cm) 25
  have hA' : Qc ((w.alloc (.cells #[.int .i64 mu, .int .i64 mf, .int .i64 md, .slice (some ⟨g, 0, none⟩) lm cm] 25)).alloc (.cells #[.int .i64 nu, .int .i64 nf, .int .i64 nd, .slice (some ⟨h, 0, none⟩) ln cn] 25)) w.heap.size _ := hA.below ((Below.refl (w.heap.size + 1) _).alloc (by simp) _) (by simp)
  have hB : Qc ((w.alloc (.cells #[.int .i64 mu, .int .i64 mf, .int .i64 md, .slice (some ⟨g, 0, none⟩) lm cm] 25)).alloc (.cells #[.int .i64 nu, .int .i64 nf, .int .i64 nd, .slice (some ⟨h, 0, none⟩) ln cn] 25)) (w.heap.size + 1) (.int .i64 nu, .int .i64 nf, .int .i64 nd, .slice (some ⟨h, 0, none⟩) ln cn) := by
    have h := Qc.new (w.alloc (.cells #[.int .i64 mu, .int .i64 mf, .int .i64 md, .slice (some ⟨g, 0, none⟩) lm cm] 25)) (.int .i64 nu) (.int .i64 nf) (.int .i64 nd) (.slice (some ⟨h, 0, none⟩) ln cn) 25
    simpa using h
  clear hA
  go_enter Tryz.func7, Tryz.ntmps7
  go_wp2_with fail
  generalize ((w.alloc (.cells #[.int .i64 mu, .int .i64 mf, .int .i64 md, .slice (some ⟨g, 0, none⟩) lm cm] 25)).alloc (.cells #[.int .i64 nu, .int .i64 nf, .int .i64 nd, .slice (some ⟨h, 0, none⟩) ln cn] 25)) = W at *
  refine (HM.out _ hbW).mono ?_
  rintro e w1 ⟨rfl, hb1⟩
  have hbX : Below w.heap.size w w1 := hbW.trans (hb1.mono hbW.size)
  have hA1 := hA'.below hb1 hA'.lt
  have hB1 := hB.below hb1 hB.lt
  clear hA' hB hb1 HM hbW
  by_cases e1 : M = 0
  · subst e1
    rw [if_pos rfl] at HV
    obtain ⟨b0, b1, b2, b3⟩ := id hB1
    dsimp only at b0 b1 b2 b3
    go_wp2_with fail
    refine (HN.out _ hbX).mono ?_
    rintro e w2 ⟨rfl, hb2⟩
    have hbY : Below w.heap.size w w2 := hbX.trans (hb2.mono hbX.size)
    have hA2 := hA1.below hb2 hA1.lt
    have hB2 := hB1.below hb2 hB1.lt
    clear hA1 hB1 hb2 HN hbX b0 b1 b2 b3
    by_cases e2 : N = 0
    · subst e2
      rw [if_pos rfl] at HV
      go_wp2_with fail
      refine (isComparator_bt k _).mono ?_
      rintro e w3 ⟨rfl, rfl⟩
      cases e3 : bt k 1 3 with
      | false =>
        rw [e3, if_neg (by simp)] at HV
        go_wp2
        go_ret
        exact ⟨by rw [HV.out]; rfl, hbY⟩
      | true =>
        rw [e3, if_pos rfl] at HV
        go_wp2_with fail
        refine (isKey_any key _).mono ?_
        rintro e w3 ⟨rfl, rfl⟩
        cases e4 : bt key 1 4 with
        | false =>
          rw [e4, if_neg (by simp)] at HV
          go_wp2
          go_ret
          exact ⟨by rw [HV.out]; rfl, hbY⟩
        | true =>
          rw [e4, if_pos rfl] at HV
          obtain ⟨b0, b1, b2, b3⟩ := id hB2
          obtain ⟨a0, a1, a2, a3⟩ := id hA2
          dsimp only at b0 b1 b2 b3 a0 a1 a2 a3
          go_wp2_with fail
          refine (HC.out _ hbY e3).mono ?_
          rintro e w3 ⟨rfl, hb3⟩
          have hbZ : Below w.heap.size w w3 := hbY.trans (hb3.mono hbY.size)
          clear hb3 HC hA2 hB2 a0 a1 a2 a3 b0 b1 b2 b3
          go_wp2
          go_ret
          exact ⟨by rw [HV.out]; rfl, hbZ⟩
    · rw [if_neg e2] at HV
      go_wp2
      go_ret
      exact ⟨by rw [HV.out]; rfl, hbY⟩
  · rw [if_neg e1] at HV
    go_wp2
    go_ret
    exact ⟨by rw [HV.out]; rfl, hbX⟩
end Go.Proofs.YtfbjodbihenmjaaGreatDoor

namespace Go.Proofs.YtfbjodbihenmjaaGreatDoor
open Go.RowKit

/-- A message's cells at an address. -/
def Mc (w : World) (p o : Nat) (m : Msg) (s : SlQ) : Prop := w.cell? ⟨p, o, none⟩ = some (.int .i64 m.u) ∧ w.cell? ⟨p, o + 1, none⟩ = some (.int .i64 m.f) ∧ w.cell? ⟨p, o + 2, none⟩ = some (.int .i64 m.d) ∧ w.cell? ⟨p, o + 3, none⟩ = some (slW s)
theorem Mc.lt {w : World} {p o : Nat} {m : Msg} {s : SlQ} (h : Mc w p o m s) : p < w.heap.size := World.block_lt_of_cell? w ⟨p, o, none⟩ h.1
theorem Mc.below {w w' : World} {p o : Nat} {m : Msg} {s : SlQ} (h : Mc w p o m s) (hb : Below w.heap.size w w') : Mc w' p o m s :=
  ⟨(hb.cell (p := ⟨p, o, none⟩) h.lt).trans h.1, (hb.cell (p := ⟨p, o + 1, none⟩) h.lt).trans h.2.1, (hb.cell (p := ⟨p, o + 2, none⟩) h.lt).trans h.2.2.1, (hb.cell (p := ⟨p, o + 3, none⟩) h.lt).trans h.2.2.2⟩

set_option maxHeartbeats 1600000 in
set_option maxRecDepth 100000 in
theorem l13Subject_any (m : Msg) (g p o : Nat) {lo : Nat} (w : World) (cm : Nat) (hs : IsSl lo w (some ⟨g, 0, none⟩, m.b.length, cm) m.b) (hm : m.b.length ≤ 400) (hc : Mc w p o m (some ⟨g, 0, none⟩, m.b.length, cm)) :
    Calls Tryz.prog 43 #[.pointer (some ⟨p, o, none⟩)] w fun e w' => ∃ v, e = .returned v ∧ OwnI w' w.heap.size v (sbV m.b).2 ∧ Below w.heap.size w w' := by
  obtain ⟨c0, c1, c2, c3⟩ := hc
  dsimp only [slW] at c3
  have HS := l6Subject_any g m.b.length m.b w hs.2.2.2.2.1 hs.2.2.2.1 rfl hs.2.1 hm
  have HZ : Hid ((sbV m.b).1 ≠ 0 → (sbV m.b).2 = []) := fun h => sbV_zero h
  obtain ⟨mu, mf, md, mb⟩ := m
  dsimp only at HS HZ c0 c1 c2 c3 ⊢
  generalize mb.length = ln at *
  generalize sbV mb = r at *
  obtain ⟨rc, rl⟩ := r
  dsimp only at HS HZ ⊢
  obtain ⟨K, hK⟩ : ∃ K, rl.length = K := ⟨_, rfl⟩
  go_enter Tryz.func43, Tryz.ntmps43
  go_wp2_with fail
  refine HS.mono ?_
  rintro e w1 ⟨v, rfl, ho, hb⟩
  obtain ⟨a, cp, hv, -, -⟩ := ho.form
  rw [hK] at hv
  subst hv
  clear HS c0 c1 c2 c3 hs
  by_cases hr : rc = 0
  · subst hr
    go_wp2
    go_ret
    exact ⟨_, rfl, ho, hb⟩
  · have hz := HZ.out hr
    subst hz
    go_wp2
    go_ret
    exact ⟨_, rfl, OwnI.lit w1 _ hb.size #[] [] rfl (by simp), hb.alloc hb.size _⟩

set_option maxHeartbeats 3200000 in
set_option maxRecDepth 100000 in
theorem l13Ahead_any (k key : Int) (m n : Msg) (g h pa oa pb ob : Nat) {lo lo' : Nat} (w : World) (cm : Nat) (hs : IsSl lo w (some ⟨g, 0, none⟩, m.b.length, cm) m.b) (cn : Nat) (hs' : IsSl lo' w (some ⟨h, 0, none⟩, n.b.length, cn) n.b)
    (hm : m.b.length ≤ 400) (hn : n.b.length ≤ 400) (hc : Mc w pa oa m (some ⟨g, 0, none⟩, m.b.length, cm)) (hd : Mc w pb ob n (some ⟨h, 0, none⟩, n.b.length, cn)) (hk : 1 ≤ k ∧ k ≤ 3) :
    Calls Tryz.prog 29 #[.pointer (some ⟨pa, oa, none⟩), .pointer (some ⟨pb, ob, none⟩), .int .i64 k, .int .i64 key] w fun e w' => e = .returned (.bool (decide (ahV k key m n < 0))) ∧ Below w.heap.size w w' := by
  have HV : Hid (ahV k key m n = if key = 1 then cmp1 m.d n.d else if key = 2 then cmp1 (m.b.length : Int) (n.b.length : Int) else if key = 3 then cmpL ((sbV m.b).2.map (mapC k)) ((sbV n.b).2.map (mapC k)) else cmp1 m.u n.u) := rfl
  have HN : ∀ x y : Int, decide (cmp1 x y < 0) = decide (x < y) := fun x y => by
    unfold cmp1
    by_cases h1 : x < y
    · rw [if_pos h1, decide_eq_true h1]; rfl
    · rw [if_neg h1, decide_eq_false h1]
      split <;> rfl
  have HA : Hid (∀ W, Below w.heap.size w W → Calls Tryz.prog 43 #[.pointer (some ⟨pa, oa, none⟩)] W fun e w' => ∃ v, e = .returned v ∧ OwnI w' W.heap.size v (sbV m.b).2 ∧ Below W.heap.size W w') := fun W hW => l13Subject_any m g pa oa W cm (hs.below hW) hm (hc.below hW)
  have HB : Hid (∀ W, Below w.heap.size w W → Calls Tryz.prog 43 #[.pointer (some ⟨pb, ob, none⟩)] W fun e w' => ∃ v, e = .returned v ∧ OwnI w' W.heap.size v (sbV n.b).2 ∧ Below W.heap.size W w') := fun W hW => l13Subject_any n h pb ob W cn (hs'.below hW) hn (hd.below hW)
  obtain ⟨a0, a1, a2, a3⟩ := hc
  obtain ⟨d0, d1, d2, d3⟩ := hd
  have hNa := sbV_len m.b
  have hNb := sbV_len n.b
  obtain ⟨mu, mf, md, ma⟩ := m
  obtain ⟨nu, nf, nd, mb⟩ := n
  dsimp only [slW] at HV hm hn HA HB a0 a1 a2 a3 d0 d1 d2 d3 hNa hNb ⊢
  clear hs hs'
  generalize ma.length = lm at *
  generalize mb.length = ln at *
  generalize (sbV ma).2 = la at *
  generalize (sbV mb).2 = lb at *
  obtain ⟨Na, hLa⟩ : ∃ N, la.length = N := ⟨_, rfl⟩
  obtain ⟨Nb, hLb⟩ : ∃ N, lb.length = N := ⟨_, rfl⟩
  rw [hLa] at hNa
  rw [hLb] at hNb
  have hna : (some (⟨pa, oa, none⟩ : Addr)).isSome = true := rfl
  by_cases k1 : key = 1
  · subst k1
    rw [if_pos rfl] at HV
    rw [HV.out, HN]
    clear HV HA HB HN
    go_enter Tryz.func29, Tryz.ntmps29
    go_wp2
    go_region
    go_wp2
    go_ret
    exact ⟨rfl, (Below.refl _ _).drew⟩
  by_cases k2 : key = 2
  · subst k2
    rw [if_neg (by omega), if_pos rfl] at HV
    rw [HV.out, HN, show decide ((lm : Int) < (ln : Int)) = decide (lm < ln) by simp]
    clear HV HA HB HN
    go_enter Tryz.func29, Tryz.ntmps29
    go_wp2
    go_region
    go_wp2
    go_ret
    exact ⟨rfl, (Below.refl _ _).drew⟩
  by_cases k3 : key = 3
  · subst k3
    rw [if_neg (by omega), if_neg (by omega), if_pos rfl] at HV
    obtain ⟨R, hR⟩ : ∃ R, cmpL (la.map (mapC k)) (lb.map (mapC k)) = R := ⟨_, rfl⟩
    rw [HV.out, hR]
    clear HV HN k1 k2 a0 a1 a2 a3 d0 d1 d2 d3
    go_enter Tryz.func29, Tryz.ntmps29
    go_wp2_with fail
    refine (HA.out _ (Below.refl _ _)).mono ?_
    rintro e w1 ⟨v1, rfl, ho1, hb1⟩
    obtain ⟨x1, cp1, hv1, -, -⟩ := ho1.form
    rw [hLa] at hv1
    subst hv1
    go_wp2_with fail
    refine (HB.out _ hb1).mono ?_
    rintro e w2 ⟨v2, rfl, ho2, hb2⟩
    obtain ⟨x2, cp2, hv2, -, -⟩ := ho2.form
    rw [hLb] at hv2
    subst hv2
    have hr1 := (OwnI.rd ho1).2.below hb2
    have hr2 := (OwnI.rd ho2).2
    have hbF : Below w.heap.size w w2 := hb1.trans (hb2.mono hb1.size)
    clear ho1 ho2 hb1 hb2 HA HB
    go_wp2_with fail
    refine (l3Compare_any k x1 x2 Na Nb cp1 cp2 la lb w2 hk hLa hLb hr1 hr2 (by omega) (by omega)).mono ?_
    rintro e w3 ⟨rfl, hb3⟩
    have hbG : Below w.heap.size w w3 := hbF.trans (hb3.mono hbF.size)
    rw [hR]
    clear hb3 hr1 hr2 hbF
    go_wp2
    go_ret
    exact ⟨rfl, hbG⟩
  rw [if_neg k1, if_neg k2, if_neg k3] at HV
  rw [HV.out, HN]
  clear HV HA HB HN
  go_enter Tryz.func29, Tryz.ntmps29
  go_wp2
  go_region
  go_wp2
  go_ret
  exact ⟨rfl, (Below.refl _ _).drew⟩

theorem mfV_len {m : Msg} (h : mfV m = 0) : m.b.length ≤ 400 := by
  unfold mfV at h
  split at h
  · split at h
    · simp at h
    · omega
  · simp at h

set_option maxHeartbeats 3200000 in
set_option maxRecDepth 100000 in
theorem specComesAhead_any (k key : Int) (m n : Msg) (g h : Nat) {lo lo' : Nat} (w : World) (cm : Nat) (hs : IsSl lo w (some ⟨g, 0, none⟩, m.b.length, cm) m.b) (cn : Nat) (hs' : IsSl lo' w (some ⟨h, 0, none⟩, n.b.length, cn) n.b) :
    Calls Tryz.prog 8 #[msX m (some ⟨g, 0, none⟩, m.b.length, cm), msX n (some ⟨h, 0, none⟩, n.b.length, cn), .int .i64 k, .int .i64 key] w fun e w' => e = .returned (.bool (caV k key m n)) ∧ Below w.heap.size w w' := by
  have HV : Hid (_ = _) := caV_bt k key m n
  obtain ⟨r, hr⟩ : ∃ r, caV k key m n = r := ⟨_, rfl⟩
  rw [hr] at HV ⊢
  clear hr
  have HM : Hid (∀ W : World, Below w.heap.size w W → Mc W w.heap.size 0 m (some ⟨g, 0, none⟩, m.b.length, cm) → Calls Tryz.prog 26 #[.pointer (some ⟨w.heap.size, 0, none⟩)] W fun e w' => e = .returned (.int .i64 (mfV m)) ∧ Below W.heap.size W w') := fun W hW hc => l7Message_any m _ w.heap.size 0 W (hs.below hW) hc.1 hc.2.1 hc.2.2.1 hc.2.2.2
  have HN : Hid (∀ W : World, Below w.heap.size w W → Mc W (w.heap.size + 1) 0 n (some ⟨h, 0, none⟩, n.b.length, cn) → Calls Tryz.prog 26 #[.pointer (some ⟨w.heap.size + 1, 0, none⟩)] W fun e w' => e = .returned (.int .i64 (mfV n)) ∧ Below W.heap.size W w') := fun W hW hc => l7Message_any n _ (w.heap.size + 1) 0 W (hs'.below hW) hc.1 hc.2.1 hc.2.2.1 hc.2.2.2
  have HC : Hid (∀ W : World, Below w.heap.size w W → mfV m = 0 → mfV n = 0 → bt k 1 3 = true → Mc W w.heap.size 0 m (some ⟨g, 0, none⟩, m.b.length, cm) → Mc W (w.heap.size + 1) 0 n (some ⟨h, 0, none⟩, n.b.length, cn) → Calls Tryz.prog 29 #[.pointer (some ⟨w.heap.size, 0, none⟩), .pointer (some ⟨w.heap.size + 1, 0, none⟩), .int .i64 k, .int .i64 key] W fun e w' => e = .returned (.bool (decide (ahV k key m n < 0))) ∧ Below W.heap.size W w') := fun W hW h1 h2 hk hc hd => l13Ahead_any k key m n g h w.heap.size 0 (w.heap.size + 1) 0 W cm (hs.below hW) cn (hs'.below hW) (mfV_len h1) (mfV_len h2) hc hd (of_decide_eq_true hk)
  generalize decide (ahV k key m n < 0) = V at *
  generalize mfV m = M at *
  generalize mfV n = N at *
  clear hs hs'
  have hbW : Below w.heap.size w ((w.alloc (.cells #[.int .i64 m.u, .int .i64 m.f, .int .i64 m.d, .slice (some ⟨g, 0, none⟩) m.b.length cm] 25)).alloc (.cells #[.int .i64 n.u, .int .i64 n.f, .int .i64 n.d, .slice (some ⟨h, 0, none⟩) n.b.length cn] 25)) :=
    ((Below.refl _ _).alloc (Nat.le_refl _) _).alloc (by simp) _
  have hA : Mc ((w.alloc (.cells #[.int .i64 m.u, .int .i64 m.f, .int .i64 m.d, .slice (some ⟨g, 0, none⟩) m.b.length cm] 25)).alloc (.cells #[.int .i64 n.u, .int .i64 n.f, .int .i64 n.d, .slice (some ⟨h, 0, none⟩) n.b.length cn] 25)) w.heap.size 0 m (some ⟨g, 0, none⟩, m.b.length, cm) := by
    have q := (Qc.new w (.int .i64 m.u) (.int .i64 m.f) (.int .i64 m.d) (.slice (some ⟨g, 0, none⟩) m.b.length cm) 25).below ((Below.refl (w.heap.size + 1) _).alloc (by simp) (.cells #[.int .i64 n.u, .int .i64 n.f, .int .i64 n.d, .slice (some ⟨h, 0, none⟩) n.b.length cn] 25)) (by simp)
    exact ⟨q.1, q.2.1, q.2.2.1, q.2.2.2⟩
  have hB : Mc ((w.alloc (.cells #[.int .i64 m.u, .int .i64 m.f, .int .i64 m.d, .slice (some ⟨g, 0, none⟩) m.b.length cm] 25)).alloc (.cells #[.int .i64 n.u, .int .i64 n.f, .int .i64 n.d, .slice (some ⟨h, 0, none⟩) n.b.length cn] 25)) (w.heap.size + 1) 0 n (some ⟨h, 0, none⟩, n.b.length, cn) := by
    have q := Qc.new (w.alloc (.cells #[.int .i64 m.u, .int .i64 m.f, .int .i64 m.d, .slice (some ⟨g, 0, none⟩) m.b.length cm] 25)) (.int .i64 n.u) (.int .i64 n.f) (.int .i64 n.d) (.slice (some ⟨h, 0, none⟩) n.b.length cn) 25
    have q' : Qc ((w.alloc (.cells #[.int .i64 m.u, .int .i64 m.f, .int .i64 m.d, .slice (some ⟨g, 0, none⟩) m.b.length cm] 25)).alloc (.cells #[.int .i64 n.u, .int .i64 n.f, .int .i64 n.d, .slice (some ⟨h, 0, none⟩) n.b.length cn] 25)) (w.heap.size + 1) (.int .i64 n.u, .int .i64 n.f, .int .i64 n.d, .slice (some ⟨h, 0, none⟩) n.b.length cn) := by simpa using q
    exact ⟨q'.1, q'.2.1, q'.2.2.1, q'.2.2.2⟩
  obtain ⟨mu, mf, md, ma⟩ := m
  obtain ⟨nu, nf, nd, mb⟩ := n
  dsimp only [msX, slW] at HM HN HC hA hB hbW ⊢
  generalize ma.length = lm at *
  generalize mb.length = ln at *
  go_enter Tryz.func8, Tryz.ntmps8
  go_wp2_with fail
  generalize ((w.alloc (.cells #[.int .i64 mu, .int .i64 mf, .int .i64 md, .slice (some ⟨g, 0, none⟩) lm cm] 25)).alloc (.cells #[.int .i64 nu, .int .i64 nf, .int .i64 nd, .slice (some ⟨h, 0, none⟩) ln cn] 25)) = W at *
  refine (HM.out _ hbW hA).mono ?_
  rintro e w1 ⟨rfl, hb1⟩
  have hbX : Below w.heap.size w w1 := hbW.trans (hb1.mono hbW.size)
  have hA1 := hA.below hb1
  have hB1 := hB.below hb1
  clear hA hB hb1 HM hbW
  by_cases e1 : M = 0
  · subst e1
    rw [if_pos rfl] at HV
    go_wp2_with fail
    refine (HN.out _ hbX hB1).mono ?_
    rintro e w2 ⟨rfl, hb2⟩
    have hbY : Below w.heap.size w w2 := hbX.trans (hb2.mono hbX.size)
    have hA2 := hA1.below hb2
    have hB2 := hB1.below hb2
    clear hA1 hB1 hb2 HN hbX
    by_cases e2 : N = 0
    · subst e2
      rw [if_pos rfl] at HV
      go_wp2_with fail
      refine (l3Cmp_bt k _).mono ?_
      rintro e w3 ⟨rfl, rfl⟩
      cases e3 : bt k 1 3 with
      | false =>
        rw [e3, if_neg (by simp)] at HV
        go_wp2
        go_ret
        exact ⟨by rw [HV.out]; rfl, hbY⟩
      | true =>
        rw [e3, if_pos rfl] at HV
        go_wp2_with fail
        refine (l13Key_any key _).mono ?_
        rintro e w3 ⟨rfl, rfl⟩
        cases e4 : bt key 1 4 with
        | false =>
          rw [e4, if_neg (by simp)] at HV
          go_wp2
          go_ret
          exact ⟨by rw [HV.out]; rfl, hbY⟩
        | true =>
          rw [e4, if_pos rfl] at HV
          go_wp2_with fail
          refine (HC.out _ hbY (by trivial) (by trivial) e3 hA2 hB2).mono ?_
          rintro e w3 ⟨rfl, hb3⟩
          have hbZ : Below w.heap.size w w3 := hbY.trans (hb3.mono hbY.size)
          clear hb3 HC hA2 hB2
          go_wp2
          go_ret
          exact ⟨by rw [HV.out]; rfl, hbZ⟩
    · rw [if_neg e2] at HV
      go_wp2
      go_ret
      exact ⟨by rw [HV.out]; rfl, hbY⟩
  · rw [if_neg e1] at HV
    go_wp2
    go_ret
    exact ⟨by rw [HV.out]; rfl, hbX⟩
end Go.Proofs.YtfbjodbihenmjaaGreatDoor
