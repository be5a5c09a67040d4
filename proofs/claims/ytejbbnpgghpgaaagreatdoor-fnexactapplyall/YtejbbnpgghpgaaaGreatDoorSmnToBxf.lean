/- The name of a mailbox: the program's and the model's · The fault of a mailbox: the program's side; no conditions beyond those that each fact names. -/
import Derived.Test.YtejbbnpgghpgaaaGreatDoorMsbToBxs
namespace Go.Proofs.YtejbbnpgghpgaaaGreatDoor
open Go.RowKit
def smB (c : Nat) : Bool := decide (97 ≤ c ∧ c ≤ 122)
def bnOk (t : List Nat) : Bool := t.all smB && decide (1 ≤ t.length ∧ t.length ≤ 8)
theorem allS_step {p : Nat → Bool} {t : List Nat} {k : Nat} (h : k < t.length) (h0 : (t.take k).all p = true) (hb : p (nth t k) = true) : (t.take (k + 1)).all p = true := by
  rw [take_snoc t k h, List.all_append, h0]
  simp [hb]
theorem allS_bad {p : Nat → Bool} {t : List Nat} {k : Nat} (h : k < t.length) (hb : p (nth t k) = false) : t.all p = false := by
  rw [List.all_eq_false]
  exact ⟨nth t k, by rw [nth_get h]; exact List.getElem_mem h, by rw [hb]; simp⟩
set_option maxHeartbeats 400000 in
theorem isSmallLetter_any (c : Nat) (w : World) (hc : c < 256) : Calls Tryz.prog 187 #[.int .u8 (c : Int)] w fun e w' => e = .returned (.bool (smB c)) ∧ w = w' := by
  have HM : Hid (smB c = decide (97 ≤ c ∧ c ≤ 122)) := rfl
  generalize smB c = r at *
  by_cases h1 : 97 ≤ c
  · have h1' : (97 : Int) ≤ (c : Int) := by omega
    by_cases h2 : c ≤ 122
    · have h2' : (c : Int) ≤ 122 := by omega
      have HR : Hid (r = true) := HM.out.trans (decide_eq_true ⟨h1, h2⟩)
      clear HM
      go_enter Tryz.func187, Tryz.ntmps187
      go_wp2
      go_ret
      exact ⟨by rw [HR.out]; rfl, rfl⟩
    · have h2' : ¬ (c : Int) ≤ 122 := by omega
      have HR : Hid (r = false) := HM.out.trans (decide_eq_false (by omega))
      clear HM
      go_enter Tryz.func187, Tryz.ntmps187
      go_wp2
      go_ret
      exact ⟨by rw [HR.out]; rfl, rfl⟩
  · have h1' : ¬ (97 : Int) ≤ (c : Int) := by omega
    have HR : Hid (r = false) := HM.out.trans (decide_eq_false (by omega))
    clear HM
    go_enter Tryz.func187, Tryz.ntmps187
    go_wp2
    go_ret
    exact ⟨by rw [HR.out]; rfl, rfl⟩
set_option maxHeartbeats 1600000 in
set_option maxRecDepth 100000 in
theorem areBytes_small (t : List Nat) (n : Nat) (w : World) (hl : t.length = n) (hB : IsB t) (hn : n ≤ 1048576) :
    Calls Tryz.prog 186 #[.string (str t), .func (.func 187) #[] #[]] w fun e w' => e = .returned (.bool (t.all smB)) ∧ w = w' := by
  have hsz : (str t).size = n := by rw [str_size, hl]
  have HL : Hid (t.length = n) := hl
  clear hl
  go_enter Tryz.func186, Tryz.ntmps186
  go_wp2
  go_loop [8] (fun v => ∃ k : Nat, k ≤ n ∧ v = .int .i64 k ∧ (t.take k).all smB = true) (fun v => n - (intOf v).toNat)
  case atStart => exact ⟨0, Nat.zero_le _, rfl, by simp⟩
  case round =>
    obtain ⟨k, hk, rfl, hall⟩ := hrel
    by_cases hkn : k < n
    · have hki : (k : Int) < (n : Int) := by omega
      have g0 := str_get hB (i := k) (by rw [hsz]; exact hkn)
      have HY : Hid (smB (nth t k) = true → (t.take (k + 1)).all smB = true) := fun h => allS_step (by have := HL.out; omega) hall h
      have HN : Hid (smB (nth t k) = false → t.all smB = false) := fun h => allS_bad (by have := HL.out; omega) h
      have hx := nth_lt hB k
      have HC : Hid (∀ w, Calls Tryz.prog 187 #[.int .u8 (nth t k : Int)] w fun e w' => e = .returned (.bool (smB (nth t k))) ∧ w = w') := fun w => isSmallLetter_any (nth t k) w hx
      generalize hbv : smB (nth t k) = bv at *
      clear hbv hall
      generalize nth t k = x at *
      cases bv with
      | true =>
        have HM : Hid (_) := HY.out rfl
        clear HY HN
        go_wp2_with fail
        refine (HC.out _).mono ?_
        rintro e w' ⟨rfl, rfl⟩
        go_wp2
        go_round
        case rel => exact ⟨k + 1, by omega, by go_num, HM.out⟩
        case measure => simp [intOf]; omega
      | false =>
        have HM : Hid (_) := HN.out rfl
        clear HY HN
        go_wp2_with fail
        refine (HC.out _).mono ?_
        rintro e w' ⟨rfl, rfl⟩
        go_wp2
        go_ret
        exact ⟨by rw [HM.out]; rfl, rfl⟩
    · have hki : ¬ (k : Int) < (n : Int) := by omega
      have HM : Hid (t.all smB = true) := by
        show _ = _
        rw [show k = t.length by have := HL.out; omega, List.take_length] at hall
        exact hall
      clear hall
      go_wp2
      go_ret
      exact ⟨by rw [HM.out]; rfl, rfl⟩
set_option maxHeartbeats 1600000 in
set_option maxRecDepth 100000 in
theorem l7Name_any (t : List Nat) (n : Nat) (w : World) (hl : t.length = n) (hB : IsB t) (hn : n ≤ 1048576) :
    Calls Tryz.prog 110 #[.string (str t)] w fun e w' => e = .returned (.bool (bnOk t)) ∧ Below w.heap.size w w' := by
  have hsz : (str t).size = n := by rw [str_size, hl]
  have HL : Hid (t.length = n) := hl
  clear hl
  go_enter Tryz.func110, Tryz.ntmps110
  go_wp2
  go_loopw [3] (fun v wr => ∃ k : Nat, k ≤ n ∧ v = .int .i64 k ∧ (t.take k).all smB = true ∧ Below w.heap.size w wr) (fun v _ => n - (intOf v).toNat)
  case atStart => exact ⟨0, Nat.zero_le _, rfl, by simp, Below.refl _ _⟩
  case round =>
    obtain ⟨k, hk, rfl, hall, hbel⟩ := hrel
    by_cases hkn : k < n
    · have hki : (k : Int) < (n : Int) := by omega
      have g0 := str_get hB (i := k) (by rw [hsz]; exact hkn)
      have HY : Hid (smB (nth t k) = true → (t.take (k + 1)).all smB = true) := fun h => allS_step (by have := HL.out; omega) hall h
      have HN : Hid (smB (nth t k) = false → bnOk t = false) := fun h => by unfold bnOk; rw [allS_bad (by have := HL.out; omega) h]; rfl
      have hx := nth_lt hB k
      clear hall
      generalize nth t k = x at *
      by_cases c1 : x < 97
      · have c1' : (x : Int) < 97 := by omega
        have HM : Hid (_) := HN.out (decide_eq_false (by omega))
        clear HY HN
        go_wp2
        go_ret
        exact ⟨by rw [HM.out]; rfl, hbel⟩
      · have c1' : ¬ (x : Int) < 97 := by omega
        by_cases c2 : 122 < x
        · have c2' : (122 : Int) < (x : Int) := by omega
          have HM : Hid (_) := HN.out (decide_eq_false (by omega))
          clear HY HN
          go_wp2
          go_ret
          exact ⟨by rw [HM.out]; rfl, hbel⟩
        · have c2' : ¬ (122 : Int) < (x : Int) := by omega
          have HM : Hid (_) := HY.out (decide_eq_true (by omega))
          clear HY HN
          go_wp2
          go_roundw
          case rel => exact ⟨k + 1, by omega, by go_num, HM.out, hbel⟩
          case measure => simp [intOf]; omega
    · have hki : ¬ (k : Int) < (n : Int) := by omega
      have HM : Hid (bnOk t = bt (n : Int) 1 8) := by
        show _ = _
        unfold bnOk bt
        rw [show k = t.length by have := HL.out; omega, List.take_length] at hall
        rw [hall, HL.out, Bool.true_and]
        exact decide_eq_decide.2 (by omega)
      clear hall
      go_wp2_with fail
      refine (l1In_bt _ _ _ _).mono ?_
      rintro e w' ⟨rfl, rfl⟩
      generalize bt (n : Int) 1 8 = d at *
      go_wp2
      go_ret
      exact ⟨by rw [HM.out]; rfl, hbel⟩
set_option maxHeartbeats 1600000 in
set_option maxRecDepth 100000 in
theorem isBoxName_any (t : List Nat) (n : Nat) (w : World) (hl : t.length = n) (hB : IsB t) (hn : n ≤ 1048576) :
    Calls Tryz.prog 155 #[.string (str t)] w fun e w' => e = .returned (.bool (bnOk t)) ∧ Below w.heap.size w w' := by
  have hsz : (str t).size = n := by rw [str_size, hl]
  have HV : Hid (bnOk t = (t.all smB && decide (1 ≤ n ∧ n ≤ 8))) := by show _ = _; unfold bnOk; rw [hl]
  have HC : Hid (∀ w, _) := fun w => areBytes_small t n w hl hB hn
  generalize bnOk t = r at *
  by_cases h0 : n = 0
  · have hs : str t = ⟨#[]⟩ := by
      obtain rfl : t = [] := List.length_eq_zero_iff.1 (by omega)
      rfl
    have HM : Hid (r = false) := HV.out.trans (by simp [h0])
    clear HV HC
    rw [hs]
    go_enter Tryz.func155, Tryz.ntmps155
    go_wp2
    go_ret
    exact ⟨by rw [HM.out]; rfl, Below.refl _ _⟩
  · have hs : str t ≠ ⟨#[]⟩ := fun h => h0 (by rw [← hsz, h]; rfl)
    have hs' : ¬ (str t).toList = [] := fun h => h0 (by have e := congrArg List.length h; rw [ByteArray.toList_eq] at e; simpa [str, hl] using e)
    have hse : (str t).toList.isEmpty = false := by rw [List.isEmpty_eq_false_iff]; exact hs'
    by_cases h8 : n ≤ 8
    · have h8' : (n : Int) ≤ 8 := by omega
      have HM : Hid (r = t.all smB) := HV.out.trans (by rw [decide_eq_true (by omega), Bool.and_true])
      clear HV
      generalize t.all smB = b at *
      generalize str t = st at *
      go_enter Tryz.func155, Tryz.ntmps155
      go_wp2_with (first | (go_at_call 186; refine (HC.out _).mono ?_; rintro e w' ⟨rfl, rfl⟩))
      go_ret
      exact ⟨by rw [HM.out]; rfl, Below.refl _ _⟩
    · have h8' : ¬ (n : Int) ≤ 8 := by omega
      have HM : Hid (r = false) := HV.out.trans (by rw [decide_eq_false (by omega), Bool.and_false])
      clear HV HC
      generalize str t = st at *
      go_enter Tryz.func155, Tryz.ntmps155
      go_wp2
      go_ret
      exact ⟨by rw [HM.out]; rfl, Below.refl _ _⟩
def txB (s : ByteArray) : List Nat := s.data.toList.map UInt8.toNat
theorem txB_str {t : List Nat} (hB : IsB t) : txB (str t) = t := by
  unfold txB str
  simp only [List.map_map]
  refine List.ext_getElem (by simp) (fun i h1 h2 => ?_)
  simp only [List.getElem_map, Function.comp]
  have := hB _ (List.getElem_mem h2)
  simp [Nat.mod_eq_of_lt this]
theorem l7Name_nm (s : ByteArray) (w : World) (hn : s.size ≤ 1048576) :
    Calls Tryz.prog 110 #[.string s] w fun e w' => e = .returned (.bool (bnOk (txB s))) ∧ Below w.heap.size w w' := by
  obtain ⟨t, rfl, hB⟩ := str_surj s
  rw [txB_str hB]
  exact l7Name_any t _ w rfl hB (by rw [← str_size]; exact hn)
theorem isBoxName_nm (s : ByteArray) (w : World) (hn : s.size ≤ 1048576) :
    Calls Tryz.prog 155 #[.string s] w fun e w' => e = .returned (.bool (bnOk (txB s))) ∧ Below w.heap.size w w' := by
  obtain ⟨t, rfl, hB⟩ := str_surj s
  rw [txB_str hB]
  exact isBoxName_any t _ w rfl hB (by rw [← str_size]; exact hn)
end Go.Proofs.YtejbbnpgghpgaaaGreatDoor
namespace Go.Proofs.YtejbbnpgghpgaaaGreatDoor
open Go.RowKit
def bmV (x : Int) : Int → List Msg → Int
  | _, [] => 0
  | p, m :: l => if mfV m = 0 then (if m.u ≤ p ∨ x ≤ m.u then 1 else bmV x m.u l) else mfV m
def bfV (b : Bx) : Int := if bnOk (txB b.n) = true then (if bt b.v 1 999 = true ∧ bt b.x 1 1000 = true then (if 6 < b.m.length then 2 else bmV b.x 0 b.m) else 3) else 5
theorem dropM (l : List Msg) (k : Nat) (h : k < l.length) : l.drop k = nthM l k :: l.drop (k + 1) := by
  rw [nthM_get h]; exact List.drop_eq_getElem_cons h
theorem bmV_step (x p : Int) (l : List Msg) (k : Nat) (h : k < l.length) : bmV x p (l.drop k) = if mfV (nthM l k) = 0 then (if (nthM l k).u ≤ p ∨ x ≤ (nthM l k).u then 1 else bmV x (nthM l k).u (l.drop (k + 1))) else mfV (nthM l k) := by
  rw [dropM l k h]; rfl
theorem bmV_end (x p : Int) (l : List Msg) (k : Nat) (h : l.length ≤ k) : bmV x p (l.drop k) = 0 := by
  rw [List.drop_of_length_le h]; rfl
set_option maxHeartbeats 3200000 in
set_option maxRecDepth 100000 in
theorem boxFault_any (m : Bx) (s : SlQ) {lo : Nat} (w : World) (hs : IsMs lo w s m.m) (hn : m.n.size ≤ 1048576) :
    Calls Tryz.prog 152 #[bxX m s] w fun e w' => e = .returned (.int .i64 (bfV m)) ∧ Below w.heap.size w w' := by
  have hb0 : Below w.heap.size w (w.alloc (.cells #[.string m.n, .int .i64 m.v, .int .i64 m.x, slW s] 128)) := (Below.refl _ _).alloc (Nat.le_refl _) _
  have hQ0 := Qc.new w (.string m.n) (.int .i64 m.v) (.int .i64 m.x) (slW s) 128
  have hs0 := hs.below hb0
  have HNM := isBoxName_nm m.n (w.alloc (.cells #[.string m.n, .int .i64 m.v, .int .i64 m.x, slW s] 128)) hn
  have HV : Hid (bfV m = if bnOk (txB m.n) = true then (if bt m.v 1 999 = true ∧ bt m.x 1 1000 = true then (if 6 < s.2.1 then 2 else bmV m.x 0 m.m) else 3) else 5) := by show _ = _; unfold bfV; rw [hs.1]
  clear hs
  obtain ⟨a, n, cap⟩ := s
  obtain ⟨nm, v, x, l⟩ := m
  dsimp only [slW] at *
  obtain ⟨hl, hnc, hcm, hr⟩ := hs0
  dsimp only at hl hnc hcm hr
  generalize bfV ⟨nm, v, x, l⟩ = r at *
  generalize bnOk (txB nm) = bn at *
  go_enter Tryz.func152, Tryz.ntmps152
  go_wp2_with fail
  generalize (w.alloc (.cells #[.string nm, .int .i64 v, .int .i64 x, .slice a n cap] 128)) = W0 at *
  refine HNM.mono ?_
  rintro e w1 ⟨rfl, hb1⟩
  have hB1 := hb0.trans (hb1.mono hb0.size)
  have hQ1 := hQ0.below hb1 hQ0.lt
  have hr1 := hr.below hb1
  clear HNM hb0 hb1 hQ0 hr
  obtain ⟨c0, c1, c2, c3⟩ := id hQ1
  dsimp only at c0 c1 c2 c3
  cases bn with
  | false =>
    have HM : Hid (r = 5) := HV.out.trans (by simp)
    clear HV
    go_wp2
    go_ret
    exact ⟨by rw [HM.out]; rfl, hB1⟩
  | true =>
    cases h0 : bt v 1 999 with
    | false =>
      have HM : Hid (r = 3) := HV.out.trans (by simp [h0])
      clear HV
      go_wp2_with (first | (go_at_call 120; refine (isBetween_bt _ _ _ _).mono ?_; rintro e w' ⟨rfl, rfl⟩))
      go_ret
      exact ⟨by rw [HM.out]; rfl, hB1⟩
    | true =>
      cases h1 : bt x 1 1000 with
      | false =>
        have HM : Hid (r = 3) := HV.out.trans (by simp [h0, h1])
        clear HV
        go_wp2_with (first | (go_at_call 120; refine (isBetween_bt _ _ _ _).mono ?_; rintro e w' ⟨rfl, rfl⟩))
        go_ret
        exact ⟨by rw [HM.out]; rfl, hB1⟩
      | true =>
        by_cases h6 : 6 < n
        · have h6' : (6 : Int) < (n : Int) := by omega
          have HM : Hid (r = 2) := HV.out.trans (by simp [h0, h1, h6])
          clear HV
          go_wp2_with (first | (go_at_call 120; refine (isBetween_bt _ _ _ _).mono ?_; rintro e w' ⟨rfl, rfl⟩))
          go_ret
          exact ⟨by rw [HM.out]; rfl, hB1⟩
        · have h6' : ¬ (6 : Int) < (n : Int) := by omega
          have HM : Hid (r = bmV x 0 l) := HV.out.trans (by simp [h0, h1, h6])
          clear HV
          go_wp2_with (first | (go_at_call 120; refine (isBetween_bt _ _ _ _).mono ?_; rintro e w' ⟨rfl, rfl⟩))
          go_loopw [3, 28] (fun q i wr => ∃ (k : Nat) (p : Int), k ≤ n ∧ i = .int .i64 k ∧ q = .int .i64 p ∧ Hid (r = bmV x p (l.drop k)) ∧ Below w1.heap.size w1 wr) (fun _ i _ => n - (intOf i).toNat)
          case atStart => exact ⟨0, 0, Nat.zero_le _, rfl, rfl, HM, Below.refl _ _⟩
          case round =>
            obtain ⟨k, p, hk, rfl, rfl, HR, hbel⟩ := hrel
            clear HM c0 c1 c2 c3
            have hB := hB1.trans (hbel.mono hB1.size)
            obtain ⟨c0, c1, c2, c3⟩ := hQ1.below hbel hQ1.lt
            dsimp only at c0 c1 c2 c3
            by_cases hkn : k < n
            · have hki : (k : Int) < (n : Int) := by omega
              obtain ⟨g, off, rfl, -, hglt, hcell⟩ := (hr1.below hbel).at_ (by omega)
              obtain ⟨sl, ⟨d0, d1, d2, d3⟩, hI⟩ := hcell k (by omega)
              have HST : Hid (r = if mfV (nthM l k) = 0 then (if (nthM l k).u ≤ p ∨ x ≤ (nthM l k).u then 1 else bmV x (nthM l k).u (l.drop (k + 1))) else mfV (nthM l k)) := HR.out.trans (bmV_step x p l k (by omega))
              clear HR hcell
              generalize nthM l k = y at *
              obtain ⟨yu, yf, yd, yb⟩ := y
              dsimp only at d0 d1 d2 hI HST
              have hbA : Below wr.heap.size wr (wr.alloc (.cells #[.int .i64 yu, .int .i64 yf, .int .i64 yd, slW sl] 136)) := (Below.refl _ _).alloc (Nat.le_refl _) _
              have HCM := messageFault_any ⟨yu, yf, yd, yb⟩ sl _ (hI.below hbA)
              have hQA := Qc.new wr (.int .i64 yu) (.int .i64 yf) (.int .i64 yd) (slW sl) 136
              have hbelA := hbel.trans (hbA.mono hbel.size)
              have hgA : wr.heap.size < (wr.alloc (.cells #[.int .i64 yu, .int .i64 yf, .int .i64 yd, slW sl] 136)).heap.size := by simp
              generalize mfV ⟨yu, yf, yd, yb⟩ = c at *
              go_wp2_with fail
              generalize (wr.alloc (.cells #[.int .i64 yu, .int .i64 yf, .int .i64 yd, slW sl] 136)) = WA at *
              generalize wr.heap.size = gA at *
              refine HCM.mono ?_
              rintro e w2 ⟨rfl, hb2⟩
              have hbel2 := hbelA.trans (hb2.mono hbelA.size)
              obtain ⟨e0, e1, e2, e3⟩ := hQA.below hb2 hgA
              obtain ⟨f0, f1, f2, f3⟩ := hQ1.below hbel2 hQ1.lt
              have hB2 := hB1.trans (hbel2.mono hB1.size)
              dsimp only at e0 e1 e2 e3 f0 f1 f2 f3
              clear HCM hb2 hbelA hbA hQA c0 c1 c2 c3 d0 d1 d2 d3 hI
              by_cases hc : c = 0
              · subst hc
                by_cases hp : yu ≤ p
                · have HM : Hid (r = 1) := HST.out.trans (by simp [hp])
                  clear HST
                  go_wp2
                  go_ret
                  exact ⟨by rw [HM.out]; rfl, hB2⟩
                · by_cases hx : x ≤ yu
                  · have HM : Hid (r = 1) := HST.out.trans (by simp [hx])
                    clear HST
                    go_wp2
                    go_ret
                    exact ⟨by rw [HM.out]; rfl, hB2⟩
                  · have HM : Hid (r = bmV x yu (l.drop (k + 1))) := HST.out.trans (by simp [hp, hx])
                    clear HST
                    go_wp2
                    go_roundw
                    case rel => exact ⟨k + 1, yu, by omega, by go_num, by trivial, HM, hbel2⟩
                    case measure => simp [intOf]; omega
              · have HM : Hid (r = c) := HST.out.trans (by simp [hc])
                clear HST
                go_wp2
                go_ret
                exact ⟨by rw [HM.out]; rfl, hB2⟩
            · have hki : ¬ (k : Int) < (n : Int) := by omega
              have HM : Hid (r = 0) := HR.out.trans (bmV_end x p l k (by omega))
              clear HR
              go_wp2
              go_ret
              exact ⟨by rw [HM.out]; rfl, hB⟩
end Go.Proofs.YtejbbnpgghpgaaaGreatDoor
