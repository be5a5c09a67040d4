/- The law FnInside returns true at every input, and changes nothing that was there. -/
import Derived.Test.YtjkhlkmibajhiaaDrl5
import Derived.Test.YtjkhlkmibajhiaaHas2
import Derived.Test.YtjkhlkmibajhiaaFldC
namespace Go.Proofs.Ytjkhlkmibajhiaa
open Go.RowKit

theorem flt_iff {l : List Int} : flt l = 0 ↔ l.length ≤ 400 ∧ l.all chr = true := by
  unfold flt
  split
  · constructor
    · intro h; omega
    · intro h; omega
  · split
    · rename_i h1 h2
      exact ⟨fun _ => ⟨by omega, h2⟩, fun _ => rfl⟩
    · rename_i h1 h2
      exact ⟨fun h => by omega, fun h => absurd h.2 h2⟩
theorem flt_piece {l : List Int} (h : flt l = 0) (i m : Nat) : flt ((l.drop i).take m) = 0 := by
  rw [flt_iff] at h ⊢
  refine ⟨by rw [List.length_take, List.length_drop]; omega, ?_⟩
  rw [List.all_eq_true]
  intro x hx
  exact List.all_eq_true.1 h.2 x (List.mem_of_mem_drop (List.mem_of_mem_take hx))
theorem flt_long {l : List Int} (h : flt l = 0) (hl : l.length ≤ 100) : flt ([97] ++ l ++ [98]) = 0 := by
  rw [flt_iff] at h ⊢
  refine ⟨by simp; omega, ?_⟩
  rw [List.all_append, List.all_append, h.2]
  decide
theorem hasT_ok {k : Int} {l s : List Int} (hk : 1 ≤ k ∧ k ≤ 3) (hf : flt l = 0) (hg : flt s = 0) : hasT k l s = hasP (l.map (mapC k)) (s.map (mapC k)) := by
  unfold hasT; rw [decide_eq_true hk, hf, hg]; simp
theorem hasT_piece {k : Int} {l : List Int} (hk : 1 ≤ k ∧ k ≤ 3) (hf : flt l = 0) (i m : Nat) : hasT k l ((l.drop i).take m) = true := by
  rw [hasT_ok hk hf (flt_piece hf i m), List.map_take, List.map_drop]
  exact hasP_piece _ _ _
theorem hasT_long {k : Int} {l s : List Int} (hk : 1 ≤ k ∧ k ≤ 3) (hf : flt l = 0) (hg : flt s = 0) (hl : l.length ≤ 100) (h : hasP (l.map (mapC k)) (s.map (mapC k)) = true) : hasT k ([97] ++ l ++ [98]) s = true := by
  rw [hasT_ok hk (flt_long hf hl) hg, List.map_append, List.map_append]
  exact hasP_more h
theorem hasT_none {k : Int} {l : List Int} (hk : 1 ≤ k ∧ k ≤ 3) (hf : flt l = 0) : hasT k l [] = true := by
  rw [hasT_ok hk hf rfl]; exact hasP_nil _
theorem RdI.cells {w : World} {ad : Addr} {l : List Int} {n : Nat} (h : RdI w (some ad) l) (hl : l.length = n) : ∀ j, j < n → w.cell? (ad.add j) = some (.int .i64 (nthI l j)) := by
  intro j hj
  obtain ⟨b, off, e, _, hc⟩ := h.at_ (by omega)
  cases e
  rw [Go.WideShapes.add_plain]
  exact hc j (by omega)

set_option maxHeartbeats 6400000 in
set_option maxRecDepth 100000 in
theorem walkInside (a : Option Addr) (n cap : Nat) (l : List Nat) (w : World) (hl : l.length = n) (hr : Rd w a l) (hB : IsB l) :
    Calls Try.prog 6 #[.slice a n cap] w fun e w' => e = .returned (.bool true) ∧ Below w.heap.size w w' := by
  by_cases hbig : 1048576 < n
  · go_enter Try.func6, Try.ntmps6
    go_wp2_with fail
    refine (lwBig_any a n cap w).mono ?_
    rintro e w1 ⟨rfl, rfl⟩
    rw [decide_eq_true (by omega)]
    go_wp2
    go_ret
    exact ⟨rfl, Below.refl _ _⟩
  · have fC0 := fldC0
    have fC1 := fldC1
    obtain ⟨i0, hi, hz0, hz1, hz2⟩ := info_parts infoBI
    go_enter Try.func6, Try.ntmps6
    go_wp2_with fail
    refine (lwBig_any a n cap w).mono ?_
    rintro e w1 ⟨rfl, rfl⟩
    rw [decide_eq_false (by omega)]
    go_wp2_with fail
    refine (drawHasCodes_in a n cap l w hl hr hB (by omega)).mono ?_
    rintro e w1 ⟨k, v, u, s, t, rfl, ⟨ap, m, mc, rfl, hsl, hmc, hm1, hmn, hrs⟩, ⟨aq, p, pc, rfl, htl, hpc, hp1, -, hrt⟩, hb1⟩
    have HI : Hid (∀ w, RdI w ap s → RdI w aq t → Calls Try.prog 31 #[.int .i64 k, .slice ap m mc, .slice aq p pc] w fun e w' => e = .returned (.bool (hasT k s t)) ∧ Below w.heap.size w w') := fun w h1 h2 => hasCodes_any k ap aq m p mc pc s t w hsl htl h1 h2 (by omega) (by omega)
    have HS : Hid (∀ w, RdI w ap s → RdI w aq t → Calls Try.prog 35 #[.int .i64 k, .slice ap m mc, .slice aq p pc] w fun e w' => e = .returned (.bool (hasT k s t)) ∧ Below w.heap.size w w') := fun w h1 h2 => specHasCodes_any k ap aq m p mc pc s t w hsl htl h1 h2 (by omega) (by omega) hmc
    have HMA : Hid (∀ w, RdI w ap s → Calls Try.prog 28 #[.int .i64 k, .slice ap m mc] w fun e w' => NumEnd (mapT k s) w e w') := fun w h1 => mapCodes_any k ap m mc s w hsl h1 (by omega)
    have HMB : Hid (∀ w, RdI w aq t → Calls Try.prog 28 #[.int .i64 k, .slice aq p pc] w fun e w' => NumEnd (mapT k t) w e w') := fun w h1 => mapCodes_any k aq p pc t w htl h1 (by omega)
    have HTM := hasT_maps k s t
    by_cases hok : (1 ≤ k ∧ k ≤ 3) ∧ flt s = 0 ∧ flt t = 0
    · obtain ⟨hk, hf, hg⟩ := hok
      have HP1 : Hid (∀ (x : Option Addr) (f q xc : Nat) w, f + q ≤ m → RdI w ap s → RdI w x ((s.drop f).take q) → Calls Try.prog 31 #[.int .i64 k, .slice ap m mc, .slice x q xc] w fun e w' => e = .returned (.bool true) ∧ Below w.heap.size w w') := fun x f q xc w hfq h1 h2 => by
        have h := hasCodes_any k ap x m q mc xc s ((s.drop f).take q) w hsl (piece_len hsl hfq) h1 h2 (by omega) (by omega)
        rw [hasT_piece hk hf] at h; exact h
      have HP3 : Hid (∀ w, RdI w ap s → Calls Try.prog 31 #[.int .i64 k, .slice ap m mc, .slice none 0 0] w fun e w' => e = .returned (.bool true) ∧ Below w.heap.size w w') := fun w h1 => by
        have h := hasCodes_any k ap none m 0 mc 0 s [] w hsl rfl h1 (.inl rfl) (by omega) (by omega)
        rw [hasT_none hk hf] at h; exact h
      have HP2 : Hid (hasP (s.map (mapC k)) (t.map (mapC k)) = true → ∀ (x : Option Addr) (xn xc : Nat) w, xn = m + 2 → RdI w x ([97] ++ s ++ [98]) → RdI w aq t → Calls Try.prog 31 #[.int .i64 k, .slice x xn xc, .slice aq p pc] w fun e w' => e = .returned (.bool true) ∧ Below w.heap.size w w') := fun hp x xn xc w hxn h1 h2 => by
        have h := hasCodes_any k x aq xn p xc pc ([97] ++ s ++ [98]) t w (by simp; omega) htl h1 h2 (by omega) (by omega)
        rw [hasT_long hk hf hg (by omega) hp] at h; exact h
      have HLE : Hid (hasP (s.map (mapC k)) (t.map (mapC k)) = true → (p : Int) ≤ (m : Int)) := fun hp => by
        have := hasP_le hp
        simp only [List.length_map] at this
        omega
      rw [hasT_ok hk hf hg] at HI HS
      rw [mapT_ok hk hf] at HMA
      rw [mapT_ok hk hg] at HMB
      clear HTM hk hf hg htl
      generalize hasP (s.map (mapC k)) (t.map (mapC k)) = hb at *
      generalize s.map (mapC k) = A at *
      generalize t.map (mapC k) = B at *
      go_wp2_with fail
      refine (HI.out _ hrs hrt).mono ?_
      rintro e w2 ⟨rfl, hb2⟩
      have hs2 := hrs.below hb2
      have ht2 := hrt.below hb2
      have HB2 : Hid (Below w.heap.size w w2) := hb1.trans (hb2.mono hb1.size)
      clear hb1 hb2 hrs hrt HI
      go_wp2_with fail
      refine (HS.out _ hs2 ht2).mono ?_
      rintro e w3 ⟨rfl, hb3⟩
      have hs3 := hs2.below hb3
      have ht3 := ht2.below hb3
      have HB3 : Hid (Below w.heap.size w w3) := HB2.out.trans (hb3.mono HB2.out.size)
      clear hb3 hs2 ht2 HS HB2
      have hbb : (hb != hb) = false := by simp
      go_wp2_with fail
      refine (HMA.out _ hs3).mono ?_
      rintro e w4 ⟨v4, rfl, ho4, hb4⟩
      simp only
      obtain ⟨b4, c4, rfl, -, -⟩ := ho4.form
      have hs4 := hs3.below hb4
      have ht4 := ht3.below hb4
      have HB4 : Hid (Below w.heap.size w w4) := HB3.out.trans (hb4.mono HB3.out.size)
      clear hb4 ho4 hs3 ht3 HMA HB3
      go_wp2_with fail
      refine (HMB.out _ ht4).mono ?_
      rintro e w5 ⟨v5, rfl, ho5, hb5⟩
      simp only
      obtain ⟨b5, c5, rfl, -, -⟩ := ho5.form
      have hs5 := hs4.below hb5
      have ht5 := ht4.below hb5
      have HB5 : Hid (Below w.heap.size w w5) := HB4.out.trans (hb5.mono HB4.out.size)
      clear hb5 ho5 hs4 ht4 HMB HB4
      go_wp2_with fail
      refine (lwAt_any a n cap 3 ((m : Int) + 1) l _ hl (hr.below HB5.out) hB (by omega) (by omega) (by omega) (by omega)).mono ?_
      rintro e w6 ⟨r, rfl, r0, r1, hb6⟩
      obtain ⟨f, rfl⟩ := Int.eq_ofNat_of_zero_le r0
      have hfm : f ≤ m := by omega
      have HB6 : Hid (Below w.heap.size w w6) := HB5.out.trans (hb6.mono HB5.out.size)
      have hs6 := hs5.below hb6
      have ht6 := ht5.below hb6
      clear hb6 hs5 ht5 HB5 r0 r1
      go_wp2_with fail
      refine (lwAt_any a n cap 4 ((m : Int) - (f : Int) + 1) l _ hl (hr.below HB6.out) hB (by omega) (by omega) (by omega) (by omega)).mono ?_
      rintro e w7 ⟨r, rfl, r0, r1, hb7⟩
      obtain ⟨q, rfl⟩ := Int.eq_ofNat_of_zero_le r0
      have hfq : f + q ≤ m := by omega
      have i1 : (f : Int) + (q : Int) ≤ (m : Int) := by omega
      have i2 : (f : Int) + (q : Int) ≤ (mc : Int) := by omega
      have HB7 : Hid (Below w.heap.size w w7) := HB6.out.trans (hb7.mono HB6.out.size)
      have hs7 := hs6.below hb7
      have ht7 := ht6.below hb7
      clear hb7 hs6 ht6 HB6 r0 r1
      have hown0 : OwnI (w7.alloc (.cells #[.int .i64 97] 2)) w7.heap.size (.slice (some ⟨w7.heap.size, 0, none⟩) 1 1) [97] := OwnI.lit w7 _ (Nat.le_refl _) #[.int .i64 97] [97] rfl (by decide)
      have hb70 : Below w7.heap.size w7 (w7.alloc (.cells #[.int .i64 97] 2)) := (Below.refl _ _).alloc (Nat.le_refl _) _
      have hs8 := hs7.below hb70
      have ht8 := ht7.below hb70
      cases ap with
      | some ad =>
        have hnew := hs8.cells hsl
        by_cases hcf : mc = f
        · subst hcf
          have hq0 : q = 0 := by omega
          subst hq0
          go_wp2_with (first | (at_builtin; refine wpList_appI rfl _ _ rfl w7.heap.size _ [97] rfl hown0 ad m mc s rfl hsl hnew (by simp; omega) (by simp) ?_; intro vA0 wA0 hownA0 hbA0) | (at_builtin; refine wpList_app_newI rfl _ _ rfl w7.heap.size _ ([97] ++ s) rfl hownA0 1 1 [98] rfl rfl rfl (by simp; omega) (by have := hbA0.size; simp at this; omega) ?_; intro vA wA hownA hbA1))
          have hbA : Below w7.heap.size w7 wA := (hb70.trans hbA0).trans hbA1
          have hLN : ([97] ++ s ++ [98]).length = m + 2 := by simp; omega
          obtain ⟨aL, cL, hvL, -, -⟩ := hownA.form
          rw [hLN] at hvL
          subst hvL
          clear hLN
          have hrL := hownA.rd.2
          have hsA := hs7.below hbA
          have htA := ht7.below hbA
          have HBA : Hid (Below w.heap.size w wA) := HB7.out.trans (hbA.mono HB7.out.size)
          clear hown0 hb70 hs8 ht8 hownA hownA0 hbA0 hbA1 hs7 ht7 HB7 hbA
          go_wp2_with fail
          refine (HP1.out _ _ 0 _ _ hfq hsA (.inl (by simp))).mono ?_
          rintro e wB ⟨rfl, hbB⟩
          have hsB := hsA.below hbB
          have htB := htA.below hbB
          have hrB := hrL.below hbB
          have HBB : Hid (Below w.heap.size w wB) := HBA.out.trans (hbB.mono HBA.out.size)
          clear hbB hsA htA hrL HBA HP1
          cases hb with
          | false =>
            go_wp2_with fail
            refine (HP3.out _ hsB).mono ?_
            rintro e wC ⟨rfl, hbC⟩
            have HBC : Hid (Below w.heap.size w wC) := HBB.out.trans (hbC.mono HBB.out.size)
            clear hbC HP3 hsB htB hrB
            go_wp2
            go_ret
            exact ⟨rfl, HBC.out⟩
          | true =>
            have hle := HLE.out (by trivial)
            have HP2' := HP2.out (by trivial)
            have HP2'' : Hid (_) := HP2'
            clear HLE HP2 HP2'
            go_wp2_with fail
            refine (HP2''.out _ _ _ _ (by trivial) hrB htB).mono ?_
            rintro e wC ⟨rfl, hbC⟩
            have hsC := hsB.below hbC
            have HBC : Hid (Below w.heap.size w wC) := HBB.out.trans (hbC.mono HBB.out.size)
            clear hbC HP2'' hsB htB hrB
            go_wp2_with fail
            refine (HP3.out _ hsC).mono ?_
            rintro e wD ⟨rfl, hbD⟩
            have HBD : Hid (Below w.heap.size w wD) := HBC.out.trans (hbD.mono HBC.out.size)
            clear hbD HP3 hsC
            go_wp2
            go_ret
            exact ⟨rfl, HBD.out⟩
        · go_wp2_with (first | (at_builtin; refine wpList_appI rfl _ _ rfl w7.heap.size _ [97] rfl hown0 ad m mc s rfl hsl hnew (by simp; omega) (by simp) ?_; intro vA0 wA0 hownA0 hbA0) | (at_builtin; refine wpList_app_newI rfl _ _ rfl w7.heap.size _ ([97] ++ s) rfl hownA0 1 1 [98] rfl rfl rfl (by simp; omega) (by have := hbA0.size; simp at this; omega) ?_; intro vA wA hownA hbA1))
          have hbA : Below w7.heap.size w7 wA := (hb70.trans hbA0).trans hbA1
          have hLN : ([97] ++ s ++ [98]).length = m + 2 := by simp; omega
          obtain ⟨aL, cL, hvL, -, -⟩ := hownA.form
          rw [hLN] at hvL
          subst hvL
          clear hLN
          have hrL := hownA.rd.2
          have hsA := hs7.below hbA
          have htA := ht7.below hbA
          have HBA : Hid (Below w.heap.size w wA) := HB7.out.trans (hbA.mono HB7.out.size)
          clear hown0 hb70 hs8 ht8 hownA hownA0 hbA0 hbA1 hs7 ht7 HB7 hbA
          go_wp2_with fail
          refine (HP1.out _ _ q _ _ hfq hsA (by exact hsA.piece f q)).mono ?_
          rintro e wB ⟨rfl, hbB⟩
          have hsB := hsA.below hbB
          have htB := htA.below hbB
          have hrB := hrL.below hbB
          have HBB : Hid (Below w.heap.size w wB) := HBA.out.trans (hbB.mono HBA.out.size)
          clear hbB hsA htA hrL HBA HP1
          cases hb with
          | false =>
            go_wp2_with fail
            refine (HP3.out _ hsB).mono ?_
            rintro e wC ⟨rfl, hbC⟩
            have HBC : Hid (Below w.heap.size w wC) := HBB.out.trans (hbC.mono HBB.out.size)
            clear hbC HP3 hsB htB hrB
            go_wp2
            go_ret
            exact ⟨rfl, HBC.out⟩
          | true =>
            have hle := HLE.out (by trivial)
            have HP2' := HP2.out (by trivial)
            have HP2'' : Hid (_) := HP2'
            clear HLE HP2 HP2'
            go_wp2_with fail
            refine (HP2''.out _ _ _ _ (by trivial) hrB htB).mono ?_
            rintro e wC ⟨rfl, hbC⟩
            have hsC := hsB.below hbC
            have HBC : Hid (Below w.heap.size w wC) := HBB.out.trans (hbC.mono HBB.out.size)
            clear hbC HP2'' hsB htB hrB
            go_wp2_with fail
            refine (HP3.out _ hsC).mono ?_
            rintro e wD ⟨rfl, hbD⟩
            have HBD : Hid (Below w.heap.size w wD) := HBC.out.trans (hbD.mono HBC.out.size)
            clear hbD HP3 hsC
            go_wp2
            go_ret
            exact ⟨rfl, HBD.out⟩
      | none =>
        have hmc0 : mc = 0 := hmn rfl
        subst hmc0
        have hm0 : m = 0 := by omega
        subst hm0
        have hf0 : f = 0 := by omega
        subst hf0
        have hq0 : q = 0 := by omega
        subst hq0
        have hs0 : s = [] := List.length_eq_zero_iff.1 hsl
        subst hs0
        go_wp2_with (first | (at_builtin; refine wpList_append_own_none rfl _ _ 26 rfl w7.heap.size 2 i0 1 Try.underlying26 hi _ 1 (ic [97]) rfl hown0 rfl ?_))
        generalize Builtin.zeroCells #[Value.int IntKind.i64 0] ((Question.appendCap 2 1 2).cut (w7.tape w7.drawn (Question.appendCap 2 1 2)) - 2) = Z
        generalize (Question.appendCap 2 1 2).cut (w7.tape w7.drawn (Question.appendCap 2 1 2)) = CP
        have hbA : Below w7.heap.size w7 (((w7.alloc (.cells #[.int .i64 97] 2)).alloc (.cells #[.int .i64 98] 2)).alloc (.cells (#[.int .i64 97, .int .i64 98] ++ Z) 2)).drew := (((hb70.alloc (by simp) _).alloc (by simp; omega) _)).drew
        have hrL : RdI (((w7.alloc (.cells #[.int .i64 97] 2)).alloc (.cells #[.int .i64 98] 2)).alloc (.cells (#[.int .i64 97, .int .i64 98] ++ Z) 2)).drew (some ⟨w7.heap.size + 1 + 1, 0, none⟩) ([97] ++ [98]) := by
          refine .inr ⟨w7.heap.size + 1 + 1, 0, rfl, by simp, fun i hi => ?_⟩
          have hsz : ((w7.alloc (.cells #[.int .i64 97] 2)).alloc (.cells #[.int .i64 98] 2)).heap.size = w7.heap.size + 1 + 1 := by simp
          show (((w7.alloc (.cells #[.int .i64 97] 2)).alloc (.cells #[.int .i64 98] 2)).alloc (.cells (#[.int .i64 97, .int .i64 98] ++ Z) 2)).cell? ⟨w7.heap.size + 1 + 1, 0 + i, none⟩ = _
          rw [← hsz, World.cell?_alloc_mark]
          have hi2 : i = 0 ∨ i = 1 := by simp at hi; omega
          rcases hi2 with rfl | rfl
          · rw [Array.getElem?_append_left (by simp)]; rfl
          · rw [Array.getElem?_append_left (by simp)]; rfl
        generalize (((w7.alloc (.cells #[.int .i64 97] 2)).alloc (.cells #[.int .i64 98] 2)).alloc (.cells (#[.int .i64 97, .int .i64 98] ++ Z) 2)).drew = wA at *
        have hsA := hs7.below hbA
        have htA := ht7.below hbA
        have HBA : Hid (Below w.heap.size w wA) := HB7.out.trans (hbA.mono HB7.out.size)
        clear hown0 hb70 hs8 ht8 hs7 ht7 HB7 hbA
        refine (HP1.out _ _ 0 _ _ hfq hsA (.inl (by simp))).mono ?_
        rintro e wB ⟨rfl, hbB⟩
        have hsB := hsA.below hbB
        have htB := htA.below hbB
        have hrB := hrL.below hbB
        have HBB : Hid (Below w.heap.size w wB) := HBA.out.trans (hbB.mono HBA.out.size)
        clear hbB hsA htA hrL HBA HP1
        cases hb with
        | false =>
          go_wp2_with fail
          refine (HP3.out _ hsB).mono ?_
          rintro e wC ⟨rfl, hbC⟩
          have HBC : Hid (Below w.heap.size w wC) := HBB.out.trans (hbC.mono HBB.out.size)
          clear hbC HP3 hsB htB hrB
          go_wp2
          go_ret
          exact ⟨rfl, HBC.out⟩
        | true =>
          have hle := HLE.out (by trivial)
          have HP2' := HP2.out (by trivial)
          have HP2'' : Hid (_) := HP2'
          clear HLE HP2 HP2'
          have hp0 : p = 0 := by omega
          subst hp0
          go_wp2_with fail
          refine (HP2''.out _ _ _ _ (by trivial) hrB htB).mono ?_
          rintro e wC ⟨rfl, hbC⟩
          have hsC := hsB.below hbC
          have HBC : Hid (Below w.heap.size w wC) := HBB.out.trans (hbC.mono HBB.out.size)
          clear hbC HP2'' hsB htB hrB
          go_wp2_with fail
          refine (HP3.out _ hsC).mono ?_
          rintro e wD ⟨rfl, hbD⟩
          have HBD : Hid (Below w.heap.size w wD) := HBC.out.trans (hbD.mono HBC.out.size)
          clear hbD HP3 hsC
          go_wp2
          go_ret
          exact ⟨rfl, HBD.out⟩
    · have hfalse : hasT k s t = false ∧ ((∃ c, c ≠ 0 ∧ mapT k s = (c, [])) ∨ (∃ A c, c ≠ 0 ∧ mapT k s = (0, A) ∧ mapT k t = (c, []))) := by
        by_cases hk : 1 ≤ k ∧ k ≤ 3
        · by_cases hf : flt s = 0
          · have hg : flt t ≠ 0 := fun h' => hok ⟨hk, hf, h'⟩
            refine ⟨?_, .inr ⟨_, _, hg, mapT_ok hk hf, mapT_fault hk hg⟩⟩
            unfold hasT; rw [beq_eq_false_iff_ne.2 hg]; simp
          · refine ⟨?_, .inl ⟨_, hf, mapT_fault hk hf⟩⟩
            unfold hasT; rw [beq_eq_false_iff_ne.2 hf]; simp
        · refine ⟨?_, .inl ⟨4, by decide, mapT_none hk⟩⟩
          unfold hasT; rw [decide_eq_false hk]; simp
      obtain ⟨hF, hcs⟩ := hfalse
      rw [hF] at HI HS
      clear hok hF HTM
      go_wp2_with fail
      refine (HI.out _ hrs hrt).mono ?_
      rintro e w2 ⟨rfl, hb2⟩
      have hs2 := hrs.below hb2
      have ht2 := hrt.below hb2
      have HB2 : Hid (Below w.heap.size w w2) := hb1.trans (hb2.mono hb1.size)
      clear hb1 hb2 hrs hrt HI
      go_wp2_with fail
      refine (HS.out _ hs2 ht2).mono ?_
      rintro e w3 ⟨rfl, hb3⟩
      have hs3 := hs2.below hb3
      have ht3 := ht2.below hb3
      have HB3 : Hid (Below w.heap.size w w3) := HB2.out.trans (hb3.mono HB2.out.size)
      clear hb3 hs2 ht2 HS HB2
      rcases hcs with ⟨c, hne, hc⟩ | ⟨A, c, hne, hcA, hc⟩
      · rw [hc] at HMA
        have e0 : (c != 0) = true := by simp; omega
        clear hc
        go_wp2_with fail
        refine (HMA.out _ hs3).mono ?_
        rintro e w4 ⟨v4, rfl, ho4, hb4⟩
        simp only
        obtain ⟨b4, c4, rfl, -, -⟩ := ho4.form
        have HB4 : Hid (Below w.heap.size w w4) := HB3.out.trans (hb4.mono HB3.out.size)
        clear hb4 ho4 hs3 ht3 HMA HB3
        go_wp2
        go_ret
        exact ⟨rfl, HB4.out⟩
      · rw [hcA] at HMA
        rw [hc] at HMB
        have e0 : (c != 0) = true := by simp; omega
        clear hc hcA
        go_wp2_with fail
        refine (HMA.out _ hs3).mono ?_
        rintro e w4 ⟨v4, rfl, ho4, hb4⟩
        simp only
        obtain ⟨b4, c4, rfl, -, -⟩ := ho4.form
        have ht4 := ht3.below hb4
        have HB4 : Hid (Below w.heap.size w w4) := HB3.out.trans (hb4.mono HB3.out.size)
        clear hb4 ho4 hs3 ht3 HMA HB3
        go_wp2_with fail
        refine (HMB.out _ ht4).mono ?_
        rintro e w5 ⟨v5, rfl, ho5, hb5⟩
        simp only
        obtain ⟨b5, c5, rfl, -, -⟩ := ho5.form
        have HB5 : Hid (Below w.heap.size w w5) := HB4.out.trans (hb5.mono HB4.out.size)
        clear hb5 ho5 ht4 HMB HB4
        go_wp2
        go_ret
        exact ⟨rfl, HB5.out⟩
end Go.Proofs.Ytjkhlkmibajhiaa
