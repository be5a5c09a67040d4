/- What is drawn for SliceList: a list, two numbers. -/
import Derived.Test.YtfbjodbihenmjaaGreatDoorDrw3aToChn
import Derived.Test.YtfbjodbihenmjaaGreatDoorColToMapL
namespace Go.Proofs.YtfbjodbihenmjaaGreatDoor
open Go.RowKit
set_option linter.unusedVariables false

/-- What is drawn. -/
def SlEnd (w : World) (e : Ending) (w' : World) : Prop := ∃ (ol : List Int) (g cp : Nat) (f t : Int), e = .returned (.tuple #[.slice (some ⟨g, 0, none⟩) ol.length cp, .int .i64 f, .int .i64 t]) ∧ OwnI w' w.heap.size (.slice (some ⟨g, 0, none⟩) ol.length cp) ol ∧ ol.length ≤ cp ∧ ol.length ≤ 61 ∧ Below w.heap.size w w'
theorem OwnI.lowL {w : World} {B C : Nat} {v : Value} {l : List Int} (h : OwnI w B v l) (hC : C ≤ B) : OwnI w C v l := by
  refine ⟨h.1, ?_⟩
  rcases h.2 with ⟨h1, h2⟩ | ⟨g, cap, cur, h3, h4, h5, h6⟩
  · exact .inl ⟨h1, h2⟩
  · exact .inr ⟨g, cap, cur, h3, Nat.le_trans hC h4, h5, h6⟩
theorem ownI_at {w : World} {B : Nat} {v : Value} {l : List Int} (h : OwnI w B v l) (hp : 0 < l.length) : ∃ g cp, v = .slice (some ⟨g, 0, none⟩) l.length cp := by
  rcases h.2 with ⟨_, h0⟩ | ⟨g, cap, cur, h', _⟩
  · omega
  · exact ⟨g, cap, h'⟩

set_option maxHeartbeats 6400000 in
set_option maxRecDepth 100000 in
theorem drawSliceList_any (a : Option Addr) (n cap : Nat) (l : List Nat) (w : World) (hl : l.length = n) (hr : Rd w a l) (hB0 : IsB l) (hn : n ≤ 1048576) :
    Calls Tryz.prog 9 #[.slice a n cap] w fun e w' => SlEnd w e w' := by
  obtain ⟨i0, hi, hz0, hz1, hz2⟩ := info_parts infoBI
  go_enter Tryz.func9, Tryz.ntmps9
  go_wp2_with fail
  refine (l1Source_any a n cap l _ hl hr hB0 hn).mono ?_
  rintro e w1 ⟨rfl, hs1, hb1⟩
  obtain ⟨b, hbb⟩ : ∃ b, w.heap.size = b := ⟨_, rfl⟩
  rw [hbb] at hs1 ⊢
  have hbw1 : b < w1.heap.size := hs1.2.1
  obtain ⟨W1, hW1⟩ : ∃ W, w1.alloc (.cells #[] 2) = W := ⟨_, rfl⟩
  have hbW : Below w1.heap.size w1 W1 := by rw [← hW1]; exact (Below.refl _ _).alloc (Nat.le_refl _) _
  have ho : OwnI W1 (b + 1) (.slice (some ⟨w1.heap.size, 0, none⟩) 0 0) [] := by rw [← hW1]; exact OwnI.lit w1 (b + 1) (by omega) #[] [] rfl (by simp)
  have hs := hs1.below (hbW.mono (by omega))
  have hB : Below w.heap.size w W1 := hb1.trans (hbW.mono hb1.size)
  have hzW := hbW.size
  have HW : Hid (_ = W1) := hW1
  clear hW1 hs1 hb1 hbW
  go_wp2_with (rw [HW.out])
  refine (l1Next_any b b 0 7 W1 hs (by omega) (by omega) (by omega)).mono ?_
  rintro e w2 ⟨k0, rfl, hk0, hk7, -, hs2, hk⟩
  have ho2 := ho.far hk (fun g hg e => by have := (ho.lt g hg).1; injection e with e; omega)
  have hzz := World.grownBy.size hk
  have hB2 : Below w.heap.size w w2 := hB.trans ((gbelow hk (by omega)).mono (by omega))
  have hk7' := hk7 (by omega)
  obtain ⟨K, rfl⟩ : ∃ K : Nat, k0 = (K : Int) := ⟨k0.toNat, by omega⟩
  clear ho hk hB hs hk7 HW
  generalize w1.heap.size = g1 at *
  go_wp2
  go_loopw [6, 7] (fun v q wr => ∃ (j M : Nat) (ol : List Int), j ≤ 6 ∧ M + j ≤ 8 ∧ ol.length + j ≤ 6 ∧ q = .int .i64 j ∧ OwnI wr (b + 1) v ol ∧ (∃ g cp, v = .slice (some ⟨g, 0, none⟩) ol.length cp ∧ ol.length ≤ cp) ∧ Src wr b b M ∧ b < wr.heap.size ∧ Below w.heap.size w wr) (fun _ q _ => (intOf q).toNat)
  case atStart => exact ⟨K, 0 + 1, [], by omega, by omega, by simp; omega, rfl, ho2, ⟨g1, 0, rfl, Nat.le_refl _⟩, hs2, by omega, hB2⟩
  case round =>
    obtain ⟨j, M, ol, hj, hMj, holj, rfl, ho, ⟨g, cp, rfl, hcp⟩, hs, hbr, hB⟩ := hrel
    clear ho2 hs2 hB2
    by_cases hj0 : 0 < j
    · have hj1 : (0 : Int) < (j : Int) := by omega
      go_wp2_with fail
      refine (l1Next_any b b M 9 wr hs (by omega) (by omega) (by omega)).mono ?_
      rintro e w3 ⟨u, rfl, -, -, -, hs3, hk⟩
      have ho3 := ho.far hk (fun g hg e => by have := (ho.lt g hg).1; injection e with e; omega)
      have hz3 := World.grownBy.size hk
      have hB3 : Below w.heap.size w w3 := hB.trans ((gbelow hk hbr).mono (by omega))
      clear ho hs hk hB
      go_wp2_with (at_builtin; refine wpList_app_newI rfl _ _ rfl (b + 1) _ ol rfl ho3 1 1 [u] rfl rfl rfl (by omega) (by omega) ?_; intro v4 w4 ho4 hb4)
      have hs4 := hs3.below hb4
      obtain ⟨g4, cp4, hv4⟩ := ownI_at ho4 (by simp)
      have HR : Hid (∃ (j' M' : Nat) (ol' : List Int), j' ≤ 6 ∧ M' + j' ≤ 8 ∧ ol'.length + j' ≤ 6 ∧ ((j : Int) - 1) = (j' : Int) ∧ OwnI w4 (b + 1) v4 ol' ∧ (∃ g cp, v4 = .slice (some ⟨g, 0, none⟩) ol'.length cp ∧ ol'.length ≤ cp) ∧ Src w4 b b M' ∧ b < w4.heap.size ∧ Below w.heap.size w w4) :=
        ⟨j - 1, M + 1, ol ++ [u], by omega, by omega, by simp; omega, by omega, ho4, ⟨g4, cp4, hv4, by obtain ⟨a', c', e', hle, -⟩ := ho4.form; rw [hv4] at e'; cases e'; exact hle⟩, hs4, by have := hb4.size; omega, hB3.trans (hb4.mono (by omega))⟩
      clear ho3 hs3 ho4 hb4 hs4 hB3 hv4
      go_wp2
      go_roundw
      case rel =>
        obtain ⟨j', M', ol', r1, r2, r3, r4, r5⟩ := HR.out
        exact ⟨j', M', ol', r1, r2, r3, by rw [← r4], r5⟩
      case measure => simp [intOf]; omega
    · have hj1 : ¬ (0 : Int) < (j : Int) := by omega
      go_wp2_with fail
      refine (l1Chance_any b b M 20 wr hs (by omega) (by omega) (by omega)).mono ?_
      rintro e w5 ⟨q, rfl, hs5, hk⟩
      have ho5 := ho.far hk (fun g hg e => by have := (ho.lt g hg).1; injection e with e; omega)
      have hz5 := World.grownBy.size hk
      have hB5 : Below w.heap.size w w5 := hB.trans ((gbelow hk hbr).mono (by omega))
      clear ho hs hk hB
      cases q with
      | false =>
        have ho := ho5
        have hs := hs5
        have hB := hB5
        have hb' : b < w5.heap.size := by omega
        obtain ⟨NN, hNN⟩ : ∃ N, ol.length = N := ⟨_, rfl⟩
        rw [hNN] at ho hcp
        clear ho5 hs5 hB5
        go_wp2_with fail
        refine (l1Next_any b b ((M + 1)) 7 w5 hs (by omega) (by omega) (by omega)).mono ?_
        rintro e w6 ⟨u1, rfl, h0u1, hlu1, -, hs', hk⟩
        have ho' := ho.far hk (fun g hg e => by have := (ho.lt g hg).1; injection e with e; omega)
        have hz' := World.grownBy.size hk
        have hB' : Below w.heap.size w w6 := hB.trans ((gbelow hk (by omega)).mono (by omega))
        have hlu1' := hlu1 (by omega)
        have hb' : b < w6.heap.size := by omega
        clear ho hk hB hs hlu1
        have ho := ho'
        have hs := hs'
        have hB := hB'
        clear ho' hs' hB'
        go_wp2_with fail
        refine (l1Next_any b b ((M + 1) + 1) 7 w6 hs (by omega) (by omega) (by omega)).mono ?_
        rintro e w7 ⟨u2, rfl, h0u2, hlu2, -, hs', hk⟩
        have ho' := ho.far hk (fun g hg e => by have := (ho.lt g hg).1; injection e with e; omega)
        have hz' := World.grownBy.size hk
        have hB' : Below w.heap.size w w7 := hB.trans ((gbelow hk (by omega)).mono (by omega))
        have hlu2' := hlu2 (by omega)
        have hb' : b < w7.heap.size := by omega
        clear ho hk hB hs hlu2
        have ho := ho'
        have hs := hs'
        have hB := hB'
        clear ho' hs' hB'
        obtain ⟨X1, hX1⟩ : ∃ W, w7.alloc (.cells #[.int .i64 (1 + u1), .int .i64 (1 + u2), .int .i64 999, .int .i64 0] 2) = W := ⟨_, rfl⟩
        have hbP : Below w7.heap.size w7 X1 := by rw [← hX1]; exact (Below.refl _ _).alloc (Nat.le_refl _) _
        have HNW : Hid (Nums X1 w7.heap.size [1 + u1, 1 + u2, 999, 0]) := by show Nums _ _ _; rw [← hX1]; exact nums_new rfl
        have hs1 := hs.below (hbP.mono (by omega))
        have ho1 := ho.below hbP (Nat.le_refl _)
        have hB1 := hB.trans (hbP.mono hB.size)
        have hzP := hbP.size
        have HP : Hid (_ = X1) := hX1
        clear hs ho hB hbP hX1
        go_wp2_with (rw [HP.out])
        refine (l1Pick_any b b ((M + 1) + 1 + 1) w7.heap.size 4 4 [1 + u1, 1 + u2, 999, 0] X1 hs1 (by omega) rfl (by omega) (by omega) HNW.out (by omega)).mono ?_
        rintro e w8 ⟨fr, rfl, -, hs, hk⟩
        have ho := ho1.far hk (fun g hg e => by have := (ho1.lt g hg).1; injection e with e; omega)
        have hz' := World.grownBy.size hk
        have hB : Below w.heap.size w w8 := hB1.trans ((gbelow hk (by omega)).mono (by omega))
        have hb' : b < w8.heap.size := by omega
        clear ho1 hk hB1 hs1 HNW HP
        go_wp2_with fail
        refine (l1Next_any b b ((M + 1) + 1 + 1 + 1) 7 w8 hs (by omega) (by omega) (by omega)).mono ?_
        rintro e w9 ⟨u3, rfl, h0u3, hlu3, -, hs', hk⟩
        have ho' := ho.far hk (fun g hg e => by have := (ho.lt g hg).1; injection e with e; omega)
        have hz' := World.grownBy.size hk
        have hB' : Below w.heap.size w w9 := hB.trans ((gbelow hk (by omega)).mono (by omega))
        have hlu3' := hlu3 (by omega)
        have hb' : b < w9.heap.size := by omega
        clear ho hk hB hs hlu3
        have ho := ho'
        have hs := hs'
        have hB := hB'
        clear ho' hs' hB'
        go_wp2_with fail
        refine (l1Next_any b b ((M + 1) + 1 + 1 + 1 + 1) 7 w9 hs (by omega) (by omega) (by omega)).mono ?_
        rintro e w10 ⟨u4, rfl, h0u4, hlu4, -, hs', hk⟩
        have ho' := ho.far hk (fun g hg e => by have := (ho.lt g hg).1; injection e with e; omega)
        have hz' := World.grownBy.size hk
        have hB' : Below w.heap.size w w10 := hB.trans ((gbelow hk (by omega)).mono (by omega))
        have hlu4' := hlu4 (by omega)
        have hb' : b < w10.heap.size := by omega
        clear ho hk hB hs hlu4
        have ho := ho'
        have hs := hs'
        have hB := hB'
        clear ho' hs' hB'
        obtain ⟨X2, hX2⟩ : ∃ W, w10.alloc (.cells #[.int .i64 (1 + u3), .int .i64 (1 + u4), .int .i64 999, .int .i64 1000] 2) = W := ⟨_, rfl⟩
        have hbP : Below w10.heap.size w10 X2 := by rw [← hX2]; exact (Below.refl _ _).alloc (Nat.le_refl _) _
        have HNW : Hid (Nums X2 w10.heap.size [1 + u3, 1 + u4, 999, 1000]) := by show Nums _ _ _; rw [← hX2]; exact nums_new rfl
        have hs1 := hs.below (hbP.mono (by omega))
        have ho1 := ho.below hbP (Nat.le_refl _)
        have hB1 := hB.trans (hbP.mono hB.size)
        have hzP := hbP.size
        have HP : Hid (_ = X2) := hX2
        clear hs ho hB hbP hX2
        go_wp2_with (rw [HP.out])
        refine (l1Pick_any b b ((M + 1) + 1 + 1 + 1 + 1 + 1) w10.heap.size 4 4 [1 + u3, 1 + u4, 999, 1000] X2 hs1 (by omega) rfl (by omega) (by omega) HNW.out (by omega)).mono ?_
        rintro e w11 ⟨tt, rfl, -, hs, hk⟩
        have ho := ho1.far hk (fun g hg e => by have := (ho1.lt g hg).1; injection e with e; omega)
        have hz' := World.grownBy.size hk
        have hB : Below w.heap.size w w11 := hB1.trans ((gbelow hk (by omega)).mono (by omega))
        have hb' : b < w11.heap.size := by omega
        clear ho1 hk hB1 hs1 HNW HP
        rw [← hNN] at ho hcp
        have HF : Hid (_) := (⟨ho.lowL (by omega), hcp, by omega, hB⟩ : OwnI w11 w.heap.size (.slice (some ⟨g, 0, none⟩) ol.length cp) ol ∧ ol.length ≤ cp ∧ ol.length ≤ 61 ∧ Below w.heap.size w w11)
        clear ho hB hs
        go_wp2
        refine bodyPost_ret (v := .tuple #[.slice (some ⟨g, 0, none⟩) NN cp, .int .i64 fr, .int .i64 tt]) (by simp [results, Tryz.results9, go_sem]) rfl ?_
        subst hNN
        exact ⟨ol, g, cp, fr, tt, rfl, HF.out⟩
      | true =>
        go_wp2_with (at_make; refine wpList_make_full _ rfl _ _ 29 rfl (b + 1) 2 i0 (.int .i64 0) 1 Tryz.underlying29 hi hz0 hz1 .i64 .i64 _ _ 61 rfl rfl rfl rfl (by rw [hz2]; omega) (by unfold maxLen; omega) (by omega) ?_; intro w0 hown0 hgrow0)
        rw [made_bytesI] at hown0
        obtain ⟨zl, hzl⟩ : ∃ zl, List.replicate 61 (0 : Int) = zl := ⟨_, rfl⟩
        have hzn : zl.length = 61 := by rw [← hzl]; simp
        rw [hzl] at hown0
        have hbel0 : Below w5.heap.size w5 w0 := (Below.refl _ _).grown hgrow0 (Nat.le_refl _) (by intro k hk; cases hk)
        have ho : OwnI w0 (b + 1) (.slice (some ⟨w5.heap.size, 0, none⟩) 61 61) zl := by unfold OwnI; rw [hzn]; exact hown0
        have hs := hs5.below (hbel0.mono (by omega))
        have hB := hB5.trans (hbel0.mono hB5.size)
        have hb' : b < w0.heap.size := by have := hbel0.size; omega
        clear ho5 hs5 hB5 hown0 hgrow0 hbel0 hzl
        generalize w5.heap.size = g5 at *
        go_wp2_with fail
        refine (l1Next_any b b ((M + 1)) 7 w0 hs (by omega) (by omega) (by omega)).mono ?_
        rintro e w6 ⟨u1, rfl, h0u1, hlu1, -, hs', hk⟩
        have ho' := ho.far hk (fun g hg e => by have := (ho.lt g hg).1; injection e with e; omega)
        have hz' := World.grownBy.size hk
        have hB' : Below w.heap.size w w6 := hB.trans ((gbelow hk (by omega)).mono (by omega))
        have hlu1' := hlu1 (by omega)
        have hb' : b < w6.heap.size := by omega
        clear ho hk hB hs hlu1
        have ho := ho'
        have hs := hs'
        have hB := hB'
        clear ho' hs' hB'
        go_wp2_with fail
        refine (l1Next_any b b ((M + 1) + 1) 7 w6 hs (by omega) (by omega) (by omega)).mono ?_
        rintro e w7 ⟨u2, rfl, h0u2, hlu2, -, hs', hk⟩
        have ho' := ho.far hk (fun g hg e => by have := (ho.lt g hg).1; injection e with e; omega)
        have hz' := World.grownBy.size hk
        have hB' : Below w.heap.size w w7 := hB.trans ((gbelow hk (by omega)).mono (by omega))
        have hlu2' := hlu2 (by omega)
        have hb' : b < w7.heap.size := by omega
        clear ho hk hB hs hlu2
        have ho := ho'
        have hs := hs'
        have hB := hB'
        clear ho' hs' hB'
        obtain ⟨X1, hX1⟩ : ∃ W, w7.alloc (.cells #[.int .i64 (1 + u1), .int .i64 (1 + u2), .int .i64 999, .int .i64 0] 2) = W := ⟨_, rfl⟩
        have hbP : Below w7.heap.size w7 X1 := by rw [← hX1]; exact (Below.refl _ _).alloc (Nat.le_refl _) _
        have HNW : Hid (Nums X1 w7.heap.size [1 + u1, 1 + u2, 999, 0]) := by show Nums _ _ _; rw [← hX1]; exact nums_new rfl
        have hs1 := hs.below (hbP.mono (by omega))
        have ho1 := ho.below hbP (Nat.le_refl _)
        have hB1 := hB.trans (hbP.mono hB.size)
        have hzP := hbP.size
        have HP : Hid (_ = X1) := hX1
        clear hs ho hB hbP hX1
        go_wp2_with (rw [HP.out])
        refine (l1Pick_any b b ((M + 1) + 1 + 1) w7.heap.size 4 4 [1 + u1, 1 + u2, 999, 0] X1 hs1 (by omega) rfl (by omega) (by omega) HNW.out (by omega)).mono ?_
        rintro e w8 ⟨fr, rfl, -, hs, hk⟩
        have ho := ho1.far hk (fun g hg e => by have := (ho1.lt g hg).1; injection e with e; omega)
        have hz' := World.grownBy.size hk
        have hB : Below w.heap.size w w8 := hB1.trans ((gbelow hk (by omega)).mono (by omega))
        have hb' : b < w8.heap.size := by omega
        clear ho1 hk hB1 hs1 HNW HP
        go_wp2_with fail
        refine (l1Next_any b b ((M + 1) + 1 + 1 + 1) 7 w8 hs (by omega) (by omega) (by omega)).mono ?_
        rintro e w9 ⟨u3, rfl, h0u3, hlu3, -, hs', hk⟩
        have ho' := ho.far hk (fun g hg e => by have := (ho.lt g hg).1; injection e with e; omega)
        have hz' := World.grownBy.size hk
        have hB' : Below w.heap.size w w9 := hB.trans ((gbelow hk (by omega)).mono (by omega))
        have hlu3' := hlu3 (by omega)
        have hb' : b < w9.heap.size := by omega
        clear ho hk hB hs hlu3
        have ho := ho'
        have hs := hs'
        have hB := hB'
        clear ho' hs' hB'
        go_wp2_with fail
        refine (l1Next_any b b ((M + 1) + 1 + 1 + 1 + 1) 7 w9 hs (by omega) (by omega) (by omega)).mono ?_
        rintro e w10 ⟨u4, rfl, h0u4, hlu4, -, hs', hk⟩
        have ho' := ho.far hk (fun g hg e => by have := (ho.lt g hg).1; injection e with e; omega)
        have hz' := World.grownBy.size hk
        have hB' : Below w.heap.size w w10 := hB.trans ((gbelow hk (by omega)).mono (by omega))
        have hlu4' := hlu4 (by omega)
        have hb' : b < w10.heap.size := by omega
        clear ho hk hB hs hlu4
        have ho := ho'
        have hs := hs'
        have hB := hB'
        clear ho' hs' hB'
        obtain ⟨X2, hX2⟩ : ∃ W, w10.alloc (.cells #[.int .i64 (1 + u3), .int .i64 (1 + u4), .int .i64 999, .int .i64 1000] 2) = W := ⟨_, rfl⟩
        have hbP : Below w10.heap.size w10 X2 := by rw [← hX2]; exact (Below.refl _ _).alloc (Nat.le_refl _) _
        have HNW : Hid (Nums X2 w10.heap.size [1 + u3, 1 + u4, 999, 1000]) := by show Nums _ _ _; rw [← hX2]; exact nums_new rfl
        have hs1 := hs.below (hbP.mono (by omega))
        have ho1 := ho.below hbP (Nat.le_refl _)
        have hB1 := hB.trans (hbP.mono hB.size)
        have hzP := hbP.size
        have HP : Hid (_ = X2) := hX2
        clear hs ho hB hbP hX2
        go_wp2_with (rw [HP.out])
        refine (l1Pick_any b b ((M + 1) + 1 + 1 + 1 + 1 + 1) w10.heap.size 4 4 [1 + u3, 1 + u4, 999, 1000] X2 hs1 (by omega) rfl (by omega) (by omega) HNW.out (by omega)).mono ?_
        rintro e w11 ⟨tt, rfl, -, hs, hk⟩
        have ho := ho1.far hk (fun g hg e => by have := (ho1.lt g hg).1; injection e with e; omega)
        have hz' := World.grownBy.size hk
        have hB : Below w.heap.size w w11 := hB1.trans ((gbelow hk (by omega)).mono (by omega))
        have hb' : b < w11.heap.size := by omega
        clear ho1 hk hB1 hs1 HNW HP
        have HF : Hid (_) := (⟨by rw [hzn]; exact ho.lowL (by omega), by omega, by omega, hB⟩ : OwnI w11 w.heap.size (.slice (some ⟨g5, 0, none⟩) zl.length 61) zl ∧ zl.length ≤ 61 ∧ zl.length ≤ 61 ∧ Below w.heap.size w w11)
        clear ho hB hs
        go_wp2
        refine bodyPost_ret (v := .tuple #[.slice (some ⟨g5, 0, none⟩) 61 61, .int .i64 fr, .int .i64 tt]) (by simp [results, Tryz.results9, go_sem]) rfl ?_
        exact ⟨zl, g5, 61, fr, tt, by rw [hzn], HF.out⟩
end Go.Proofs.YtfbjodbihenmjaaGreatDoor
