/- Sets that the model draws: at most nine ranges, in memory of the draw's own; nothing that was there is turned; sources of at most 1048576 bytes. -/
import Derived.Test.YtlkfmgfblfkgbaaGreatDoorDrw2
import Derived.Test.YtlkfmgfblfkgbaaGreatDoorYso
namespace Go.Proofs.YtlkfmgfblfkgbaaGreatDoor
open Go.RowKit

theorem OwnY.keptG {w w' : World} {B b : Nat} {v : Value} {l : List YgP} (h : OwnY w B v l) (hg : w.grownBy w' (some b)) (hb : b < B) : OwnY w' B v l := by
  refine World.ownsRow.kept h hg ?_
  cases hv : v.ownBlock with
  | none => exact .inl rfl
  | some k => right; intro e; have := (h.lt k hv).1; simp at e; omega
theorem yc_setF : ∀ (l : List YgP) (i : Nat) (x : Int), i < l.length → (yc l).set (i * 2) (.int .i64 x) = yc (l.set i (x, (nthY l i).2))
  | [], _, _, h => by simp at h
  | p :: l, 0, x, _ => rfl
  | p :: l, i + 1, x, h => by
    have := yc_setF l i x (by simpa using h)
    rw [yc_cons, show (i + 1) * 2 = i * 2 + 1 + 1 by omega, List.set_cons_succ, List.set_cons_succ, this, List.set_cons_succ, yc_cons]
    rfl
/-- How a draw of a set ends. -/
def DrY (B b M C : Nat) (w : World) (e : Ending) (w' : World) : Prop := ∃ (v : Value) (out : List YgP), e = .returned v ∧ OwnY w' (b + 1) v out ∧ out.length ≤ C ∧ (C = 3 → 1 ≤ out.length ∧ rfA out = true) ∧ Src w' B b M ∧ Below b w w'

set_option maxHeartbeats 1600000 in
set_option maxRecDepth 100000 in
theorem l11Draw_any (B b M : Nat) (w : World) (hs : Src w B b M) (hM : M ≤ 90000) :
    Calls Tryz.prog 19 #[.pointer (some ⟨b, 0, none⟩)] w fun e w' => DrY B b (M + 16) 3 w e w' := by
  obtain ⟨hBb, hbw, _⟩ := id hs
  have hown0 : OwnY (w.alloc (.cells #[] 42)) (b + 1) (.slice (some ⟨w.heap.size, 0, none⟩) 0 0) [] := by
    have := World.ownsRow_lit (base := b + 1) (e := 42) (size := 2) w #[] 0 (by omega) (by decide) rfl
    exact this
  have hbel0 : Below b w (w.alloc (.cells #[] 42)) := (Below.refl _ _).alloc (by omega) _
  have hs0 : Src (w.alloc (.cells #[] 42)) B b M := hs.below ((Below.refl _ _).alloc (by omega) _)
  go_enter Tryz.func19, Tryz.ntmps19
  go_wp2_with fail
  refine (l1Next_any B b M 3 _ hs0 (by omega) (by omega) (by omega)).mono ?_
  rintro e w1 ⟨r, rfl, r0, r1, _, hs1, hg1⟩
  have ho1 := hown0.keptG hg1 (by omega)
  have hb1 : Below b w w1 := hbel0.trans ((Below.refl _ _).grown hg1 (by simp; omega) (by intro k hk; simp at hk; omega))
  have hr3 : r < 3 := r1 (by omega)
  obtain ⟨K, hK⟩ : ∃ K : Nat, r = (K : Int) := ⟨r.toNat, by omega⟩
  subst hK
  clear hown0 hbel0 hs0 hg1 r1
  go_wp2
  go_loopw [3, 4] (fun v kv wr => ∃ (j : Nat) (out : List YgP), kv = .int .i64 (j : Int) ∧ j + out.length = K + 1 ∧ rfA out = true ∧ OwnY wr (b + 1) v out ∧ Src wr B b (M + 1 + 5 * out.length) ∧ Below b w wr)
    (fun _ kv _ => (intOf kv).toNat)
  case atStart => exact ⟨K + 1, [], by go_num, rfl, rfl, ho1, hs1, hb1⟩
  case round =>
    obtain ⟨j, out, rfl, hj, hrf, hown, hsr, hbel⟩ := hrel
    clear ho1 hs1 hb1
    obtain ⟨_, hbr, _⟩ := id hsr
    by_cases hj0 : 0 < j
    · have hj' : (j : Int) > 0 := by omega
      obtain ⟨j', rfl⟩ : ∃ j', j = j' + 1 := ⟨j - 1, by omega⟩
      go_wp2_with fail
      refine (l1Next_any B b (M + 1 + 5 * out.length) 6 _ hsr (by omega) (by omega) (by omega)).mono ?_
      rintro e w2 ⟨x, rfl, x0, x1, _, hs2, hg2⟩
      have ho2 := hown.keptG hg2 (by omega)
      have hb2 : Below b w w2 := hbel.trans ((Below.refl _ _).grown hg2 (by omega) (by intro k hk; simp at hk; omega))
      have hz2 := hg2.size
      have x6 : x < 6 := x1 (by omega)
      clear hown hsr hbel hg2 x1
      go_wp2_with fail
      refine (l1Next_any B b _ 6 _ hs2 (by omega) (by omega) (by omega)).mono ?_
      rintro e w3 ⟨y, rfl, y0, y1, _, hs3, hg3⟩
      have ho3 := ho2.keptG hg3 (by omega)
      have hb3 : Below b w w3 := hb2.trans ((Below.refl _ _).grown hg3 (by omega) (by intro k hk; simp at hk; omega))
      have hz3 := hg3.size
      have y6 : y < 6 := y1 (by omega)
      clear ho2 hs2 hb2 hg3 y1
      have hs3' : Src (w3.alloc (.cells #[.int .i64 (1 + x), .int .i64 (1 + y), .int .i64 0, .int .i64 999] 2)) B b _ := hs3.below ((Below.refl _ _).alloc (by omega) _)
      have ho3' := ho3.alloc (.cells #[.int .i64 (1 + x), .int .i64 (1 + y), .int .i64 0, .int .i64 999] 2)
      have hb3' : Below b w (w3.alloc (.cells #[.int .i64 (1 + x), .int .i64 (1 + y), .int .i64 0, .int .i64 999] 2)) := hb3.alloc (by omega) _
      go_wp2_with fail
      refine (l1Pick_any B b _ _ 4 4 [1 + x, 1 + y, 0, 999] _ hs3' (by omega) rfl (by omega) (by omega) (nums_new rfl) (by omega)).mono ?_
      rintro e w4 ⟨p, rfl, hp, hs4, hg4⟩
      have hp' : 0 ≤ p ∧ p ≤ 999 := by simp at hp; omega
      have ho4 := ho3'.keptG hg4 (by omega)
      have hz4 := hg4.size
      have hb4 : Below b w w4 := hb3'.trans ((Below.refl _ _).grown hg4 (by simp; omega) (by intro k hk; simp at hk; omega))
      simp only [World.size_alloc] at hz4
      clear ho3 hs3 hb3 hs3' ho3' hb3' hg4 hp
      go_wp2_with fail
      refine (l1Next_any B b _ 6 _ hs4 (by omega) (by omega) (by omega)).mono ?_
      rintro e w5 ⟨y, rfl, y0, y1, _, hs5, hg5⟩
      have ho5 := ho4.keptG hg5 (by omega)
      have hb5 : Below b w w5 := hb4.trans ((Below.refl _ _).grown hg5 (by omega) (by intro k hk; simp at hk; omega))
      have hz5 := hg5.size
      have y6 : y < 6 := y1 (by omega)
      clear ho4 hs4 hb4 hg5 y1
      have hs5' : Src (w5.alloc (.cells #[.int .i64 p, .int .i64 (1 + y), .int .i64 0] 2)) B b _ := hs5.below ((Below.refl _ _).alloc (by omega) _)
      have ho5' := ho5.alloc (.cells #[.int .i64 p, .int .i64 (1 + y), .int .i64 0] 2)
      have hb5' : Below b w (w5.alloc (.cells #[.int .i64 p, .int .i64 (1 + y), .int .i64 0] 2)) := hb5.alloc (by omega) _
      go_wp2_with fail
      refine (l1Pick_any B b _ _ 3 3 [p, 1 + y, 0] _ hs5' (by omega) rfl (by omega) (by omega) (nums_new rfl) (by omega)).mono ?_
      rintro e w6 ⟨q, rfl, hq, hs6, hg6⟩
      have ho6 := ho5'.keptG hg6 (by omega)
      have hz6 := hg6.size
      have hb6 : Below b w w6 := hb5'.trans ((Below.refl _ _).grown hg6 (by simp; omega) (by intro k hk; simp at hk; omega))
      simp only [World.size_alloc] at hz6
      have hq' : 0 ≤ q ∧ q ≤ 999 := by simp at hq; omega
      have HRF : Hid (rfA (out ++ [(p, q)]) = true) := by
        show rfA (out ++ [(p, q)]) = true
        rw [rfA_app, hrf]
        unfold rfA
        simp only [List.all_cons, List.all_nil, Bool.and_true, Bool.true_and]
        rw [show bty p 0 999 = true from decide_eq_true hp', show bty q 0 999 = true from decide_eq_true hq']; rfl
      clear ho5 hs5 hb5 hs5' ho5' hb5' hg6 hq hrf
      have HS6 : Hid (Src w6 B b (M + 1 + 5 * (out.length + 1))) := hs6.more (by omega)
      clear hs6
      go_wp2_with (at_builtin; refine wpList_app_newY rfl _ _ rfl (b + 1) _ out rfl ho6 p q rfl (by omega) (by omega) ?_; intro v' w7 ho7 hb7)
      have hs7 : Src w7 B b (M + 1 + 5 * (out.length + 1)) := Src.below HS6.out hb7
      have hb67 := hb6.trans (hb7.mono (by omega))
      clear hb7 HS6 ho6
      go_roundw
      case rel => exact ⟨j', out ++ [(p, q)], by go_num, by rw [List.length_append]; simp; omega, HRF.out, ho7, by rw [List.length_append]; exact hs7, hb67⟩
      case measure => simp [intOf]
    · obtain rfl : j = 0 := by omega
      have hj' : ¬ ((0 : Nat) : Int) > 0 := by omega
      have HS : Hid (_) := hsr.more (M' := M + 16) (by omega)
      go_wp2
      go_ret
      exact ⟨_, out, rfl, hown, by omega, fun _ => ⟨by omega, hrf⟩, HS.out, hbel⟩

set_option maxHeartbeats 1600000 in
set_option maxRecDepth 100000 in
theorem l11Bent_any (B b M : Nat) (w : World) (hs : Src w B b M) (hM : M ≤ 80000) :
    Calls Tryz.prog 33 #[.pointer (some ⟨b, 0, none⟩)] w fun e w' => DrY B b (M + 18) 9 w e w' := by
  obtain ⟨hBb, hbw, _⟩ := id hs
  obtain ⟨i0, hi, hz0, hz1, hz2⟩ := info_parts infoY
  go_enter Tryz.func33, Tryz.ntmps33
  go_wp2_with fail
  refine (l11Draw_any B b M _ hs (by omega)).mono ?_
  rintro e w1 ⟨v, out, rfl, hown, hol, h13, hs1, hb1⟩
  have ho1 : 1 ≤ out.length := (h13 rfl).1
  have hz1' := hb1.size
  clear h13
  go_wp2_with fail
  refine (l1Next_any B b (M + 16) 10 _ hs1 (by omega) (by omega) (by omega)).mono ?_
  rintro e w2 ⟨r, rfl, r0, r1, _, hs2, hg2⟩
  have ho2 := hown.keptG hg2 (by omega)
  have hb2 : Below b w w2 := hb1.trans ((Below.refl _ _).grown hg2 (by omega) (by intro k hk; simp at hk; omega))
  have hzz := hg2.size
  obtain ⟨_, hbr, _⟩ := id hs2
  clear hown hs1 hb1 hg2 r1
  obtain ⟨av, cv, ev, hcv, _⟩ := ho2.form
  by_cases hr0 : r = 0
  · have hs3' : Src (w2.alloc (.cells #[.int .i64 (-1), .int .i64 1000] 2)) B b (M + 16 + 1) := hs2.below ((Below.refl _ _).alloc (by omega) _)
    have ho3' := ho2.alloc (.cells #[.int .i64 (-1), .int .i64 1000] 2)
    have hb3' : Below b w (w2.alloc (.cells #[.int .i64 (-1), .int .i64 1000] 2)) := hb2.alloc (by omega) _
    subst ev
    go_wp2_with fail
    refine (l1Pick_any B b _ _ 2 2 [-1, 1000] _ hs3' (by omega) rfl (by omega) (by omega) (nums_new rfl) (by omega)).mono ?_
    rintro e w4 ⟨p, rfl, hp, hs4, hg4⟩
    have ho4 := ho3'.keptG hg4 (by omega)
    have hb4 : Below b w w4 := hb3'.trans ((Below.refl _ _).grown hg4 (by simp; omega) (by intro k hk; simp at hk; omega))
    clear ho2 hs2 hb2 hs3' ho3' hb3' hg4 hp hs
    obtain ⟨g', hform⟩ : ∃ g', av = some ⟨g', 0, none⟩ := by
      rcases ho4.2 with ⟨h0', h1'⟩ | ⟨g', cap', cur, h', _⟩
      · omega
      · simp at h'; exact ⟨g', h'.1⟩
    subst hform
    have hfz := World.ownsRow.frozenAt ho4 0
    have hgL : w4.cell? ⟨g', 0, none⟩ = some (.int .i64 (nthY out 0).1) := by rw [World.ownsRow.cellAt ho4 0 (by omega)]; exact (yc_get out 0 (by omega)).1
    obtain ⟨hst, hgr2⟩ := World.ownsRow.stored ho4 0 (.int .i64 p)
    rw [show (0 : Nat) = 0 * 2 from rfl, yc_setF out 0 p (by omega)] at hst
    have HST : Hid (OwnY (w4.setCell ⟨g', 0, none⟩ (.int .i64 p)) (b + 1) (.slice (some ⟨g', 0, none⟩) out.length cv) (out.set 0 (p, (nthY out 0).2))) := by
      show OwnY _ _ _ _
      unfold OwnY
      rw [List.length_set]
      exact hst
    have hgb : b + 1 ≤ g' := (ho4.lt g' rfl).1
    have HB : Hid (Below b w (w4.setCell ⟨g', 0, none⟩ (.int .i64 p))) := hb4.setCell (by show b ≤ g'; omega) _
    have HS : Hid (Src (w4.setCell ⟨g', 0, none⟩ (.int .i64 p)) B b (M + 18)) := Src.below (hs4.more (M' := M + 18) (by omega)) ((Below.refl (b + 1) w4).setCell (by show b + 1 ≤ g'; omega) _)
    have hol' : ((0 : Nat) : Int) < (out.length : Int) := by omega
    clear hst hgr2 ho4 hs4 hb4
    generalize (nthY out 0).1 = x0 at *
    go_wp2
    go_ret
    exact ⟨_, _, rfl, HST.out, by rw [List.length_set]; omega, fun h => by omega, HS.out, HB.out⟩
  · by_cases hr1 : r = 1
    · have hs3' : Src (w2.alloc (.cells #[.int .i64 0, .int .i64 9] 2)) B b (M + 16 + 1) := hs2.below ((Below.refl _ _).alloc (by omega) _)
      have hb3' : Below b w (w2.alloc (.cells #[.int .i64 0, .int .i64 9] 2)) := hb2.alloc (by omega) _
      clear ho2
      go_wp2_with fail
      refine (l1Pick_any B b _ _ 2 2 [0, 9] _ hs3' (by omega) rfl (by omega) (by omega) (nums_new rfl) (by omega)).mono ?_
      rintro e w4 ⟨p, rfl, hp, hs4, hg4⟩
      have hb4 : Below b w w4 := hb3'.trans ((Below.refl _ _).grown hg4 (by simp; omega) (by intro k hk; simp at hk; omega))
      obtain ⟨_, hbr4, _⟩ := id hs4
      clear hs2 hb2 hs3' hb3' hg4 hs
      obtain ⟨n, hn⟩ : ∃ n : Nat, p = (n : Int) ∧ n ≤ 9 := ⟨p.toNat, by simp at hp; omega⟩
      obtain ⟨rfl, hn9⟩ := hn
      clear hp
      go_wp2_with (at_make; refine wpList_make_full _ rfl _ _ 25 rfl (b + 1) 42 i0 zeroY 2 Tryz.underlying25 hi hz0 hz1 .i64 .i64 _ _ n rfl rfl rfl rfl (by rw [hz2]; omega) (by unfold maxLen; omega) (by omega) ?_; intro w5 hown5 hgrow5)
      have hb5 : Below b w w5 := hb4.trans ((Below.refl _ _).grown hgrow5 (by omega) (by intro k hk; cases hk))
      have hs5 : Src w5 B b (M + 18) := Src.below (hs4.more (M' := M + 18) (by omega)) ((Below.refl _ _).grown hgrow5 (by omega) (by intro k hk; cases hk))
      have ho5 : OwnY w5 (b + 1) (.slice (some ⟨w4.heap.size, 0, none⟩) n n) (List.replicate n (0, 0)) := by
        unfold OwnY
        rw [List.length_replicate, ← made_ranges]
        exact hown5
      go_ret
      exact ⟨_, _, rfl, ho5, by rw [List.length_replicate]; exact hn9, fun h => by omega, hs5, hb5⟩
    · have HS : Hid (Src w2 B b (M + 18)) := hs2.more (by omega)
      have e0 : (r == 0) = false := beq_eq_false_iff_ne.2 hr0
      have e1 : (r == 1) = false := beq_eq_false_iff_ne.2 hr1
      clear hs2 hs
      subst ev
      go_wp2
      go_ret
      exact ⟨_, out, rfl, ho2, by omega, fun h => by omega, HS.out, hb2⟩

end Go.Proofs.YtlkfmgfblfkgbaaGreatDoor
