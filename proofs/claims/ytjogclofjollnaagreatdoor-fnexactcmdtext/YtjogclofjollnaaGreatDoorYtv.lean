/- The text of a set, on both sides (more of it): the words with commas between, the answers. -/
import Derived.Test.YtjogclofjollnaaGreatDoorMemZToYtx
import Derived.Deep.RegionHeld3
namespace Go.Proofs.YtjogclofjollnaaGreatDoor
open Go.RowKit
set_option maxHeartbeats 1600000 in
set_option maxRecDepth 100000 in
theorem tellSet_any (a : Option Addr) (n cap : Nat) (l : List YgP) (w : World) (hl : l.length = n) (hr : RdZ w a l) (h1 : 1 ≤ n) (hn : n ≤ 8) (hok : rfA l = true) (ht : TabW w) :
  Calls Tryz.prog 105 #[.slice a n cap] w fun e w' => e = .returned (.string (str (txY l))) ∧ Below w.heap.size w w' := by
 go_enter Tryz.func105, Tryz.ntmps105
 go_wp2
 go_loopw [3, 8] (fun v i wr => ∃ k : Nat, k ≤ n ∧ i = .int .i64 k ∧ OwnS wr w.heap.size v ((l.take k).map wdY) ∧ Below w.heap.size w wr) (fun _ i _ => n - (intOf i).toNat)
 case atStart => exact ⟨0, Nat.zero_le _, rfl, OwnS.nil _ _, Below.refl _ _⟩
 case round =>
  obtain ⟨k, hk, rfl, hown, hbel⟩ := hrel
  by_cases hkn : k < n
  ·obtain ⟨b, off, rfl, hblt, hcell⟩ := hr.at_ (by omega)
   have hc0 : wr.cell? ⟨b, off + k, none⟩ = some (cz (nthY l k)) := (hbel.cell (p := ⟨b, off + k, none⟩) hblt).trans (hcell k (by omega))
   have hki : (k : Int) < (n : Int) := by omega
   have HT : Hid ((l.take k).map wdY ++ [wdY (nthY l k)] = (l.take (k + 1)).map wdY) := by
    show _ = _
    rw [take_snocY l k (by omega), List.map_append]; rfl
   have hlt : ((l.take k).map wdY).length = k := by rw [List.length_map, List.length_take]; omega
   obtain ⟨b1, b2⟩ := rfA_nth hok (i := k) (by omega)
   clear hcell
   generalize nthY l k = p at *
   have htr := TabW.below ht hbel
   have HWd : Hid (∀ w, TabW w → Calls Tryz.prog 121 #[cz p] w fun e w' => e = .returned (.string (str (wdY p))) ∧ Below w.heap.size w w') := fun w ht => word_any p w b1 b2 ht
   obtain ⟨x, y⟩ := p
   rw [show cz (x, y) = .complex .f64 (fB x) (fB y) from rfl] at hc0
   generalize (l.take k).map wdY = ws at *
   obtain ⟨av, cv, ev, _, _⟩ := hown.form
   rw [hlt] at ev
   subst ev
   go_wp2_with fail
   refine (HWd.out _ htr).mono ?_
   rintro e w2 ⟨rfl, hb2⟩
   have hown2 := hown.below hb2 (Nat.le_refl _)
   have hbel2 := hbel.trans (hb2.mono hbel.size)
   clear hown hbel hb2
   go_wp2_with (at_builtin; refine wpList_app_newT rfl _ _ rfl w.heap.size _ ws rfl hown2 1 1 [wdY (x, y)] rfl rfl rfl (by omega) hbel2.size ?_; intro v' w3 ho3 hb3)
   rw [HT.out] at ho3
   have hB3 := hbel2.trans hb3
   clear hb3 hown2
   go_roundw
   case rel => exact ⟨k + 1, by omega, by go_num, ho3, hB3⟩
   case measure => simp [intOf]; omega
  ·have hki : ¬ (k : Int) < (n : Int) := by omega
   have hkk : l.take k = l := List.take_of_length_le (by omega)
   rw [hkk] at hown
   have hwl : (l.map wdY).length = n := by rw [List.length_map]; exact hl
   have HJ := jnT_join (l.map wdY)
   have htl := txY_len l
   obtain ⟨aw, cw, rfl, hwc, hwm⟩ := id hown.form
   obtain ⟨hlen, hrd⟩ := hown.rd
   obtain ⟨g, o, rfl, hglt, hcell⟩ := hrd.at_ (by omega)
   have HC := Tryz.strings_Join g o cw ((l.map wdY).map str) ⟨#[44]⟩ wr (fun i x hx => by
    have hi : i < (l.map wdY).length := by
     rcases Nat.lt_or_ge i (l.map wdY).length with h | h
     ·exact h
     ·rw [List.getElem?_eq_none (by rw [List.length_map]; exact h)] at hx; cases hx
    rw [List.getElem?_map, List.getElem?_eq_getElem hi, Option.map_some] at hx
    cases hx
    have := hcell i hi
    rw [nthS_get hi] at this
    exact this) hglt (by rw [List.length_map]; omega) (by rw [List.length_map]; exact hwc) (by
    rw [List.map_map]
    rw [show (List.map ((fun x => x.data.toList) ∘ str) (l.map wdY)) = ((l.map wdY).map fun x => (str x).data.toList) from rfl, show (ByteArray.mk #[44]).data.toList = [44] from rfl, HJ, List.length_map]
    show (txY l).length ≤ _
    omega)
   rw [List.length_map, List.map_map, show (List.map ((fun x => x.data.toList) ∘ str) (l.map wdY)) = ((l.map wdY).map fun x => (str x).data.toList) from rfl, show (ByteArray.mk #[44]).data.toList = [44] from rfl, HJ] at HC
   rw [show (⟨((jnT (l.map wdY)).map UInt8.ofNat).toArray⟩ : ByteArray) = str (txY l) from rfl] at HC
   rw [hwl] at HC
   clear HJ hcell hrd hlen
   go_wp2_with fail
   refine HC.mono ?_
   rintro e w2 ⟨rfl, hb2⟩
   have hbw := hbel.trans (hb2.mono hbel.size)
   clear HC
   go_wp2
   go_ret
   exact ⟨rfl, hbw⟩
set_option maxHeartbeats 3200000 in
set_option maxRecDepth 100000 in
theorem l11Text_any (a : Option Addr) (n cap : Nat) (l : List YgP) (w : World) (hl : l.length = n) (hr : RdY w a l) (hn : n ≤ 8) (hok : rfA l = true) :
  Calls Tryz.prog 57 #[.slice a n cap] w fun e w' => e = .returned (.string (str (txY l))) ∧ Below w.heap.size w w' := by
 go_enter Tryz.func57, Tryz.ntmps57
 go_wp2
 go_loopw [3, 4] (fun v i wr => ∃ k : Nat, k ≤ n ∧ i = .int .i64 k ∧ v = .string (str (txY (l.take k))) ∧ Below w.heap.size w wr) (fun _ i _ => n - (intOf i).toNat)
 case atStart => exact ⟨0, Nat.zero_le _, rfl, rfl, Below.refl _ _⟩
 case round =>
  obtain ⟨k, hk, rfl, rfl, hbel⟩ := hrel
  by_cases hkn : k < n
  ·obtain ⟨b, off, rfl, hblt, hcell⟩ := hr.at_ (by omega)
   have hc0 : wr.cell? ⟨b, off + k * 2, none⟩ = some (.int .i64 (nthY l k).1) := (hbel.cell (p := ⟨b, off + k * 2, none⟩) hblt).trans (hcell k (by omega)).1
   have hc1 : wr.cell? ⟨b, off + k * 2 + 1, none⟩ = some (.int .i64 (nthY l k).2) := (hbel.cell (p := ⟨b, off + k * 2 + 1, none⟩) hblt).trans (hcell k (by omega)).2
   have hblr : b < wr.heap.size := Nat.lt_of_lt_of_le hblt hbel.size
   have hki : (k : Int) < (n : Int) := by omega
   obtain ⟨b1, b2⟩ := rfA_nth hok (i := k) (by omega)
   have hst := txY_step (l := l) (k := k) (by omega)
   have htl := txY_len (l.take k)
   rw [List.length_take] at htl
   have ht64 : (txY (l.take k)).length ≤ 64 := by omega
   clear hcell htl
   generalize nthY l k = p at *
   obtain ⟨x, y⟩ := p
   simp only at hc0 hc1 b1 b2
   have HN1 : Hid (_) := fun w => l11Number_any x w b1
   have HN2 : Hid (_) := fun w => l11Number_any y w b2
   have l1 : (str (wdN x)).size ≤ 3 := by rw [str_size]; exact wdN_len x
   have l2 : (str (wdN y)).size ≤ 3 := by rw [str_size]; exact wdN_len y
   have l0 : (str (txY (l.take k))).size ≤ 64 := by rw [str_size]; exact ht64
   by_cases hk0 : k = 0
   ·subst hk0
    rw [Nat.zero_mul, Nat.add_zero] at hc0 hc1
    have HS : Hid (str (txY (l.take 0)) ++ str (wdY (x, y)) = str (txY (l.take (0 + 1)))) := by
     show _ = _
     rw [hst, if_pos rfl]
     rw [show (l.take 0) = [] from rfl, show txY [] = [] from rfl, str_plusY]
    have HWd : Hid (x = y → wdY (x, y) = wdN x) := fun h => if_pos h
    have HWe : Hid (x ≠ y → (str (wdN x) ++ ⟨#[58]⟩) ++ str (wdN y) = str (wdY (x, y))) := fun h => by
     rw [show (⟨#[58]⟩ : ByteArray) = str [58] from rfl, str_plusY, str_plusY, wdY, if_neg h]
    clear hst
    obtain ⟨s0, hs0⟩ : ∃ s0, s0 = str (txY (l.take 0)) := ⟨_, rfl⟩
    rw [← hs0] at HS l0 ⊢
    clear hs0
    go_wp2_with fail
    refine (HN1.out _).mono ?_
    rintro e w1 ⟨rfl, hb1⟩
    have hd0 : w1.cell? ⟨b, off, none⟩ = some (.int .i64 x) := (hb1.cell (p := ⟨b, off, none⟩) hblr).trans hc0
    have hd1 : w1.cell? ⟨b, off + 1, none⟩ = some (.int .i64 y) := (hb1.cell (p := ⟨b, off + 1, none⟩) hblr).trans hc1
    have hbel1 := hbel.trans (hb1.mono hbel.size)
    have hbl1 : b < w1.heap.size := Nat.lt_of_lt_of_le hblr hb1.size
    have l5 : (s0 ++ str (wdN x)).size ≤ 68 := by
     rw [ByteArray.size_append]; omega
    clear hc0 hc1 hb1 hbel
    by_cases hxy : x = y
    ·have HV : Hid (s0 ++ str (wdN x) = str (txY (l.take (0 + 1)))) := by
      show _ = _
      rw [← HWd.out hxy]; exact HS.out
     clear HS HWd HWe
     subst hxy
     go_wp2_with fail
     refine wp_region_held_drew (S := fun w' => w'.cell? ⟨b, off, none⟩ = some (.int .i64 x) ∧ w'.cell? ⟨b, off + 1, none⟩ = some (.int .i64 x)) (by kernel_rfl) ?hS12 (fun hHeld => ?_)
     case hS12 => exact ⟨hd0, hd1⟩
     refine wpAnyH_take (i := 0) (v := ?_) rfl (by kernel_rfl) (by kernel_rfl) (by kernel_rfl) (fun _ _ _ h => h) (Or.inl ⟨by rfl, ?hy13⟩) (by assumption) ?ty13
     case hy13 => (intro w hSw; (try dsimp only at hSw); go_simp; all_goals with_reducible rfl)
     simp only [Act.put, List.getElem_toArray, List.getElem_cons_zero, List.setIfInBounds_toArray, List.set_cons_zero, List.set_cons_succ]
     refine wpAnyH_take (i := 1) (v := ?_) rfl (by kernel_rfl) (by kernel_rfl) (by kernel_rfl) (fun _ _ _ h => h) (Or.inl ⟨by rfl, ?hy14⟩) (by assumption) ?ty14
     case hy14 => (intro w hSw; (try dsimp only at hSw); go_simp; all_goals with_reducible rfl)
     simp only [Act.put, List.getElem_toArray, List.getElem_cons_zero, List.getElem_cons_succ, List.setIfInBounds_toArray, List.set_cons_zero, List.set_cons_succ]
     refine wpAnyH_take (i := 2) (v := ?_) rfl (by kernel_rfl) (by kernel_rfl) (by kernel_rfl) (fun _ _ _ h => h) (Or.inl ⟨by rfl, ?hy15⟩) (by assumption) ?ty15
     case hy15 => (intro w hSw; (try dsimp only at hSw); go_simp; all_goals with_reducible rfl)
     simp only [Act.put, List.getElem_toArray, List.getElem_cons_zero, List.getElem_cons_succ, List.setIfInBounds_toArray, List.set_cons_zero, List.set_cons_succ]
     refine wpAnyH_take (i := 3) (v := ?_) rfl (by kernel_rfl) (by kernel_rfl) (by kernel_rfl) (fun _ _ _ h => h) (Or.inl ⟨by rfl, ?hy16⟩) (by assumption) ?ty16
     case hy16 => (intro w hSw; (try dsimp only at hSw); go_simp; all_goals with_reducible rfl)
     simp only [Act.put, List.getElem_toArray, List.getElem_cons_zero, List.getElem_cons_succ, List.setIfInBounds_toArray, List.set_cons_zero, List.set_cons_succ]
     refine wpAnyH_take (i := 4) (v := ?_) rfl (by kernel_rfl) (by kernel_rfl) (by kernel_rfl) (fun _ _ _ h => h) (Or.inl ⟨by rfl, ?hy17⟩) (by assumption) ?ty17
     case hy17 => (intro w hSw; (try dsimp only at hSw); go_simp; all_goals with_reducible rfl)
     simp only [Act.put, List.getElem_toArray, List.getElem_cons_zero, List.getElem_cons_succ, List.setIfInBounds_toArray, List.set_cons_zero, List.set_cons_succ]
     refine wpAnyH_take (i := 5) (v := ?_) rfl (by kernel_rfl) (by kernel_rfl) (by kernel_rfl) (fun _ _ _ h => h) (Or.inl ⟨by rfl, ?hy18⟩) (by assumption) ?ty18
     case hy18 => (intro w hSw; (try dsimp only at hSw); go_simp; all_goals with_reducible rfl)
     simp only [Act.put, List.getElem_toArray, List.getElem_cons_zero, List.getElem_cons_succ, List.setIfInBounds_toArray, List.set_cons_zero, List.set_cons_succ]
     refine wpAnyH_take (i := 6) (v := ?_) rfl (by kernel_rfl) (by kernel_rfl) (by kernel_rfl) (fun _ _ _ h => h) (Or.inl ⟨by rfl, ?hy19⟩) (by assumption) ?ty19
     case hy19 => (intro w hSw; (try dsimp only at hSw); go_simp; all_goals with_reducible rfl)
     simp only [Act.put, List.getElem_toArray, List.getElem_cons_zero, List.getElem_cons_succ, List.setIfInBounds_toArray, List.set_cons_zero, List.set_cons_succ]
     refine wpAnyH_take (i := 7) (v := ?_) rfl (by kernel_rfl) (by kernel_rfl) (by kernel_rfl) (fun _ _ _ h => h) (Or.inl ⟨by rfl, ?hy20⟩) (by assumption) ?ty20
     case hy20 => (intro w hSw; (try dsimp only at hSw); go_simp; all_goals with_reducible rfl)
     simp only [Act.put, List.getElem_toArray, List.getElem_cons_zero, List.getElem_cons_succ, List.setIfInBounds_toArray, List.set_cons_zero, List.set_cons_succ]
     refine wpAnyH_take (i := 8) (v := ?_) rfl (by kernel_rfl) (by kernel_rfl) (by kernel_rfl) (fun _ _ _ h => h) (Or.inl ⟨by rfl, ?hy21⟩) (by assumption) ?ty21
     case hy21 => (intro w hSw; (try dsimp only at hSw); go_simp; all_goals with_reducible rfl)
     simp only [Act.put, List.getElem_toArray, List.getElem_cons_zero, List.getElem_cons_succ, List.setIfInBounds_toArray, List.set_cons_zero, List.set_cons_succ]
     refine wpAnyH_take (i := 9) (v := ?_) rfl (by kernel_rfl) (by kernel_rfl) (by kernel_rfl) (fun _ _ _ h => h) (Or.inl ⟨by rfl, ?hy22⟩) (by assumption) ?ty22
     case hy22 => (intro w hSw; (try dsimp only at hSw); go_simp; all_goals with_reducible rfl)
     simp only [Act.put, List.getElem_toArray, List.getElem_cons_zero, List.getElem_cons_succ, List.setIfInBounds_toArray, List.set_cons_zero, List.set_cons_succ]
     refine wpAnyH_take (i := 10) (v := .bool false) rfl (by kernel_rfl) (by kernel_rfl) (by kernel_rfl) (fun _ _ _ h => h) (Or.inl ⟨by rfl, ?hy23⟩) (by assumption) ?ty23
     case hy23 => (intro w hSw; (try dsimp only at hSw); go_simp; all_goals first | (simp; done) | with_reducible rfl)
     simp only [Act.put, List.getElem_toArray, List.getElem_cons_zero, List.getElem_cons_succ, List.setIfInBounds_toArray, List.set_cons_zero, List.set_cons_succ]
     refine wpAnyH_done (by kernel_rfl) ?_ _
     have hbel2 := hbel1.drew
     clear hHeld
     go_wp2
     go_roundw
     case rel => exact ⟨0 + 1, by omega, by go_num, by rw [HV.out], hbel2⟩
     case measure => simp [intOf]; omega
    ·have HV : Hid (((s0 ++ str (wdN x)) ++ ⟨#[58]⟩) ++ str (wdN y) = str (txY (l.take (0 + 1)))) := by
      show _ = _
      rw [← HS.out, ← HWe.out hxy]
      simp only [ByteArray.append_assoc]
     clear HS HWd HWe
     have hxyb : (x != y) = true := by simp [hxy]
     go_wp2_with fail
     refine wp_region_held_drew (S := fun w' => w'.cell? ⟨b, off, none⟩ = some (.int .i64 x) ∧ w'.cell? ⟨b, off + 1, none⟩ = some (.int .i64 y)) (by kernel_rfl) ?hS24 (fun hHeld => ?_)
     case hS24 => exact ⟨hd0, hd1⟩
     refine wpAnyH_take (i := 0) (v := ?_) rfl (by kernel_rfl) (by kernel_rfl) (by kernel_rfl) (fun _ _ _ h => h) (Or.inl ⟨by rfl, ?hy25⟩) (by assumption) ?ty25
     case hy25 => (intro w hSw; (try dsimp only at hSw); go_simp; all_goals with_reducible rfl)
     simp only [Act.put, List.getElem_toArray, List.getElem_cons_zero, List.setIfInBounds_toArray, List.set_cons_zero, List.set_cons_succ]
     refine wpAnyH_take (i := 1) (v := ?_) rfl (by kernel_rfl) (by kernel_rfl) (by kernel_rfl) (fun _ _ _ h => h) (Or.inl ⟨by rfl, ?hy26⟩) (by assumption) ?ty26
     case hy26 => (intro w hSw; (try dsimp only at hSw); go_simp; all_goals with_reducible rfl)
     simp only [Act.put, List.getElem_toArray, List.getElem_cons_zero, List.getElem_cons_succ, List.setIfInBounds_toArray, List.set_cons_zero, List.set_cons_succ]
     refine wpAnyH_take (i := 2) (v := ?_) rfl (by kernel_rfl) (by kernel_rfl) (by kernel_rfl) (fun _ _ _ h => h) (Or.inl ⟨by rfl, ?hy27⟩) (by assumption) ?ty27
     case hy27 => (intro w hSw; (try dsimp only at hSw); go_simp; all_goals with_reducible rfl)
     simp only [Act.put, List.getElem_toArray, List.getElem_cons_zero, List.getElem_cons_succ, List.setIfInBounds_toArray, List.set_cons_zero, List.set_cons_succ]
     refine wpAnyH_take (i := 3) (v := ?_) rfl (by kernel_rfl) (by kernel_rfl) (by kernel_rfl) (fun _ _ _ h => h) (Or.inl ⟨by rfl, ?hy28⟩) (by assumption) ?ty28
     case hy28 => (intro w hSw; (try dsimp only at hSw); go_simp; all_goals with_reducible rfl)
     simp only [Act.put, List.getElem_toArray, List.getElem_cons_zero, List.getElem_cons_succ, List.setIfInBounds_toArray, List.set_cons_zero, List.set_cons_succ]
     refine wpAnyH_take (i := 4) (v := ?_) rfl (by kernel_rfl) (by kernel_rfl) (by kernel_rfl) (fun _ _ _ h => h) (Or.inl ⟨by rfl, ?hy29⟩) (by assumption) ?ty29
     case hy29 => (intro w hSw; (try dsimp only at hSw); go_simp; all_goals with_reducible rfl)
     simp only [Act.put, List.getElem_toArray, List.getElem_cons_zero, List.getElem_cons_succ, List.setIfInBounds_toArray, List.set_cons_zero, List.set_cons_succ]
     refine wpAnyH_take (i := 5) (v := ?_) rfl (by kernel_rfl) (by kernel_rfl) (by kernel_rfl) (fun _ _ _ h => h) (Or.inl ⟨by rfl, ?hy30⟩) (by assumption) ?ty30
     case hy30 => (intro w hSw; (try dsimp only at hSw); go_simp; all_goals with_reducible rfl)
     simp only [Act.put, List.getElem_toArray, List.getElem_cons_zero, List.getElem_cons_succ, List.setIfInBounds_toArray, List.set_cons_zero, List.set_cons_succ]
     refine wpAnyH_take (i := 6) (v := ?_) rfl (by kernel_rfl) (by kernel_rfl) (by kernel_rfl) (fun _ _ _ h => h) (Or.inl ⟨by rfl, ?hy31⟩) (by assumption) ?ty31
     case hy31 => (intro w hSw; (try dsimp only at hSw); go_simp; all_goals with_reducible rfl)
     simp only [Act.put, List.getElem_toArray, List.getElem_cons_zero, List.getElem_cons_succ, List.setIfInBounds_toArray, List.set_cons_zero, List.set_cons_succ]
     refine wpAnyH_take (i := 7) (v := ?_) rfl (by kernel_rfl) (by kernel_rfl) (by kernel_rfl) (fun _ _ _ h => h) (Or.inl ⟨by rfl, ?hy32⟩) (by assumption) ?ty32
     case hy32 => (intro w hSw; (try dsimp only at hSw); go_simp; all_goals with_reducible rfl)
     simp only [Act.put, List.getElem_toArray, List.getElem_cons_zero, List.getElem_cons_succ, List.setIfInBounds_toArray, List.set_cons_zero, List.set_cons_succ]
     refine wpAnyH_take (i := 8) (v := ?_) rfl (by kernel_rfl) (by kernel_rfl) (by kernel_rfl) (fun _ _ _ h => h) (Or.inl ⟨by rfl, ?hy33⟩) (by assumption) ?ty33
     case hy33 => (intro w hSw; (try dsimp only at hSw); go_simp; all_goals with_reducible rfl)
     simp only [Act.put, List.getElem_toArray, List.getElem_cons_zero, List.getElem_cons_succ, List.setIfInBounds_toArray, List.set_cons_zero, List.set_cons_succ]
     refine wpAnyH_take (i := 9) (v := ?_) rfl (by kernel_rfl) (by kernel_rfl) (by kernel_rfl) (fun _ _ _ h => h) (Or.inl ⟨by rfl, ?hy34⟩) (by assumption) ?ty34
     case hy34 => (intro w hSw; (try dsimp only at hSw); go_simp; all_goals with_reducible rfl)
     simp only [Act.put, List.getElem_toArray, List.getElem_cons_zero, List.getElem_cons_succ, List.setIfInBounds_toArray, List.set_cons_zero, List.set_cons_succ]
     refine wpAnyH_take (i := 10) (v := .bool true) rfl (by kernel_rfl) (by kernel_rfl) (by kernel_rfl) (fun _ _ _ h => h) (Or.inl ⟨by rfl, ?hy35⟩) (by assumption) ?ty35
     case hy35 => (intro w hSw; (try dsimp only at hSw); go_simp; all_goals first | (simp [hxy]; done) | (rw [hxyb]) | with_reducible rfl)
     simp only [Act.put, List.getElem_toArray, List.getElem_cons_zero, List.getElem_cons_succ, List.setIfInBounds_toArray, List.set_cons_zero, List.set_cons_succ]
     refine wpAnyH_done (by kernel_rfl) ?_ _
     have hbel2 := hbel1.drew
     clear hHeld
     have l6 : ((s0 ++ str (wdN x)) ++ ⟨#[58]⟩).size ≤ 69 := by
      rw [ByteArray.size_append]
      have : (⟨#[58]⟩ : ByteArray).size = 1 := rfl
      omega
     go_wp2_with fail
     refine (HN2.out _).mono ?_
     rintro e w3 ⟨rfl, hb3⟩
     have hbel3 := hbel2.trans (hb3.mono hbel2.size)
     clear hb3 hbel2
     go_wp2
     go_roundw
     case rel => exact ⟨0 + 1, by omega, by go_num, by rw [HV.out], hbel3⟩
     case measure => simp [intOf]; omega
   ·have hkg : (k : Int) > 0 := by omega
    have HS : Hid ((str (txY (l.take k)) ++ ⟨#[44]⟩) ++ str (wdY (x, y)) = str (txY (l.take (k + 1)))) := by
     show _ = _
     rw [hst, if_neg hk0]
     rw [show (⟨#[44]⟩ : ByteArray) = str [44] from rfl, str_plusY, str_plusY]
    have HWd : Hid (x = y → wdY (x, y) = wdN x) := fun h => if_pos h
    have HWe : Hid (x ≠ y → (str (wdN x) ++ ⟨#[58]⟩) ++ str (wdN y) = str (wdY (x, y))) := fun h => by
     rw [show (⟨#[58]⟩ : ByteArray) = str [58] from rfl, str_plusY, str_plusY, wdY, if_neg h]
    clear hst
    obtain ⟨s0, hs0⟩ : ∃ s0, s0 = str (txY (l.take k)) := ⟨_, rfl⟩
    rw [← hs0] at HS l0 ⊢
    clear hs0
    have l4 : (s0 ++ ⟨#[44]⟩).size ≤ 65 := by
     rw [ByteArray.size_append]
     have : (⟨#[44]⟩ : ByteArray).size = 1 := rfl
     omega
    go_wp2_with fail
    refine (HN1.out _).mono ?_
    rintro e w1 ⟨rfl, hb1⟩
    have hd0 : w1.cell? ⟨b, off + k * 2, none⟩ = some (.int .i64 x) := (hb1.cell (p := ⟨b, off + k * 2, none⟩) hblr).trans hc0
    have hd1 : w1.cell? ⟨b, off + k * 2 + 1, none⟩ = some (.int .i64 y) := (hb1.cell (p := ⟨b, off + k * 2 + 1, none⟩) hblr).trans hc1
    have hbel1 := hbel.trans (hb1.mono hbel.size)
    have hbl1 : b < w1.heap.size := Nat.lt_of_lt_of_le hblr hb1.size
    have l5 : ((s0 ++ ⟨#[44]⟩) ++ str (wdN x)).size ≤ 68 := by
     rw [ByteArray.size_append]; omega
    clear hc0 hc1 hb1 hbel
    by_cases hxy : x = y
    ·have HV : Hid ((s0 ++ ⟨#[44]⟩) ++ str (wdN x) = str (txY (l.take (k + 1)))) := by
      show _ = _
      rw [← HWd.out hxy]; exact HS.out
     clear HS HWd HWe
     subst hxy
     go_wp2_with fail
     refine wp_region_held_drew (S := fun w' => w'.cell? ⟨b, off + k * 2, none⟩ = some (.int .i64 x) ∧ w'.cell? ⟨b, off + k * 2 + 1, none⟩ = some (.int .i64 x)) (by kernel_rfl) ?hS47 (fun hHeld => ?_)
     case hS47 => exact ⟨hd0, hd1⟩
     refine wpAnyH_take (i := 0) (v := ?_) rfl (by kernel_rfl) (by kernel_rfl) (by kernel_rfl) (fun _ _ _ h => h) (Or.inl ⟨by rfl, ?hy48⟩) (by assumption) ?ty48
     case hy48 => (intro w hSw; (try dsimp only at hSw); go_simp; all_goals with_reducible rfl)
     simp only [Act.put, List.getElem_toArray, List.getElem_cons_zero, List.setIfInBounds_toArray, List.set_cons_zero, List.set_cons_succ]
     refine wpAnyH_take (i := 1) (v := ?_) rfl (by kernel_rfl) (by kernel_rfl) (by kernel_rfl) (fun _ _ _ h => h) (Or.inl ⟨by rfl, ?hy49⟩) (by assumption) ?ty49
     case hy49 => (intro w hSw; (try dsimp only at hSw); go_simp; all_goals with_reducible rfl)
     simp only [Act.put, List.getElem_toArray, List.getElem_cons_zero, List.getElem_cons_succ, List.setIfInBounds_toArray, List.set_cons_zero, List.set_cons_succ]
     refine wpAnyH_take (i := 2) (v := ?_) rfl (by kernel_rfl) (by kernel_rfl) (by kernel_rfl) (fun _ _ _ h => h) (Or.inl ⟨by rfl, ?hy50⟩) (by assumption) ?ty50
     case hy50 => (intro w hSw; (try dsimp only at hSw); go_simp; all_goals with_reducible rfl)
     simp only [Act.put, List.getElem_toArray, List.getElem_cons_zero, List.getElem_cons_succ, List.setIfInBounds_toArray, List.set_cons_zero, List.set_cons_succ]
     refine wpAnyH_take (i := 3) (v := ?_) rfl (by kernel_rfl) (by kernel_rfl) (by kernel_rfl) (fun _ _ _ h => h) (Or.inl ⟨by rfl, ?hy51⟩) (by assumption) ?ty51
     case hy51 => (intro w hSw; (try dsimp only at hSw); go_simp; all_goals with_reducible rfl)
     simp only [Act.put, List.getElem_toArray, List.getElem_cons_zero, List.getElem_cons_succ, List.setIfInBounds_toArray, List.set_cons_zero, List.set_cons_succ]
     refine wpAnyH_take (i := 4) (v := ?_) rfl (by kernel_rfl) (by kernel_rfl) (by kernel_rfl) (fun _ _ _ h => h) (Or.inl ⟨by rfl, ?hy52⟩) (by assumption) ?ty52
     case hy52 => (intro w hSw; (try dsimp only at hSw); go_simp; all_goals with_reducible rfl)
     simp only [Act.put, List.getElem_toArray, List.getElem_cons_zero, List.getElem_cons_succ, List.setIfInBounds_toArray, List.set_cons_zero, List.set_cons_succ]
     refine wpAnyH_take (i := 5) (v := ?_) rfl (by kernel_rfl) (by kernel_rfl) (by kernel_rfl) (fun _ _ _ h => h) (Or.inl ⟨by rfl, ?hy53⟩) (by assumption) ?ty53
     case hy53 => (intro w hSw; (try dsimp only at hSw); go_simp; all_goals with_reducible rfl)
     simp only [Act.put, List.getElem_toArray, List.getElem_cons_zero, List.getElem_cons_succ, List.setIfInBounds_toArray, List.set_cons_zero, List.set_cons_succ]
     refine wpAnyH_take (i := 6) (v := ?_) rfl (by kernel_rfl) (by kernel_rfl) (by kernel_rfl) (fun _ _ _ h => h) (Or.inl ⟨by rfl, ?hy54⟩) (by assumption) ?ty54
     case hy54 => (intro w hSw; (try dsimp only at hSw); go_simp; all_goals with_reducible rfl)
     simp only [Act.put, List.getElem_toArray, List.getElem_cons_zero, List.getElem_cons_succ, List.setIfInBounds_toArray, List.set_cons_zero, List.set_cons_succ]
     refine wpAnyH_take (i := 7) (v := ?_) rfl (by kernel_rfl) (by kernel_rfl) (by kernel_rfl) (fun _ _ _ h => h) (Or.inl ⟨by rfl, ?hy55⟩) (by assumption) ?ty55
     case hy55 => (intro w hSw; (try dsimp only at hSw); go_simp; all_goals with_reducible rfl)
     simp only [Act.put, List.getElem_toArray, List.getElem_cons_zero, List.getElem_cons_succ, List.setIfInBounds_toArray, List.set_cons_zero, List.set_cons_succ]
     refine wpAnyH_take (i := 8) (v := ?_) rfl (by kernel_rfl) (by kernel_rfl) (by kernel_rfl) (fun _ _ _ h => h) (Or.inl ⟨by rfl, ?hy56⟩) (by assumption) ?ty56
     case hy56 => (intro w hSw; (try dsimp only at hSw); go_simp; all_goals with_reducible rfl)
     simp only [Act.put, List.getElem_toArray, List.getElem_cons_zero, List.getElem_cons_succ, List.setIfInBounds_toArray, List.set_cons_zero, List.set_cons_succ]
     refine wpAnyH_take (i := 9) (v := ?_) rfl (by kernel_rfl) (by kernel_rfl) (by kernel_rfl) (fun _ _ _ h => h) (Or.inl ⟨by rfl, ?hy57⟩) (by assumption) ?ty57
     case hy57 => (intro w hSw; (try dsimp only at hSw); go_simp; all_goals with_reducible rfl)
     simp only [Act.put, List.getElem_toArray, List.getElem_cons_zero, List.getElem_cons_succ, List.setIfInBounds_toArray, List.set_cons_zero, List.set_cons_succ]
     refine wpAnyH_take (i := 10) (v := .bool false) rfl (by kernel_rfl) (by kernel_rfl) (by kernel_rfl) (fun _ _ _ h => h) (Or.inl ⟨by rfl, ?hy58⟩) (by assumption) ?ty58
     case hy58 => (intro w hSw; (try dsimp only at hSw); go_simp; all_goals first | (simp; done) | with_reducible rfl)
     simp only [Act.put, List.getElem_toArray, List.getElem_cons_zero, List.getElem_cons_succ, List.setIfInBounds_toArray, List.set_cons_zero, List.set_cons_succ]
     refine wpAnyH_done (by kernel_rfl) ?_ _
     have hbel2 := hbel1.drew
     clear hHeld
     go_wp2
     go_roundw
     case rel => exact ⟨k + 1, by omega, by go_num, by rw [HV.out], hbel2⟩
     case measure => simp [intOf]; omega
    ·have HV : Hid ((((s0 ++ ⟨#[44]⟩) ++ str (wdN x)) ++ ⟨#[58]⟩) ++ str (wdN y) = str (txY (l.take (k + 1)))) := by
      show _ = _
      rw [← HS.out, ← HWe.out hxy]
      simp only [ByteArray.append_assoc]
     clear HS HWd HWe
     have hxyb : (x != y) = true := by simp [hxy]
     go_wp2_with fail
     refine wp_region_held_drew (S := fun w' => w'.cell? ⟨b, off + k * 2, none⟩ = some (.int .i64 x) ∧ w'.cell? ⟨b, off + k * 2 + 1, none⟩ = some (.int .i64 y)) (by kernel_rfl) ?hS59 (fun hHeld => ?_)
     case hS59 => exact ⟨hd0, hd1⟩
     refine wpAnyH_take (i := 0) (v := ?_) rfl (by kernel_rfl) (by kernel_rfl) (by kernel_rfl) (fun _ _ _ h => h) (Or.inl ⟨by rfl, ?hy60⟩) (by assumption) ?ty60
     case hy60 => (intro w hSw; (try dsimp only at hSw); go_simp; all_goals with_reducible rfl)
     simp only [Act.put, List.getElem_toArray, List.getElem_cons_zero, List.setIfInBounds_toArray, List.set_cons_zero, List.set_cons_succ]
     refine wpAnyH_take (i := 1) (v := ?_) rfl (by kernel_rfl) (by kernel_rfl) (by kernel_rfl) (fun _ _ _ h => h) (Or.inl ⟨by rfl, ?hy61⟩) (by assumption) ?ty61
     case hy61 => (intro w hSw; (try dsimp only at hSw); go_simp; all_goals with_reducible rfl)
     simp only [Act.put, List.getElem_toArray, List.getElem_cons_zero, List.getElem_cons_succ, List.setIfInBounds_toArray, List.set_cons_zero, List.set_cons_succ]
     refine wpAnyH_take (i := 2) (v := ?_) rfl (by kernel_rfl) (by kernel_rfl) (by kernel_rfl) (fun _ _ _ h => h) (Or.inl ⟨by rfl, ?hy62⟩) (by assumption) ?ty62
     case hy62 => (intro w hSw; (try dsimp only at hSw); go_simp; all_goals with_reducible rfl)
     simp only [Act.put, List.getElem_toArray, List.getElem_cons_zero, List.getElem_cons_succ, List.setIfInBounds_toArray, List.set_cons_zero, List.set_cons_succ]
     refine wpAnyH_take (i := 3) (v := ?_) rfl (by kernel_rfl) (by kernel_rfl) (by kernel_rfl) (fun _ _ _ h => h) (Or.inl ⟨by rfl, ?hy63⟩) (by assumption) ?ty63
     case hy63 => (intro w hSw; (try dsimp only at hSw); go_simp; all_goals with_reducible rfl)
     simp only [Act.put, List.getElem_toArray, List.getElem_cons_zero, List.getElem_cons_succ, List.setIfInBounds_toArray, List.set_cons_zero, List.set_cons_succ]
     refine wpAnyH_take (i := 4) (v := ?_) rfl (by kernel_rfl) (by kernel_rfl) (by kernel_rfl) (fun _ _ _ h => h) (Or.inl ⟨by rfl, ?hy64⟩) (by assumption) ?ty64
     case hy64 => (intro w hSw; (try dsimp only at hSw); go_simp; all_goals with_reducible rfl)
     simp only [Act.put, List.getElem_toArray, List.getElem_cons_zero, List.getElem_cons_succ, List.setIfInBounds_toArray, List.set_cons_zero, List.set_cons_succ]
     refine wpAnyH_take (i := 5) (v := ?_) rfl (by kernel_rfl) (by kernel_rfl) (by kernel_rfl) (fun _ _ _ h => h) (Or.inl ⟨by rfl, ?hy65⟩) (by assumption) ?ty65
     case hy65 => (intro w hSw; (try dsimp only at hSw); go_simp; all_goals with_reducible rfl)
     simp only [Act.put, List.getElem_toArray, List.getElem_cons_zero, List.getElem_cons_succ, List.setIfInBounds_toArray, List.set_cons_zero, List.set_cons_succ]
     refine wpAnyH_take (i := 6) (v := ?_) rfl (by kernel_rfl) (by kernel_rfl) (by kernel_rfl) (fun _ _ _ h => h) (Or.inl ⟨by rfl, ?hy66⟩) (by assumption) ?ty66
     case hy66 => (intro w hSw; (try dsimp only at hSw); go_simp; all_goals with_reducible rfl)
     simp only [Act.put, List.getElem_toArray, List.getElem_cons_zero, List.getElem_cons_succ, List.setIfInBounds_toArray, List.set_cons_zero, List.set_cons_succ]
     refine wpAnyH_take (i := 7) (v := ?_) rfl (by kernel_rfl) (by kernel_rfl) (by kernel_rfl) (fun _ _ _ h => h) (Or.inl ⟨by rfl, ?hy67⟩) (by assumption) ?ty67
     case hy67 => (intro w hSw; (try dsimp only at hSw); go_simp; all_goals with_reducible rfl)
     simp only [Act.put, List.getElem_toArray, List.getElem_cons_zero, List.getElem_cons_succ, List.setIfInBounds_toArray, List.set_cons_zero, List.set_cons_succ]
     refine wpAnyH_take (i := 8) (v := ?_) rfl (by kernel_rfl) (by kernel_rfl) (by kernel_rfl) (fun _ _ _ h => h) (Or.inl ⟨by rfl, ?hy68⟩) (by assumption) ?ty68
     case hy68 => (intro w hSw; (try dsimp only at hSw); go_simp; all_goals with_reducible rfl)
     simp only [Act.put, List.getElem_toArray, List.getElem_cons_zero, List.getElem_cons_succ, List.setIfInBounds_toArray, List.set_cons_zero, List.set_cons_succ]
     refine wpAnyH_take (i := 9) (v := ?_) rfl (by kernel_rfl) (by kernel_rfl) (by kernel_rfl) (fun _ _ _ h => h) (Or.inl ⟨by rfl, ?hy69⟩) (by assumption) ?ty69
     case hy69 => (intro w hSw; (try dsimp only at hSw); go_simp; all_goals with_reducible rfl)
     simp only [Act.put, List.getElem_toArray, List.getElem_cons_zero, List.getElem_cons_succ, List.setIfInBounds_toArray, List.set_cons_zero, List.set_cons_succ]
     refine wpAnyH_take (i := 10) (v := .bool true) rfl (by kernel_rfl) (by kernel_rfl) (by kernel_rfl) (fun _ _ _ h => h) (Or.inl ⟨by rfl, ?hy70⟩) (by assumption) ?ty70
     case hy70 => (intro w hSw; (try dsimp only at hSw); go_simp; all_goals first | (simp [hxy]; done) | (rw [hxyb]) | with_reducible rfl)
     simp only [Act.put, List.getElem_toArray, List.getElem_cons_zero, List.getElem_cons_succ, List.setIfInBounds_toArray, List.set_cons_zero, List.set_cons_succ]
     refine wpAnyH_done (by kernel_rfl) ?_ _
     have hbel2 := hbel1.drew
     clear hHeld
     have l6 : (((s0 ++ ⟨#[44]⟩) ++ str (wdN x)) ++ ⟨#[58]⟩).size ≤ 69 := by
      rw [ByteArray.size_append]
      have : (⟨#[58]⟩ : ByteArray).size = 1 := rfl
      omega
     go_wp2_with fail
     refine (HN2.out _).mono ?_
     rintro e w3 ⟨rfl, hb3⟩
     have hbel3 := hbel2.trans (hb3.mono hbel2.size)
     clear hb3 hbel2
     go_wp2
     go_roundw
     case rel => exact ⟨k + 1, by omega, by go_num, by rw [HV.out], hbel3⟩
     case measure => simp [intOf]; omega
  ·have hki : ¬ (k : Int) < (n : Int) := by omega
   have hkk : l.take k = l := List.take_of_length_le (by omega)
   rw [hkk]
   go_wp2
   go_ret
   exact ⟨rfl, hbel⟩
def stT (l : List YgP) : Int × List Nat := if rfV l = 0 then (0, txY l) else (rfV l, [])
set_option maxHeartbeats 1600000 in
set_option maxRecDepth 100000 in
theorem setText_any (a : Option Addr) (n cap : Nat) (l : List YgP) (w : World) (hl : l.length = n) (hr : RdY w a l) (hn : n ≤ 1048576) (ht : TabW w) :
  Calls Tryz.prog 74 #[.slice a n cap] w fun e w' => e = .returned (.agg #[.int .i64 (stT l).1, .string (str (stT l).2)]) ∧ Below w.heap.size w w' := by
 have HF := fun w hr => rangesFault_any a n cap l w hl hr hn
 have hb0 : Below w.heap.size w (w.alloc (.cells #[.int .i64 0, .string ⟨#[]⟩] 30)) := (Below.refl _ _).alloc (Nat.le_refl _) _
 have hr0 := hr.below hb0
 have hWs : (w.alloc (.cells #[.int .i64 0, .string ⟨#[]⟩] 30)).heap.size = w.heap.size + 1 := by simp
 by_cases h0 : rfV l = 0
 ·obtain ⟨hA, hm1, hm8⟩ := rfV_A h0
  have H : Hid (stT l = (0, txY l)) := if_pos h0
  go_enter Tryz.func74, Tryz.ntmps74
  go_wp2_with fail
  refine (HF _ hr0).mono ?_
  rintro e w1 ⟨rfl, hb1⟩
  rw [h0]
  have hbl1 : Below (w.heap.size + 1) (w.alloc (.cells #[.int .i64 0, .string ⟨#[]⟩] 30)) w1 := by rw [← hWs]; exact hb1
  have hr1 := hr0.below hb1
  have ht1 := TabW.below (TabW.below ht hb0) hb1
  generalize hW : w.alloc (.cells #[.int .i64 0, .string ⟨#[]⟩] 30) = W at *
  have hz1 : w.heap.size + 1 ≤ w1.heap.size := by have := hbl1.size; omega
  clear hb1
  go_wp2_with fail
  refine (reachesOf_any a n cap l _ hl hr1 hn).mono ?_
  rintro e w2 ⟨v, rfl, hown, hb2⟩
  obtain ⟨av, cv, ev, _, _⟩ := hown.form
  rw [hl] at ev
  subst ev
  have hbl2 := hbl1.trans (hb2.mono hz1)
  have hz2 : w.heap.size + 1 ≤ w2.heap.size := by have := hbl2.size; omega
  have ht2 := TabW.below ht1 hb2
  go_wp2_with fail
  refine (tellSet_any av n cv l _ hl hown.rd.2 (by omega) (by omega) hA ht2).mono ?_
  rintro e w3 ⟨rfl, hb3⟩
  have hbl3 := hbl2.trans (hb3.mono hz2)
  clear hown hb2 hb3 hbl1 hbl2
  have hbE : Below w.heap.size w w3 := hb0.trans (hbl3.mono (by omega))
  have HSZ : (str (txY l)).size ≤ 64 := by rw [str_size]; have := txY_len l; omega
  obtain ⟨sx, hsx⟩ : ∃ sx, sx = str (txY l) := ⟨_, rfl⟩
  rw [← hsx] at HSZ ⊢
  obtain ⟨hcw, hcw1, hfw, hfw1⟩ := res_block hW hbl3
  obtain ⟨hk0, hk1⟩ := res_cells hcw hcw1 (.int .i64 0) (.string sx)
  have HX : Hid ((stT l).1 = 0 ∧ str (stT l).2 = sx) := by
   refine ⟨by rw [H.out], ?_⟩
   rw [H.out, hsx]
  clear hsx
  go_wp2
  refine bodyPost_ret (v := .agg #[.int .i64 0, .string sx]) (by simp [results, Tryz.results74, go_sem, hk0, hk1]) rfl ?_
  refine ⟨?_, (hbE.setCell (Nat.le_refl _) _).setCell (Nat.le_refl _) _⟩
  rw [HX.out.1, HX.out.2]
 ·have H : Hid (stT l = (rfV l, [])) := if_neg h0
  have h3 := rfV_three l
  generalize rfV l = c at *
  have hc : c = 2 ∨ c = 3 := by omega
  have HS : Hid (str [] = ⟨#[]⟩) := rfl
  rcases hc with rfl | rfl
  all_goals
   go_enter Tryz.func74, Tryz.ntmps74
   go_wp2_with fail
   refine (HF _ hr0).mono ?_
   rintro e w1 ⟨rfl, hb1⟩
   have hbl : Below (w.heap.size + 1) (w.alloc (.cells #[.int .i64 0, .string ⟨#[]⟩] 30)) w1 := hb1.mono (by simp)
   have hbel : Below w.heap.size w w1 := hb0.trans (hbl.mono (by omega))
  ·obtain ⟨hcw, hcw1, hfw, hfw1⟩ := res_block rfl hbl
   obtain ⟨hk0, hk1⟩ := res_cells hcw hcw1 (.int .i64 2) (.string ⟨#[]⟩)
   clear hb1 hbl hr hr0 HF
   go_wp2
   refine bodyPost_ret (v := .agg #[.int .i64 2, .string ⟨#[]⟩]) (by simp [results, Tryz.results74, go_sem, hk0, hk1]) rfl ?_
   exact ⟨by rw [H.out, HS.out], (hbel.setCell (Nat.le_refl _) _).setCell (Nat.le_refl _) _⟩
  ·obtain ⟨hcw, hcw1, hfw, hfw1⟩ := res_block rfl hbl
   obtain ⟨hk0, hk1⟩ := res_cells hcw hcw1 (.int .i64 3) (.string ⟨#[]⟩)
   clear hb1 hbl hr hr0 HF
   go_wp2
   refine bodyPost_ret (v := .agg #[.int .i64 3, .string ⟨#[]⟩]) (by simp [results, Tryz.results74, go_sem, hk0, hk1]) rfl ?_
   exact ⟨by rw [H.out, HS.out], (hbel.setCell (Nat.le_refl _) _).setCell (Nat.le_refl _) _⟩
theorem eqTextResult_y (c : Int) (s : ByteArray) (w : World) :
  Calls Tryz.prog 8 #[.agg #[.int .i64 c, .string s], .agg #[.int .i64 c, .string s]] w fun e w' => e = .returned (.bool true) ∧ Below w.heap.size w w' := by
 go_enter Tryz.func8, Tryz.ntmps8
 go_wp2
 go_ret
 exact ⟨rfl, by go_grown⟩
end Go.Proofs.YtjogclofjollnaaGreatDoor
