/- The laws' helpers that write marks into an answer's texts, look for them again, and hold two answers with texts against each other, do what their texts say; at most 1048576 texts. -/
import Derived.Test.YtmidjgpegdodcaaMemS
import Derived.Test.YtmidjgpegdodcaaMrk0
import Derived.Test.YtmidjgpegdodcaaMtj
import Derived.Deep.RegionHeld3
namespace Go.Proofs.Ytmidjgpegdodcaa
open Go.RowKit

/-- Texts as cells. -/
def bcs (l : List ByteArray) : List Value := l.map Value.string
theorem sc_bcs (l : List (List Nat)) : sc l = bcs (l.map str) := by simp [sc, bcs]
theorem bcs_len (l : List ByteArray) : (bcs l).length = l.length := by simp [bcs]
theorem bcs_app (a b : List ByteArray) : bcs (a ++ b) = bcs a ++ bcs b := by simp [bcs]
/-- The marks: n texts from k on, in letters. -/
def mkL (k : Nat) : List Nat := 109 :: dgL k []
theorem mkL_str (k : Nat) : str (mkL k) = mtL k := rfl
def marksS (n k : Nat) : List (List Nat) := (List.range n).map fun i => mkL (k + i)
theorem marksS_len (n k : Nat) : (marksS n k).length = n := by simp [marksS]
theorem marksS_nth {n k i : Nat} (h : i < n) : nthS (marksS n k) i = mkL (k + i) := by
  rw [nthS_get (by rw [marksS_len]; exact h)]; simp [marksS]
def mhalfS (l : List (List Nat)) (k i : Nat) : List (List Nat) := marksS i k ++ l.drop i
theorem mhalfS_zero (l : List (List Nat)) (k : Nat) : mhalfS l k 0 = l := by simp [mhalfS, marksS]
theorem mhalfS_all (l : List (List Nat)) (k : Nat) : mhalfS l k l.length = marksS l.length k := by simp [mhalfS]
theorem mhalfS_len (l : List (List Nat)) (k i : Nat) (h : i ≤ l.length) : (mhalfS l k i).length = l.length := by simp [mhalfS, marksS_len]; omega
theorem mhalfS_set (l : List (List Nat)) (k i : Nat) (h : i < l.length) : (sc (mhalfS l k i)).set i (.string (mtL (k + i))) = sc (mhalfS l k (i + 1)) := by
  have hm : (sc (marksS i k)).length = i := by rw [sc_len, marksS_len]
  have e : marksS (i + 1) k = marksS i k ++ [mkL (k + i)] := by simp [marksS, List.range_succ]
  unfold mhalfS
  rw [e, sc_app, List.set_append, hm, if_neg (Nat.lt_irrefl i), Nat.sub_self, drop_consT l i h]
  simp [sc, mkL_str]

theorem ownRow_belowS {w w' : World} {B C e size n : Nat} {v : Value} {xs : List Value} (h : w.ownsRow B e size v n xs) (hb : Below C w w') (hC : w.heap.size ≤ C) : w'.ownsRow B e size v n xs := by
  refine ⟨h.1, ?_⟩
  rcases h.2 with h' | ⟨g, cap, cur, h1, h2, h3, h4⟩
  · exact .inl h'
  · refine .inr ⟨g, cap, cur, h1, h2, ?_, h4⟩
    have hg : g < w.heap.size := by
      rcases Nat.lt_or_ge g w.heap.size with hlt | hge
      · exact hlt
      · simp [Array.getElem?_eq_none hge] at h3
    rw [hb.block g (by omega)]; exact h3
theorem grow_belowS {w w1 w2 : World} {row : Option Nat} (h : w.grownBy w1 row) (k : Below w1.heap.size w1 w2) : w.grownBy w2 row :=
  ⟨k.os.trans h.os, k.tape.trans h.tape, k.output.trans h.output, Nat.le_trans h.size k.size, fun g hg hne => (k.block g (Nat.lt_of_lt_of_le hg h.size)).trans (h.block g hg hne)⟩
theorem grow_thenS {w w1 w2 : World} {row : Option Nat} (h : w.grownBy w1 row) (k : w1.grownBy w2 row) : w.grownBy w2 row :=
  ⟨k.os.trans h.os, k.tape.trans h.tape, k.output.trans h.output, Nat.le_trans h.size k.size, fun g hg hne => (k.block g (Nat.lt_of_lt_of_le hg h.size) hne).trans (h.block g hg hne)⟩

set_option maxHeartbeats 1600000 in
set_option maxRecDepth 100000 in
theorem eqStringS_same (a c : Option Addr) (n cap cap' : Nat) (l : List (List Nat)) (w : World) (hl : l.length = n) (hr : RdS w a l) (hs : RdS w c l) (hn : n ≤ 1048576) :
    Calls Try.prog 11 #[.slice a n cap, .slice c n cap'] w fun e w' => e = .returned (.bool true) ∧ Below w.heap.size w w' := by
  go_enter Try.func11, Try.ntmps11
  go_wp2
  go_loopw [5] (fun i wr => ∃ k : Nat, k ≤ n ∧ i = .int .i64 k ∧ Below w.heap.size w wr) (fun i _ => n - (intOf i).toNat)
  case atStart => exact ⟨0, Nat.zero_le _, rfl, Below.refl _ _⟩
  case round =>
    obtain ⟨k, hk, rfl, hbel⟩ := hrel
    by_cases hkn : k < n
    · obtain ⟨b, off, rfl, hblt, hcell⟩ := hr.at_ (by omega)
      obtain ⟨d, off', rfl, hdlt, hdell⟩ := hs.at_ (by omega)
      have hc : wr.cell? ⟨b, off + k, none⟩ = some (.string (str (nthS l k))) := (hbel.cell (p := ⟨b, off + k, none⟩) hblt).trans (hcell k (by omega))
      have hd : wr.cell? ⟨d, off' + k, none⟩ = some (.string (str (nthS l k))) := (hbel.cell (p := ⟨d, off' + k, none⟩) hdlt).trans (hdell k (by omega))
      have hki : (k : Int) < (n : Int) := by omega
      clear hcell hdell hr hs
      generalize str (nthS l k) = s at *
      go_wp2
      go_quiet (fail)
      go_wp2
      go_roundw
      case rel => exact ⟨k + 1, by omega, by go_num, below_drewN hbel _⟩
      case measure => simp [intOf]; omega
    · go_wp2
      go_ret
      exact ⟨rfl, hbel⟩

set_option maxHeartbeats 1600000 in
set_option maxRecDepth 100000 in
theorem markStringS_any (a : Option Addr) (n cap k B : Nat) (l : List (List Nat)) (w : World) (hown : OwnS w B (.slice a n cap) l) (hn : n ≤ 1048576) (h1 : 1 ≤ k) (hk : k ≤ 1048576) :
    Calls Try.prog 12 #[.slice a n cap, .int .i64 (k : Int)] w fun e w' =>
      e = .returned (.int .i64 ((k + n : Nat) : Int)) ∧ OwnS w' B (.slice a n cap) (marksS n k) ∧ w.grownBy w' (Value.slice a n cap).ownBlock := by
  obtain ⟨hl, hr⟩ := hown.rd
  go_enter Try.func12, Try.ntmps12
  go_wp2
  go_loopw [1, 5] (fun q i wr => ∃ j : Nat, j ≤ n ∧ i = .int .i64 j ∧ q = .int .i64 ((k + j : Nat) : Int) ∧ OwnS wr B (.slice a n cap) (mhalfS l k j) ∧ w.grownBy wr (Value.slice a n cap).ownBlock)
    (fun _ i _ => n - (intOf i).toNat)
  case atStart => exact ⟨0, Nat.zero_le _, rfl, rfl, by rw [mhalfS_zero]; exact hown, World.grownBy.refl _ _⟩
  case round =>
    obtain ⟨j, hj, rfl, rfl, hown', hgr⟩ := hrel
    clear hown
    by_cases hjn : j < n
    · have hki : (j : Int) < (n : Int) := by omega
      obtain ⟨g, hg⟩ : ∃ g, a = some ⟨g, 0, none⟩ := by
        rcases hown'.2 with ⟨h0, h1⟩ | ⟨g', cap', cur, h', _⟩
        · rw [mhalfS_len _ _ _ (by omega)] at h1; omega
        · simp at h'; exact ⟨g', h'.1⟩
      subst hg
      have hlen : (mhalfS l k j).length = n := by rw [mhalfS_len _ _ _ (by omega)]; exact hl
      have o0 : wr.ownsRow B 9 1 (.slice (some ⟨g, 0, none⟩) n cap) n (sc (mhalfS l k j)) := by have := hown'; unfold OwnS at this; rw [hlen] at this; exact this
      have hfc := sc_get (l := mhalfS l k j) (i := j) (by omega)
      have HFS : Hid (_) := mhalfS_set l k j (by omega)
      have hgr' : w.grownBy wr (some g) := hgr
      have e0 : ((k + j : Nat) : Int) = (k : Int) + (j : Int) := by omega
      have HT1 : Hid (∀ w, Calls Try.prog 16 #[.int .i64 ((k + j : Nat) : Int)] w fun e w' => e = .returned (.string (mtL (k + j))) ∧ Below w.heap.size w w') := fun w => markText_l (k + j) w (by omega) (by omega)
      have hb0 : ((k + j : Nat) : Int) ≤ 4194302 := by omega
      have hb1 : 0 ≤ ((k + j : Nat) : Int) := by omega
      have HK : Hid (((k + j : Nat) : Int) + 1 = ((k + (j + 1) : Nat) : Int)) := by
        show _ = _
        omega
      clear hown' hgr hr e0
      generalize mtL (k + j) = t0 at *
      generalize hK0 : ((k + j : Nat) : Int) = kk at *
      clear hK0
      go_wp2_with fail
      refine (HT1.out _).mono ?_
      rintro e w1 ⟨rfl, hx1⟩
      have o1 := ownRow_belowS o0 hx1 (Nat.le_refl _)
      have g1 := grow_belowS hgr' hx1
      have c0 : w1.cell? ⟨g, j, none⟩ = some (.string (str (nthS (mhalfS l k j) j))) := by rw [o1.cellAt j (by omega)]; exact hfc
      have z0 := o1.frozenAt j
      obtain ⟨o2, g2⟩ := o1.stored j (.string t0)
      have G4 : Hid (_) := grow_thenS g1 g2
      have O4 : Hid ((w1.setCell ⟨g, j, none⟩ (.string t0)).ownsRow B 9 1 (.slice (some ⟨g, 0, none⟩) n cap) n (sc (mhalfS l k (j + 1)))) := by
        rw [← HFS.out]; exact o2
      clear o0 o1 o2 hx1 hgr' g1 g2 HT1 HFS hfc
      generalize str (nthS (mhalfS l k j) j) = y0 at *
      go_wp2
      go_roundw
      case rel => exact ⟨j + 1, by omega, by go_num, by rw [HK.out], by unfold OwnS; rw [mhalfS_len _ _ _ (by omega), hl]; exact O4.out, G4.out⟩
      case measure => simp [intOf]; omega
    · have hjj : j = n := by omega
      subst hjj
      rw [← hl, mhalfS_all, hl] at hown'
      go_wp2
      go_ret
      exact ⟨rfl, hown', hgr⟩
set_option maxHeartbeats 1600000 in
set_option maxRecDepth 100000 in
theorem heldStringS_any (a : Option Addr) (n cap k : Nat) (w : World) (hr : RdS w a (marksS n k)) (hn : n ≤ 1048576) (h1 : 1 ≤ k) (hk : k ≤ 1048576) :
    Calls Try.prog 13 #[.slice a n cap, .int .i64 (k : Int)] w fun e w' => e = .returned (.int .i64 ((k + n : Nat) : Int)) ∧ Below w.heap.size w w' := by
  go_enter Try.func13, Try.ntmps13
  go_wp2
  go_loopw [1, 5] (fun q i wr => ∃ j : Nat, j ≤ n ∧ i = .int .i64 j ∧ q = .int .i64 ((k + j : Nat) : Int) ∧ Below w.heap.size w wr) (fun _ i _ => n - (intOf i).toNat)
  case atStart => exact ⟨0, Nat.zero_le _, rfl, rfl, Below.refl _ _⟩
  case round =>
    obtain ⟨j, hj, rfl, rfl, hbel⟩ := hrel
    by_cases hjn : j < n
    · obtain ⟨b, off, rfl, hblt, hcell⟩ := hr.at_ (by rw [marksS_len]; omega)
      have hc := hcell j (by rw [marksS_len]; exact hjn)
      rw [marksS_nth hjn, mkL_str] at hc
      have hc0 : wr.cell? ⟨b, off + j, none⟩ = some (.string (mtL (k + j))) := (hbel.cell (p := ⟨b, off + j, none⟩) hblt).trans hc
      have hji : (j : Int) < (n : Int) := by omega
      have HT1 : Hid (∀ w, Calls Try.prog 16 #[.int .i64 ((k + j : Nat) : Int)] w fun e w' => e = .returned (.string (mtL (k + j))) ∧ Below w.heap.size w w') := fun w => markText_l (k + j) w (by omega) (by omega)
      have hb0 : ((k + j : Nat) : Int) ≤ 4194302 := by omega
      have hb1 : 0 ≤ ((k + j : Nat) : Int) := by omega
      have HK : Hid (((k + j : Nat) : Int) + 1 = ((k + (j + 1) : Nat) : Int)) := by
        show _ = _
        omega
      have lb : b < wr.heap.size := Nat.lt_of_lt_of_le hblt hbel.size
      clear hcell hc hr
      generalize mtL (k + j) = t0 at *
      generalize hK0 : ((k + j : Nat) : Int) = kk at *
      clear hK0
      go_wp2_with fail
      refine wp_region_held_drew (S := fun w' => w'.cell? ⟨b, off + j, none⟩ = some (.string t0)) (by kernel_rfl) ?hS1 (fun hHeld => ?_)
      case hS1 => exact hc0
      refine wpAnyH_take (i := 0) (v := ?_) rfl (by kernel_rfl) (by kernel_rfl) (by kernel_rfl) (fun _ _ _ h => h) (Or.inl ⟨by rfl, ?hy2⟩) (by assumption) ?ty2
      case hy2 => (intro w5 hSw; (try dsimp only at hSw); (try obtain ⟨p0, p1, p2, p3, p4⟩ := hSw); go_simp; all_goals with_reducible rfl)
      simp only [Act.put, List.getElem_toArray, List.getElem_cons_zero, List.setIfInBounds_toArray, List.set_cons_zero, List.set_cons_succ]
      refine wpAnyH_take (i := 1) (v := ?_) rfl (by kernel_rfl) (by kernel_rfl) (by kernel_rfl) (fun _ _ _ h => h) (Or.inl ⟨by rfl, ?hy3⟩) (by assumption) ?ty3
      case hy3 => (intro w5 hSw; (try dsimp only at hSw); (try obtain ⟨p0, p1, p2, p3, p4⟩ := hSw); go_simp; all_goals with_reducible rfl)
      simp only [Act.put, List.getElem_toArray, List.getElem_cons_zero, List.getElem_cons_succ, List.setIfInBounds_toArray, List.set_cons_zero, List.set_cons_succ]
      refine wpAnyH_take (i := 2) (v := ?_) rfl (by kernel_rfl) (by kernel_rfl) (by kernel_rfl) (fun _ _ _ h => h) (Or.inl ⟨by rfl, ?hy4⟩) (by assumption) ?ty4
      case hy4 => (intro w5 hSw; (try dsimp only at hSw); (try obtain ⟨p0, p1, p2, p3, p4⟩ := hSw); go_simp; all_goals with_reducible rfl)
      simp only [Act.put, List.getElem_toArray, List.getElem_cons_zero, List.getElem_cons_succ, List.setIfInBounds_toArray, List.set_cons_zero, List.set_cons_succ]
      refine wpAnyH_take (i := 3) (v := ?_) rfl (by kernel_rfl) (by kernel_rfl) (by kernel_rfl) (fun _ _ _ h => h) (Or.inl ⟨by rfl, ?hy5⟩) (by assumption) ?ty5
      case hy5 => (intro w5 hSw; (try dsimp only at hSw); (try obtain ⟨p0, p1, p2, p3, p4⟩ := hSw); go_simp; all_goals with_reducible rfl)
      simp only [Act.put, List.getElem_toArray, List.getElem_cons_zero, List.getElem_cons_succ, List.setIfInBounds_toArray, List.set_cons_zero, List.set_cons_succ]
      refine wpAnyH_take (i := 4) (v := ?_) rfl (by kernel_rfl) (by kernel_rfl) (by kernel_rfl) (fun _ _ _ h => h) (Or.inl ⟨by rfl, ?hy6⟩) (by assumption) ?ty6
      case hy6 => (intro w5 hSw; (try dsimp only at hSw); (try obtain ⟨p0, p1, p2, p3, p4⟩ := hSw); go_simp; all_goals with_reducible rfl)
      simp only [Act.put, List.getElem_toArray, List.getElem_cons_zero, List.getElem_cons_succ, List.setIfInBounds_toArray, List.set_cons_zero, List.set_cons_succ]
      refine wpAnyH_ready (rs := [5]) (by kernel_rfl) (by simp) ?_
      refine AllReadyH.cons rfl (fun K hK => ?_) AllReadyH.nil
      go_simp
      refine (HT1.out _).mono ?_
      rintro e w1 ⟨rfl, hbx⟩
      have HWw1 : Hid (Below wr.heap.size wr w1) := (Below.refl _ _).drew.trans hbx
      have hsS : w1.cell? ⟨b, off + j, none⟩ = some (.string t0) := (HWw1.out.cell (p := ⟨b, off + j, none⟩) lb).trans hc0
      refine hK.out _ _ hsS (fun hHeld => ?_)
      clear hK K
      refine wpAnyH_take (i := 6) (v := .bool false) rfl (by kernel_rfl) (by kernel_rfl) (by kernel_rfl) (fun _ _ _ h => h) (Or.inl ⟨by rfl, ?hy7⟩) (by assumption) ?ty7
      case hy7 => (intro w5 hSw; (try dsimp only at hSw); (try obtain ⟨p0, p1, p2, p3, p4⟩ := hSw); go_simp; first | (simp; done) | (all_goals with_reducible rfl))
      simp only [Act.put, List.getElem_toArray, List.getElem_cons_zero, List.getElem_cons_succ, List.setIfInBounds_toArray, List.set_cons_zero, List.set_cons_succ]
      refine wpAnyH_done (by kernel_rfl) ?_ _
      clear hHeld hbx hsS HT1
      have HB1 : Hid (Below w.heap.size w w1) := hbel.trans (HWw1.out.mono hbel.size)
      clear HWw1 hc0 lb hbel
      go_wp2
      go_roundw
      case rel => exact ⟨j + 1, by omega, by go_num, by rw [HK.out], HB1.out⟩
      case measure => simp [intOf]; omega
    · have hjj : j = n := by omega
      subst hjj
      have hji : ¬ (j : Int) < (j : Int) := by omega
      go_wp2
      go_ret
      exact ⟨rfl, hbel⟩

set_option maxHeartbeats 800000 in
set_option maxRecDepth 100000 in
theorem markWordsResult_any (c : Int) (a : Option Addr) (n cap B : Nat) (l : List (List Nat)) (w : World) (hown : OwnS w B (.slice a n cap) l) (hn : n ≤ 1048576) :
    Calls Try.prog 7 #[.agg #[.int .i64 c, .slice a n cap], .int .i64 1] w fun e w' =>
      e = .returned (.int .i64 ((1 + n : Nat) : Int)) ∧ OwnS w' B (.slice a n cap) (marksS n 1) ∧ w.grownBy w' (Value.slice a n cap).ownBlock := by
  go_enter Try.func7, Try.ntmps7
  go_wp2_with fail
  refine (markStringS_any a n cap 1 B l _ (by exact hown.alloc _) hn (by omega) (by omega)).mono ?_
  rintro e w1 ⟨rfl, h1, h2⟩
  have h3 := grown_alloc h2
  clear h2
  go_wp2
  go_ret
  exact ⟨rfl, h1, h3⟩

set_option maxHeartbeats 800000 in
set_option maxRecDepth 100000 in
theorem heldWordsResult_any (c : Int) (a : Option Addr) (n cap : Nat) (w : World) (hr : RdS w a (marksS n 1)) (hn : n ≤ 1048576) :
    Calls Try.prog 8 #[.agg #[.int .i64 c, .slice a n cap], .int .i64 1] w fun e w' =>
      e = .returned (.int .i64 ((1 + n : Nat) : Int)) ∧ Below w.heap.size w w' := by
  have hpos : ¬ (((1 + n : Nat) : Int)) < 0 := by omega
  have hb : Below w.heap.size w (w.alloc (.cells #[.int .i64 c, .slice a n cap] 24)) := (Below.refl _ _).alloc (Nat.le_refl _) _
  go_enter Try.func8, Try.ntmps8
  go_wp2_with fail
  refine (heldStringS_any a n cap 1 _ (by exact hr.below hb) hn (by omega) (by omega)).mono ?_
  rintro e w1 ⟨rfl, hb1⟩
  go_wp2
  go_ret
  exact ⟨rfl, hb.trans (hb1.mono (by simp))⟩

set_option maxHeartbeats 800000 in
set_option maxRecDepth 100000 in
theorem eqWordsResult_same (c : Int) (a b : Option Addr) (n cap cap' : Nat) (l : List (List Nat)) (w : World) (hl : l.length = n) (hr : RdS w a l) (hs : RdS w b l) (hn : n ≤ 1048576) :
    Calls Try.prog 6 #[.agg #[.int .i64 c, .slice a n cap], .agg #[.int .i64 c, .slice b n cap']] w fun e w' => e = .returned (.bool true) ∧ Below w.heap.size w w' := by
  go_enter Try.func6, Try.ntmps6
  go_wp2_with fail
  have hb : Below w.heap.size w ((w.alloc (.cells #[.int .i64 c, .slice a n cap] 24)).alloc (.cells #[.int .i64 c, .slice b n cap'] 24)) := ((Below.refl _ _).alloc (Nat.le_refl _) _).alloc (by simp) _
  refine (eqStringS_same a b n cap cap' l _ hl (by exact hr.below hb) (by exact hs.below hb) hn).mono ?_
  rintro e w1 ⟨rfl, hb1⟩
  go_wp2
  go_ret
  exact ⟨rfl, hb.trans (hb1.mono (by simp; omega))⟩

end Go.Proofs.Ytmidjgpegdodcaa
