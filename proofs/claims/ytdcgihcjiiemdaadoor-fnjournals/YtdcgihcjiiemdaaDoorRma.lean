/- The reader of an op's bytes: the model's; no conditions beyond those that each fact names. -/
import Derived.Test.YtdcgihcjiiemdaaDoorRjaToOsw
import Derived.Test.YtdcgihcjiiemdaaDoorDrw2ToAppI
import Derived.OneCell
import Derived.Deep.RegionHeld3
namespace Go.Proofs.YtdcgihcjiiemdaaDoor
open Go.RowKit
set_option linter.unusedVariables false
def UpH (R : Nat) (w w' : World) : Prop := Below R w w' ∧ ∀ g, g < w.heap.size → g ≠ R → w'.heap[g]? = w.heap[g]?
theorem UpH.refl (R : Nat) (w : World) : UpH R w w := ⟨Below.refl _ _, fun _ _ _ => rfl⟩
theorem UpH.trans {R : Nat} {w w' w'' : World} (h : UpH R w w') (h' : UpH R w' w'') : UpH R w w'' := ⟨h.1.trans h'.1, fun g hg hn => (h'.2 g (Nat.lt_of_lt_of_le hg h.1.size) hn).trans (h.2 g hg hn)⟩
theorem UpH.set {R : Nat} {w w' : World} (h : UpH R w w') (i : Nat) (v : Value) : UpH R w (w'.setCell ⟨R, i, none⟩ v) := h.trans ⟨(Below.refl R w').setCell (p := ⟨R, i, none⟩) (Nat.le_refl _) v, fun g _ hn => Below.heap_setCell _ _ _ _ hn⟩
theorem UpH.drew {R : Nat} {w w' : World} (h : UpH R w w') : UpH R w w'.drew := ⟨h.1.drew, h.2⟩
theorem UpH.grow {R C : Nat} {w w' w'' : World} (h : UpH R w w') (hb : Below C w' w'') (hC : w.heap.size ≤ C) (hR : R < w.heap.size) : UpH R w w'' := ⟨h.1.trans (hb.mono (by omega)), fun g hg hn => (hb.block g (by omega)).trans (h.2 g hg hn)⟩
theorem UpH.cell {R : Nat} {w w' : World} (h : UpH R w w') {p : Addr} (h1 : p.block < w.heap.size) (h2 : p.block ≠ R) : w'.cell? p = w.cell? p := by
 have := h.2 p.block h1 h2
 simp only [World.cell?, this]
theorem UpH.frozen {R : Nat} {w w' : World} (h : UpH R w w') {p : Addr} (h1 : p.block < w.heap.size) (h2 : p.block ≠ R) : w'.frozen? p = w.frozen? p := by
 have := h.2 p.block h1 h2
 simp only [World.frozen?, this]
theorem UpH.ow {R B e n : Nat} {w w' : World} {v : Value} {l : List Value} (h : UpH R w w') (ho : w.ownsRow B e 1 v n l) (hR : R < B) : w'.ownsRow B e 1 v n l := by
 refine ⟨ho.1, ?_⟩
 rcases ho.2 with h' | ⟨g, cap, cur, h1, h2, h3, h4⟩
 ·exact .inl h'
 ·refine .inr ⟨g, cap, cur, h1, h2, ?_, h4⟩
  have hg : g < w.heap.size := by
   rcases Nat.lt_or_ge g w.heap.size with hlt | hge
   ·exact hlt
   ·simp [Array.getElem?_eq_none hge] at h3
  rw [h.2 g hg (by omega)]; exact h3
theorem UpH.qo {R g : Nat} {w w' : World} {q : Oc} (h : UpH R w w') (hg : g ≠ R) (hq : Qo w g q) : Qo w' g q := by
 have hl := hq.lt
 obtain ⟨h0, h1, h2, h3, h4, h5, h6, h7⟩ := hq
 exact ⟨(h.cell (p := ⟨g, 0, none⟩) hl hg).trans h0, (h.cell (p := ⟨g, 1, none⟩) hl hg).trans h1, (h.cell (p := ⟨g, 2, none⟩) hl hg).trans h2, (h.cell (p := ⟨g, 3, none⟩) hl hg).trans h3, (h.cell (p := ⟨g, 4, none⟩) hl hg).trans h4, (h.cell (p := ⟨g, 5, none⟩) hl hg).trans h5, (h.cell (p := ⟨g, 6, none⟩) hl hg).trans h6, (h.cell (p := ⟨g, 7, none⟩) hl hg).trans h7⟩
theorem UpH.fo {R g : Nat} {w w' : World} (h : UpH R w w') (hg : g ≠ R) (hl : g < w.heap.size) (hq : Fo w g) : Fo w' g := by
 obtain ⟨h0, h1, h2, h3, h4, h5, h6, h7⟩ := hq
 exact ⟨(h.frozen (p := ⟨g, 0, none⟩) hl hg).trans h0, (h.frozen (p := ⟨g, 1, none⟩) hl hg).trans h1, (h.frozen (p := ⟨g, 2, none⟩) hl hg).trans h2, (h.frozen (p := ⟨g, 3, none⟩) hl hg).trans h3, (h.frozen (p := ⟨g, 4, none⟩) hl hg).trans h4, (h.frozen (p := ⟨g, 5, none⟩) hl hg).trans h5, (h.frozen (p := ⟨g, 6, none⟩) hl hg).trans h6, (h.frozen (p := ⟨g, 7, none⟩) hl hg).trans h7⟩
def RmS (D R : Nat) (w : World) (d : List Nat) (s : RsM) : Prop := ∃ (p : Nat) (a : Option Addr) (cap : Nat), (w.cell? ⟨R, 0, none⟩ = some (.slice a d.length cap) ∧ w.cell? ⟨R, 1, none⟩ = some (.int .i64 (p : Int)) ∧ w.cell? ⟨R, 2, none⟩ = some (.bool s.2)) ∧ p ≤ d.length ∧ RdD D w a d ∧ (w.frozen? ⟨R, 1, none⟩ = false ∧ w.frozen? ⟨R, 2, none⟩ = false) ∧ d.drop p = s.1
theorem RmS.keep {D R : Nat} {w w' : World} {d : List Nat} {s : RsM} (h : RmS D R w d s) (hb : Below D w w') (hR : R < w.heap.size) (hB : w'.heap[R]? = w.heap[R]?) : RmS D R w' d s := by
 obtain ⟨p, a, cap, ⟨h1, h2, h3⟩, h4, h5, ⟨h6, h7⟩, h8⟩ := h
 have e : ∀ i, w'.cell? ⟨R, i, none⟩ = w.cell? ⟨R, i, none⟩ := fun i => by simp only [World.cell?, hB]
 have f : ∀ i, w'.frozen? ⟨R, i, none⟩ = w.frozen? ⟨R, i, none⟩ := fun i => by simp only [World.frozen?, hB]
 exact ⟨p, a, cap, ⟨(e 0).trans h1, (e 1).trans h2, (e 2).trans h3⟩, h4, h5.keep hb, ⟨(f 1).trans h6, (f 2).trans h7⟩, h8⟩
theorem RmS.lt {D R : Nat} {w : World} {d : List Nat} {s : RsM} (h : RmS D R w d s) : R < w.heap.size := by
 obtain ⟨p, a, cap, ⟨h1, -⟩, -⟩ := h
 exact World.block_lt_of_cell? w ⟨R, 0, none⟩ h1
def BmE (D R : Nat) (d : List Nat) (k : Nat) (s : RsM) (w : World) (e : Ending) (w' : World) : Prop := e = .returned (.int .i64 (k : Int)) ∧ UpH R w w' ∧ RmS D R w' d s
set_option maxHeartbeats 1600000 in
set_option maxRecDepth 100000 in
theorem l9Byte_any (D R : Nat) (d : List Nat) (s : RsM) (w : World) (h : RmS D R w d s) (hD : D ≤ R) (hB : IsB d) (hd : d.length ≤ 1048576) :
  Calls Tryd.prog 51 #[.pointer (some ⟨R, 0, none⟩)] w fun e w' => BmE D R d (bM s).1 (bM s).2 w e w' := by
 have hRl := h.lt
 obtain ⟨p, a, cap, ⟨hc0, hc1, hc2⟩, hp, hrd, ⟨hf1, hf2⟩, hs⟩ := h
 obtain ⟨n, hn⟩ : ∃ n, d.length = n := ⟨_, rfl⟩
 have HN : Hid (d.length = n) := hn
 obtain ⟨s1, s2⟩ := s
 dsimp only at hs hc2
 have HFIN : Hid (∀ (w' : World) (p' : Nat) (f' : Bool) (s' : List Nat), UpH R w w' → w'.cell? ⟨R, 0, none⟩ = some (.slice a n cap) → w'.cell? ⟨R, 1, none⟩ = some (.int .i64 (p' : Int)) → w'.cell? ⟨R, 2, none⟩ = some (.bool f') → p' ≤ n → w'.frozen? ⟨R, 1, none⟩ = false → w'.frozen? ⟨R, 2, none⟩ = false → d.drop p' = s' → RmS D R w' d (s', f')) := fun w' p' f' s' hu h0 h1 h2 h3 h4 h5 h6 => ⟨p', a, cap, ⟨by rw [hn]; exact h0, h1, h2⟩, by rw [hn]; exact h3, hrd.keep (hu.1.mono hD), ⟨h4, h5⟩, h6⟩
 rw [hn] at hc0 hp hd
 clear hn
 by_cases hpn : p < n
 ·have hpd : p < d.length := by rw [HN.out]; exact hpn
  have HV : Hid (bM (s1, s2) = (nth d p, d.drop (p + 1), s2)) := by
   show _ = _
   rw [← hs, List.drop_eq_getElem_cons hpd, bM_cons, nth_get hpd]
  have hy := nth_lt hB p
  obtain ⟨b, off, ea, -, hblt, hcc⟩ : ∃ b off, a = some ⟨b, off, none⟩ ∧ b < D ∧ b < w.heap.size ∧ ∀ i, i < d.length → w.cell? ⟨b, off + i, none⟩ = some (.int .u8 (nth d i : Int)) := by
   rcases hrd with h' | ⟨b, off, e, h1, h2, h3⟩
   ·rw [h'] at hpd; simp at hpd
   ·exact ⟨b, off, e, h1, h2, h3⟩
  subst ea
  have hby := hcc p hpd
  have hbR : b ≠ R := by
   rcases hrd with h' | ⟨b', off', e, h1, -⟩
   ·rw [h'] at hpd; simp at hpd
   ·cases e; omega
  generalize nth d p = y at *
  have hu1 : UpH R w w.drew := (UpH.refl _ _).drew
  have hu2 : UpH R w (w.setCell ⟨R, 1, none⟩ (.int .i64 ((p : Int) + 1))) := (UpH.refl R w).set 1 _
  have k0 : (w.setCell ⟨R, 1, none⟩ (.int .i64 ((p : Int) + 1))).cell? ⟨R, 0, none⟩ = some (.slice (some ⟨b, off, none⟩) n cap) := (World.cell?_setCell_other _ _ _ _ (by simp)).trans hc0
  have k1 : (w.setCell ⟨R, 1, none⟩ (.int .i64 ((p : Int) + 1))).cell? ⟨R, 1, none⟩ = some (.int .i64 ((p : Int) + 1)) := World.cell?_setCell_same _ _ _ hc1
  have k3 : (w.setCell ⟨R, 1, none⟩ (.int .i64 ((p : Int) + 1))).cell? ⟨R, 2, none⟩ = some (.bool s2) := (World.cell?_setCell_other _ _ _ _ (by simp)).trans hc2
  have k2 : (w.setCell ⟨R, 1, none⟩ (.int .i64 ((p : Int) + 1))).cell? ⟨b, off + p, none⟩ = some (.int .u8 (y : Int)) := (World.cell?_setCell_other _ _ _ _ (fun e => by injection e; omega)).trans hby
  have k4 : (w.setCell ⟨R, 1, none⟩ (.int .i64 ((p : Int) + 1))).frozen? ⟨R, 1, none⟩ = false := (World.frozen?_setCell _ _ _ _).trans hf1
  have k5 : (w.setCell ⟨R, 1, none⟩ (.int .i64 ((p : Int) + 1))).frozen? ⟨R, 2, none⟩ = false := (World.frozen?_setCell _ _ _ _).trans hf2
  have HE : Hid (RmS D R (w.setCell ⟨R, 1, none⟩ (.int .i64 ((p : Int) + 1))).drew.drew d (d.drop (p + 1), s2) ∧ UpH R w (w.setCell ⟨R, 1, none⟩ (.int .i64 ((p : Int) + 1))).drew.drew) := ⟨HFIN.out _ (p + 1) s2 _ hu2.drew.drew k0 k1 k3 (by omega) k4 k5 rfl, hu2.drew.drew⟩
  have HK : Hid (_) := And.intro k0 (And.intro k1 k2)
  have hwp : IntKind.i64.wrap (p : Int) = (p : Int) := by rw [IntKind.wrap_i64]; omega
  have hwy : IntKind.i64.wrap (y : Int) = (y : Int) := by rw [IntKind.wrap_i64]; omega
  have hf1d : w.drew.frozen? ⟨R, 1, none⟩ = false := hf1
  have hc1d : w.drew.cell? ⟨R, 1, none⟩ = some (.int .i64 (p : Int)) := hc1
  clear HFIN hrd hcc hu1 hu2 k0 k1 k2 k3 k4 k5 hs
  go_enter Tryd.func51, Tryd.ntmps51
  go_wp2_with fail
  refine wp_region_held_drew (S := fun w' => w'.cell? ⟨R, 0, none⟩ = some (.slice (some ⟨b, off, none⟩) n cap) ∧ w'.cell? ⟨R, 1, none⟩ = some (.int .i64 (p : Int))) (by kernel_rfl) ?hS12 (fun hHeld => ?_)
  case hS12 => exact ⟨hc0, hc1⟩
  refine wpAnyH_take (i := 0) (v := ?_) rfl (by kernel_rfl) (by kernel_rfl) (by kernel_rfl) (fun _ _ _ h => h) (Or.inl ⟨by rfl, ?hy13⟩) (by assumption) ?ty13
  case hy13 => (intro w5 hSw; (try dsimp only at hSw); obtain ⟨e0, e1⟩ := hSw; go_simp; all_goals with_reducible rfl)
  simp only [Act.put, List.getElem_toArray, List.getElem_cons_zero, List.setIfInBounds_toArray, List.set_cons_zero, List.set_cons_succ]
  refine wpAnyH_take (i := 1) (v := ?_) rfl (by kernel_rfl) (by kernel_rfl) (by kernel_rfl) (fun _ _ _ h => h) (Or.inl ⟨by rfl, ?hy14⟩) (by assumption) ?ty14
  case hy14 => (intro w5 hSw; (try dsimp only at hSw); obtain ⟨e0, e1⟩ := hSw; go_simp; all_goals with_reducible rfl)
  simp only [Act.put, List.getElem_toArray, List.getElem_cons_zero, List.getElem_cons_succ, List.setIfInBounds_toArray, List.set_cons_zero, List.set_cons_succ]
  refine wpAnyH_take (i := 2) (v := ?_) rfl (by kernel_rfl) (by kernel_rfl) (by kernel_rfl) (fun _ _ _ h => h) (Or.inl ⟨by rfl, ?hy15⟩) (by assumption) ?ty15
  case hy15 => (intro w5 hSw; (try dsimp only at hSw); obtain ⟨e0, e1⟩ := hSw; go_simp; all_goals with_reducible rfl)
  simp only [Act.put, List.getElem_toArray, List.getElem_cons_zero, List.getElem_cons_succ, List.setIfInBounds_toArray, List.set_cons_zero, List.set_cons_succ]
  refine wpAnyH_take (i := 3) (v := ?_) rfl (by kernel_rfl) (by kernel_rfl) (by kernel_rfl) (fun _ _ _ h => h) (Or.inl ⟨by rfl, ?hy16⟩) (by assumption) ?ty16
  case hy16 => (intro w5 hSw; (try dsimp only at hSw); obtain ⟨e0, e1⟩ := hSw; go_simp; all_goals with_reducible rfl)
  simp only [Act.put, List.getElem_toArray, List.getElem_cons_zero, List.getElem_cons_succ, List.setIfInBounds_toArray, List.set_cons_zero, List.set_cons_succ]
  refine wpAnyH_take (i := 4) (v := ?_) rfl (by kernel_rfl) (by kernel_rfl) (by kernel_rfl) (fun _ _ _ h => h) (Or.inl ⟨by rfl, ?hy17⟩) (by assumption) ?ty17
  case hy17 => (intro w5 hSw; (try dsimp only at hSw); obtain ⟨e0, e1⟩ := hSw; go_simp; all_goals with_reducible rfl)
  simp only [Act.put, List.getElem_toArray, List.getElem_cons_zero, List.getElem_cons_succ, List.setIfInBounds_toArray, List.set_cons_zero, List.set_cons_succ]
  refine wpAnyH_take (i := 5) (v := ?_) rfl (by kernel_rfl) (by kernel_rfl) (by kernel_rfl) (fun _ _ _ h => h) (Or.inl ⟨by rfl, ?hy18⟩) (by assumption) ?ty18
  case hy18 => (intro w5 hSw; (try dsimp only at hSw); obtain ⟨e0, e1⟩ := hSw; go_simp; all_goals with_reducible rfl)
  simp only [Act.put, List.getElem_toArray, List.getElem_cons_zero, List.getElem_cons_succ, List.setIfInBounds_toArray, List.set_cons_zero, List.set_cons_succ]
  refine wpAnyH_take (i := 6) (v := ?_) rfl (by kernel_rfl) (by kernel_rfl) (by kernel_rfl) (fun _ _ _ h => h) (Or.inl ⟨by rfl, ?hy19⟩) (by assumption) ?ty19
  case hy19 => (intro w5 hSw; (try dsimp only at hSw); obtain ⟨e0, e1⟩ := hSw; go_simp; all_goals with_reducible rfl)
  simp only [Act.put, List.getElem_toArray, List.getElem_cons_zero, List.getElem_cons_succ, List.setIfInBounds_toArray, List.set_cons_zero, List.set_cons_succ]
  refine wpAnyH_take (i := 7) (v := ?_) rfl (by kernel_rfl) (by kernel_rfl) (by kernel_rfl) (fun _ _ _ h => h) (Or.inl ⟨by rfl, ?hy20⟩) (by assumption) ?ty20
  case hy20 => (intro w5 hSw; (try dsimp only at hSw); obtain ⟨e0, e1⟩ := hSw; go_simp; all_goals with_reducible rfl)
  simp only [Act.put, List.getElem_toArray, List.getElem_cons_zero, List.getElem_cons_succ, List.setIfInBounds_toArray, List.set_cons_zero, List.set_cons_succ]
  refine wpAnyH_take (i := 8) (v := .int .i64 (n : Int)) rfl (by kernel_rfl) (by kernel_rfl) (by kernel_rfl) (fun _ _ _ h => h) (Or.inl ⟨by rfl, ?hy21⟩) (by assumption) ?ty21
  case hy21 => (intro w5 hSw; (try dsimp only at hSw); obtain ⟨e0, e1⟩ := hSw; go_simp; all_goals (first | (simp; done) | omega | with_reducible rfl))
  simp only [Act.put, List.getElem_toArray, List.getElem_cons_zero, List.getElem_cons_succ, List.setIfInBounds_toArray, List.set_cons_zero, List.set_cons_succ]
  refine wpAnyH_take (i := 9) (v := .bool false) rfl (by kernel_rfl) (by kernel_rfl) (by kernel_rfl) (fun _ _ _ h => h) (Or.inl ⟨by rfl, ?hy22⟩) (by assumption) ?ty22
  case hy22 => (intro w5 hSw; (try dsimp only at hSw); obtain ⟨e0, e1⟩ := hSw; go_simp; all_goals (simp; omega))
  simp only [Act.put, List.getElem_toArray, List.getElem_cons_zero, List.getElem_cons_succ, List.setIfInBounds_toArray, List.set_cons_zero, List.set_cons_succ]
  refine wpAnyH_done (by kernel_rfl) ?_ _
  clear hHeld
  go_wp2_with fail
  obtain ⟨k0, k1, k2⟩ := HK.out
  generalize w.setCell ⟨R, 1, none⟩ (.int .i64 ((p : Int) + 1)) = w2 at *
  refine wp_region_held_drew (S := fun w' => (w'.cell? ⟨R, 0, none⟩ = some (.slice (some ⟨b, off, none⟩) n cap) ∧ w'.cell? ⟨R, 1, none⟩ = some (.int .i64 ((p : Int) + 1))) ∧ w'.cell? ⟨b, off + p, none⟩ = some (.int .u8 (y : Int))) (by kernel_rfl) ?hS23 (fun hHeld => ?_)
  case hS23 => exact ⟨⟨k0, k1⟩, k2⟩
  refine wpAnyH_take (i := 0) (v := ?_) rfl (by kernel_rfl) (by kernel_rfl) (by kernel_rfl) (fun _ _ _ h => h) (Or.inl ⟨by rfl, ?hy24⟩) (by assumption) ?ty24
  case hy24 => (intro w5 hSw; (try dsimp only at hSw); obtain ⟨⟨e0, e1⟩, e2⟩ := hSw; go_simp; all_goals with_reducible rfl)
  simp only [Act.put, List.getElem_toArray, List.getElem_cons_zero, List.setIfInBounds_toArray, List.set_cons_zero, List.set_cons_succ]
  refine wpAnyH_take (i := 1) (v := ?_) rfl (by kernel_rfl) (by kernel_rfl) (by kernel_rfl) (fun _ _ _ h => h) (Or.inl ⟨by rfl, ?hy25⟩) (by assumption) ?ty25
  case hy25 => (intro w5 hSw; (try dsimp only at hSw); obtain ⟨⟨e0, e1⟩, e2⟩ := hSw; go_simp; all_goals with_reducible rfl)
  simp only [Act.put, List.getElem_toArray, List.getElem_cons_zero, List.getElem_cons_succ, List.setIfInBounds_toArray, List.set_cons_zero, List.set_cons_succ]
  refine wpAnyH_take (i := 2) (v := ?_) rfl (by kernel_rfl) (by kernel_rfl) (by kernel_rfl) (fun _ _ _ h => h) (Or.inl ⟨by rfl, ?hy26⟩) (by assumption) ?ty26
  case hy26 => (intro w5 hSw; (try dsimp only at hSw); obtain ⟨⟨e0, e1⟩, e2⟩ := hSw; go_simp; all_goals with_reducible rfl)
  simp only [Act.put, List.getElem_toArray, List.getElem_cons_zero, List.getElem_cons_succ, List.setIfInBounds_toArray, List.set_cons_zero, List.set_cons_succ]
  refine wpAnyH_take (i := 3) (v := ?_) rfl (by kernel_rfl) (by kernel_rfl) (by kernel_rfl) (fun _ _ _ h => h) (Or.inl ⟨by rfl, ?hy27⟩) (by assumption) ?ty27
  case hy27 => (intro w5 hSw; (try dsimp only at hSw); obtain ⟨⟨e0, e1⟩, e2⟩ := hSw; go_simp; all_goals with_reducible rfl)
  simp only [Act.put, List.getElem_toArray, List.getElem_cons_zero, List.getElem_cons_succ, List.setIfInBounds_toArray, List.set_cons_zero, List.set_cons_succ]
  refine wpAnyH_take (i := 4) (v := ?_) rfl (by kernel_rfl) (by kernel_rfl) (by kernel_rfl) (fun _ _ _ h => h) (Or.inl ⟨by rfl, ?hy28⟩) (by assumption) ?ty28
  case hy28 => (intro w5 hSw; (try dsimp only at hSw); obtain ⟨⟨e0, e1⟩, e2⟩ := hSw; go_simp; all_goals with_reducible rfl)
  simp only [Act.put, List.getElem_toArray, List.getElem_cons_zero, List.getElem_cons_succ, List.setIfInBounds_toArray, List.set_cons_zero, List.set_cons_succ]
  refine wpAnyH_take (i := 5) (v := ?_) rfl (by kernel_rfl) (by kernel_rfl) (by kernel_rfl) (fun _ _ _ h => h) (Or.inl ⟨by rfl, ?hy29⟩) (by assumption) ?ty29
  case hy29 => (intro w5 hSw; (try dsimp only at hSw); obtain ⟨⟨e0, e1⟩, e2⟩ := hSw; go_simp; all_goals with_reducible rfl)
  simp only [Act.put, List.getElem_toArray, List.getElem_cons_zero, List.getElem_cons_succ, List.setIfInBounds_toArray, List.set_cons_zero, List.set_cons_succ]
  refine wpAnyH_take (i := 6) (v := ?_) rfl (by kernel_rfl) (by kernel_rfl) (by kernel_rfl) (fun _ _ _ h => h) (Or.inl ⟨by rfl, ?hy30⟩) (by assumption) ?ty30
  case hy30 => (intro w5 hSw; (try dsimp only at hSw); obtain ⟨⟨e0, e1⟩, e2⟩ := hSw; go_simp; all_goals with_reducible rfl)
  simp only [Act.put, List.getElem_toArray, List.getElem_cons_zero, List.getElem_cons_succ, List.setIfInBounds_toArray, List.set_cons_zero, List.set_cons_succ]
  refine wpAnyH_take (i := 7) (v := ?_) rfl (by kernel_rfl) (by kernel_rfl) (by kernel_rfl) (fun _ _ _ h => h) (Or.inl ⟨by rfl, ?hy31⟩) (by assumption) ?ty31
  case hy31 => (intro w5 hSw; (try dsimp only at hSw); obtain ⟨⟨e0, e1⟩, e2⟩ := hSw; go_simp; all_goals with_reducible rfl)
  simp only [Act.put, List.getElem_toArray, List.getElem_cons_zero, List.getElem_cons_succ, List.setIfInBounds_toArray, List.set_cons_zero, List.set_cons_succ]
  refine wpAnyH_take (i := 8) (v := .int .i64 (p : Int)) rfl (by kernel_rfl) (by kernel_rfl) (by kernel_rfl) (fun _ _ _ h => h) (Or.inl ⟨by rfl, ?hy32⟩) (by assumption) ?ty32
  case hy32 => (intro w5 hSw; (try dsimp only at hSw); obtain ⟨⟨e0, e1⟩, e2⟩ := hSw; go_simp; all_goals (simp [hwp]))
  simp only [Act.put, List.getElem_toArray, List.getElem_cons_zero, List.getElem_cons_succ, List.setIfInBounds_toArray, List.set_cons_zero, List.set_cons_succ]
  refine wpAnyH_take (i := 9) (v := .pointer (some ⟨b, off + p, none⟩)) rfl (by kernel_rfl) (by kernel_rfl) (by kernel_rfl) (fun _ _ _ h => h) (Or.inl ⟨by rfl, ?hy33⟩) (by assumption) ?ty33
  case hy33 => (intro w5 hSw; (try dsimp only at hSw); obtain ⟨⟨e0, e1⟩, e2⟩ := hSw; go_simp; all_goals (first | (simp; done) | (simp; omega) | omega))
  simp only [Act.put, List.getElem_toArray, List.getElem_cons_zero, List.getElem_cons_succ, List.setIfInBounds_toArray, List.set_cons_zero, List.set_cons_succ]
  refine wpAnyH_take (i := 10) (v := .int .u8 (y : Int)) rfl (by kernel_rfl) (by kernel_rfl) (by kernel_rfl) (fun _ _ _ h => h) (Or.inl ⟨by rfl, ?hy34⟩) (by assumption) ?ty34
  case hy34 => (intro w5 hSw; (try dsimp only at hSw); obtain ⟨⟨e0, e1⟩, e2⟩ := hSw; go_simp; all_goals (first | (simp; done) | omega | with_reducible rfl))
  simp only [Act.put, List.getElem_toArray, List.getElem_cons_zero, List.getElem_cons_succ, List.setIfInBounds_toArray, List.set_cons_zero, List.set_cons_succ]
  refine wpAnyH_take (i := 11) (v := .int .i64 (y : Int)) rfl (by kernel_rfl) (by kernel_rfl) (by kernel_rfl) (fun _ _ _ h => h) (Or.inl ⟨by rfl, ?hy35⟩) (by assumption) ?ty35
  case hy35 => (intro w5 hSw; (try dsimp only at hSw); obtain ⟨⟨e0, e1⟩, e2⟩ := hSw; go_simp; all_goals (simp [hwy]))
  simp only [Act.put, List.getElem_toArray, List.getElem_cons_zero, List.getElem_cons_succ, List.setIfInBounds_toArray, List.set_cons_zero, List.set_cons_succ]
  refine wpAnyH_take (i := 12) (v := ?_) rfl (by kernel_rfl) (by kernel_rfl) (by kernel_rfl) (fun _ _ _ h => h) (Or.inl ⟨by rfl, ?hy36⟩) (by assumption) ?ty36
  case hy36 => (intro w5 hSw; (try dsimp only at hSw); obtain ⟨⟨e0, e1⟩, e2⟩ := hSw; go_simp; all_goals with_reducible rfl)
  simp only [Act.put, List.getElem_toArray, List.getElem_cons_zero, List.getElem_cons_succ, List.setIfInBounds_toArray, List.set_cons_zero, List.set_cons_succ]
  refine wpAnyH_done (by kernel_rfl) ?_ _
  clear hHeld
  go_wp2
  go_ret
  rw [HV.out]
  exact ⟨rfl, HE.out.2, HE.out.1⟩
 ·obtain rfl : p = n := by omega
  have HV : Hid (bM (s1, s2) = (0, [], true)) := by
   show _ = _
   rw [← hs, List.drop_of_length_le (by rw [HN.out]; omega)]
   rfl
  have k0 : (w.setCell ⟨R, 2, none⟩ (.bool true)).cell? ⟨R, 0, none⟩ = some (.slice a p cap) := (World.cell?_setCell_other _ _ _ _ (by simp)).trans hc0
  have k1 : (w.setCell ⟨R, 2, none⟩ (.bool true)).cell? ⟨R, 1, none⟩ = some (.int .i64 (p : Int)) := (World.cell?_setCell_other _ _ _ _ (by simp)).trans hc1
  have k2 : (w.setCell ⟨R, 2, none⟩ (.bool true)).cell? ⟨R, 2, none⟩ = some (.bool true) := World.cell?_setCell_same _ _ _ hc2
  have hu : UpH R w (w.setCell ⟨R, 2, none⟩ (.bool true)) := (UpH.refl R w).set 2 _
  have HE : Hid (RmS D R (w.setCell ⟨R, 2, none⟩ (.bool true)).drew d ([], true) ∧ UpH R w (w.setCell ⟨R, 2, none⟩ (.bool true)).drew) := ⟨HFIN.out _ p true _ hu.drew k0 k1 k2 (Nat.le_refl _) ((World.frozen?_setCell _ _ _ _).trans hf1) ((World.frozen?_setCell _ _ _ _).trans hf2) (List.drop_of_length_le (by rw [HN.out]; omega)), hu.drew⟩
  have hf2d : w.drew.frozen? ⟨R, 2, none⟩ = false := hf2
  have hc2d : w.drew.cell? ⟨R, 2, none⟩ = some (.bool s2) := hc2
  have n := p
  clear HFIN hrd k0 k1 k2 hu hs n
  go_enter Tryd.func51, Tryd.ntmps51
  go_wp2_with fail
  refine wp_region_held_drew (S := fun w' => w'.cell? ⟨R, 0, none⟩ = some (.slice a p cap) ∧ w'.cell? ⟨R, 1, none⟩ = some (.int .i64 (p : Int))) (by kernel_rfl) ?hS1 (fun hHeld => ?_)
  case hS1 => exact ⟨hc0, hc1⟩
  refine wpAnyH_take (i := 0) (v := ?_) rfl (by kernel_rfl) (by kernel_rfl) (by kernel_rfl) (fun _ _ _ h => h) (Or.inl ⟨by rfl, ?hy2⟩) (by assumption) ?ty2
  case hy2 => (intro w5 hSw; (try dsimp only at hSw); obtain ⟨e0, e1⟩ := hSw; go_simp; all_goals with_reducible rfl)
  simp only [Act.put, List.getElem_toArray, List.getElem_cons_zero, List.setIfInBounds_toArray, List.set_cons_zero, List.set_cons_succ]
  refine wpAnyH_take (i := 1) (v := ?_) rfl (by kernel_rfl) (by kernel_rfl) (by kernel_rfl) (fun _ _ _ h => h) (Or.inl ⟨by rfl, ?hy3⟩) (by assumption) ?ty3
  case hy3 => (intro w5 hSw; (try dsimp only at hSw); obtain ⟨e0, e1⟩ := hSw; go_simp; all_goals with_reducible rfl)
  simp only [Act.put, List.getElem_toArray, List.getElem_cons_zero, List.getElem_cons_succ, List.setIfInBounds_toArray, List.set_cons_zero, List.set_cons_succ]
  refine wpAnyH_take (i := 2) (v := ?_) rfl (by kernel_rfl) (by kernel_rfl) (by kernel_rfl) (fun _ _ _ h => h) (Or.inl ⟨by rfl, ?hy4⟩) (by assumption) ?ty4
  case hy4 => (intro w5 hSw; (try dsimp only at hSw); obtain ⟨e0, e1⟩ := hSw; go_simp; all_goals with_reducible rfl)
  simp only [Act.put, List.getElem_toArray, List.getElem_cons_zero, List.getElem_cons_succ, List.setIfInBounds_toArray, List.set_cons_zero, List.set_cons_succ]
  refine wpAnyH_take (i := 3) (v := ?_) rfl (by kernel_rfl) (by kernel_rfl) (by kernel_rfl) (fun _ _ _ h => h) (Or.inl ⟨by rfl, ?hy5⟩) (by assumption) ?ty5
  case hy5 => (intro w5 hSw; (try dsimp only at hSw); obtain ⟨e0, e1⟩ := hSw; go_simp; all_goals with_reducible rfl)
  simp only [Act.put, List.getElem_toArray, List.getElem_cons_zero, List.getElem_cons_succ, List.setIfInBounds_toArray, List.set_cons_zero, List.set_cons_succ]
  refine wpAnyH_take (i := 4) (v := ?_) rfl (by kernel_rfl) (by kernel_rfl) (by kernel_rfl) (fun _ _ _ h => h) (Or.inl ⟨by rfl, ?hy6⟩) (by assumption) ?ty6
  case hy6 => (intro w5 hSw; (try dsimp only at hSw); obtain ⟨e0, e1⟩ := hSw; go_simp; all_goals with_reducible rfl)
  simp only [Act.put, List.getElem_toArray, List.getElem_cons_zero, List.getElem_cons_succ, List.setIfInBounds_toArray, List.set_cons_zero, List.set_cons_succ]
  refine wpAnyH_take (i := 5) (v := ?_) rfl (by kernel_rfl) (by kernel_rfl) (by kernel_rfl) (fun _ _ _ h => h) (Or.inl ⟨by rfl, ?hy7⟩) (by assumption) ?ty7
  case hy7 => (intro w5 hSw; (try dsimp only at hSw); obtain ⟨e0, e1⟩ := hSw; go_simp; all_goals with_reducible rfl)
  simp only [Act.put, List.getElem_toArray, List.getElem_cons_zero, List.getElem_cons_succ, List.setIfInBounds_toArray, List.set_cons_zero, List.set_cons_succ]
  refine wpAnyH_take (i := 6) (v := ?_) rfl (by kernel_rfl) (by kernel_rfl) (by kernel_rfl) (fun _ _ _ h => h) (Or.inl ⟨by rfl, ?hy8⟩) (by assumption) ?ty8
  case hy8 => (intro w5 hSw; (try dsimp only at hSw); obtain ⟨e0, e1⟩ := hSw; go_simp; all_goals with_reducible rfl)
  simp only [Act.put, List.getElem_toArray, List.getElem_cons_zero, List.getElem_cons_succ, List.setIfInBounds_toArray, List.set_cons_zero, List.set_cons_succ]
  refine wpAnyH_take (i := 7) (v := ?_) rfl (by kernel_rfl) (by kernel_rfl) (by kernel_rfl) (fun _ _ _ h => h) (Or.inl ⟨by rfl, ?hy9⟩) (by assumption) ?ty9
  case hy9 => (intro w5 hSw; (try dsimp only at hSw); obtain ⟨e0, e1⟩ := hSw; go_simp; all_goals with_reducible rfl)
  simp only [Act.put, List.getElem_toArray, List.getElem_cons_zero, List.getElem_cons_succ, List.setIfInBounds_toArray, List.set_cons_zero, List.set_cons_succ]
  refine wpAnyH_take (i := 8) (v := .int .i64 (p : Int)) rfl (by kernel_rfl) (by kernel_rfl) (by kernel_rfl) (fun _ _ _ h => h) (Or.inl ⟨by rfl, ?hy10⟩) (by assumption) ?ty10
  case hy10 => (intro w5 hSw; (try dsimp only at hSw); obtain ⟨e0, e1⟩ := hSw; go_simp; all_goals (first | (simp; done) | omega | with_reducible rfl))
  simp only [Act.put, List.getElem_toArray, List.getElem_cons_zero, List.getElem_cons_succ, List.setIfInBounds_toArray, List.set_cons_zero, List.set_cons_succ]
  refine wpAnyH_take (i := 9) (v := .bool true) rfl (by kernel_rfl) (by kernel_rfl) (by kernel_rfl) (fun _ _ _ h => h) (Or.inl ⟨by rfl, ?hy11⟩) (by assumption) ?ty11
  case hy11 => (intro w5 hSw; (try dsimp only at hSw); obtain ⟨e0, e1⟩ := hSw; go_simp; all_goals (simp; omega))
  simp only [Act.put, List.getElem_toArray, List.getElem_cons_zero, List.getElem_cons_succ, List.setIfInBounds_toArray, List.set_cons_zero, List.set_cons_succ]
  refine wpAnyH_done (by kernel_rfl) ?_ _
  clear hHeld
  go_wp2
  go_ret
  rw [HV.out]
  exact ⟨rfl, HE.out.2, HE.out.1⟩
end Go.Proofs.YtdcgihcjiiemdaaDoor
