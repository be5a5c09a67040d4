/- BuildMulti: the program's function; no conditions beyond those that each fact names. -/
import Derived.Test.YthphokjhonddcaaBmi
namespace Go.Proofs.Ythphokjhonddcaa
open Go.RowKit

/-- Nothing, or a slice that grew. -/
def GrN (w : World) (B : Nat) (v : Value) (l : List Nat) : Prop := (v = .slice none 0 0 ∧ l = []) ∨ Gr w B v l
theorem GrN.below {w w' : World} {B C : Nat} {v : Value} {l : List Nat} (h : GrN w B v l) (hb : Below C w w') (hC : w.heap.size ≤ C) : GrN w' B v l := h.imp id (fun h => h.below hb hC)
theorem Gr.set {w : World} {B R j : Nat} {v x : Value} {l : List Nat} (h : Gr w B v l) (hR : R < B) : Gr (w.setCell ⟨R, j, none⟩ x) B v l := by
  obtain ⟨g, cap, e, hB, hm, hl, hn, hg, hc, hf⟩ := h
  have hcell : ∀ i, (w.setCell ⟨R, j, none⟩ x).cell? ⟨g, i, none⟩ = w.cell? ⟨g, i, none⟩ := fun i => World.cell?_setCell_other _ _ _ _ (fun h => by injection h; omega)
  refine ⟨g, cap, e, hB, hm, hl, hn, by simpa using hg, fun i hi => (hcell i).trans (hc i hi), fun i hi => ⟨by rw [hcell]; exact (hf i hi).1, ?_⟩⟩
  rw [World.frozen?_setCell]
  exact (hf i hi).2
theorem src_ten (w : World) : Src Try.prog 1 24 (.slice (some ⟨w.heap.size, 0, none⟩) 1 1) 1 (bc [10]) (w.alloc (.cells #[.int .u8 10] 5)) :=
  src_slice rfl (.inr ⟨w.heap.size, 0, rfl, by simp, fun i hi => by
    obtain rfl : i = 0 := by simpa using hi
    simp [nth]⟩) (fun h => by cases h)
/-- How a building ends. -/
def BmEnd (r : Int × List Nat) (w : World) (e : Ending) (w' : World) : Prop := ∃ v, e = .returned (.agg #[.int .i64 r.1, v]) ∧ GrN w' (w.heap.size + 1) v r.2 ∧ Below w.heap.size w w'
theorem bm_end {w w1 : World} {c : Int} {l : List Nat} {v : Value} (hb : Below w.heap.size w w1) (h : GrN w1 (w.heap.size + 1) v l) : GrN ((w1.setCell ⟨w.heap.size, 0, none⟩ (.int .i64 c)).setCell ⟨w.heap.size, 1, none⟩ v) (w.heap.size + 1) v l ∧ Below w.heap.size w ((w1.setCell ⟨w.heap.size, 0, none⟩ (.int .i64 c)).setCell ⟨w.heap.size, 1, none⟩ v) :=
  ⟨h.imp id (fun h => (h.set (by omega)).set (by omega)), (hb.setCell (by simp) _).setCell (by simp) _⟩

set_option maxHeartbeats 3200000 in
set_option maxRecDepth 100000 in
theorem buildMulti_any (mk : List Nat) (m : Nat) (a : Option Addr) (n cap : Nat) (l : List SlP) (ls : List (List Nat)) (w : World) (hmk : mk.length = m) (hBm : IsB mk) (hm : m ≤ 1048576) (hl : l.length = n) (hr : RdL w a l) (hrs : RdLs w l ls) (hf : FitB ls) (hn : n ≤ 1048576) :
    Calls Try.prog 7 #[.string (str mk), .slice a n cap] w fun e w' => BmEnd (bmV mk ls) w e w' := by
  have hlen : ls.length = n := by rw [← hrs.1]; exact hl
  have HV : Hid (bmV mk ls = if mkOk mk = false then (5, []) else if 6 < n then (2, []) else if dsA ls = true then (1, []) else if 400 < (bmA mk ls).length then (2, []) else (0, bmA mk ls)) := by show _ = _; unfold bmV; rw [hlen]
  have HOK : Hid (mkOk mk = (mk.all smB && decide (1 ≤ m ∧ m ≤ 20))) := by show _ = _; unfold mkOk; rw [hmk]
  obtain ⟨W, hW⟩ : ∃ W, w.alloc (.cells #[.int .i64 0, .slice none 0 0] 26) = W := ⟨_, rfl⟩
  have hb0 : Below w.heap.size w W := by rw [← hW]; exact (Below.refl _ _).alloc (Nat.le_refl _) _
  have hsW : W.heap.size = w.heap.size + 1 := by rw [← hW]; simp
  have HRB : Hid (∀ wr, Below (w.heap.size + 1) W wr → _) := fun wr hb => res_block hW hb
  have hrW := hr.below hb0
  have hrsW := hrs.below hb0
  have HCA : Hid (∀ w, _) := fun w => areBytes_small mk m w hmk hBm hm
  have HCD := containsDashes_any a n cap l ls W hl hrW hrsW hf hn
  have hsz : (str mk).size = m := by rw [str_size, hmk]
  obtain ⟨tH, tL, tE, -⟩ := bm_texts mk
  obtain ⟨nH, nL, nE⟩ := bm_lens mk
  obtain ⟨bH, bL, bE⟩ := isB_bm mk hBm
  rw [hmk] at nH nL nE
  generalize bmV mk ls = r at *
  go_enter Try.func7, Try.ntmps7
  have fin5 : Hid (∀ w1 : World, Below (w.heap.size + 1) W w1 → ∀ c : Int, (w1.setCell ⟨w.heap.size, 0, none⟩ (.int .i64 c)).cell? ⟨w.heap.size, 0, none⟩ = some (.int .i64 c) ∧ ((w1.setCell ⟨w.heap.size, 0, none⟩ (.int .i64 c)).setCell ⟨w.heap.size, 1, none⟩ (.slice none 0 0)).cell? ⟨w.heap.size, 1, none⟩ = some (.slice none 0 0)) := fun w1 hb c => res_cells (HRB.out w1 hb).1 (HRB.out w1 hb).2.1 _ _
  have HBW : Hid (∀ w1 : World, Below (w.heap.size + 1) W w1 → Below w.heap.size w w1) := fun w1 hb => hb0.trans (hb.mono (by omega))
  by_cases h1 : m < 1
  · have h1' : (m : Int) < 1 := by omega
    have HM : Hid (r = (5, [])) := HV.out.trans (if_pos (by rw [HOK.out, decide_eq_false (by omega), Bool.and_false]))
    clear HV HCD
    obtain ⟨a0, a1, z0, z1⟩ := HRB.out W (Below.refl _ _)
    obtain ⟨k0, k1⟩ := fin5.out W (Below.refl _ _) 5
    have HE : Hid (_) := bm_end (c := 5) (HBW.out W (Below.refl _ _)) (.inl ⟨rfl, rfl⟩)
    go_wp2_with (first | (go_at_call 18; refine (HCA.out _).mono ?_; rintro e w' ⟨rfl, rfl⟩))
    refine bodyPost_ret (v := .agg #[.int .i64 5, .slice none 0 0]) (by simp [results, Try.results7, go_sem, k0, k1]) rfl ?_
    rw [HM.out]
    exact ⟨_, rfl, HE.out⟩
  have h1' : ¬ (m : Int) < 1 := by omega
  by_cases h2 : 20 < m
  · have h2' : (20 : Int) < (m : Int) := by omega
    have HM : Hid (r = (5, [])) := HV.out.trans (if_pos (by rw [HOK.out, decide_eq_false (by omega), Bool.and_false]))
    clear HV HCD
    obtain ⟨a0, a1, z0, z1⟩ := HRB.out W (Below.refl _ _)
    obtain ⟨k0, k1⟩ := fin5.out W (Below.refl _ _) 5
    have HE : Hid (_) := bm_end (c := 5) (HBW.out W (Below.refl _ _)) (.inl ⟨rfl, rfl⟩)
    go_wp2_with (first | (go_at_call 18; refine (HCA.out _).mono ?_; rintro e w' ⟨rfl, rfl⟩))
    refine bodyPost_ret (v := .agg #[.int .i64 5, .slice none 0 0]) (by simp [results, Try.results7, go_sem, k0, k1]) rfl ?_
    rw [HM.out]
    exact ⟨_, rfl, HE.out⟩
  have h2' : ¬ (20 : Int) < (m : Int) := by omega
  have HOK' : Hid (mkOk mk = mk.all smB) := by show _ = _; rw [HOK.out, decide_eq_true (by omega), Bool.and_true]
  clear HOK
  generalize mk.all smB = bs at *
  cases bs with
  | false =>
    have HM : Hid (r = (5, [])) := HV.out.trans (if_pos HOK'.out)
    clear HV HCD
    obtain ⟨a0, a1, z0, z1⟩ := HRB.out W (Below.refl _ _)
    obtain ⟨k0, k1⟩ := fin5.out W (Below.refl _ _) 5
    have HE : Hid (_) := bm_end (c := 5) (HBW.out W (Below.refl _ _)) (.inl ⟨rfl, rfl⟩)
    go_wp2_with (first | (go_at_call 18; refine (HCA.out _).mono ?_; rintro e w' ⟨rfl, rfl⟩))
    refine bodyPost_ret (v := .agg #[.int .i64 5, .slice none 0 0]) (by simp [results, Try.results7, go_sem, k0, k1]) rfl ?_
    rw [HM.out]
    exact ⟨_, rfl, HE.out⟩
  | true =>
    have HV : Hid (r = if 6 < n then (2, []) else if dsA ls = true then (1, []) else if 400 < (bmA mk ls).length then (2, []) else (0, bmA mk ls)) := HV.out.trans (if_neg (by rw [HOK'.out]; decide))
    clear HOK'
    by_cases h6 : 6 < n
    · have h6' : (6 : Int) < (n : Int) := by omega
      have HM : Hid (r = (2, [])) := HV.out.trans (if_pos h6)
      clear HV HCD
      obtain ⟨a0, a1, z0, z1⟩ := HRB.out W (Below.refl _ _)
      obtain ⟨k0, k1⟩ := fin5.out W (Below.refl _ _) 2
      have HE : Hid (_) := bm_end (c := 2) (HBW.out W (Below.refl _ _)) (.inl ⟨rfl, rfl⟩)
      go_wp2_with (first | (go_at_call 18; refine (HCA.out _).mono ?_; rintro e w' ⟨rfl, rfl⟩))
      refine bodyPost_ret (v := .agg #[.int .i64 2, .slice none 0 0]) (by simp [results, Try.results7, go_sem, k0, k1]) rfl ?_
      rw [HM.out]
      exact ⟨_, rfl, HE.out⟩
    · have h6' : ¬ (6 : Int) < (n : Int) := by omega
      have HV : Hid (r = if dsA ls = true then (1, []) else if 400 < (bmA mk ls).length then (2, []) else (0, bmA mk ls)) := HV.out.trans (if_neg h6)
      generalize dsA ls = ds at *
      go_wp2_with (first | (go_at_call 18; refine (HCA.out _).mono ?_; rintro e w' ⟨rfl, rfl⟩))
      refine HCD.mono ?_
      rintro e w1 ⟨rfl, hb1⟩
      rw [hsW] at hb1
      clear HCD
      cases ds with
      | true =>
        have HM : Hid (r = (1, [])) := HV.out
        clear HV
        obtain ⟨a0, a1, z0, z1⟩ := HRB.out w1 hb1
        obtain ⟨k0, k1⟩ := fin5.out w1 hb1 1
        have HE : Hid (_) := bm_end (c := 1) (HBW.out w1 hb1) (.inl ⟨rfl, rfl⟩)
        go_wp2_with (first | (go_at_call 18; refine (HCA.out _).mono ?_; rintro e w' ⟨rfl, rfl⟩))
        refine bodyPost_ret (v := .agg #[.int .i64 1, .slice none 0 0]) (by simp [results, Try.results7, go_sem, k0, k1]) rfl ?_
        rw [HM.out]
        exact ⟨_, rfl, HE.out⟩
      | false =>
        have HV : Hid (r = if 400 < (bmA mk ls).length then (2, []) else (0, bmA mk ls)) := HV.out
        have s1 : ((⟨#[67, 111, 110, 116, 101, 110, 116, 45, 84, 121, 112, 101, 58, 32, 109, 117, 108, 116, 105, 112, 97, 114, 116, 47, 109, 105, 120, 101, 100, 59, 32, 98, 111, 117, 110, 100, 97, 114, 121, 61]⟩ : ByteArray) ++ str mk).size = 40 + m := by rw [ByteArray.size_append, hsz]; rfl
        have hcvt := run_bytes_of_string (P := Try.prog) w1 9 24 5 (str (bmH mk)) Try.underlying9 Try.underlying24 Try.underlying5
        rw [str_size] at hcvt
        have hcp := grownCap_ge w1 (bmH mk).length 0 5
        have hcm := grownCap_le_maxLen w1 (bmH mk).length 0 5 (by unfold maxLen; omega)
        have hz1 : w.heap.size + 1 ≤ w1.heap.size := by have := hb1.size; omega
        have hgr0 := (Gr.conv w1 (bmH mk) bH (w.heap.size + 1) _ hz1 hcp hcm).drew
        have hb2 : Below (w.heap.size + 1) W (w1.alloc (.cells (bytesRow (str (bmH mk)) (grownCap w1 (bmH mk).length 0 5)) 5 ((bytesRow (str (bmH mk)) (grownCap w1 (bmH mk).length 0 5)).size, (bytesRow (str (bmH mk)) (grownCap w1 (bmH mk).length 0 5)).size + 1))).drew := hb1.trans (((Below.refl _ _).alloc hz1 _).drew)
        rw [nH] at hcvt hcp hcm hgr0 hb2
        go_wp2_with fail
        generalize (w1.alloc (.cells (bytesRow (str (bmH mk)) (grownCap w1 (42 + m) 0 5)) 5 ((bytesRow (str (bmH mk)) (grownCap w1 (42 + m) 0 5)).size, (bytesRow (str (bmH mk)) (grownCap w1 (42 + m) 0 5)).size + 1))).drew = W2 at *
        have s2 : ((⟨#[45, 45]⟩ : ByteArray) ++ str mk).size = 2 + m := by rw [ByteArray.size_append, hsz]; rfl
        have s3 : (((⟨#[45, 45]⟩ : ByteArray) ++ str mk) ++ (⟨#[45, 45]⟩ : ByteArray)).size = 4 + m := by rw [ByteArray.size_append, s2]; show 2 + m + 2 = _; omega
        have HA0 : Hid (bmH mk ++ bmB mk (ls.take 0) = bmH mk) := by show _ = _; simp [bmB]
        have HLEN : Hid (∀ k, k ≤ n → (bmH mk ++ bmB mk (ls.take k)).length ≤ 42 + m + k * 1048700) := fun k => by
          induction k with
          | zero => intro _; rw [HA0.out, nH]; omega
          | succ k ih =>
            intro hk
            have h := ih (by omega)
            have hfk := (hf k (by omega)).2
            rw [bmB_snoc (by omega)]
            simp only [List.length_append, nL, List.length_singleton] at h ⊢
            omega
        clear hcvt hb1 hz1 hcp hcm s1 tH
        go_loopw [5, 35] (fun q i wr => ∃ k : Nat, k ≤ n ∧ i = .int .i64 k ∧ Gr wr (w.heap.size + 1) q (bmH mk ++ bmB mk (ls.take k)) ∧ Below (w.heap.size + 1) W wr) (fun _ i _ => n - (intOf i).toNat)
        case atStart => exact ⟨0, Nat.zero_le _, rfl, by rw [HA0.out]; exact hgr0, hb2⟩
        case round =>
          obtain ⟨k, hk, rfl, hgr, hbel⟩ := hrel
          clear hgr0 hb2
          have hbw := HBW.out wr hbel
          have hzr : w.heap.size + 1 ≤ wr.heap.size := by have := hbel.size; omega
          have hln := HLEN.out k hk
          by_cases hkn : k < n
          · have hki : (k : Int) < (n : Int) := by omega
            obtain ⟨g, off, rfl, hglt, hcell⟩ := (hr.below hbw).at_ (by omega)
            have hck := hcell k (by omega)
            obtain ⟨e1, e2, hrd⟩ := (hrs.below hbw).2 k (by omega)
            have hfk := hf k (by omega)
            have HSN : Hid (bmH mk ++ bmB mk (ls.take (k + 1)) = ((bmH mk ++ bmB mk (ls.take k)) ++ bmL mk ++ ls.getD k []) ++ [10]) := by
              show _ = _
              rw [bmB_snoc (by omega)]; simp
            have HRD : Hid (∀ w' : World, Below w.heap.size w w' → Rd w' (nthL l k).1 (ls.getD k [])) := fun w' hb => ((hrs.below hb).2 k (by omega)).2.2
            unfold slV at hck
            generalize nthL l k = sl at *
            obtain ⟨sa, sn, scp⟩ := sl
            dsimp only at hck e1 e2 hrd HRD
            generalize ls.getD k [] = d at *
            generalize bmH mk ++ bmB mk (ls.take k) = t at *
            subst e1
            have HNA : Hid (sa = none → d.length = 0) := fun h => by
              rcases hrd with h' | ⟨b, o, e, -⟩
              · rw [h']; rfl
              · rw [h] at e; cases e
            have l1 : (t ++ bmL mk).length = t.length + (3 + m) := by rw [List.length_append, nL]
            have l2 : ((t ++ bmL mk) ++ d).length = t.length + (3 + m) + d.length := by rw [List.length_append, l1]
            have hsn : d.length ≤ 1048576 := hfk.2
            obtain ⟨g5, cp5, rfl, -⟩ := id hgr
            clear hrd hcell HLEN HA0
            go_wp2_with (first
              | (at_builtin; refine wpList_app_grx rfl _ _ 9 rfl (w.heap.size + 1) _ t (by rfl) hgr _ _ (bmL mk) (by rfl) (src_text (bmL mk) bL) rfl (by omega) hzr ?_; intro v1 w3 hg3 hb3; have hB3 := hbel.trans hb3; have hz3 : w.heap.size + 1 ≤ w3.heap.size := (by have := hB3.size; omega); have hr3 := HRD.out w3 (HBW.out w3 hB3); clear hgr; obtain ⟨g6, cp6, rfl, -⟩ := id hg3; rw [l1] at hg3 ⊢)
              | (at_builtin; refine wpList_app_grx rfl _ _ 24 rfl (w.heap.size + 1) _ (t ++ bmL mk) (by rfl) hg3 _ _ d (by rfl) (src_slice rfl hr3 HNA.out) rfl (by omega) hz3 ?_; intro v2 w4 hg4 hb4; have hB4 := hB3.trans hb4; have hz4 : w.heap.size + 1 ≤ w4.heap.size := (by have := hB4.size; omega); clear hg3; obtain ⟨g7, cp7, rfl, -⟩ := id hg4; rw [l2] at hg4 ⊢)
              | (at_builtin; refine wpList_app_grx rfl _ _ 24 rfl (w.heap.size + 1) _ ((t ++ bmL mk) ++ d) (by rfl) (hg4.alloc _) _ _ [10] (by rfl) (src_ten w4) rfl (by omega) (by simp; omega) ?_; intro v3 w5 hg5 hb5; have hB5 : Below (w.heap.size + 1) W w5 := hB4.trans (((Below.refl _ _).alloc hz4 _).trans hb5); clear hg4; obtain ⟨g8, cp8, rfl, -⟩ := id hg5))
            go_roundw
            case rel => exact ⟨k + 1, by omega, by go_num, by rw [HSN.out]; simpa [nL] using hg5, hB5⟩
            case measure => simp [intOf]; omega
          · have hki : ¬ (k : Int) < (n : Int) := by omega
            have HA : Hid (bmA mk ls = (bmH mk ++ bmB mk (ls.take k)) ++ bmE mk) := by
              show _ = _
              unfold bmA; rw [show k = ls.length by omega, List.take_length]
            have HV' : Hid (r = if 400 < ((bmH mk ++ bmB mk (ls.take k)) ++ bmE mk).length then (2, []) else (0, (bmH mk ++ bmB mk (ls.take k)) ++ bmE mk)) := by
              show _ = _
              rw [← HA.out]; exact HV.out
            clear HA HV HLEN HA0
            generalize bmH mk ++ bmB mk (ls.take k) = t at *
            have l1 : (t ++ bmE mk).length = t.length + (5 + m) := by rw [List.length_append, nE]
            rw [l1] at HV'
            obtain ⟨g5, cp5, rfl, -⟩ := id hgr
            by_cases h4 : 400 < t.length + (5 + m)
            · have h4' : (400 : Int) < (t.length : Int) + (5 + (m : Int)) := by omega
              have HM : Hid (r = (2, [])) := HV'.out.trans (if_pos h4)
              clear HV'
              go_wp2_with (first
                | (at_builtin; refine wpList_app_grx rfl _ _ 9 rfl (w.heap.size + 1) _ t (by rfl) hgr _ _ (bmE mk) (by rfl) (src_text (bmE mk) bE) rfl (by omega) hzr ?_; intro v1 w3 hg3 hb3; have hB3 := hbel.trans hb3; clear hgr; obtain ⟨g6, cp6, rfl, -⟩ := id hg3; rw [l1]; obtain ⟨a0, a1, z0, z1⟩ := HRB.out w3 hB3; obtain ⟨k0, k1⟩ := fin5.out w3 hB3 2; have HE : Hid (_) := bm_end (c := 2) (HBW.out w3 hB3) (.inl ⟨rfl, rfl⟩)))
              refine bodyPost_ret (v := .agg #[.int .i64 2, .slice none 0 0]) (by simp [results, Try.results7, go_sem, k0, k1]) rfl ?_
              rw [HM.out]
              exact ⟨_, rfl, HE.out⟩
            · have h4' : ¬ (400 : Int) < (t.length : Int) + (5 + (m : Int)) := by omega
              have HM : Hid (r = (0, t ++ bmE mk)) := HV'.out.trans (if_neg h4)
              clear HV'
              go_wp2_with (first
                | (at_builtin; refine wpList_app_grx rfl _ _ 9 rfl (w.heap.size + 1) _ t (by rfl) hgr _ _ (bmE mk) (by rfl) (src_text (bmE mk) bE) rfl (by omega) hzr ?_; intro v1 w3 hg3 hb3; have hB3 := hbel.trans hb3; clear hgr; obtain ⟨g6, cp6, rfl, -⟩ := id hg3; rw [l1] at hg3 ⊢; obtain ⟨a0, a1, z0, z1⟩ := HRB.out w3 hB3; obtain ⟨k0, k1⟩ := res_cells a0 a1 (.int .i64 0) (.slice (some ⟨g6, 0, none⟩) (t.length + (5 + m)) cp6); have HE : Hid (_) := bm_end (c := 0) (HBW.out w3 hB3) (.inr hg3)))
              refine bodyPost_ret (v := .agg #[.int .i64 0, .slice (some ⟨g6, 0, none⟩) (t.length + (5 + m)) cp6]) (by simp [results, Try.results7, go_sem, k0, k1]) rfl ?_
              rw [HM.out]
              exact ⟨_, rfl, HE.out⟩
end Go.Proofs.Ythphokjhonddcaa
