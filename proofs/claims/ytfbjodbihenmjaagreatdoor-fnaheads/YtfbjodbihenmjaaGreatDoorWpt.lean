/- A told word at the start of a text, the program's. -/
import Derived.Test.YtfbjodbihenmjaaGreatDoorWprToWps
import Derived.Test.YtfbjodbihenmjaaGreatDoorLowToChs2
import Derived.Test.YtfbjodbihenmjaaGreatDoorDec4
namespace Go.Proofs.YtfbjodbihenmjaaGreatDoor
open Go.RowKit

theorem spl_more : ∀ (k : Nat) (v : List Nat), v.length ≤ k → spl (k + 1) v = spl k v
  | 0, v, h => by
    have : v = [] := List.eq_nil_of_length_eq_zero (by omega)
    subst this
    rfl
  | k + 1, v, h => by
    rw [spl]
    conv => rhs; rw [spl]
    split
    · rename_i hl
      rw [spl_more k _ (by rw [List.length_drop]; omega)]
    · rfl
theorem spl_four {v : List Nat} : spl (min 5 (v.length + 1) - 1) v = spl 4 v := by
  by_cases h : 4 ≤ v.length
  · rw [Nat.min_eq_left (by omega)]
  · rw [Nat.min_eq_right (by omega), Nat.add_sub_cancel]
    obtain ⟨j, hj⟩ : ∃ j, 4 = v.length + j := ⟨4 - v.length, by omega⟩
    rw [hj]
    clear hj h
    induction j with
    | zero => rfl
    | succ j ih => rw [ih, ← Nat.add_assoc, spl_more _ _ (by omega)]
theorem spl_in : ∀ (k : Nat) (v : List Nat), (spl k v).length ≤ v.length + 1 ∧ (spl k v).length ≤ k + 1 ∧ ∀ p ∈ spl k v, p.length ≤ v.length ∧ ∀ x ∈ p, x ∈ v
  | 0, v => ⟨by simp [spl], by simp [spl], fun p hp => by
      simp only [spl, List.mem_cons, List.not_mem_nil, or_false] at hp
      subst hp
      exact ⟨Nat.le_refl _, fun x hx => hx⟩⟩
  | k + 1, v => by
    rw [spl]
    split
    · rename_i hl
      obtain ⟨h1, h2, h3⟩ := spl_in k (v.drop ((v.takeWhile noQu).length + 1))
      rw [List.length_drop] at h1
      refine ⟨by rw [List.length_cons]; omega, by rw [List.length_cons]; omega, fun p hp => ?_⟩
      rcases List.mem_cons.1 hp with rfl | hp
      · exact ⟨by omega, fun x hx => (List.takeWhile_sublist noQu).subset hx⟩
      · obtain ⟨a, b⟩ := h3 p hp
        rw [List.length_drop] at a
        exact ⟨by omega, fun x hx => (List.drop_sublist _ _).subset (b x hx)⟩
    · exact ⟨by simp, by simp, fun p hp => by
        simp only [List.mem_cons, List.not_mem_nil, or_false] at hp
        subst hp
        exact ⟨Nat.le_refl _, fun x hx => hx⟩⟩
/-- A text cut at its question marks: fewer than five parts, or five. -/
theorem spl_cases (v : List Nat) (hB : IsB v) : ((spl 4 v).length < 5 ∧ tdP v = none) ∨ ∃ p0 p1 p2 p3 p4, spl 4 v = [p0, p1, p2, p3, p4] ∧ 4 ≤ v.length ∧ (IsB p0 ∧ IsB p1 ∧ IsB p2 ∧ IsB p3 ∧ IsB p4) ∧ (p1.length ≤ v.length ∧ p3.length ≤ v.length ∧ p4.length ≤ v.length) := by
  obtain ⟨h1, h2, h3⟩ := spl_in 4 v
  by_cases h : (spl 4 v).length < 5
  · refine .inl ⟨h, ?_⟩
    unfold tdP
    split
    · rename_i e
      rw [e] at h; simp at h
    · rfl
  · right
    match e : spl 4 v, h1, h2, h3, h with
    | [p0, p1, p2, p3, p4], h1, h2, h3, h =>
      refine ⟨p0, p1, p2, p3, p4, rfl, by simp only [List.length_cons, List.length_nil] at h1; omega, ⟨?_, ?_, ?_, ?_, ?_⟩, ?_, ?_, ?_⟩
      all_goals first | exact fun x hx => hB x ((h3 _ (by simp)).2 x hx) | exact (h3 _ (by simp)).1
    | [], _, _, _, h => simp at h
    | [_], _, _, _, h => simp at h
    | [_, _], _, _, _, h => simp at h
    | [_, _, _], _, _, _, h => simp at h
    | [_, _, _, _], _, _, _, h => simp at h
    | _ :: _ :: _ :: _ :: _ :: _ :: _, _, h2, _, _ => simp at h2
theorem pre_eqB {p : List Nat} (hB : IsB p) : Lib.hasPrefix (str p).data.toList (⟨#[61]⟩ : ByteArray).data.toList = decide (nth p 0 = 61) := by
  show List.isPrefixOf [61] (str p).data.toList = _
  rw [show (str p).data.toList = p.map UInt8.ofNat by simp [str]]
  cases p with
  | nil => rfl
  | cons x l =>
    rw [List.map_cons, List.isPrefixOf, show nth (x :: l) 0 = x from rfl]
    simp only [List.isPrefixOf, Bool.and_true]
    by_cases h : x = 61
    · subst h; rfl
    · have := u8_neW (b := 61) (c := x) (by omega) (hB x (by simp)) (fun e => h e.symm)
      rw [decide_eq_false h]; exact this
theorem toldP_len {p t bs : List Nat} (h : toldP p t = some bs) (hB : IsB t) : bs.length ≤ t.length ∧ IsB bs := by
  unfold toldP at h
  split at h
  · exact toldV_len h hB
  · cases h
/-- A told word, or none. -/
def TdEnd (o : Option (List Int × Nat)) (w : World) (e : Ending) (w' : World) : Prop := match o with
  | none => e = .returned (.tuple #[.agg #[.int .i64 0, .int .i64 0, .slice none 0 0], .bool false]) ∧ Below w.heap.size w w'
  | some r => ∃ v, e = .returned (.tuple #[.agg #[.int .i64 2, .int .i64 (r.2 : Int), v], .bool true]) ∧ OwnI w' w.heap.size v r.1 ∧ Below w.heap.size w w'

set_option maxHeartbeats 1600000 in
set_option maxRecDepth 100000 in
theorem toldAt_any (t : List Nat) (n : Nat) (w : World) (hl : t.length = n) (hB : IsB t) (hn : n ≤ 400) (hc : TabC w) (hb : TabB w) (hh : TabH w) (hm : MaxI w) :
    Calls Tryz.prog 99 #[.string (str t)] w fun e w' => TdEnd (tdP t) w e w' := by
  have hsz : (str t).size = n := by rw [str_size, hl]
  have hb0 : Below w.heap.size w (w.alloc (.cells #[.int .i64 0, .int .i64 0, .slice none 0 0] 121)) := (Below.refl _ _).alloc (Nat.le_refl _) _
  have hsW : (w.alloc (.cells #[.int .i64 0, .int .i64 0, .slice none 0 0] 121)).heap.size = w.heap.size + 1 := by simp
  obtain ⟨m, hm0⟩ := hm.below hb0
  have HS := Tryz.strings_SplitN (str t) ⟨#[63]⟩ 5 m _ (by rw [str_size]; omega) hm0 (by decide) (by decide) (by decide)
  rw [str_size, splB _ t hB, spl_four, hl] at HS
  rcases spl_cases t hB with ⟨h5, hno⟩ | ⟨p0, p1, p2, p3, p4, hsp, hn4, ⟨hB0, hB1, hB2, hB3, hB4⟩, hl1, hl3, hl4⟩
  · rw [hno]
    have hmi : (((spl 4 t).map str).length : Int) < 5 := by rw [List.length_map]; omega
    generalize ((spl 4 t).map str) = L at *
    go_enter Tryz.func99, Tryz.ntmps99
    go_wp2_with fail
    refine HS.mono ?_
    rintro e w1 ⟨rfl, hw1⟩
    generalize hW : w.alloc (.cells #[.int .i64 0, .int .i64 0, .slice none 0 0] 121) = W at *
    have hbl : Below (w.heap.size + 1) W w1 := by rw [hw1]; exact (Below.refl _ _).alloc (by omega) _
    generalize L.length = k at *
    generalize min 5 (n + 1) = N at *
    clear HS hw1 hm0 h5 hno
    obtain ⟨hc0, hc1, hc2, hf0, hf1, hf2⟩ := wblock hW (show Below (w.heap.size + 1) W w1 from hbl)
    obtain ⟨hk0, hk1', hk2'⟩ := wcells hc0 hc1 hc2 (.int .i64 0) (.int .i64 0) (.slice none 0 0)
    have hq0 : (((w1.setCell ⟨w.heap.size, 0, none⟩ (.int .i64 0)).setCell ⟨w.heap.size, 1, none⟩ (.int .i64 0)).setCell ⟨w.heap.size, 2, none⟩ (.slice none 0 0)).cell? ⟨w.heap.size, 0, none⟩ = some (.int .i64 0) := by simp [go_sem, hk0]
    have hq1 : (((w1.setCell ⟨w.heap.size, 0, none⟩ (.int .i64 0)).setCell ⟨w.heap.size, 1, none⟩ (.int .i64 0)).setCell ⟨w.heap.size, 2, none⟩ (.slice none 0 0)).cell? ⟨w.heap.size, 1, none⟩ = some (.int .i64 0) := by simp [go_sem, hk1']
    have hbw := hb0.trans (hbl.mono (by omega))
    go_wp2
    refine bodyPost_ret (v := .tuple #[.agg #[.int .i64 0, .int .i64 0, .slice none 0 0], .bool false]) (by simp [results, Tryz.results99, go_sem, hq0, hq1, hk2']) rfl ?_
    exact ⟨rfl, ((hbw.setCell (by simp) _).setCell (by simp) _).setCell (by simp) _⟩
  · have HTD : Hid (tdP t = if p0 = [61] ∧ nth p4 0 = 61 then (if csI (str (p1.map low)) = 0 then none else match toldP p2 p3 with
        | none => none
        | some bs => (decL (csI (str (p1.map low))) bs).map fun u => (u, n - p4.length + 1)) else none) := by
      show _ = _
      unfold tdP
      rw [hsp, hl]
      rfl
    rw [hsp, show min 5 (n + 1) = 5 by omega, show Lib.cellsOf ([p0, p1, p2, p3, p4].map str) 5 = #[.string (str p0), .string (str p1), .string (str p2), .string (str p3), .string (str p4)] from rfl, show ([p0, p1, p2, p3, p4].map str).length = 5 from rfl] at HS
    have c0 := str_eqB (p := p0) (c := 61) hB0 (by omega)
    rw [show UInt8.ofNat 61 = (61 : UInt8) from rfl] at c0
    have hpre : ∀ w, Calls Tryz.prog 115 #[.string (str p4), .string ⟨#[61]⟩] w fun e w' => e = .returned (.bool (decide (nth p4 0 = 61))) ∧ w' = w := fun w => by
      have := Tryz.strings_HasPrefix (str p4) ⟨#[61]⟩ w
      rw [pre_eqB hB4] at this
      exact this
    have HC := fun w ht => charsetOf_any p1 _ w rfl hB1 (by omega) ht
    have HD := fun w hb hh hm => toldBytes_any p2 p3 _ w hB2 rfl hB3 (by omega) hb hh hm
    have HE : Hid (_) := csfV_csI (str (p1.map low))
    have HO : Hid (toldP p2 p3 = none ∧ obV (toldP p2 p3) = (7, []) ∨ ∃ bs, toldP p2 p3 = some bs ∧ obV (toldP p2 p3) = (0, bs) ∧ bs.length ≤ 400 ∧ IsB bs) := by
      cases h : toldP p2 p3 with
      | none => exact .inl ⟨rfl, rfl⟩
      | some bs =>
        have h2 := toldP_len h hB3
        exact .inr ⟨bs, rfl, rfl, by omega, h2.2⟩
    have HCI := csI_in (str (p1.map low))
    generalize csI (str (p1.map low)) = ci at *
    generalize csfV (str (p1.map low)) = cf at *
    generalize obV (toldP p2 p3) = db at *
    generalize toldP p2 p3 = tp at *
    obtain ⟨cc, cx⟩ := cf
    obtain ⟨dc, bs⟩ := db
    have hsz4 : (str p4).size = p4.length := str_size p4
    generalize tdP t = td at *
    go_enter Tryz.func99, Tryz.ntmps99
    go_wp2_with fail
    refine HS.mono ?_
    rintro e w1 ⟨rfl, hw1⟩
    generalize hW : w.alloc (.cells #[.int .i64 0, .int .i64 0, .slice none 0 0] 121) = W at *
    have hbl : Below (w.heap.size + 1) W w1 := by rw [hw1]; exact (Below.refl _ _).alloc (by omega) _
    have hP : w1.cell? ⟨w.heap.size + 1, 0, none⟩ = some (.string (str p0)) ∧ w1.cell? ⟨w.heap.size + 1, 1, none⟩ = some (.string (str p1)) ∧ w1.cell? ⟨w.heap.size + 1, 2, none⟩ = some (.string (str p2)) ∧ w1.cell? ⟨w.heap.size + 1, 3, none⟩ = some (.string (str p3)) ∧ w1.cell? ⟨w.heap.size + 1, 4, none⟩ = some (.string (str p4)) ∧ w1.heap.size = w.heap.size + 2 := by
      refine ⟨?_, ?_, ?_, ?_, ?_, by rw [hw1]; simp [hsW]⟩
      all_goals (rw [hw1, ← hsW]; simp)
    obtain ⟨hP0, hP1, hP2, hP3, hP4, hz1⟩ := hP
    clear HS hw1 hm0
    by_cases h0 : p0 = [61]
    · rw [decide_eq_true h0] at c0
      by_cases h4 : nth p4 0 = 61
      · have HT : Hid (_) := HTD.out.trans (if_pos ⟨h0, h4⟩)
        rw [decide_eq_true h4] at hpre
        clear HTD h0 h4
        have hbw1 := hb0.trans (hbl.mono (by omega))
        have HX := HC w1 (hc.below hbw1)
        go_wp2_with fail
        refine (hpre _).mono ?_
        rintro e w1' ⟨rfl, hw'⟩
        obtain rfl := hw'.symm
        go_wp2_with fail
        refine HX.mono ?_
        rintro e w2 ⟨rfl, hb2⟩
        simp only
        have hz2 := hb2.size
        have hbl2 : Below (w.heap.size + 1) W w2 := hbl.trans (hb2.mono (by omega))
        have hQ2 : w2.cell? ⟨w.heap.size + 1, 2, none⟩ = some (.string (str p2)) := (hb2.cell (p := ⟨w.heap.size + 1, 2, none⟩) (show w.heap.size + 1 < w1.heap.size by omega)).trans hP2
        have hQ3 : w2.cell? ⟨w.heap.size + 1, 3, none⟩ = some (.string (str p3)) := (hb2.cell (p := ⟨w.heap.size + 1, 3, none⟩) (show w.heap.size + 1 < w1.heap.size by omega)).trans hP3
        have hQ4 : w2.cell? ⟨w.heap.size + 1, 4, none⟩ = some (.string (str p4)) := (hb2.cell (p := ⟨w.heap.size + 1, 4, none⟩) (show w.heap.size + 1 < w1.heap.size by omega)).trans hP4
        have hbA : Below w2.heap.size w2 (w2.alloc (.cells #[.int .i64 cc, .int .i64 cx] 67)) := (Below.refl _ _).alloc (Nat.le_refl _) _
        have hR : Below (w.heap.size + 1) W (w2.alloc (.cells #[.int .i64 cc, .int .i64 cx] 67)) ∧ (w2.alloc (.cells #[.int .i64 cc, .int .i64 cx] 67)).heap.size = w2.heap.size + 1 := ⟨hbl2.trans (hbA.mono (by omega)), by simp⟩
        have hg : (w2.alloc (.cells #[.int .i64 cc, .int .i64 cx] 67)).cell? ⟨w2.heap.size, 0, none⟩ = some (.int .i64 cc) ∧ (w2.alloc (.cells #[.int .i64 cc, .int .i64 cx] 67)).cell? ⟨w2.heap.size, 1, none⟩ = some (.int .i64 cx) := ⟨by simp, by simp⟩
        have hR2 : (w2.alloc (.cells #[.int .i64 cc, .int .i64 cx] 67)).cell? ⟨w.heap.size + 1, 2, none⟩ = some (.string (str p2)) := (hbA.cell (p := ⟨w.heap.size + 1, 2, none⟩) (show w.heap.size + 1 < w2.heap.size by omega)).trans hQ2
        have hR3 : (w2.alloc (.cells #[.int .i64 cc, .int .i64 cx] 67)).cell? ⟨w.heap.size + 1, 3, none⟩ = some (.string (str p3)) := (hbA.cell (p := ⟨w.heap.size + 1, 3, none⟩) (show w.heap.size + 1 < w2.heap.size by omega)).trans hQ3
        have hR4 : (w2.alloc (.cells #[.int .i64 cc, .int .i64 cx] 67)).cell? ⟨w.heap.size + 1, 4, none⟩ = some (.string (str p4)) := (hbA.cell (p := ⟨w.heap.size + 1, 4, none⟩) (show w.heap.size + 1 < w2.heap.size by omega)).trans hQ4
        clear hbl hP0 hP1 hP2 hP3 hP4 hb2 hbl2 hbA hpre c0 hbw1 HC HX hQ2 hQ3 hQ4
        go_wp2_with fail
        generalize (w2.alloc (.cells #[.int .i64 cc, .int .i64 cx] 67)) = W3 at *
        obtain ⟨hbl, hz3⟩ := hR
        obtain ⟨hg0, hg1⟩ := hg
        generalize w2.heap.size = g at *
        have hlt : w.heap.size + 1 < W3.heap.size := by omega
        have hlg : g < W3.heap.size := by omega
        clear hz2 hz3
        have HDX : ∀ w', Below w.heap.size w w' → Calls Tryz.prog 117 #[.string (str p2), .string (str p3)] w' fun e w'' => BytEnd (dc, bs) w' e w'' := fun w' h => HD w' (hb.below h) (hh.below h) (hm.below h)
        have hbw3 : Below w.heap.size w W3 := hb0.trans (hbl.mono (Nat.le_succ _))
        have hbD : Below w.heap.size w W3.drew := hbw3.drew
        have hbD2 : Below w.heap.size w (W3.alloc (.cells #[.int .i64 0, .slice none 0 0] 145)).drew := (hbw3.alloc (by omega) _).drew
        clear HD
        refine wp_region_held_drew (S := fun w' => w'.cell? ⟨w.heap.size + 1, 2, none⟩ = some (.string (str p2)) ∧ w'.cell? ⟨w.heap.size + 1, 3, none⟩ = some (.string (str p3))) (by kernel_rfl) ?hS1 (fun hHeld => ?_)
        case hS1 => exact ⟨hR2, hR3⟩
        refine wpAnyH_take (i := 0) (v := ?_) rfl (by kernel_rfl) (by kernel_rfl) (by kernel_rfl) (fun _ _ _ h => h) (Or.inl ⟨by rfl, ?hy2⟩) (by assumption) ?ty2
        case hy2 => (intro w hSw; (try dsimp only at hSw); go_simp; all_goals with_reducible rfl)
        simp only [Act.put, List.getElem_toArray, List.getElem_cons_zero, List.setIfInBounds_toArray, List.set_cons_zero, List.set_cons_succ]
        refine wpAnyH_take (i := 1) (v := ?_) rfl (by kernel_rfl) (by kernel_rfl) (by kernel_rfl) (fun _ _ _ h => h) (Or.inl ⟨by rfl, ?hy3⟩) (by assumption) ?ty3
        case hy3 => (intro w hSw; (try dsimp only at hSw); go_simp; all_goals with_reducible rfl)
        simp only [Act.put, List.getElem_toArray, List.getElem_cons_zero, List.getElem_cons_succ, List.setIfInBounds_toArray, List.set_cons_zero, List.set_cons_succ]
        refine wpAnyH_take (i := 2) (v := .string (str p2)) rfl (by kernel_rfl) (by kernel_rfl) (by kernel_rfl) (fun _ _ _ h => h) (Or.inl ⟨by rfl, ?hy4⟩) (by assumption) ?ty4
        case hy4 => (intro w hSw; (try dsimp only at hSw); go_simp; first | (simp [hSw.1, hSw.2]; done) | (all_goals with_reducible rfl))
        simp only [Act.put, List.getElem_toArray, List.getElem_cons_zero, List.getElem_cons_succ, List.setIfInBounds_toArray, List.set_cons_zero, List.set_cons_succ]
        refine wpAnyH_take (i := 3) (v := ?_) rfl (by kernel_rfl) (by kernel_rfl) (by kernel_rfl) (fun _ _ _ h => h) (Or.inl ⟨by rfl, ?hy5⟩) (by assumption) ?ty5
        case hy5 => (intro w hSw; (try dsimp only at hSw); go_simp; all_goals with_reducible rfl)
        simp only [Act.put, List.getElem_toArray, List.getElem_cons_zero, List.getElem_cons_succ, List.setIfInBounds_toArray, List.set_cons_zero, List.set_cons_succ]
        refine wpAnyH_take (i := 4) (v := ?_) rfl (by kernel_rfl) (by kernel_rfl) (by kernel_rfl) (fun _ _ _ h => h) (Or.inl ⟨by rfl, ?hy6⟩) (by assumption) ?ty6
        case hy6 => (intro w hSw; (try dsimp only at hSw); go_simp; all_goals with_reducible rfl)
        simp only [Act.put, List.getElem_toArray, List.getElem_cons_zero, List.getElem_cons_succ, List.setIfInBounds_toArray, List.set_cons_zero, List.set_cons_succ]
        refine wpAnyH_take (i := 5) (v := .string (str p3)) rfl (by kernel_rfl) (by kernel_rfl) (by kernel_rfl) (fun _ _ _ h => h) (Or.inl ⟨by rfl, ?hy7⟩) (by assumption) ?ty7
        case hy7 => (intro w hSw; (try dsimp only at hSw); go_simp; first | (simp [hSw.1, hSw.2]; done) | (all_goals with_reducible rfl))
        simp only [Act.put, List.getElem_toArray, List.getElem_cons_zero, List.getElem_cons_succ, List.setIfInBounds_toArray, List.set_cons_zero, List.set_cons_succ]
        refine wpAnyH_ready (rs := [6, 7]) (by kernel_rfl) (by simp) ?_
        refine AllReadyH.cons rfl (fun K hK => ?_) (AllReadyH.cons rfl (fun K hK => ?_) AllReadyH.nil)
        · go_simp
          refine (HDX _ (by exact hbD)).mono ?_
          rintro e w4 ⟨v, rfl, hown, hb4⟩
          obtain ⟨ad, cp, rfl, hcp, -⟩ := hown.form
          simp only
          have hb4' : Below W3.heap.size W3 w4 := (Below.refl _ _).drew.trans hb4
          have hz4 := hb4'.size
          have hbA4 : ∀ ob, Below W3.heap.size W3 (w4.alloc ob) := fun ob => hb4'.alloc hz4 ob
          refine hK.out _ _ ⟨(hb4'.cell (p := ⟨w.heap.size + 1, 2, none⟩) hlt).trans hR2, (hb4'.cell (p := ⟨w.heap.size + 1, 3, none⟩) hlt).trans hR3⟩ (fun hHeld => ?_)
          clear hK K
          refine wpAnyH_ready (rs := [7]) (by kernel_rfl) (by simp) ?_
          refine AllReadyH.cons rfl (fun K hK => ?_) AllReadyH.nil
          go_simp
          refine hK.out _ _ ⟨((hbA4 _).cell (p := ⟨w.heap.size + 1, 2, none⟩) hlt).trans hR2, ((hbA4 _).cell (p := ⟨w.heap.size + 1, 3, none⟩) hlt).trans hR3⟩ (fun hHeld => ?_)
          clear hK K
          refine wpAnyH_ready (rs := [8]) (by kernel_rfl) (by simp) ?_
          refine AllReadyH.cons rfl (fun K hK => ?_) AllReadyH.nil
          go_simp
          refine hK.out _ _ ⟨((hbA4 _).cell (p := ⟨w.heap.size + 1, 2, none⟩) hlt).trans hR2, ((hbA4 _).cell (p := ⟨w.heap.size + 1, 3, none⟩) hlt).trans hR3⟩ (fun hHeld => ?_)
          clear hK K
          refine wpAnyH_done (by kernel_rfl) ?_ _
          have hx0 : (w4.alloc (.cells #[.int .i64 dc, (.slice ad bs.length cp)] 145)).cell? ⟨w4.heap.size, 0, none⟩ = some (.int .i64 dc) := by simp
          have hx1 : (w4.alloc (.cells #[.int .i64 dc, (.slice ad bs.length cp)] 145)).cell? ⟨w4.heap.size, 1, none⟩ = some (.slice ad bs.length cp) := by simp
          have hrd : Rd (w4.alloc (.cells #[.int .i64 dc, (.slice ad bs.length cp)] 145)) ad bs := (hown.alloc _).rd.2
          have hx4 : (w4.alloc (.cells #[.int .i64 dc, (.slice ad bs.length cp)] 145)).cell? ⟨w.heap.size + 1, 4, none⟩ = some (.string (str p4)) := ((hbA4 _).cell (p := ⟨w.heap.size + 1, 4, none⟩) hlt).trans hR4
          have hxg0 : (w4.alloc (.cells #[.int .i64 dc, (.slice ad bs.length cp)] 145)).cell? ⟨g, 0, none⟩ = some (.int .i64 cc) := ((hbA4 _).cell (p := ⟨g, 0, none⟩) hlg).trans hg0
          have hxg1 : (w4.alloc (.cells #[.int .i64 dc, (.slice ad bs.length cp)] 145)).cell? ⟨g, 1, none⟩ = some (.int .i64 cx) := ((hbA4 _).cell (p := ⟨g, 1, none⟩) hlg).trans hg1
          have hblX : Below (w.heap.size + 1) W (w4.alloc (.cells #[.int .i64 dc, (.slice ad bs.length cp)] 145)) := hbl.trans ((hbA4 _).mono (by omega))
          generalize (w4.alloc (.cells #[.int .i64 dc, (.slice ad bs.length cp)] 145)) = X at *
          generalize w4.heap.size = d at *
          clear hbl
          have hbl := hblX
          clear hblX hg0 hg1 hR2 hR3 hR4 hlt hlg hbD hbD2 HDX hbw3
          rcases HE.out with ⟨h1, h2⟩ | ⟨h1, h2⟩
          · obtain ⟨rfl, rfl⟩ := Prod.mk.inj h2
            obtain rfl := HT.out.trans (if_pos h1)
            clear HT HO HE
            obtain ⟨hc0, hc1, hc2, hf0, hf1, hf2⟩ := wblock hW (show Below (w.heap.size + 1) W X from hbl)
            obtain ⟨hk0, hk1', hk2'⟩ := wcells hc0 hc1 hc2 (.int .i64 0) (.int .i64 0) (.slice none 0 0)
            have hq0 : (((X.setCell ⟨w.heap.size, 0, none⟩ (.int .i64 0)).setCell ⟨w.heap.size, 1, none⟩ (.int .i64 0)).setCell ⟨w.heap.size, 2, none⟩ (.slice none 0 0)).cell? ⟨w.heap.size, 0, none⟩ = some (.int .i64 0) := by simp [go_sem, hk0]
            have hq1 : (((X.setCell ⟨w.heap.size, 0, none⟩ (.int .i64 0)).setCell ⟨w.heap.size, 1, none⟩ (.int .i64 0)).setCell ⟨w.heap.size, 2, none⟩ (.slice none 0 0)).cell? ⟨w.heap.size, 1, none⟩ = some (.int .i64 0) := by simp [go_sem, hk1']
            have hbw := hb0.trans (hbl.mono (by omega))
            go_wp2
            refine bodyPost_ret (v := .tuple #[.agg #[.int .i64 0, .int .i64 0, .slice none 0 0], .bool false]) (by simp [results, Tryz.results99, go_sem, hq0, hq1, hk2']) rfl ?_
            exact ⟨rfl, ((hbw.setCell (by simp) _).setCell (by simp) _).setCell (by simp) _⟩
          · obtain ⟨rfl, rfl⟩ := Prod.mk.inj h2
            have HT2 : Hid (_) := HT.out.trans (if_neg h1)
            clear HT HE
            rcases HO.out with ⟨rfl, h4⟩ | ⟨b2, rfl, h4, h5, h6⟩
            · obtain ⟨rfl, rfl⟩ := Prod.mk.inj h4
              obtain rfl := HT2.out
              clear HT2 HO h1
              obtain ⟨hc0, hc1, hc2, hf0, hf1, hf2⟩ := wblock hW (show Below (w.heap.size + 1) W X from hbl)
              obtain ⟨hk0, hk1', hk2'⟩ := wcells hc0 hc1 hc2 (.int .i64 0) (.int .i64 0) (.slice none 0 0)
              have hq0 : (((X.setCell ⟨w.heap.size, 0, none⟩ (.int .i64 0)).setCell ⟨w.heap.size, 1, none⟩ (.int .i64 0)).setCell ⟨w.heap.size, 2, none⟩ (.slice none 0 0)).cell? ⟨w.heap.size, 0, none⟩ = some (.int .i64 0) := by simp [go_sem, hk0]
              have hq1 : (((X.setCell ⟨w.heap.size, 0, none⟩ (.int .i64 0)).setCell ⟨w.heap.size, 1, none⟩ (.int .i64 0)).setCell ⟨w.heap.size, 2, none⟩ (.slice none 0 0)).cell? ⟨w.heap.size, 1, none⟩ = some (.int .i64 0) := by simp [go_sem, hk1']
              have hbw := hb0.trans (hbl.mono (by omega))
              go_wp2
              refine bodyPost_ret (v := .tuple #[.agg #[.int .i64 0, .int .i64 0, .slice none 0 0], .bool false]) (by simp [results, Tryz.results99, go_sem, hq0, hq1, hk2']) rfl ?_
              exact ⟨rfl, ((hbw.setCell (by simp) _).setCell (by simp) _).setCell (by simp) _⟩
            · obtain ⟨rfl, rfl⟩ := Prod.mk.inj h4
              have hci := HCI.resolve_left h1
              have HF := decodeText_any cx ad _ cp bs X rfl hrd h6 hcp
              have hbwX := hb0.trans (hbl.mono (Nat.le_succ _))
              have hzX := hbl.size
              clear HO h1 HCI h2 h4
              cases hd : decL cx bs with
              | none =>
                rw [decT_no hci (by omega) hd] at HF
                obtain rfl : td = none := by rw [HT2.out]; simp only; rw [hd]; rfl
                clear HT2
                go_wp2_with fail
                refine HF.mono ?_
                rintro e w6 ⟨v6, rfl, hown6, hb6⟩
                obtain ⟨a6, c6, rfl, -, -⟩ := hown6.form
                simp only
                have hz6 := hb6.size
                have hbl6 : Below (w.heap.size + 1) W w6 := hbl.trans (hb6.mono (by omega))
                have hbw6 := hbwX.trans (hb6.mono (by omega))
                have hlt6 : w.heap.size < w6.heap.size := by omega
                obtain ⟨hc0, hc1, hc2, hf0, hf1, hf2⟩ := wblock hW hbl6
                obtain ⟨hk0, hk1', hk2'⟩ := wcells hc0 hc1 hc2 (.int .i64 0) (.int .i64 0) (.slice none 0 0)
                have hq0 : ∀ ob, ((((w6.setCell ⟨w.heap.size, 0, none⟩ (.int .i64 0)).setCell ⟨w.heap.size, 1, none⟩ (.int .i64 0)).setCell ⟨w.heap.size, 2, none⟩ (.slice none 0 0)).alloc ob).cell? ⟨w.heap.size, 0, none⟩ = some (.int .i64 0) := fun ob => by
                  rw [World.cell?_alloc_old _ _ _ (by simp; omega)]
                  simp [go_sem, hk0]
                have hq1 : ∀ ob, ((((w6.setCell ⟨w.heap.size, 0, none⟩ (.int .i64 0)).setCell ⟨w.heap.size, 1, none⟩ (.int .i64 0)).setCell ⟨w.heap.size, 2, none⟩ (.slice none 0 0)).alloc ob).cell? ⟨w.heap.size, 1, none⟩ = some (.int .i64 0) := fun ob => by
                  rw [World.cell?_alloc_old _ _ _ (by simp; omega)]
                  simp [go_sem, hk1']
                have hq2 : ∀ ob, ((((w6.setCell ⟨w.heap.size, 0, none⟩ (.int .i64 0)).setCell ⟨w.heap.size, 1, none⟩ (.int .i64 0)).setCell ⟨w.heap.size, 2, none⟩ (.slice none 0 0)).alloc ob).cell? ⟨w.heap.size, 2, none⟩ = some (.slice none 0 0) := fun ob => by
                  rw [World.cell?_alloc_old _ _ _ (by simp; omega)]
                  exact hk2'
                have hbZ : ∀ ob, Below w.heap.size w ((((w6.setCell ⟨w.heap.size, 0, none⟩ (.int .i64 0)).setCell ⟨w.heap.size, 1, none⟩ (.int .i64 0)).setCell ⟨w.heap.size, 2, none⟩ (.slice none 0 0)).alloc ob) := fun ob => (((hbw6.setCell (p := ⟨w.heap.size, 0, none⟩) (by simp) (.int .i64 0)).setCell (p := ⟨w.heap.size, 1, none⟩) (by simp) (.int .i64 0)).setCell (p := ⟨w.heap.size, 2, none⟩) (by simp) (.slice none 0 0)).alloc (by simp; omega) ob
                go_wp2
                refine bodyPost_ret (v := .tuple #[.agg #[.int .i64 0, .int .i64 0, .slice none 0 0], .bool false]) (by simp [results, Tryz.results99, go_sem, hq0, hq1, hq2]) rfl ?_
                exact ⟨rfl, hbZ _⟩
              | some u =>
                rw [decT_ok hci (by omega) hd] at HF
                obtain ⟨k, hk⟩ : ∃ k, n - p4.length + 1 = k := ⟨_, rfl⟩
                obtain rfl : td = some (u, k) := by rw [HT2.out]; simp only; rw [hd, hk]; rfl
                clear HT2
                have hkI : (n : Int) - (p4.length : Int) + 1 = (k : Int) := by omega
                go_wp2_with fail
                refine HF.mono ?_
                rintro e w6 ⟨v6, rfl, hown6, hb6⟩
                obtain ⟨a6, c6, rfl, -, -⟩ := hown6.form
                simp only
                have hz6 := hb6.size
                have hbl6 : Below (w.heap.size + 1) W w6 := hbl.trans (hb6.mono (by omega))
                have hbw6 := hbwX.trans (hb6.mono (by omega))
                have hlt6 : w.heap.size < w6.heap.size := by omega
                have hw4 : w6.cell? ⟨w.heap.size + 1, 4, none⟩ = some (.string (str p4)) := (hb6.cell (p := ⟨w.heap.size + 1, 4, none⟩) (World.block_lt_of_cell? _ _ hx4)).trans hx4
                have hlt6' : w.heap.size + 1 < w6.heap.size := Nat.lt_of_lt_of_le (World.block_lt_of_cell? _ _ hx4) hz6
                obtain ⟨hc0, hc1, hc2, hf0, hf1, hf2⟩ := wblock hW hbl6
                obtain ⟨hk0, hk1', hk2'⟩ := wcells hc0 hc1 hc2 (.int .i64 2) (.int .i64 (k : Int)) (.slice a6 u.length c6)
                have hq0 : ∀ ob, ((((w6.setCell ⟨w.heap.size, 0, none⟩ (.int .i64 2)).setCell ⟨w.heap.size, 1, none⟩ (.int .i64 (k : Int))).setCell ⟨w.heap.size, 2, none⟩ (.slice a6 u.length c6)).alloc ob).cell? ⟨w.heap.size, 0, none⟩ = some (.int .i64 2) := fun ob => by
                  rw [World.cell?_alloc_old _ _ _ (by simp; omega)]
                  simp [go_sem, hk0]
                have hq1 : ∀ ob, ((((w6.setCell ⟨w.heap.size, 0, none⟩ (.int .i64 2)).setCell ⟨w.heap.size, 1, none⟩ (.int .i64 (k : Int))).setCell ⟨w.heap.size, 2, none⟩ (.slice a6 u.length c6)).alloc ob).cell? ⟨w.heap.size, 1, none⟩ = some (.int .i64 (k : Int)) := fun ob => by
                  rw [World.cell?_alloc_old _ _ _ (by simp; omega)]
                  simp [go_sem, hk1']
                have hq2 : ∀ ob, ((((w6.setCell ⟨w.heap.size, 0, none⟩ (.int .i64 2)).setCell ⟨w.heap.size, 1, none⟩ (.int .i64 (k : Int))).setCell ⟨w.heap.size, 2, none⟩ (.slice a6 u.length c6)).alloc ob).cell? ⟨w.heap.size, 2, none⟩ = some (.slice a6 u.length c6) := fun ob => by
                  rw [World.cell?_alloc_old _ _ _ (by simp; omega)]
                  exact hk2'
                have hbZ : ∀ ob, Below w.heap.size w ((((w6.setCell ⟨w.heap.size, 0, none⟩ (.int .i64 2)).setCell ⟨w.heap.size, 1, none⟩ (.int .i64 (k : Int))).setCell ⟨w.heap.size, 2, none⟩ (.slice a6 u.length c6)).alloc ob) := fun ob => (((hbw6.setCell (p := ⟨w.heap.size, 0, none⟩) (by simp) (.int .i64 2)).setCell (p := ⟨w.heap.size, 1, none⟩) (by simp) (.int .i64 (k : Int))).setCell (p := ⟨w.heap.size, 2, none⟩) (by simp) (.slice a6 u.length c6)).alloc (by simp; omega) ob
                have hO : ∀ ob, OwnI ((((w6.setCell ⟨w.heap.size, 0, none⟩ (.int .i64 2)).setCell ⟨w.heap.size, 1, none⟩ (.int .i64 (k : Int))).setCell ⟨w.heap.size, 2, none⟩ (.slice a6 u.length c6)).alloc ob) w.heap.size (.slice a6 u.length c6) u := fun ob => ((((hown6.lower (C := w.heap.size + 1) (by omega)).kept ⟨w.heap.size, 0, none⟩ (by simp) (.int .i64 2)).kept ⟨w.heap.size, 1, none⟩ (by simp) (.int .i64 (k : Int))).kept ⟨w.heap.size, 2, none⟩ (by simp) (.slice a6 u.length c6)).lower (Nat.le_succ _) |>.alloc ob
                go_wp2
                refine bodyPost_ret (v := .tuple #[.agg #[.int .i64 2, .int .i64 (k : Int), .slice a6 u.length c6], .bool true]) (by simp [results, Tryz.results99, go_sem, hq0, hq1, hq2]) rfl ?_
                exact ⟨_, rfl, hO _, hbZ _⟩
        · go_simp
          have hbA := (Below.refl W3.heap.size W3).alloc (Nat.le_refl _) (.cells #[.int .i64 0, .slice none 0 0] 145)
          refine hK.out _ _ ⟨(hbA.cell (p := ⟨w.heap.size + 1, 2, none⟩) hlt).trans hR2, (hbA.cell (p := ⟨w.heap.size + 1, 3, none⟩) hlt).trans hR3⟩ (fun hHeld => ?_)
          clear hK K
          refine wpAnyH_ready (rs := [6]) (by kernel_rfl) (by simp) ?_
          refine AllReadyH.cons rfl (fun K hK => ?_) AllReadyH.nil
          go_simp
          refine (HDX _ (by exact hbD2)).mono ?_
          rintro e w4 ⟨v, rfl, hown, hb4⟩
          obtain ⟨ad, cp, rfl, hcp, -⟩ := hown.form
          simp only
          have hsA : (W3.alloc (.cells #[.int .i64 0, .slice none 0 0] 145)).heap.size = W3.heap.size + 1 := by simp
          have hb4' : Below (W3.heap.size + 1) (W3.alloc (.cells #[.int .i64 0, .slice none 0 0] 145)) w4 := ((Below.refl _ _).drew.trans hb4).mono (Nat.le_of_eq hsA.symm)
          have hown4 : Own w4 (W3.heap.size + 1) (.slice ad bs.length cp) bs := hown.lower (Nat.le_of_eq hsA.symm)
          have hbX : Below W3.heap.size W3 w4 := hbA.trans (hb4'.mono (Nat.le_succ _))
          obtain ⟨hd0, hd1, hdf0, hdf1⟩ := res_block rfl hb4'
          obtain ⟨hk0, hk1⟩ := res_cells hd0 hd1 (.int .i64 dc) (.slice ad bs.length cp)
          refine hK.out _ _ ⟨(hbX.cell (p := ⟨w.heap.size + 1, 2, none⟩) hlt).trans hR2, (hbX.cell (p := ⟨w.heap.size + 1, 3, none⟩) hlt).trans hR3⟩ (fun hHeld => ?_)
          clear hK K
          have hbY : Below W3.heap.size W3 ((w4.setCell ⟨W3.heap.size, 0, none⟩ (.int .i64 dc)).setCell ⟨W3.heap.size, 1, none⟩ (.slice ad bs.length cp)) := (hbX.setCell (by simp) _).setCell (by simp) _
          refine wpAnyH_ready (rs := [8]) (by kernel_rfl) (by simp) ?_
          refine AllReadyH.cons rfl (fun K hK => ?_) AllReadyH.nil
          go_simp
          refine hK.out _ _ ⟨(hbY.cell (p := ⟨w.heap.size + 1, 2, none⟩) hlt).trans hR2, (hbY.cell (p := ⟨w.heap.size + 1, 3, none⟩) hlt).trans hR3⟩ (fun hHeld => ?_)
          clear hK K
          refine wpAnyH_done (by kernel_rfl) ?_ _
          have hx0 : ((w4.setCell ⟨W3.heap.size, 0, none⟩ (.int .i64 dc)).setCell ⟨W3.heap.size, 1, none⟩ (.slice ad bs.length cp)).cell? ⟨W3.heap.size, 0, none⟩ = some (.int .i64 dc) := by simp [go_sem, hk0]
          have hx1 : ((w4.setCell ⟨W3.heap.size, 0, none⟩ (.int .i64 dc)).setCell ⟨W3.heap.size, 1, none⟩ (.slice ad bs.length cp)).cell? ⟨W3.heap.size, 1, none⟩ = some (.slice ad bs.length cp) := hk1
          have hrd : Rd ((w4.setCell ⟨W3.heap.size, 0, none⟩ (.int .i64 dc)).setCell ⟨W3.heap.size, 1, none⟩ (.slice ad bs.length cp)) ad bs := ((hown4.kept ⟨W3.heap.size, 0, none⟩ (by simp) (.int .i64 dc)).kept ⟨W3.heap.size, 1, none⟩ (by simp) (.slice ad bs.length cp)).rd.2
          have hx4 : ((w4.setCell ⟨W3.heap.size, 0, none⟩ (.int .i64 dc)).setCell ⟨W3.heap.size, 1, none⟩ (.slice ad bs.length cp)).cell? ⟨w.heap.size + 1, 4, none⟩ = some (.string (str p4)) := (hbY.cell (p := ⟨w.heap.size + 1, 4, none⟩) hlt).trans hR4
          have hxg0 : ((w4.setCell ⟨W3.heap.size, 0, none⟩ (.int .i64 dc)).setCell ⟨W3.heap.size, 1, none⟩ (.slice ad bs.length cp)).cell? ⟨g, 0, none⟩ = some (.int .i64 cc) := (hbY.cell (p := ⟨g, 0, none⟩) hlg).trans hg0
          have hxg1 : ((w4.setCell ⟨W3.heap.size, 0, none⟩ (.int .i64 dc)).setCell ⟨W3.heap.size, 1, none⟩ (.slice ad bs.length cp)).cell? ⟨g, 1, none⟩ = some (.int .i64 cx) := (hbY.cell (p := ⟨g, 1, none⟩) hlg).trans hg1
          have hblX : Below (w.heap.size + 1) W ((w4.setCell ⟨W3.heap.size, 0, none⟩ (.int .i64 dc)).setCell ⟨W3.heap.size, 1, none⟩ (.slice ad bs.length cp)) := hbl.trans (hbY.mono (by omega))
          generalize ((w4.setCell ⟨W3.heap.size, 0, none⟩ (.int .i64 dc)).setCell ⟨W3.heap.size, 1, none⟩ (.slice ad bs.length cp)) = X at *
          generalize W3.heap.size = d at *
          clear hbl
          have hbl := hblX
          clear hblX hg0 hg1 hR2 hR3 hR4 hlt hlg hbD hbD2 HDX hbw3
          rcases HE.out with ⟨h1, h2⟩ | ⟨h1, h2⟩
          · obtain ⟨rfl, rfl⟩ := Prod.mk.inj h2
            obtain rfl := HT.out.trans (if_pos h1)
            clear HT HO HE
            obtain ⟨hc0, hc1, hc2, hf0, hf1, hf2⟩ := wblock hW (show Below (w.heap.size + 1) W X from hbl)
            obtain ⟨hk0, hk1', hk2'⟩ := wcells hc0 hc1 hc2 (.int .i64 0) (.int .i64 0) (.slice none 0 0)
            have hq0 : (((X.setCell ⟨w.heap.size, 0, none⟩ (.int .i64 0)).setCell ⟨w.heap.size, 1, none⟩ (.int .i64 0)).setCell ⟨w.heap.size, 2, none⟩ (.slice none 0 0)).cell? ⟨w.heap.size, 0, none⟩ = some (.int .i64 0) := by simp [go_sem, hk0]
            have hq1 : (((X.setCell ⟨w.heap.size, 0, none⟩ (.int .i64 0)).setCell ⟨w.heap.size, 1, none⟩ (.int .i64 0)).setCell ⟨w.heap.size, 2, none⟩ (.slice none 0 0)).cell? ⟨w.heap.size, 1, none⟩ = some (.int .i64 0) := by simp [go_sem, hk1']
            have hbw := hb0.trans (hbl.mono (by omega))
            go_wp2
            refine bodyPost_ret (v := .tuple #[.agg #[.int .i64 0, .int .i64 0, .slice none 0 0], .bool false]) (by simp [results, Tryz.results99, go_sem, hq0, hq1, hk2']) rfl ?_
            exact ⟨rfl, ((hbw.setCell (by simp) _).setCell (by simp) _).setCell (by simp) _⟩
          · obtain ⟨rfl, rfl⟩ := Prod.mk.inj h2
            have HT2 : Hid (_) := HT.out.trans (if_neg h1)
            clear HT HE
            rcases HO.out with ⟨rfl, h4⟩ | ⟨b2, rfl, h4, h5, h6⟩
            · obtain ⟨rfl, rfl⟩ := Prod.mk.inj h4
              obtain rfl := HT2.out
              clear HT2 HO h1
              obtain ⟨hc0, hc1, hc2, hf0, hf1, hf2⟩ := wblock hW (show Below (w.heap.size + 1) W X from hbl)
              obtain ⟨hk0, hk1', hk2'⟩ := wcells hc0 hc1 hc2 (.int .i64 0) (.int .i64 0) (.slice none 0 0)
              have hq0 : (((X.setCell ⟨w.heap.size, 0, none⟩ (.int .i64 0)).setCell ⟨w.heap.size, 1, none⟩ (.int .i64 0)).setCell ⟨w.heap.size, 2, none⟩ (.slice none 0 0)).cell? ⟨w.heap.size, 0, none⟩ = some (.int .i64 0) := by simp [go_sem, hk0]
              have hq1 : (((X.setCell ⟨w.heap.size, 0, none⟩ (.int .i64 0)).setCell ⟨w.heap.size, 1, none⟩ (.int .i64 0)).setCell ⟨w.heap.size, 2, none⟩ (.slice none 0 0)).cell? ⟨w.heap.size, 1, none⟩ = some (.int .i64 0) := by simp [go_sem, hk1']
              have hbw := hb0.trans (hbl.mono (by omega))
              go_wp2
              refine bodyPost_ret (v := .tuple #[.agg #[.int .i64 0, .int .i64 0, .slice none 0 0], .bool false]) (by simp [results, Tryz.results99, go_sem, hq0, hq1, hk2']) rfl ?_
              exact ⟨rfl, ((hbw.setCell (by simp) _).setCell (by simp) _).setCell (by simp) _⟩
            · obtain ⟨rfl, rfl⟩ := Prod.mk.inj h4
              have hci := HCI.resolve_left h1
              have HF := decodeText_any cx ad _ cp bs X rfl hrd h6 hcp
              have hbwX := hb0.trans (hbl.mono (Nat.le_succ _))
              have hzX := hbl.size
              clear HO h1 HCI h2 h4
              cases hd : decL cx bs with
              | none =>
                rw [decT_no hci (by omega) hd] at HF
                obtain rfl : td = none := by rw [HT2.out]; simp only; rw [hd]; rfl
                clear HT2
                go_wp2_with fail
                refine HF.mono ?_
                rintro e w6 ⟨v6, rfl, hown6, hb6⟩
                obtain ⟨a6, c6, rfl, -, -⟩ := hown6.form
                simp only
                have hz6 := hb6.size
                have hbl6 : Below (w.heap.size + 1) W w6 := hbl.trans (hb6.mono (by omega))
                have hbw6 := hbwX.trans (hb6.mono (by omega))
                have hlt6 : w.heap.size < w6.heap.size := by omega
                obtain ⟨hc0, hc1, hc2, hf0, hf1, hf2⟩ := wblock hW hbl6
                obtain ⟨hk0, hk1', hk2'⟩ := wcells hc0 hc1 hc2 (.int .i64 0) (.int .i64 0) (.slice none 0 0)
                have hq0 : ∀ ob, ((((w6.setCell ⟨w.heap.size, 0, none⟩ (.int .i64 0)).setCell ⟨w.heap.size, 1, none⟩ (.int .i64 0)).setCell ⟨w.heap.size, 2, none⟩ (.slice none 0 0)).alloc ob).cell? ⟨w.heap.size, 0, none⟩ = some (.int .i64 0) := fun ob => by
                  rw [World.cell?_alloc_old _ _ _ (by simp; omega)]
                  simp [go_sem, hk0]
                have hq1 : ∀ ob, ((((w6.setCell ⟨w.heap.size, 0, none⟩ (.int .i64 0)).setCell ⟨w.heap.size, 1, none⟩ (.int .i64 0)).setCell ⟨w.heap.size, 2, none⟩ (.slice none 0 0)).alloc ob).cell? ⟨w.heap.size, 1, none⟩ = some (.int .i64 0) := fun ob => by
                  rw [World.cell?_alloc_old _ _ _ (by simp; omega)]
                  simp [go_sem, hk1']
                have hq2 : ∀ ob, ((((w6.setCell ⟨w.heap.size, 0, none⟩ (.int .i64 0)).setCell ⟨w.heap.size, 1, none⟩ (.int .i64 0)).setCell ⟨w.heap.size, 2, none⟩ (.slice none 0 0)).alloc ob).cell? ⟨w.heap.size, 2, none⟩ = some (.slice none 0 0) := fun ob => by
                  rw [World.cell?_alloc_old _ _ _ (by simp; omega)]
                  exact hk2'
                have hbZ : ∀ ob, Below w.heap.size w ((((w6.setCell ⟨w.heap.size, 0, none⟩ (.int .i64 0)).setCell ⟨w.heap.size, 1, none⟩ (.int .i64 0)).setCell ⟨w.heap.size, 2, none⟩ (.slice none 0 0)).alloc ob) := fun ob => (((hbw6.setCell (p := ⟨w.heap.size, 0, none⟩) (by simp) (.int .i64 0)).setCell (p := ⟨w.heap.size, 1, none⟩) (by simp) (.int .i64 0)).setCell (p := ⟨w.heap.size, 2, none⟩) (by simp) (.slice none 0 0)).alloc (by simp; omega) ob
                go_wp2
                refine bodyPost_ret (v := .tuple #[.agg #[.int .i64 0, .int .i64 0, .slice none 0 0], .bool false]) (by simp [results, Tryz.results99, go_sem, hq0, hq1, hq2]) rfl ?_
                exact ⟨rfl, hbZ _⟩
              | some u =>
                rw [decT_ok hci (by omega) hd] at HF
                obtain ⟨k, hk⟩ : ∃ k, n - p4.length + 1 = k := ⟨_, rfl⟩
                obtain rfl : td = some (u, k) := by rw [HT2.out]; simp only; rw [hd, hk]; rfl
                clear HT2
                have hkI : (n : Int) - (p4.length : Int) + 1 = (k : Int) := by omega
                go_wp2_with fail
                refine HF.mono ?_
                rintro e w6 ⟨v6, rfl, hown6, hb6⟩
                obtain ⟨a6, c6, rfl, -, -⟩ := hown6.form
                simp only
                have hz6 := hb6.size
                have hbl6 : Below (w.heap.size + 1) W w6 := hbl.trans (hb6.mono (by omega))
                have hbw6 := hbwX.trans (hb6.mono (by omega))
                have hlt6 : w.heap.size < w6.heap.size := by omega
                have hw4 : w6.cell? ⟨w.heap.size + 1, 4, none⟩ = some (.string (str p4)) := (hb6.cell (p := ⟨w.heap.size + 1, 4, none⟩) (World.block_lt_of_cell? _ _ hx4)).trans hx4
                have hlt6' : w.heap.size + 1 < w6.heap.size := Nat.lt_of_lt_of_le (World.block_lt_of_cell? _ _ hx4) hz6
                obtain ⟨hc0, hc1, hc2, hf0, hf1, hf2⟩ := wblock hW hbl6
                obtain ⟨hk0, hk1', hk2'⟩ := wcells hc0 hc1 hc2 (.int .i64 2) (.int .i64 (k : Int)) (.slice a6 u.length c6)
                have hq0 : ∀ ob, ((((w6.setCell ⟨w.heap.size, 0, none⟩ (.int .i64 2)).setCell ⟨w.heap.size, 1, none⟩ (.int .i64 (k : Int))).setCell ⟨w.heap.size, 2, none⟩ (.slice a6 u.length c6)).alloc ob).cell? ⟨w.heap.size, 0, none⟩ = some (.int .i64 2) := fun ob => by
                  rw [World.cell?_alloc_old _ _ _ (by simp; omega)]
                  simp [go_sem, hk0]
                have hq1 : ∀ ob, ((((w6.setCell ⟨w.heap.size, 0, none⟩ (.int .i64 2)).setCell ⟨w.heap.size, 1, none⟩ (.int .i64 (k : Int))).setCell ⟨w.heap.size, 2, none⟩ (.slice a6 u.length c6)).alloc ob).cell? ⟨w.heap.size, 1, none⟩ = some (.int .i64 (k : Int)) := fun ob => by
                  rw [World.cell?_alloc_old _ _ _ (by simp; omega)]
                  simp [go_sem, hk1']
                have hq2 : ∀ ob, ((((w6.setCell ⟨w.heap.size, 0, none⟩ (.int .i64 2)).setCell ⟨w.heap.size, 1, none⟩ (.int .i64 (k : Int))).setCell ⟨w.heap.size, 2, none⟩ (.slice a6 u.length c6)).alloc ob).cell? ⟨w.heap.size, 2, none⟩ = some (.slice a6 u.length c6) := fun ob => by
                  rw [World.cell?_alloc_old _ _ _ (by simp; omega)]
                  exact hk2'
                have hbZ : ∀ ob, Below w.heap.size w ((((w6.setCell ⟨w.heap.size, 0, none⟩ (.int .i64 2)).setCell ⟨w.heap.size, 1, none⟩ (.int .i64 (k : Int))).setCell ⟨w.heap.size, 2, none⟩ (.slice a6 u.length c6)).alloc ob) := fun ob => (((hbw6.setCell (p := ⟨w.heap.size, 0, none⟩) (by simp) (.int .i64 2)).setCell (p := ⟨w.heap.size, 1, none⟩) (by simp) (.int .i64 (k : Int))).setCell (p := ⟨w.heap.size, 2, none⟩) (by simp) (.slice a6 u.length c6)).alloc (by simp; omega) ob
                have hO : ∀ ob, OwnI ((((w6.setCell ⟨w.heap.size, 0, none⟩ (.int .i64 2)).setCell ⟨w.heap.size, 1, none⟩ (.int .i64 (k : Int))).setCell ⟨w.heap.size, 2, none⟩ (.slice a6 u.length c6)).alloc ob) w.heap.size (.slice a6 u.length c6) u := fun ob => ((((hown6.lower (C := w.heap.size + 1) (by omega)).kept ⟨w.heap.size, 0, none⟩ (by simp) (.int .i64 2)).kept ⟨w.heap.size, 1, none⟩ (by simp) (.int .i64 (k : Int))).kept ⟨w.heap.size, 2, none⟩ (by simp) (.slice a6 u.length c6)).lower (Nat.le_succ _) |>.alloc ob
                go_wp2
                refine bodyPost_ret (v := .tuple #[.agg #[.int .i64 2, .int .i64 (k : Int), .slice a6 u.length c6], .bool true]) (by simp [results, Tryz.results99, go_sem, hq0, hq1, hq2]) rfl ?_
                exact ⟨_, rfl, hO _, hbZ _⟩
      · obtain rfl := HTD.out.trans (if_neg (fun h => h4 h.2))
        rw [decide_eq_false h4] at hpre
        clear HTD h0 h4 HC HD HE
        go_wp2_with fail
        refine (hpre _).mono ?_
        rintro e w1' ⟨rfl, hw'⟩
        obtain rfl := hw'.symm
        obtain ⟨hc0, hc1, hc2, hf0, hf1, hf2⟩ := wblock hW (show Below (w.heap.size + 1) W w1 from hbl)
        obtain ⟨hk0, hk1', hk2'⟩ := wcells hc0 hc1 hc2 (.int .i64 0) (.int .i64 0) (.slice none 0 0)
        have hq0 : (((w1.setCell ⟨w.heap.size, 0, none⟩ (.int .i64 0)).setCell ⟨w.heap.size, 1, none⟩ (.int .i64 0)).setCell ⟨w.heap.size, 2, none⟩ (.slice none 0 0)).cell? ⟨w.heap.size, 0, none⟩ = some (.int .i64 0) := by simp [go_sem, hk0]
        have hq1 : (((w1.setCell ⟨w.heap.size, 0, none⟩ (.int .i64 0)).setCell ⟨w.heap.size, 1, none⟩ (.int .i64 0)).setCell ⟨w.heap.size, 2, none⟩ (.slice none 0 0)).cell? ⟨w.heap.size, 1, none⟩ = some (.int .i64 0) := by simp [go_sem, hk1']
        have hbw := hb0.trans (hbl.mono (by omega))
        go_wp2
        refine bodyPost_ret (v := .tuple #[.agg #[.int .i64 0, .int .i64 0, .slice none 0 0], .bool false]) (by simp [results, Tryz.results99, go_sem, hq0, hq1, hk2']) rfl ?_
        exact ⟨rfl, ((hbw.setCell (by simp) _).setCell (by simp) _).setCell (by simp) _⟩
    · obtain rfl := HTD.out.trans (if_neg (fun h => h0 h.1))
      rw [decide_eq_false h0] at c0
      clear HTD h0 HC HD HE
      obtain ⟨hc0, hc1, hc2, hf0, hf1, hf2⟩ := wblock hW (show Below (w.heap.size + 1) W w1 from hbl)
      obtain ⟨hk0, hk1', hk2'⟩ := wcells hc0 hc1 hc2 (.int .i64 0) (.int .i64 0) (.slice none 0 0)
      have hq0 : (((w1.setCell ⟨w.heap.size, 0, none⟩ (.int .i64 0)).setCell ⟨w.heap.size, 1, none⟩ (.int .i64 0)).setCell ⟨w.heap.size, 2, none⟩ (.slice none 0 0)).cell? ⟨w.heap.size, 0, none⟩ = some (.int .i64 0) := by simp [go_sem, hk0]
      have hq1 : (((w1.setCell ⟨w.heap.size, 0, none⟩ (.int .i64 0)).setCell ⟨w.heap.size, 1, none⟩ (.int .i64 0)).setCell ⟨w.heap.size, 2, none⟩ (.slice none 0 0)).cell? ⟨w.heap.size, 1, none⟩ = some (.int .i64 0) := by simp [go_sem, hk1']
      have hbw := hb0.trans (hbl.mono (by omega))
      go_wp2
      refine bodyPost_ret (v := .tuple #[.agg #[.int .i64 0, .int .i64 0, .slice none 0 0], .bool false]) (by simp [results, Tryz.results99, go_sem, hq0, hq1, hk2']) rfl ?_
      exact ⟨rfl, ((hbw.setCell (by simp) _).setCell (by simp) _).setCell (by simp) _⟩
end Go.Proofs.YtfbjodbihenmjaaGreatDoor
