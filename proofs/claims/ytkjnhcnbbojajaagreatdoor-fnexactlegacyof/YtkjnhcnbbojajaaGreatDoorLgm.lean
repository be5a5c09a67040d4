/- LegacyOf: plain values by plain functions; plainValue, the program's, and l6High, the model's. -/
import Derived.Test.YtkjnhcnbbojajaaGreatDoorSbj
import Derived.Test.YtkjnhcnbbojajaaGreatDoorPln
import Derived.Test.YtkjnhcnbbojajaaGreatDoorEwPToPkB
import Derived.Test.YtkjnhcnbbojajaaGreatDoorWpEToWrd4a
import Derived.Test.YtkjnhcnbbojajaaGreatDoorFdpToHdr2
namespace Go.Proofs.YtkjnhcnbbojajaaGreatDoor
open Go.RowKit

theorem dig_val {v : Nat} (h : v < 64) : 32 ≤ Xf.dig v ∧ Xf.dig v ≤ 126 := by
  have : ∀ v, v < 64 → 32 ≤ Xf.dig v ∧ Xf.dig v ≤ 126 := by decide
  exact this v h
theorem enc_val : ∀ l : List Nat, IsB l → ∀ x ∈ Xf.enc l, 32 ≤ x ∧ x ≤ 126
  | [], _ => by simp [Xf.enc]
  | [a], h => by
    have ha := h a (by simp)
    intro x hx
    simp only [Xf.enc, List.mem_cons, List.not_mem_nil, or_false] at hx
    rcases hx with rfl | rfl | rfl | rfl
    · exact dig_val (by omega)
    · exact dig_val (by omega)
    · omega
    · omega
  | [a, b], h => by
    have ha := h a (by simp)
    have hb := h b (by simp)
    intro x hx
    simp only [Xf.enc, List.mem_cons, List.not_mem_nil, or_false] at hx
    rcases hx with rfl | rfl | rfl | rfl
    · exact dig_val (by omega)
    · exact dig_val (by omega)
    · exact dig_val (by omega)
    · omega
  | a :: b :: c :: r, h => by
    have ha := h a (by simp)
    have hb := h b (by simp)
    have hc := h c (by simp)
    intro x hx
    simp only [Xf.enc, List.mem_cons] at hx
    rcases hx with rfl | rfl | rfl | rfl | hx
    · exact dig_val (by omega)
    · exact dig_val (by omega)
    · exact dig_val (by omega)
    · exact dig_val (by omega)
    · exact enc_val r (fun y hy => h y (by simp [hy])) x hx
theorem ew_val (l : List Int) : ∀ x ∈ (ewV l).2, 32 ≤ x ∧ x ≤ 126 := by
  by_cases hz : (encT 4 l).1 = 0
  · obtain ⟨hf, he, hlen⟩ := encT_zero hz
    have hch := (flt_zero hf).2
    cases hs : sfV l with
    | true =>
      rw [ewV_self hz hs]
      have hs' := hs
      rw [sfV_eq, Bool.and_eq_true] at hs'
      intro x hx
      rw [he] at hx
      have hb := List.all_eq_true.1 ((flat_bos l hch).trans hs'.1) x hx
      have := of_decide_eq_true hb
      omega
    | false =>
      by_cases h4 : 400 < (toldW (encT 4 l).2).length
      · rw [ewV_many hz hs h4]; intro x hx; cases hx
      · rw [ewV_told hz hs h4]
        intro x hx
        unfold toldW at hx
        have hp := enc_val (encT 4 l).2 (encT_isB hz)
        rcases List.mem_append.1 hx with hx | hx
        · rcases List.mem_append.1 hx with hx | hx
          · have : ∀ y ∈ twB, 32 ≤ y ∧ y ≤ 126 := by decide
            exact this x hx
          · have := hp x hx; omega
        · have : ∀ y ∈ ([63, 61] : List Nat), 32 ≤ y ∧ y ≤ 126 := by decide
          exact this x hx
  · rw [ewV_bad hz]; intro x hx; cases hx

/-- A plain value for a value, or a code. -/
def pnV (v : List Nat) : Int × List Nat := if plain v = true then (0, v) else if (ewV (dwV v).2).1 ≠ 0 then ((ewV (dwV v).2).1, []) else if 120 < (ewV (dwV v).2).2.length then (2, []) else (0, (ewV (dwV v).2).2)
theorem pnV_val {v : List Nat} (h : vlOk v = true) (hz : (pnV v).1 = 0) : vlOk (pnV v).2 = true := by
  unfold pnV at hz ⊢
  split
  · exact h
  · rename_i h1
    rw [if_neg h1] at hz
    split
    · rename_i h2; rw [if_pos h2] at hz; exact absurd hz h2
    · rename_i h2
      rw [if_neg h2] at hz
      split
      · rename_i h3; rw [if_pos h3] at hz; simp at hz
      · rename_i h3
        unfold vlOk
        rw [Bool.and_eq_true]
        refine ⟨List.all_eq_true.2 fun x hx => ?_, by simpa using h3⟩
        have := ew_val _ x hx
        unfold vlB
        rw [decide_eq_true_eq]; omega
theorem pnV_isB {v : List Nat} (h : IsB v) : IsB (pnV v).2 := by
  unfold pnV
  split
  · exact h
  · split
    · intro x hx; cases hx
    · split
      · intro x hx; cases hx
      · exact ew_isB _
/-- A byte of at most 127. -/
def lwB (x : Nat) : Bool := decide (x ≤ 127)
theorem vl_high {v : List Nat} (h : vlOk v = true) : plain v = v.all lwB := by
  unfold vlOk at h
  rw [Bool.and_eq_true] at h
  unfold plain
  rw [Bool.eq_iff_iff, List.all_eq_true, List.all_eq_true]
  refine forall_congr' fun x => forall_congr' fun hx => ?_
  have := List.all_eq_true.1 h.1 x hx
  unfold vlB at this
  unfold lwB
  rw [decide_eq_true_eq] at this ⊢
  rw [decide_eq_true_eq]
  omega

/-- A text that is seen, or a code that is thrown. -/
def SeeT (r : Int × List Nat) (w : World) (e : Ending) (w' : World) : Prop := ((r.1 = 0 ∧ e = .returned (.string (str r.2))) ∨ (r.1 ≠ 0 ∧ e = .panicked [{ v := .iface 156 (.int .i64 r.1), recovered := false }])) ∧ Below w.heap.size w w'

set_option maxHeartbeats 1600000 in
set_option maxRecDepth 100000 in
theorem plainValue_any (v : List Nat) (w : World) (hB : IsB v) (hl : v.length ≤ 120) (hT : TabC w) (hTB : TabB w) (hTH : TabH w) (hMI : MaxI w) :
    Calls Tryz.prog 176 #[.string (str v)] w (SeeT (pnV v) w) := by
  have HD := fun (W : World) (hb : Below w.heap.size w W) => decodeWords_any v _ W rfl hB (by omega) (hT.below hb) (hTB.below hb) (hTH.below hb) (hMI.below hb)
  have hd : dwV v = (0, (dwV v).2) := by rw [dwV_ok (by omega)]
  have hdl := dwV_len v hB
  have HI := fun (a : Option Addr) (cap : Nat) (W : World) (hr : Rd W a v) => isPlain_any a v.length cap v W rfl hr (by omega)
  have HR := fun (W : World) (cap : Nat) (fr : Nat × Nat) => bytesRow_rd W v hB cap fr
  have HP : Hid (plain v = true → pnV v = (0, v)) := fun h => if_pos h
  have HQ : Hid (plain v = false → pnV v = if (ewV (dwV v).2).1 ≠ 0 then ((ewV (dwV v).2).1, []) else if 120 < (ewV (dwV v).2).2.length then (2, []) else (0, (ewV (dwV v).2).2)) := fun h => if_neg (by rw [h]; decide)
  rw [hd] at HD
  generalize pnV v = r at *
  generalize (dwV v).2 = ls at *
  generalize plain v = pl at *
  have hsz : (str v).size = v.length := str_size v
  have hcv := fun wx => run_bytes_of_string (P := Tryz.prog) wx 9 22 5 (str v) Tryz.underlying9 Tryz.underlying22 Tryz.underlying5
  rw [hsz] at hcv
  go_enter Tryz.func176, Tryz.ntmps176
  go_wp2_with fail
  refine Calls.mono (HI _ _ _ ?hrd) ?_
  case hrd => exact HR w _ _
  rintro e w1 ⟨rfl, hw1⟩
  have hb1 : Below w.heap.size w w1 := by rw [hw1]; exact ((Below.refl _ _).alloc (Nat.le_refl _) _).drew
  clear hw1 hcv HI HR
  cases pl with
  | true =>
    have HM : Hid (r = (0, v)) := HP.out rfl
    clear HP HQ HD
    go_wp2
    go_ret
    rw [HM.out]
    exact ⟨.inl ⟨rfl, rfl⟩, hb1⟩
  | false =>
    have HM : Hid (_) := HQ.out rfl
    go_wp2_with fail
    refine (HD _ hb1).mono ?_
    rintro e w2 ⟨v2, rfl, ho2, hb2⟩
    dsimp only at ho2
    have hbB := hb1.trans (hb2.mono hb1.size)
    obtain ⟨a2, c2, hv2, -, -⟩ := ho2.form
    subst hv2
    clear HD HP HQ
    go_wp2_with fail
    refine (codesIn_ok a2 _ c2 _).mono ?_
    rintro e w3 ⟨rfl, hb3⟩
    have hbC := hbB.trans (hb3.mono hbB.size)
    have ho3 := OwnI.below ho2 hb3 (Nat.le_refl _)
    have HE := encodeWords_any a2 ls.length c2 ls w3 rfl (OwnI.rd ho3).2 (by omega) (hTB.below hbC) (hMI.below hbC)
    generalize ewV ls = q at *
    obtain ⟨qc, ql⟩ := q
    dsimp only at HM
    go_wp2_with fail
    refine HE.mono ?_
    rintro e w4 ⟨rfl, hb4⟩
    have hbD := hbC.trans (hb4.mono hbC.size)
    have hbE : Below w.heap.size w (w4.alloc (.cells #[.int .i64 qc, .string (str ql)] 51)) := hbD.alloc hbD.size _
    clear HE ho2 ho3 hb2 hb3 hb4
    by_cases hc : qc = 0
    · subst hc
      have HM' : Hid (r = if 120 < ql.length then (2, []) else (0, ql)) := HM.out.trans (if_neg (by simp))
      clear HM
      go_wp2_with fail
      refine (mustSee_ok _).mono ?_
      rintro e w5 ⟨rfl, hw5⟩
      have h27 : w5.heap[w4.heap.size]? = some (.cells #[.int .i64 0, .string (str ql)] 51 (0, 0)) := hw5 ▸ heap_alloc_new w4 _
      have q1 : w5.cell? ⟨w4.heap.size, 1, none⟩ = some (.string (str ql)) := by simp [World.cell?, h27]
      have hbF : Below w.heap.size w w5 := hw5 ▸ hbE
      have hqs : (str ql).size = ql.length := str_size ql
      clear hw5 h27 hbE
      by_cases h12 : 120 < ql.length
      · have h12' : (120 : Int) < (ql.length : Int) := by omega
        have HM2 : Hid (r = (2, [])) := HM'.out.trans (if_pos h12)
        clear HM'
        go_wp2
        refine ⟨rfl, ?_⟩
        rw [HM2.out]
        exact ⟨.inr ⟨by simp, rfl⟩, hbF⟩
      · have h12' : ¬ (120 : Int) < (ql.length : Int) := by omega
        have HM2 : Hid (r = (0, ql)) := HM'.out.trans (if_neg h12)
        clear HM'
        go_wp2
        go_ret
        rw [HM2.out]
        exact ⟨.inl ⟨rfl, rfl⟩, hbF⟩
    · have HM' : Hid (r = (qc, [])) := HM.out.trans (if_pos hc)
      clear HM
      go_wp2_with fail
      refine (mustSee_bad qc hc _).mono ?_
      rintro e w5 ⟨rfl, hw5⟩
      subst hw5
      refine ⟨rfl, ?_⟩
      rw [HM'.out]
      exact ⟨.inr ⟨hc, rfl⟩, hbE⟩

set_option maxHeartbeats 800000 in
set_option maxRecDepth 100000 in
theorem l6High_any (t : List Nat) (n : Nat) (w : World) (hl : t.length = n) (hB : IsB t) (hn : n ≤ 1048576) :
    Calls Tryz.prog 124 #[.string (str t)] w fun e w' => e = .returned (.bool (!t.all lwB)) ∧ Below w.heap.size w w' := by
  have hsz : (str t).size = n := by rw [str_size, hl]
  have HL : Hid (t.length = n) := hl
  clear hl
  go_enter Tryz.func124, Tryz.ntmps124
  go_wp2
  go_loopw [3] (fun i wr => ∃ k : Nat, k ≤ n ∧ i = .int .i64 k ∧ (t.take k).all lwB = true ∧ Below w.heap.size w wr) (fun i _ => n - (intOf i).toNat)
  case atStart => exact ⟨0, Nat.zero_le _, rfl, by simp, Below.refl _ _⟩
  case round =>
    obtain ⟨k, hk, rfl, hall, hbel⟩ := hrel
    by_cases hkn : k < n
    · have hki : (k : Int) < (n : Int) := by omega
      have g0 := str_get hB (i := k) (by rw [hsz]; exact hkn)
      have HY : Hid (lwB (nth t k) = true → (t.take (k + 1)).all lwB = true) := fun h => allN_step (by have := HL.out; omega) hall h
      have HN : Hid (lwB (nth t k) = false → t.all lwB = false) := fun h => allN_bad (by have := HL.out; omega) h
      have hx := nth_lt hB k
      clear hall
      generalize nth t k = x at *
      by_cases c1 : 127 < x
      · have c1' : (127 : Int) < (x : Int) := by omega
        have HM : Hid (_) := HN.out (decide_eq_false (by omega))
        clear HY HN
        go_wp2
        go_ret
        exact ⟨by rw [HM.out]; rfl, hbel⟩
      · have c1' : ¬ (127 : Int) < (x : Int) := by omega
        have HM : Hid (_) := HY.out (decide_eq_true (by omega))
        clear HY HN
        go_wp2
        go_roundw
        case rel => exact ⟨k + 1, by omega, by go_num, HM.out, hbel⟩
        case measure => simp [intOf]; omega
    · have hki : ¬ (k : Int) < (n : Int) := by omega
      have HM : Hid (t.all lwB = true) := by
        show _ = _
        rw [show k = t.length by have := HL.out; omega, List.take_length] at hall
        exact hall
      clear hall
      go_wp2
      go_ret
      exact ⟨by rw [HM.out]; rfl, hbel⟩
end Go.Proofs.YtkjnhcnbbojajaaGreatDoor
