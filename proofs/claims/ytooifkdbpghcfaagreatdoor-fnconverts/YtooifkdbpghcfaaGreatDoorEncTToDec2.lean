/- EncodeText, the program's and the model's, at every charset and every slice of at most 1048576 numbers: both by one plain function · The character at the beginning of some bytes, by each charset: plain functions, with no program in them; what is guessed and told again is just what the model reads. -/
import Derived.Test.YtooifkdbpghcfaaGreatDoorDecToFlt
import Derived.Test.YtooifkdbpghcfaaGreatDoorByeToHdr
namespace Go.Proofs.YtooifkdbpghcfaaGreatDoor
open Go.RowKit

theorem OwnI.lower {w : World} {B C : Nat} {v : Value} {l : List Int} (h : OwnI w B v l) (hC : C ≤ B) : OwnI w C v l := by
  refine ⟨h.1, ?_⟩
  rcases h.2 with h' | ⟨g, cap, cur, h1, h2, h3⟩
  · exact .inl h'
  · exact .inr ⟨g, cap, cur, h1, Nat.le_trans hC h2, h3⟩
theorem OwnI.kept {w : World} {B : Nat} {v : Value} {l : List Int} (h : OwnI w B v l) (p : Addr) (hp : p.block < B) (u : Value) : OwnI (w.setCell p u) B v l := ownsRow_setCell_below h hp u

/-- What EncodeText answers. -/
def encT (cs : Int) (l : List Int) : Int × List Nat := if 1 ≤ cs ∧ cs ≤ 5 then (if flt l = 0 then encV cs l else (flt l, [])) else (4, [])
theorem encT_none {cs : Int} {l : List Int} (h : ¬ (1 ≤ cs ∧ cs ≤ 5)) : encT cs l = (4, []) := if_neg h
theorem encT_fault {cs : Int} {l : List Int} (h : 1 ≤ cs ∧ cs ≤ 5) (hf : flt l ≠ 0) : encT cs l = (flt l, []) := by unfold encT; rw [if_pos h, if_neg hf]
theorem encT_ok {cs : Int} {l : List Int} (h : 1 ≤ cs ∧ cs ≤ 5) (hf : flt l = 0) : encT cs l = encV cs l := by unfold encT; rw [if_pos h, if_pos hf]
theorem flt_zero {l : List Int} (h : flt l = 0) : l.length ≤ 400 ∧ ∀ x ∈ l, chr x = true := by
  unfold flt at h
  split at h
  · cases h
  · split at h
    · exact ⟨by omega, by rename_i h2; rw [List.all_eq_true] at h2; exact h2⟩
    · cases h
theorem flt_cases (l : List Int) : flt l = 0 ∨ flt l = 2 ∨ flt l = 3 := by
  unfold flt
  split
  · exact .inr (.inl rfl)
  · split
    · exact .inl rfl
    · exact .inr (.inr rfl)

theorem hasC_1 : hasC 1 = leB 127 := by funext c; simp [hasC, leB]
theorem hasC_2 : hasC 2 = leB 255 := by funext c; simp [hasC, leB]
theorem hasC_3 : hasC 3 = cyB := by funext c; simp [hasC, cyB]
theorem hasC_4 : hasC 4 = anyB := by funext c; simp [hasC, anyB]
theorem hasC_5 : hasC 5 = anyB := by funext c; simp [hasC, anyB]
theorem all_mem {p : Int → Bool} {l : List Int} (h : l.all p = true) {x : Int} (hx : x ∈ l) : p x = true := List.all_eq_true.1 h x hx


set_option maxHeartbeats 1600000 in
set_option maxRecDepth 100000 in
theorem encodeText_1 (a : Option Addr) (n cap : Nat) (l : List Int) (w : World) (hl : l.length = n) (hr : RdI w a l) (hf : flt l = 0) :
    Calls Tryz.prog 45 #[.int .i64 1, .slice a n cap] w fun e w' => BytEnd (encV 1 l) w e w' := by
  obtain ⟨hn, hch⟩ := flt_zero hf
  rw [hl] at hn
  have hb0 : Below w.heap.size w (w.alloc (.cells #[.int .i64 0, .slice none 0 0] 27)) := (Below.refl _ _).alloc (Nat.le_refl _) _
  have hr0 := hr.below hb0
  go_enter Tryz.func45, Tryz.ntmps45
  go_wp2_with (first | (go_at_call 51; refine (charsetAt_any _ _).mono ?_; rintro e w' ⟨rfl, rfl⟩; rw [csV1]) | (go_at_call 68; refine (codesFault_any a n cap l _ hl hr0 (by omega)).mono ?_; rintro e w1 ⟨rfl, hb1⟩; rw [hf]))
  have hrk := hr0.below hb1
  have hbl : Below (w.heap.size + 1) (w.alloc (.cells #[.int .i64 0, .slice none 0 0] 27)) w1 := hb1.mono (by simp)
  clear hb1 hr hr0
  refine (areAll_single a n cap l _ hl hrk (by omega) 127).mono ?_
  rintro e w2 ⟨rfl, hb2⟩
  have hrt := hrk.below hb2
  have hbl2 : Below (w.heap.size + 1) (w.alloc (.cells #[.int .i64 0, .slice none 0 0] 27)) w2 := hbl.trans (hb2.mono (by have := hbl.size; simp at this; omega))
  clear hb2 hrk hbl
  cases ha : l.all (leB 127) with
  | false =>
    have H : Hid (encV 1 l = (8, [])) := encV_bad (by rw [hasC_1]; exact ha)
    obtain ⟨hcw, hcw1, hfw, hfw1⟩ := res_block rfl hbl2
    have hbel : Below w.heap.size w w2 := hb0.trans (hbl2.mono (by omega))
    obtain ⟨hk0, hk1⟩ := res_cells hcw hcw1 (.int .i64 8) (.slice none 0 0)
    go_wp2
    refine bodyPost_ret (v := .agg #[.int .i64 8, .slice none 0 0]) (by simp [results, Tryz.results45, go_sem, hk0, hk1]) rfl ?_
    rw [H.out]
    exact BytEnd.code hbel _ _
  | true =>
    have hA : l.all (hasC 1) = true := by rw [hasC_1]; exact ha
    have hg : ∀ x ∈ l, 0 ≤ x ∧ x < 256 := fun x hx => by have h1 := chr_iff.1 (hch x hx); have h2 := all_mem ha hx; simp [leB] at h2; omega
    have hz2 : w.heap.size + 1 ≤ w2.heap.size := by have := hbl2.size; simp at this; omega
    go_wp2_with fail
    refine (tellAll_1 a n cap l _ hl hrt (by omega) hg).mono ?_
    rintro e w3 ⟨v, rfl, hown, hb3⟩
    have hbl3 : Below (w.heap.size + 1) (w.alloc (.cells #[.int .i64 0, .slice none 0 0] 27)) w3 := hbl2.trans (hb3.mono hz2)
    have hown' : Own w3 (w.heap.size + 1) v (l.flatMap (tellL 1)) := hown.lower hz2
    obtain ⟨hcw, hcw1, hfw, hfw1⟩ := res_block rfl hbl3
    have hbel : Below w.heap.size w w3 := hb0.trans (hbl3.mono (by omega))
    obtain ⟨ao, ocap, hv, -, -⟩ := hown'.form
    rw [hv] at hown' ⊢
    clear hv hown hb3 hbl3 hbl2 hrt hg
    by_cases h4 : 400 < (l.flatMap (tellL 1)).length
    · have H : Hid (encV 1 l = (2, [])) := encV_many hA h4
      clear hown' hA
      generalize (l.flatMap (tellL 1)).length = N at *
      have h4' : (400 : Int) < (N : Int) := by omega
      obtain ⟨hk0, hk1⟩ := res_cells hcw hcw1 (.int .i64 2) (.slice none 0 0)
      go_wp2
      refine bodyPost_ret (v := .agg #[.int .i64 2, .slice none 0 0]) (by simp [results, Tryz.results45, go_sem, hk0, hk1]) rfl ?_
      rw [H.out]
      exact BytEnd.code hbel _ _
    · have H : Hid (encV 1 l = (0, l.flatMap (tellL 1))) := encV_ok hA h4
      have HO : Hid (Own w3 (w.heap.size + 1) (.slice ao (l.flatMap (tellL 1)).length ocap) (l.flatMap (tellL 1))) := hown'
      clear hA hown'
      generalize hN : (l.flatMap (tellL 1)).length = N at *
      have h4' : ¬ (400 : Int) < (N : Int) := by omega
      clear hN
      obtain ⟨hk0, hk1⟩ := res_cells hcw hcw1 (.int .i64 0) (.slice ao N ocap)
      go_wp2
      refine bodyPost_ret (v := .agg #[.int .i64 0, .slice ao N ocap]) (by simp [results, Tryz.results45, go_sem, hk0, hk1]) rfl ?_
      rw [H.out]
      exact BytEnd.some hbel HO.out _ _

set_option maxHeartbeats 1600000 in
set_option maxRecDepth 100000 in
theorem encodeText_2 (a : Option Addr) (n cap : Nat) (l : List Int) (w : World) (hl : l.length = n) (hr : RdI w a l) (hf : flt l = 0) :
    Calls Tryz.prog 45 #[.int .i64 2, .slice a n cap] w fun e w' => BytEnd (encV 2 l) w e w' := by
  obtain ⟨hn, hch⟩ := flt_zero hf
  rw [hl] at hn
  have hb0 : Below w.heap.size w (w.alloc (.cells #[.int .i64 0, .slice none 0 0] 27)) := (Below.refl _ _).alloc (Nat.le_refl _) _
  have hr0 := hr.below hb0
  go_enter Tryz.func45, Tryz.ntmps45
  go_wp2_with (first | (go_at_call 51; refine (charsetAt_any _ _).mono ?_; rintro e w' ⟨rfl, rfl⟩; rw [csV2]) | (go_at_call 68; refine (codesFault_any a n cap l _ hl hr0 (by omega)).mono ?_; rintro e w1 ⟨rfl, hb1⟩; rw [hf]))
  have hrk := hr0.below hb1
  have hbl : Below (w.heap.size + 1) (w.alloc (.cells #[.int .i64 0, .slice none 0 0] 27)) w1 := hb1.mono (by simp)
  clear hb1 hr hr0
  refine (areAll_single a n cap l _ hl hrk (by omega) 255).mono ?_
  rintro e w2 ⟨rfl, hb2⟩
  have hrt := hrk.below hb2
  have hbl2 : Below (w.heap.size + 1) (w.alloc (.cells #[.int .i64 0, .slice none 0 0] 27)) w2 := hbl.trans (hb2.mono (by have := hbl.size; simp at this; omega))
  clear hb2 hrk hbl
  cases ha : l.all (leB 255) with
  | false =>
    have H : Hid (encV 2 l = (8, [])) := encV_bad (by rw [hasC_2]; exact ha)
    obtain ⟨hcw, hcw1, hfw, hfw1⟩ := res_block rfl hbl2
    have hbel : Below w.heap.size w w2 := hb0.trans (hbl2.mono (by omega))
    obtain ⟨hk0, hk1⟩ := res_cells hcw hcw1 (.int .i64 8) (.slice none 0 0)
    go_wp2
    refine bodyPost_ret (v := .agg #[.int .i64 8, .slice none 0 0]) (by simp [results, Tryz.results45, go_sem, hk0, hk1]) rfl ?_
    rw [H.out]
    exact BytEnd.code hbel _ _
  | true =>
    have hA : l.all (hasC 2) = true := by rw [hasC_2]; exact ha
    have hg : ∀ x ∈ l, 0 ≤ x ∧ x < 256 := fun x hx => by have h1 := chr_iff.1 (hch x hx); have h2 := all_mem ha hx; simp [leB] at h2; omega
    have hz2 : w.heap.size + 1 ≤ w2.heap.size := by have := hbl2.size; simp at this; omega
    go_wp2_with fail
    refine (tellAll_2 a n cap l _ hl hrt (by omega) hg).mono ?_
    rintro e w3 ⟨v, rfl, hown, hb3⟩
    have hbl3 : Below (w.heap.size + 1) (w.alloc (.cells #[.int .i64 0, .slice none 0 0] 27)) w3 := hbl2.trans (hb3.mono hz2)
    have hown' : Own w3 (w.heap.size + 1) v (l.flatMap (tellL 2)) := hown.lower hz2
    obtain ⟨hcw, hcw1, hfw, hfw1⟩ := res_block rfl hbl3
    have hbel : Below w.heap.size w w3 := hb0.trans (hbl3.mono (by omega))
    obtain ⟨ao, ocap, hv, -, -⟩ := hown'.form
    rw [hv] at hown' ⊢
    clear hv hown hb3 hbl3 hbl2 hrt hg
    by_cases h4 : 400 < (l.flatMap (tellL 2)).length
    · have H : Hid (encV 2 l = (2, [])) := encV_many hA h4
      clear hown' hA
      generalize (l.flatMap (tellL 2)).length = N at *
      have h4' : (400 : Int) < (N : Int) := by omega
      obtain ⟨hk0, hk1⟩ := res_cells hcw hcw1 (.int .i64 2) (.slice none 0 0)
      go_wp2
      refine bodyPost_ret (v := .agg #[.int .i64 2, .slice none 0 0]) (by simp [results, Tryz.results45, go_sem, hk0, hk1]) rfl ?_
      rw [H.out]
      exact BytEnd.code hbel _ _
    · have H : Hid (encV 2 l = (0, l.flatMap (tellL 2))) := encV_ok hA h4
      have HO : Hid (Own w3 (w.heap.size + 1) (.slice ao (l.flatMap (tellL 2)).length ocap) (l.flatMap (tellL 2))) := hown'
      clear hA hown'
      generalize hN : (l.flatMap (tellL 2)).length = N at *
      have h4' : ¬ (400 : Int) < (N : Int) := by omega
      clear hN
      obtain ⟨hk0, hk1⟩ := res_cells hcw hcw1 (.int .i64 0) (.slice ao N ocap)
      go_wp2
      refine bodyPost_ret (v := .agg #[.int .i64 0, .slice ao N ocap]) (by simp [results, Tryz.results45, go_sem, hk0, hk1]) rfl ?_
      rw [H.out]
      exact BytEnd.some hbel HO.out _ _

set_option maxHeartbeats 1600000 in
set_option maxRecDepth 100000 in
theorem encodeText_3 (a : Option Addr) (n cap : Nat) (l : List Int) (w : World) (hl : l.length = n) (hr : RdI w a l) (hf : flt l = 0) :
    Calls Tryz.prog 45 #[.int .i64 3, .slice a n cap] w fun e w' => BytEnd (encV 3 l) w e w' := by
  obtain ⟨hn, hch⟩ := flt_zero hf
  rw [hl] at hn
  have hb0 : Below w.heap.size w (w.alloc (.cells #[.int .i64 0, .slice none 0 0] 27)) := (Below.refl _ _).alloc (Nat.le_refl _) _
  have hr0 := hr.below hb0
  go_enter Tryz.func45, Tryz.ntmps45
  go_wp2_with (first | (go_at_call 51; refine (charsetAt_any _ _).mono ?_; rintro e w' ⟨rfl, rfl⟩; rw [csV3]) | (go_at_call 68; refine (codesFault_any a n cap l _ hl hr0 (by omega)).mono ?_; rintro e w1 ⟨rfl, hb1⟩; rw [hf]))
  have hrk := hr0.below hb1
  have hbl : Below (w.heap.size + 1) (w.alloc (.cells #[.int .i64 0, .slice none 0 0] 27)) w1 := hb1.mono (by simp)
  clear hb1 hr hr0
  refine (areAll_cyr a n cap l _ hl hrk (by omega) (fun x hx => (chr_iff.1 (hch x hx)).1)).mono ?_
  rintro e w2 ⟨rfl, hb2⟩
  have hrt := hrk.below hb2
  have hbl2 : Below (w.heap.size + 1) (w.alloc (.cells #[.int .i64 0, .slice none 0 0] 27)) w2 := hbl.trans (hb2.mono (by have := hbl.size; simp at this; omega))
  clear hb2 hrk hbl
  cases ha : l.all (cyB) with
  | false =>
    have H : Hid (encV 3 l = (8, [])) := encV_bad (by rw [hasC_3]; exact ha)
    obtain ⟨hcw, hcw1, hfw, hfw1⟩ := res_block rfl hbl2
    have hbel : Below w.heap.size w w2 := hb0.trans (hbl2.mono (by omega))
    obtain ⟨hk0, hk1⟩ := res_cells hcw hcw1 (.int .i64 8) (.slice none 0 0)
    go_wp2
    refine bodyPost_ret (v := .agg #[.int .i64 8, .slice none 0 0]) (by simp [results, Tryz.results45, go_sem, hk0, hk1]) rfl ?_
    rw [H.out]
    exact BytEnd.code hbel _ _
  | true =>
    have hA : l.all (hasC 3) = true := by rw [hasC_3]; exact ha
    have hg : ∀ x ∈ l, 0 ≤ x ∧ 0 ≤ cyr x := fun x hx => by have h1 := chr_iff.1 (hch x hx); have h2 := all_mem ha hx; simp only [cyB, decide_eq_true_iff] at h2; exact ⟨h1.1, h2⟩
    have hz2 : w.heap.size + 1 ≤ w2.heap.size := by have := hbl2.size; simp at this; omega
    go_wp2_with fail
    refine (tellAll_3 a n cap l _ hl hrt (by omega) hg).mono ?_
    rintro e w3 ⟨v, rfl, hown, hb3⟩
    have hbl3 : Below (w.heap.size + 1) (w.alloc (.cells #[.int .i64 0, .slice none 0 0] 27)) w3 := hbl2.trans (hb3.mono hz2)
    have hown' : Own w3 (w.heap.size + 1) v (l.flatMap (tellL 3)) := hown.lower hz2
    obtain ⟨hcw, hcw1, hfw, hfw1⟩ := res_block rfl hbl3
    have hbel : Below w.heap.size w w3 := hb0.trans (hbl3.mono (by omega))
    obtain ⟨ao, ocap, hv, -, -⟩ := hown'.form
    rw [hv] at hown' ⊢
    clear hv hown hb3 hbl3 hbl2 hrt hg
    by_cases h4 : 400 < (l.flatMap (tellL 3)).length
    · have H : Hid (encV 3 l = (2, [])) := encV_many hA h4
      clear hown' hA
      generalize (l.flatMap (tellL 3)).length = N at *
      have h4' : (400 : Int) < (N : Int) := by omega
      obtain ⟨hk0, hk1⟩ := res_cells hcw hcw1 (.int .i64 2) (.slice none 0 0)
      go_wp2
      refine bodyPost_ret (v := .agg #[.int .i64 2, .slice none 0 0]) (by simp [results, Tryz.results45, go_sem, hk0, hk1]) rfl ?_
      rw [H.out]
      exact BytEnd.code hbel _ _
    · have H : Hid (encV 3 l = (0, l.flatMap (tellL 3))) := encV_ok hA h4
      have HO : Hid (Own w3 (w.heap.size + 1) (.slice ao (l.flatMap (tellL 3)).length ocap) (l.flatMap (tellL 3))) := hown'
      clear hA hown'
      generalize hN : (l.flatMap (tellL 3)).length = N at *
      have h4' : ¬ (400 : Int) < (N : Int) := by omega
      clear hN
      obtain ⟨hk0, hk1⟩ := res_cells hcw hcw1 (.int .i64 0) (.slice ao N ocap)
      go_wp2
      refine bodyPost_ret (v := .agg #[.int .i64 0, .slice ao N ocap]) (by simp [results, Tryz.results45, go_sem, hk0, hk1]) rfl ?_
      rw [H.out]
      exact BytEnd.some hbel HO.out _ _

set_option maxHeartbeats 1600000 in
set_option maxRecDepth 100000 in
theorem encodeText_4 (a : Option Addr) (n cap : Nat) (l : List Int) (w : World) (hl : l.length = n) (hr : RdI w a l) (hf : flt l = 0) :
    Calls Tryz.prog 45 #[.int .i64 4, .slice a n cap] w fun e w' => BytEnd (encV 4 l) w e w' := by
  obtain ⟨hn, hch⟩ := flt_zero hf
  rw [hl] at hn
  have hb0 : Below w.heap.size w (w.alloc (.cells #[.int .i64 0, .slice none 0 0] 27)) := (Below.refl _ _).alloc (Nat.le_refl _) _
  have hr0 := hr.below hb0
  go_enter Tryz.func45, Tryz.ntmps45
  go_wp2_with (first | (go_at_call 51; refine (charsetAt_any _ _).mono ?_; rintro e w' ⟨rfl, rfl⟩; rw [csV4]) | (go_at_call 68; refine (codesFault_any a n cap l _ hl hr0 (by omega)).mono ?_; rintro e w1 ⟨rfl, hb1⟩; rw [hf]))
  have hrk := hr0.below hb1
  have hbl : Below (w.heap.size + 1) (w.alloc (.cells #[.int .i64 0, .slice none 0 0] 27)) w1 := hb1.mono (by simp)
  clear hb1 hr hr0
  refine (areAll_utf8 a n cap l _ hl hrk (by omega)).mono ?_
  rintro e w2 ⟨rfl, hb2⟩
  have hrt := hrk.below hb2
  have hbl2 : Below (w.heap.size + 1) (w.alloc (.cells #[.int .i64 0, .slice none 0 0] 27)) w2 := hbl.trans (hb2.mono (by have := hbl.size; simp at this; omega))
  clear hb2 hrk hbl
  cases ha : l.all (anyB) with
  | false =>
    have H : Hid (encV 4 l = (8, [])) := encV_bad (by rw [hasC_4]; exact ha)
    obtain ⟨hcw, hcw1, hfw, hfw1⟩ := res_block rfl hbl2
    have hbel : Below w.heap.size w w2 := hb0.trans (hbl2.mono (by omega))
    obtain ⟨hk0, hk1⟩ := res_cells hcw hcw1 (.int .i64 8) (.slice none 0 0)
    go_wp2
    refine bodyPost_ret (v := .agg #[.int .i64 8, .slice none 0 0]) (by simp [results, Tryz.results45, go_sem, hk0, hk1]) rfl ?_
    rw [H.out]
    exact BytEnd.code hbel _ _
  | true =>
    have hA : l.all (hasC 4) = true := by rw [hasC_4]; exact ha
    have hg : ∀ x ∈ l, 0 ≤ x ∧ x < 65536 := fun x hx => by have h1 := chr_iff.1 (hch x hx); omega
    have hz2 : w.heap.size + 1 ≤ w2.heap.size := by have := hbl2.size; simp at this; omega
    go_wp2_with fail
    refine (tellAll_4 a n cap l _ hl hrt (by omega) hg).mono ?_
    rintro e w3 ⟨v, rfl, hown, hb3⟩
    have hbl3 : Below (w.heap.size + 1) (w.alloc (.cells #[.int .i64 0, .slice none 0 0] 27)) w3 := hbl2.trans (hb3.mono hz2)
    have hown' : Own w3 (w.heap.size + 1) v (l.flatMap (tellL 4)) := hown.lower hz2
    obtain ⟨hcw, hcw1, hfw, hfw1⟩ := res_block rfl hbl3
    have hbel : Below w.heap.size w w3 := hb0.trans (hbl3.mono (by omega))
    obtain ⟨ao, ocap, hv, -, -⟩ := hown'.form
    rw [hv] at hown' ⊢
    clear hv hown hb3 hbl3 hbl2 hrt hg
    by_cases h4 : 400 < (l.flatMap (tellL 4)).length
    · have H : Hid (encV 4 l = (2, [])) := encV_many hA h4
      clear hown' hA
      generalize (l.flatMap (tellL 4)).length = N at *
      have h4' : (400 : Int) < (N : Int) := by omega
      obtain ⟨hk0, hk1⟩ := res_cells hcw hcw1 (.int .i64 2) (.slice none 0 0)
      go_wp2
      refine bodyPost_ret (v := .agg #[.int .i64 2, .slice none 0 0]) (by simp [results, Tryz.results45, go_sem, hk0, hk1]) rfl ?_
      rw [H.out]
      exact BytEnd.code hbel _ _
    · have H : Hid (encV 4 l = (0, l.flatMap (tellL 4))) := encV_ok hA h4
      have HO : Hid (Own w3 (w.heap.size + 1) (.slice ao (l.flatMap (tellL 4)).length ocap) (l.flatMap (tellL 4))) := hown'
      clear hA hown'
      generalize hN : (l.flatMap (tellL 4)).length = N at *
      have h4' : ¬ (400 : Int) < (N : Int) := by omega
      clear hN
      obtain ⟨hk0, hk1⟩ := res_cells hcw hcw1 (.int .i64 0) (.slice ao N ocap)
      go_wp2
      refine bodyPost_ret (v := .agg #[.int .i64 0, .slice ao N ocap]) (by simp [results, Tryz.results45, go_sem, hk0, hk1]) rfl ?_
      rw [H.out]
      exact BytEnd.some hbel HO.out _ _

set_option maxHeartbeats 1600000 in
set_option maxRecDepth 100000 in
theorem encodeText_5 (a : Option Addr) (n cap : Nat) (l : List Int) (w : World) (hl : l.length = n) (hr : RdI w a l) (hf : flt l = 0) :
    Calls Tryz.prog 45 #[.int .i64 5, .slice a n cap] w fun e w' => BytEnd (encV 5 l) w e w' := by
  obtain ⟨hn, hch⟩ := flt_zero hf
  rw [hl] at hn
  have hb0 : Below w.heap.size w (w.alloc (.cells #[.int .i64 0, .slice none 0 0] 27)) := (Below.refl _ _).alloc (Nat.le_refl _) _
  have hr0 := hr.below hb0
  go_enter Tryz.func45, Tryz.ntmps45
  go_wp2_with (first | (go_at_call 51; refine (charsetAt_any _ _).mono ?_; rintro e w' ⟨rfl, rfl⟩; rw [csV5]) | (go_at_call 68; refine (codesFault_any a n cap l _ hl hr0 (by omega)).mono ?_; rintro e w1 ⟨rfl, hb1⟩; rw [hf]))
  have hrk := hr0.below hb1
  have hbl : Below (w.heap.size + 1) (w.alloc (.cells #[.int .i64 0, .slice none 0 0] 27)) w1 := hb1.mono (by simp)
  clear hb1 hr hr0
  refine (areAll_utf16 a n cap l _ hl hrk (by omega)).mono ?_
  rintro e w2 ⟨rfl, hb2⟩
  have hrt := hrk.below hb2
  have hbl2 : Below (w.heap.size + 1) (w.alloc (.cells #[.int .i64 0, .slice none 0 0] 27)) w2 := hbl.trans (hb2.mono (by have := hbl.size; simp at this; omega))
  clear hb2 hrk hbl
  cases ha : l.all (anyB) with
  | false =>
    have H : Hid (encV 5 l = (8, [])) := encV_bad (by rw [hasC_5]; exact ha)
    obtain ⟨hcw, hcw1, hfw, hfw1⟩ := res_block rfl hbl2
    have hbel : Below w.heap.size w w2 := hb0.trans (hbl2.mono (by omega))
    obtain ⟨hk0, hk1⟩ := res_cells hcw hcw1 (.int .i64 8) (.slice none 0 0)
    go_wp2
    refine bodyPost_ret (v := .agg #[.int .i64 8, .slice none 0 0]) (by simp [results, Tryz.results45, go_sem, hk0, hk1]) rfl ?_
    rw [H.out]
    exact BytEnd.code hbel _ _
  | true =>
    have hA : l.all (hasC 5) = true := by rw [hasC_5]; exact ha
    have hg : ∀ x ∈ l, 0 ≤ x ∧ x < 65536 := fun x hx => by have h1 := chr_iff.1 (hch x hx); omega
    have hz2 : w.heap.size + 1 ≤ w2.heap.size := by have := hbl2.size; simp at this; omega
    go_wp2_with fail
    refine (tellAll_5 a n cap l _ hl hrt (by omega) hg).mono ?_
    rintro e w3 ⟨v, rfl, hown, hb3⟩
    have hbl3 : Below (w.heap.size + 1) (w.alloc (.cells #[.int .i64 0, .slice none 0 0] 27)) w3 := hbl2.trans (hb3.mono hz2)
    have hown' : Own w3 (w.heap.size + 1) v (l.flatMap (tellL 5)) := hown.lower hz2
    obtain ⟨hcw, hcw1, hfw, hfw1⟩ := res_block rfl hbl3
    have hbel : Below w.heap.size w w3 := hb0.trans (hbl3.mono (by omega))
    obtain ⟨ao, ocap, hv, -, -⟩ := hown'.form
    rw [hv] at hown' ⊢
    clear hv hown hb3 hbl3 hbl2 hrt hg
    by_cases h4 : 400 < (l.flatMap (tellL 5)).length
    · have H : Hid (encV 5 l = (2, [])) := encV_many hA h4
      clear hown' hA
      generalize (l.flatMap (tellL 5)).length = N at *
      have h4' : (400 : Int) < (N : Int) := by omega
      obtain ⟨hk0, hk1⟩ := res_cells hcw hcw1 (.int .i64 2) (.slice none 0 0)
      go_wp2
      refine bodyPost_ret (v := .agg #[.int .i64 2, .slice none 0 0]) (by simp [results, Tryz.results45, go_sem, hk0, hk1]) rfl ?_
      rw [H.out]
      exact BytEnd.code hbel _ _
    · have H : Hid (encV 5 l = (0, l.flatMap (tellL 5))) := encV_ok hA h4
      have HO : Hid (Own w3 (w.heap.size + 1) (.slice ao (l.flatMap (tellL 5)).length ocap) (l.flatMap (tellL 5))) := hown'
      clear hA hown'
      generalize hN : (l.flatMap (tellL 5)).length = N at *
      have h4' : ¬ (400 : Int) < (N : Int) := by omega
      clear hN
      obtain ⟨hk0, hk1⟩ := res_cells hcw hcw1 (.int .i64 0) (.slice ao N ocap)
      go_wp2
      refine bodyPost_ret (v := .agg #[.int .i64 0, .slice ao N ocap]) (by simp [results, Tryz.results45, go_sem, hk0, hk1]) rfl ?_
      rw [H.out]
      exact BytEnd.some hbel HO.out _ _

set_option maxHeartbeats 1600000 in
set_option maxRecDepth 100000 in
theorem encodeText_any (cs : Int) (a : Option Addr) (n cap : Nat) (l : List Int) (w : World) (hl : l.length = n) (hr : RdI w a l) (hn : n ≤ 1048576) :
    Calls Tryz.prog 45 #[.int .i64 cs, .slice a n cap] w fun e w' => BytEnd (encT cs l) w e w' := by
  by_cases hcs : 1 ≤ cs ∧ cs ≤ 5
  · by_cases hf : flt l = 0
    · rw [encT_ok hcs hf]
      rcases cs_cases hcs with rfl | rfl | rfl | rfl | rfl
      · exact encodeText_1 a n cap l w hl hr hf
      · exact encodeText_2 a n cap l w hl hr hf
      · exact encodeText_3 a n cap l w hl hr hf
      · exact encodeText_4 a n cap l w hl hr hf
      · exact encodeText_5 a n cap l w hl hr hf
    · have H : Hid (encT cs l = (flt l, [])) := encT_fault hcs hf
      have hb0 : Below w.heap.size w (w.alloc (.cells #[.int .i64 0, .slice none 0 0] 27)) := (Below.refl _ _).alloc (Nat.le_refl _) _
      have hr0 := hr.below hb0
      have hc23 : flt l = 2 ∨ flt l = 3 := by rcases flt_cases l with h | h | h; exact absurd h hf; exact .inl h; exact .inr h
      have HC : Hid (∀ w, RdI w a l → Calls Tryz.prog 68 #[.slice a n cap] w fun e w' => e = .returned (.int .i64 (flt l)) ∧ Below w.heap.size w w') := fun w hr => codesFault_any a n cap l w hl hr hn
      clear hf
      generalize flt l = c at *
      rcases hc23 with rfl | rfl
      all_goals
        go_enter Tryz.func45, Tryz.ntmps45
        go_wp2_with (first | (go_at_call 51; refine (charsetAt_any _ _).mono ?_; rintro e w' ⟨rfl, rfl⟩; rw [decide_eq_true hcs]))
        refine (HC.out _ hr0).mono ?_
        rintro e w1 ⟨rfl, hb1⟩
        have hbl : Below (w.heap.size + 1) (w.alloc (.cells #[.int .i64 0, .slice none 0 0] 27)) w1 := hb1.mono (by simp)
        obtain ⟨hcw, hcw1, hfw, hfw1⟩ := res_block rfl hbl
        have hbel : Below w.heap.size w w1 := hb0.trans (hbl.mono (by omega))
        clear hb1 hbl hr hr0 HC
      · obtain ⟨hk0, hk1⟩ := res_cells hcw hcw1 (.int .i64 2) (.slice none 0 0)
        go_wp2
        refine bodyPost_ret (v := .agg #[.int .i64 2, .slice none 0 0]) (by simp [results, Tryz.results45, go_sem, hk0, hk1]) rfl ?_
        rw [H.out]
        exact BytEnd.code hbel _ _
      · obtain ⟨hk0, hk1⟩ := res_cells hcw hcw1 (.int .i64 3) (.slice none 0 0)
        go_wp2
        refine bodyPost_ret (v := .agg #[.int .i64 3, .slice none 0 0]) (by simp [results, Tryz.results45, go_sem, hk0, hk1]) rfl ?_
        rw [H.out]
        exact BytEnd.code hbel _ _
  · have H : Hid (encT cs l = (4, [])) := encT_none hcs
    go_enter Tryz.func45, Tryz.ntmps45
    go_wp2_with (first | (go_at_call 51; refine (charsetAt_any _ _).mono ?_; rintro e w' ⟨rfl, rfl⟩; rw [decide_eq_false hcs]))
    go_returns
    exact ⟨.slice none 0 0, by rw [H.out], by rw [H.out]; exact Own.nil _ _, by go_grown⟩
end Go.Proofs.YtooifkdbpghcfaaGreatDoor

namespace Go.Proofs.YtooifkdbpghcfaaGreatDoor
open Go.RowKit

/-- What a charset guesses: a character and how many bytes; 0 bytes: none. -/
def gss (cs : Int) (l : List Nat) : Nat × Nat :=
  if cs = 3 then (cyU (nth l 0), 1) else
  if cs = 4 then (if nth l 0 < 128 then (nth l 0, 1) else if 2 ≤ l.length ∧ nth l 0 < 224 then (nth l 0 % 32 * 64 + nth l 1 % 64, 2) else if 3 ≤ l.length then (nth l 0 % 16 * 4096 + nth l 1 % 64 * 64 + nth l 2 % 64, 3) else (0, 0)) else
  if cs = 5 then (if 2 ≤ l.length then (nth l 0 * 256 + nth l 1, 2) else (0, 0)) else (nth l 0, 1)
/-- What is read: the guess, where it is told in just these bytes. -/
def rdC (cs : Int) (l : List Nat) : Nat × Nat :=
  if (gss cs l).2 = 0 ∨ chr ((gss cs l).1 : Int) = false ∨ hasC cs ((gss cs l).1 : Int) = false ∨ tellL cs ((gss cs l).1 : Int) ≠ l.take (gss cs l).2 then (0, 0) else gss cs l
theorem rdC_no {cs : Int} {l : List Nat} (h : (gss cs l).2 = 0 ∨ chr ((gss cs l).1 : Int) = false ∨ hasC cs ((gss cs l).1 : Int) = false ∨ tellL cs ((gss cs l).1 : Int) ≠ l.take (gss cs l).2) : rdC cs l = (0, 0) := if_pos h
theorem rdC_yes {cs : Int} {l : List Nat} (h1 : (gss cs l).2 ≠ 0) (h2 : chr ((gss cs l).1 : Int) = true) (h3 : hasC cs ((gss cs l).1 : Int) = true) (h4 : tellL cs ((gss cs l).1 : Int) = l.take (gss cs l).2) : rdC cs l = gss cs l := by
  unfold rdC
  rw [if_neg]
  rintro (h | h | h | h)
  · exact h1 h
  · rw [h2] at h; cases h
  · rw [h3] at h; cases h
  · exact h h4
theorem gss_le (cs : Int) (l : List Nat) (h : 1 ≤ l.length) : (gss cs l).2 ≤ l.length := by
  unfold gss
  split
  · exact h
  · split
    · split
      · exact h
      · split
        · rename_i h2; exact h2.1
        · split
          · assumption
          · exact Nat.zero_le _
    · split
      · split
        · assumption
        · exact Nat.zero_le _
      · exact h
theorem rdC_le (cs : Int) (l : List Nat) (h : 1 ≤ l.length) : (rdC cs l).2 ≤ l.length := by
  unfold rdC
  split
  · exact Nat.zero_le _
  · exact gss_le cs l h
theorem take_one {l : List Nat} (h : 1 ≤ l.length) : l.take 1 = [nth l 0] := by
  rw [show (1 : Nat) = 0 + 1 from rfl, take_snoc l 0 (by omega)]; simp
theorem take_two {l : List Nat} (h : 2 ≤ l.length) : l.take 2 = [nth l 0, nth l 1] := by
  rw [show (2 : Nat) = 1 + 1 from rfl, take_snoc l 1 (by omega), take_one (by omega)]; rfl
theorem take_three {l : List Nat} (h : 3 ≤ l.length) : l.take 3 = [nth l 0, nth l 1, nth l 2] := by
  rw [show (3 : Nat) = 2 + 1 from rfl, take_snoc l 2 (by omega), take_two (by omega)]; rfl

theorem list2 {a b c d : Nat} (h1 : a = c) (h2 : b = d) : [a, b] = [c, d] := by rw [h1, h2]
theorem list3 {a b c d e f : Nat} (h1 : a = d) (h2 : b = e) (h3 : c = f) : [a, b, c] = [d, e, f] := by rw [h1, h2, h3]
/-- What the model reads. -/
theorem rdC_1 {l : List Nat} (h : 1 ≤ l.length) : rdC 1 l = if nth l 0 < 128 then (nth l 0, 1) else (0, 0) := by
  have hg : gss 1 l = (nth l 0, 1) := by simp [gss]
  split
  · rename_i hx
    rw [rdC_yes (by rw [hg]; simp) (by rw [hg, chr_iff]; simp only; omega) (by rw [hg]; simp only [hasC, if_true]; exact decide_eq_true (by omega)) (by rw [hg, tellL_1, take_one h]; simp), hg]
  · rename_i hx
    exact rdC_no (.inr (.inr (.inl (by rw [hg]; simp only [hasC, if_true]; exact decide_eq_false (by omega)))))
theorem rdC_2 {l : List Nat} (hB : IsB l) (h : 1 ≤ l.length) : rdC 2 l = (nth l 0, 1) := by
  have hg : gss 2 l = (nth l 0, 1) := by simp [gss]
  have hx := nth_lt hB 0
  rw [rdC_yes (by rw [hg]; simp) (by rw [hg, chr_iff]; simp only; omega) (by rw [hg, hasC_2]; exact decide_eq_true (by simp only; omega)) (by rw [hg, tellL_2, take_one h]; simp), hg]
theorem cyU_ok {b : Nat} (h : b < 256) : chr (cyU b : Int) = true ∧ cyr (cyU b : Int) = (b : Int) := by
  unfold cyU
  split
  · subst b; exact ⟨by decide, by decide⟩
  · split
    · subst b; exact ⟨by decide, by decide⟩
    · split
      · exact ⟨by rw [chr_iff]; omega, cyr_same (by omega)⟩
      · exact ⟨by rw [chr_iff]; omega, by rw [cyr_far (by omega)]; omega⟩
theorem rdC_3 {l : List Nat} (hB : IsB l) (h : 1 ≤ l.length) : rdC 3 l = (cyU (nth l 0), 1) := by
  have hg : gss 3 l = (cyU (nth l 0), 1) := by simp [gss]
  have hx := cyU_ok (nth_lt hB 0)
  rw [rdC_yes (by rw [hg]; simp) (by rw [hg]; exact hx.1) (by rw [hg, hasC_3]; exact decide_eq_true (by simp only [hx.2]; omega)) (by rw [hg, tellL_3, take_one h]; simp [hx.2]), hg]
theorem rdC_5 {l : List Nat} (hB : IsB l) : rdC 5 l = if 2 ≤ l.length ∧ chr ((nth l 0 * 256 + nth l 1 : Nat) : Int) = true then (nth l 0 * 256 + nth l 1, 2) else (0, 0) := by
  have hx := nth_lt hB 0
  have hy := nth_lt hB 1
  split
  · rename_i h
    have hg : gss 5 l = (nth l 0 * 256 + nth l 1, 2) := by simp [gss, h.1]
    rw [rdC_yes (by rw [hg]; simp) (by rw [hg]; exact h.2) (by rw [hg, hasC_5]; rfl) (by rw [hg, tellL_5, take_two h.1, Int.toNat_natCast]; simp only; exact list2 (by omega) (by omega)), hg]
  · rename_i h
    by_cases h2 : 2 ≤ l.length
    · have hg : gss 5 l = (nth l 0 * 256 + nth l 1, 2) := by simp [gss, h2]
      refine rdC_no (.inr (.inl ?_))
      rw [hg]
      cases hc : chr ((nth l 0 * 256 + nth l 1 : Nat) : Int)
      · rfl
      · exact absurd ⟨h2, hc⟩ h
    · have hg : gss 5 l = (0, 0) := by simp [gss, h2]
      exact rdC_no (.inl (by rw [hg]))
theorem rdC_4_one {l : List Nat} (h : 1 ≤ l.length) (hx : nth l 0 < 128) : rdC 4 l = (nth l 0, 1) := by
  have hg : gss 4 l = (nth l 0, 1) := by simp [gss, hx]
  rw [rdC_yes (by rw [hg]; simp) (by rw [hg, chr_iff]; simp only; omega) (by rw [hg, hasC_4]; rfl) (by rw [hg, tellL_4, take_one h, Int.toNat_natCast, u8L_one hx]), hg]
theorem rdC_4_two {l : List Nat} (h : 2 ≤ l.length) (hx : 194 ≤ nth l 0 ∧ nth l 0 < 224) (hy : 128 ≤ nth l 1 ∧ nth l 1 ≤ 191) : rdC 4 l = ((nth l 0 - 192) * 64 + (nth l 1 - 128), 2) := by
  have hg : gss 4 l = ((nth l 0 - 192) * 64 + (nth l 1 - 128), 2) := by
    have e : nth l 0 % 32 * 64 + nth l 1 % 64 = (nth l 0 - 192) * 64 + (nth l 1 - 128) := by omega
    simp [gss, show ¬ nth l 0 < 128 by omega, h, hx.2, e]
  rw [rdC_yes (by rw [hg]; simp) (by rw [hg, chr_iff]; simp only; omega) (by rw [hg, hasC_4]; rfl) (by rw [hg, tellL_4, take_two h, Int.toNat_natCast, u8L_two (by omega) (by omega)]; exact list2 (by omega) (by omega)), hg]
theorem rdC_4_three {l : List Nat} (h : 3 ≤ l.length) (hx : 224 ≤ nth l 0 ∧ nth l 0 < 240) (hy : 128 ≤ nth l 1 ∧ nth l 1 ≤ 191) (hz : 128 ≤ nth l 2 ∧ nth l 2 ≤ 191) (hc : 2048 ≤ (nth l 0 - 224) * 4096 + (nth l 1 - 128) * 64 + (nth l 2 - 128))
    (hch : chr (((nth l 0 - 224) * 4096 + (nth l 1 - 128) * 64 + (nth l 2 - 128) : Nat) : Int) = true) : rdC 4 l = ((nth l 0 - 224) * 4096 + (nth l 1 - 128) * 64 + (nth l 2 - 128), 3) := by
  have hg : gss 4 l = ((nth l 0 - 224) * 4096 + (nth l 1 - 128) * 64 + (nth l 2 - 128), 3) := by
    have e : nth l 0 % 16 * 4096 + nth l 1 % 64 * 64 + nth l 2 % 64 = (nth l 0 - 224) * 4096 + (nth l 1 - 128) * 64 + (nth l 2 - 128) := by omega
    simp [gss, show ¬ nth l 0 < 128 by omega, show ¬ nth l 0 < 224 by omega, h, e]
  rw [rdC_yes (by rw [hg]; simp) (by rw [hg]; exact hch) (by rw [hg, hasC_4]; rfl) (by rw [hg, tellL_4, take_three h, Int.toNat_natCast, u8L_three (by omega) (by omega)]; exact list3 (by omega) (by omega) (by omega)), hg]
theorem rdC_4_no {l : List Nat} (hB : IsB l) (h0 : 128 ≤ nth l 0) (h2 : ¬ (2 ≤ l.length ∧ 194 ≤ nth l 0 ∧ nth l 0 < 224 ∧ 128 ≤ nth l 1 ∧ nth l 1 ≤ 191))
    (h3 : ¬ (3 ≤ l.length ∧ 224 ≤ nth l 0 ∧ nth l 0 < 240 ∧ 128 ≤ nth l 1 ∧ nth l 1 ≤ 191 ∧ 128 ≤ nth l 2 ∧ nth l 2 ≤ 191 ∧ 2048 ≤ (nth l 0 - 224) * 4096 + (nth l 1 - 128) * 64 + (nth l 2 - 128) ∧ chr (((nth l 0 - 224) * 4096 + (nth l 1 - 128) * 64 + (nth l 2 - 128) : Nat) : Int) = true)) : rdC 4 l = (0, 0) := by
  have hx := nth_lt hB 0
  have hy := nth_lt hB 1
  have hz := nth_lt hB 2
  by_cases hn2 : 2 ≤ l.length ∧ nth l 0 < 224
  · have hg : gss 4 l = (nth l 0 % 32 * 64 + nth l 1 % 64, 2) := by simp [gss, show ¬ nth l 0 < 128 by omega, hn2]
    refine rdC_no (.inr (.inr (.inr ?_)))
    rw [hg, tellL_4, take_two hn2.1, Int.toNat_natCast]
    by_cases hs : nth l 0 % 32 * 64 + nth l 1 % 64 < 128
    · simp only; rw [u8L_one hs]; simp
    · simp only; rw [u8L_two hs (by omega)]
      intro he
      simp only [List.cons.injEq, and_true] at he
      omega
  · by_cases hn3 : 3 ≤ l.length
    · have hg : gss 4 l = (nth l 0 % 16 * 4096 + nth l 1 % 64 * 64 + nth l 2 % 64, 3) := by simp [gss, show ¬ nth l 0 < 128 by omega, hn2, hn3]
      cases hc : chr ((nth l 0 % 16 * 4096 + nth l 1 % 64 * 64 + nth l 2 % 64 : Nat) : Int) with
      | false => exact rdC_no (.inr (.inl (by rw [hg]; exact hc)))
      | true =>
        refine rdC_no (.inr (.inr (.inr ?_)))
        rw [hg, tellL_4, take_three hn3, Int.toNat_natCast]
        by_cases hs : nth l 0 % 16 * 4096 + nth l 1 % 64 * 64 + nth l 2 % 64 < 128
        · simp only; rw [u8L_one hs]; simp
        · by_cases ht : nth l 0 % 16 * 4096 + nth l 1 % 64 * 64 + nth l 2 % 64 < 2048
          · simp only; rw [u8L_two hs ht]; simp
          · simp only; rw [u8L_three hs ht]
            intro he
            simp only [List.cons.injEq, and_true] at he
            have e : nth l 0 % 16 * 4096 + nth l 1 % 64 * 64 + nth l 2 % 64 = (nth l 0 - 224) * 4096 + (nth l 1 - 128) * 64 + (nth l 2 - 128) := by omega
            rw [e] at hc
            exact h3 ⟨hn3, by omega, by omega, by omega, by omega, by omega, by omega, by omega, hc⟩
    · have hg : gss 4 l = (0, 0) := by simp [gss, show ¬ nth l 0 < 128 by omega, hn2, hn3]
      exact rdC_no (.inl (by rw [hg]))
end Go.Proofs.YtooifkdbpghcfaaGreatDoor
