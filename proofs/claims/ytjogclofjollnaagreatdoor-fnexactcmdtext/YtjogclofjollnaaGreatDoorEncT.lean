/- EncodeText, the program's and the model's, at every charset and every slice of at most 1048576 numbers: both by one plain function. -/
import Derived.Test.YtjogclofjollnaaGreatDoorTel3ToBye
import Derived.Test.YtjogclofjollnaaGreatDoorAppIToFlt
namespace Go.Proofs.YtjogclofjollnaaGreatDoor
open Go.RowKit
theorem OwnI.lower {w : World} {B C : Nat} {v : Value} {l : List Int} (h : OwnI w B v l) (hC : C ≤ B) : OwnI w C v l := by
 refine ⟨h.1, ?_⟩
 rcases h.2 with h' | ⟨g, cap, cur, h1, h2, h3⟩
 ·exact .inl h'
 ·exact .inr ⟨g, cap, cur, h1, Nat.le_trans hC h2, h3⟩
theorem OwnI.kept {w : World} {B : Nat} {v : Value} {l : List Int} (h : OwnI w B v l) (p : Addr) (hp : p.block < B) (u : Value) : OwnI (w.setCell p u) B v l := ownsRow_setCell_below h hp u
def encT (cs : Int) (l : List Int) : Int × List Nat := if 1 ≤ cs ∧ cs ≤ 5 then (if flt l = 0 then encV cs l else (flt l, [])) else (4, [])
theorem encT_none {cs : Int} {l : List Int} (h : ¬ (1 ≤ cs ∧ cs ≤ 5)) : encT cs l = (4, []) := if_neg h
theorem encT_fault {cs : Int} {l : List Int} (h : 1 ≤ cs ∧ cs ≤ 5) (hf : flt l ≠ 0) : encT cs l = (flt l, []) := by unfold encT; rw [if_pos h, if_neg hf]
theorem encT_ok {cs : Int} {l : List Int} (h : 1 ≤ cs ∧ cs ≤ 5) (hf : flt l = 0) : encT cs l = encV cs l := by unfold encT; rw [if_pos h, if_pos hf]
theorem flt_zero {l : List Int} (h : flt l = 0) : l.length ≤ 400 ∧ ∀ x ∈ l, chr x = true := by
 unfold flt at h
 split at h
 ·cases h
 ·split at h
  ·exact ⟨by omega, by rename_i h2; rw [List.all_eq_true] at h2; exact h2⟩
  ·cases h
theorem flt_cases (l : List Int) : flt l = 0 ∨ flt l = 2 ∨ flt l = 3 := by
 unfold flt
 split
 ·exact .inr (.inl rfl)
 ·split
  ·exact .inl rfl
  ·exact .inr (.inr rfl)
theorem hasC_1 : hasC 1 = leB 127 := by funext c; simp [hasC, leB]
theorem hasC_2 : hasC 2 = leB 255 := by funext c; simp [hasC, leB]
theorem hasC_3 : hasC 3 = cyB := by funext c; simp [hasC, cyB]
theorem hasC_4 : hasC 4 = anyB := by funext c; simp [hasC, anyB]
theorem hasC_5 : hasC 5 = anyB := by funext c; simp [hasC, anyB]
theorem all_mem {p : Int → Bool} {l : List Int} (h : l.all p = true) {x : Int} (hx : x ∈ l) : p x = true := List.all_eq_true.1 h x hx
set_option maxHeartbeats 1600000 in
set_option maxRecDepth 100000 in
theorem encodeText_1 (a : Option Addr) (n cap : Nat) (l : List Int) (w : World) (hl : l.length = n) (hr : RdI w a l) (hf : flt l = 0) :
  Calls Tryz.prog 143 #[.int .i64 1, .slice a n cap] w fun e w' => BytEnd (encV 1 l) w e w' := by
 obtain ⟨hn, hch⟩ := flt_zero hf
 rw [hl] at hn
 have hb0 : Below w.heap.size w (w.alloc (.cells #[.int .i64 0, .slice none 0 0] 212)) := (Below.refl _ _).alloc (Nat.le_refl _) _
 have hr0 := hr.below hb0
 go_enter Tryz.func143, Tryz.ntmps143
 go_wp2_with (first | (go_at_call 154; refine (charsetAt_any _ _).mono ?_; rintro e w' ⟨rfl, rfl⟩; rw [csV1]) | (go_at_call 155; refine (codesFault_any a n cap l _ hl hr0 (by omega)).mono ?_; rintro e w1 ⟨rfl, hb1⟩; rw [hf]))
 have hrk := hr0.below hb1
 have hbl : Below (w.heap.size + 1) (w.alloc (.cells #[.int .i64 0, .slice none 0 0] 212)) w1 := hb1.mono (by simp)
 clear hb1 hr hr0
 refine (areAll_single a n cap l _ hl hrk (by omega) 127).mono ?_
 rintro e w2 ⟨rfl, hb2⟩
 have hrt := hrk.below hb2
 have hbl2 : Below (w.heap.size + 1) (w.alloc (.cells #[.int .i64 0, .slice none 0 0] 212)) w2 := hbl.trans (hb2.mono (by have := hbl.size; simp at this; omega))
 clear hb2 hrk hbl
 cases ha : l.all (leB 127) with
 | false =>
  have H : Hid (encV 1 l = (8, [])) := encV_bad (by rw [hasC_1]; exact ha)
  obtain ⟨hcw, hcw1, hfw, hfw1⟩ := res_block rfl hbl2
  have hbel : Below w.heap.size w w2 := hb0.trans (hbl2.mono (by omega))
  obtain ⟨hk0, hk1⟩ := res_cells hcw hcw1 (.int .i64 8) (.slice none 0 0)
  go_wp2
  refine bodyPost_ret (v := .agg #[.int .i64 8, .slice none 0 0]) (by simp [results, Tryz.results143, go_sem, hk0, hk1]) rfl ?_
  rw [H.out]
  exact BytEnd.code hbel _ _
 | true =>
  have hA : l.all (hasC 1) = true := by rw [hasC_1]; exact ha
  have hg : ∀ x ∈ l, 0 ≤ x ∧ x < 256 := fun x hx => by have h1 := chr_iff.1 (hch x hx); have h2 := all_mem ha hx; simp [leB] at h2; omega
  have hz2 : w.heap.size + 1 ≤ w2.heap.size := by have := hbl2.size; simp at this; omega
  go_wp2_with fail
  refine (tellAll_1 a n cap l _ hl hrt (by omega) hg).mono ?_
  rintro e w3 ⟨v, rfl, hown, hb3⟩
  have hbl3 : Below (w.heap.size + 1) (w.alloc (.cells #[.int .i64 0, .slice none 0 0] 212)) w3 := hbl2.trans (hb3.mono hz2)
  have hown' : Own w3 (w.heap.size + 1) v (l.flatMap (tellL 1)) := hown.lower hz2
  obtain ⟨hcw, hcw1, hfw, hfw1⟩ := res_block rfl hbl3
  have hbel : Below w.heap.size w w3 := hb0.trans (hbl3.mono (by omega))
  obtain ⟨ao, ocap, hv, -, -⟩ := hown'.form
  rw [hv] at hown' ⊢
  clear hv hown hb3 hbl3 hbl2 hrt hg
  by_cases h4 : 400 < (l.flatMap (tellL 1)).length
  ·have H : Hid (encV 1 l = (2, [])) := encV_many hA h4
   clear hown' hA
   generalize (l.flatMap (tellL 1)).length = N at *
   have h4' : (400 : Int) < (N : Int) := by omega
   obtain ⟨hk0, hk1⟩ := res_cells hcw hcw1 (.int .i64 2) (.slice none 0 0)
   go_wp2
   refine bodyPost_ret (v := .agg #[.int .i64 2, .slice none 0 0]) (by simp [results, Tryz.results143, go_sem, hk0, hk1]) rfl ?_
   rw [H.out]
   exact BytEnd.code hbel _ _
  ·have H : Hid (encV 1 l = (0, l.flatMap (tellL 1))) := encV_ok hA h4
   have HO : Hid (Own w3 (w.heap.size + 1) (.slice ao (l.flatMap (tellL 1)).length ocap) (l.flatMap (tellL 1))) := hown'
   clear hA hown'
   generalize hN : (l.flatMap (tellL 1)).length = N at *
   have h4' : ¬ (400 : Int) < (N : Int) := by omega
   clear hN
   obtain ⟨hk0, hk1⟩ := res_cells hcw hcw1 (.int .i64 0) (.slice ao N ocap)
   go_wp2
   refine bodyPost_ret (v := .agg #[.int .i64 0, .slice ao N ocap]) (by simp [results, Tryz.results143, go_sem, hk0, hk1]) rfl ?_
   rw [H.out]
   exact BytEnd.some hbel HO.out _ _
set_option maxHeartbeats 1600000 in
set_option maxRecDepth 100000 in
theorem encodeText_2 (a : Option Addr) (n cap : Nat) (l : List Int) (w : World) (hl : l.length = n) (hr : RdI w a l) (hf : flt l = 0) :
  Calls Tryz.prog 143 #[.int .i64 2, .slice a n cap] w fun e w' => BytEnd (encV 2 l) w e w' := by
 obtain ⟨hn, hch⟩ := flt_zero hf
 rw [hl] at hn
 have hb0 : Below w.heap.size w (w.alloc (.cells #[.int .i64 0, .slice none 0 0] 212)) := (Below.refl _ _).alloc (Nat.le_refl _) _
 have hr0 := hr.below hb0
 go_enter Tryz.func143, Tryz.ntmps143
 go_wp2_with (first | (go_at_call 154; refine (charsetAt_any _ _).mono ?_; rintro e w' ⟨rfl, rfl⟩; rw [csV2]) | (go_at_call 155; refine (codesFault_any a n cap l _ hl hr0 (by omega)).mono ?_; rintro e w1 ⟨rfl, hb1⟩; rw [hf]))
 have hrk := hr0.below hb1
 have hbl : Below (w.heap.size + 1) (w.alloc (.cells #[.int .i64 0, .slice none 0 0] 212)) w1 := hb1.mono (by simp)
 clear hb1 hr hr0
 refine (areAll_single a n cap l _ hl hrk (by omega) 255).mono ?_
 rintro e w2 ⟨rfl, hb2⟩
 have hrt := hrk.below hb2
 have hbl2 : Below (w.heap.size + 1) (w.alloc (.cells #[.int .i64 0, .slice none 0 0] 212)) w2 := hbl.trans (hb2.mono (by have := hbl.size; simp at this; omega))
 clear hb2 hrk hbl
 cases ha : l.all (leB 255) with
 | false =>
  have H : Hid (encV 2 l = (8, [])) := encV_bad (by rw [hasC_2]; exact ha)
  obtain ⟨hcw, hcw1, hfw, hfw1⟩ := res_block rfl hbl2
  have hbel : Below w.heap.size w w2 := hb0.trans (hbl2.mono (by omega))
  obtain ⟨hk0, hk1⟩ := res_cells hcw hcw1 (.int .i64 8) (.slice none 0 0)
  go_wp2
  refine bodyPost_ret (v := .agg #[.int .i64 8, .slice none 0 0]) (by simp [results, Tryz.results143, go_sem, hk0, hk1]) rfl ?_
  rw [H.out]
  exact BytEnd.code hbel _ _
 | true =>
  have hA : l.all (hasC 2) = true := by rw [hasC_2]; exact ha
  have hg : ∀ x ∈ l, 0 ≤ x ∧ x < 256 := fun x hx => by have h1 := chr_iff.1 (hch x hx); have h2 := all_mem ha hx; simp [leB] at h2; omega
  have hz2 : w.heap.size + 1 ≤ w2.heap.size := by have := hbl2.size; simp at this; omega
  go_wp2_with fail
  refine (tellAll_2 a n cap l _ hl hrt (by omega) hg).mono ?_
  rintro e w3 ⟨v, rfl, hown, hb3⟩
  have hbl3 : Below (w.heap.size + 1) (w.alloc (.cells #[.int .i64 0, .slice none 0 0] 212)) w3 := hbl2.trans (hb3.mono hz2)
  have hown' : Own w3 (w.heap.size + 1) v (l.flatMap (tellL 2)) := hown.lower hz2
  obtain ⟨hcw, hcw1, hfw, hfw1⟩ := res_block rfl hbl3
  have hbel : Below w.heap.size w w3 := hb0.trans (hbl3.mono (by omega))
  obtain ⟨ao, ocap, hv, -, -⟩ := hown'.form
  rw [hv] at hown' ⊢
  clear hv hown hb3 hbl3 hbl2 hrt hg
  by_cases h4 : 400 < (l.flatMap (tellL 2)).length
  ·have H : Hid (encV 2 l = (2, [])) := encV_many hA h4
   clear hown' hA
   generalize (l.flatMap (tellL 2)).length = N at *
   have h4' : (400 : Int) < (N : Int) := by omega
   obtain ⟨hk0, hk1⟩ := res_cells hcw hcw1 (.int .i64 2) (.slice none 0 0)
   go_wp2
   refine bodyPost_ret (v := .agg #[.int .i64 2, .slice none 0 0]) (by simp [results, Tryz.results143, go_sem, hk0, hk1]) rfl ?_
   rw [H.out]
   exact BytEnd.code hbel _ _
  ·have H : Hid (encV 2 l = (0, l.flatMap (tellL 2))) := encV_ok hA h4
   have HO : Hid (Own w3 (w.heap.size + 1) (.slice ao (l.flatMap (tellL 2)).length ocap) (l.flatMap (tellL 2))) := hown'
   clear hA hown'
   generalize hN : (l.flatMap (tellL 2)).length = N at *
   have h4' : ¬ (400 : Int) < (N : Int) := by omega
   clear hN
   obtain ⟨hk0, hk1⟩ := res_cells hcw hcw1 (.int .i64 0) (.slice ao N ocap)
   go_wp2
   refine bodyPost_ret (v := .agg #[.int .i64 0, .slice ao N ocap]) (by simp [results, Tryz.results143, go_sem, hk0, hk1]) rfl ?_
   rw [H.out]
   exact BytEnd.some hbel HO.out _ _
set_option maxHeartbeats 1600000 in
set_option maxRecDepth 100000 in
theorem encodeText_3 (a : Option Addr) (n cap : Nat) (l : List Int) (w : World) (hl : l.length = n) (hr : RdI w a l) (hf : flt l = 0) :
  Calls Tryz.prog 143 #[.int .i64 3, .slice a n cap] w fun e w' => BytEnd (encV 3 l) w e w' := by
 obtain ⟨hn, hch⟩ := flt_zero hf
 rw [hl] at hn
 have hb0 : Below w.heap.size w (w.alloc (.cells #[.int .i64 0, .slice none 0 0] 212)) := (Below.refl _ _).alloc (Nat.le_refl _) _
 have hr0 := hr.below hb0
 go_enter Tryz.func143, Tryz.ntmps143
 go_wp2_with (first | (go_at_call 154; refine (charsetAt_any _ _).mono ?_; rintro e w' ⟨rfl, rfl⟩; rw [csV3]) | (go_at_call 155; refine (codesFault_any a n cap l _ hl hr0 (by omega)).mono ?_; rintro e w1 ⟨rfl, hb1⟩; rw [hf]))
 have hrk := hr0.below hb1
 have hbl : Below (w.heap.size + 1) (w.alloc (.cells #[.int .i64 0, .slice none 0 0] 212)) w1 := hb1.mono (by simp)
 clear hb1 hr hr0
 refine (areAll_cyr a n cap l _ hl hrk (by omega) (fun x hx => (chr_iff.1 (hch x hx)).1)).mono ?_
 rintro e w2 ⟨rfl, hb2⟩
 have hrt := hrk.below hb2
 have hbl2 : Below (w.heap.size + 1) (w.alloc (.cells #[.int .i64 0, .slice none 0 0] 212)) w2 := hbl.trans (hb2.mono (by have := hbl.size; simp at this; omega))
 clear hb2 hrk hbl
 cases ha : l.all (cyB) with
 | false =>
  have H : Hid (encV 3 l = (8, [])) := encV_bad (by rw [hasC_3]; exact ha)
  obtain ⟨hcw, hcw1, hfw, hfw1⟩ := res_block rfl hbl2
  have hbel : Below w.heap.size w w2 := hb0.trans (hbl2.mono (by omega))
  obtain ⟨hk0, hk1⟩ := res_cells hcw hcw1 (.int .i64 8) (.slice none 0 0)
  go_wp2
  refine bodyPost_ret (v := .agg #[.int .i64 8, .slice none 0 0]) (by simp [results, Tryz.results143, go_sem, hk0, hk1]) rfl ?_
  rw [H.out]
  exact BytEnd.code hbel _ _
 | true =>
  have hA : l.all (hasC 3) = true := by rw [hasC_3]; exact ha
  have hg : ∀ x ∈ l, 0 ≤ x ∧ 0 ≤ cyr x := fun x hx => by have h1 := chr_iff.1 (hch x hx); have h2 := all_mem ha hx; simp only [cyB, decide_eq_true_iff] at h2; exact ⟨h1.1, h2⟩
  have hz2 : w.heap.size + 1 ≤ w2.heap.size := by have := hbl2.size; simp at this; omega
  go_wp2_with fail
  refine (tellAll_3 a n cap l _ hl hrt (by omega) hg).mono ?_
  rintro e w3 ⟨v, rfl, hown, hb3⟩
  have hbl3 : Below (w.heap.size + 1) (w.alloc (.cells #[.int .i64 0, .slice none 0 0] 212)) w3 := hbl2.trans (hb3.mono hz2)
  have hown' : Own w3 (w.heap.size + 1) v (l.flatMap (tellL 3)) := hown.lower hz2
  obtain ⟨hcw, hcw1, hfw, hfw1⟩ := res_block rfl hbl3
  have hbel : Below w.heap.size w w3 := hb0.trans (hbl3.mono (by omega))
  obtain ⟨ao, ocap, hv, -, -⟩ := hown'.form
  rw [hv] at hown' ⊢
  clear hv hown hb3 hbl3 hbl2 hrt hg
  by_cases h4 : 400 < (l.flatMap (tellL 3)).length
  ·have H : Hid (encV 3 l = (2, [])) := encV_many hA h4
   clear hown' hA
   generalize (l.flatMap (tellL 3)).length = N at *
   have h4' : (400 : Int) < (N : Int) := by omega
   obtain ⟨hk0, hk1⟩ := res_cells hcw hcw1 (.int .i64 2) (.slice none 0 0)
   go_wp2
   refine bodyPost_ret (v := .agg #[.int .i64 2, .slice none 0 0]) (by simp [results, Tryz.results143, go_sem, hk0, hk1]) rfl ?_
   rw [H.out]
   exact BytEnd.code hbel _ _
  ·have H : Hid (encV 3 l = (0, l.flatMap (tellL 3))) := encV_ok hA h4
   have HO : Hid (Own w3 (w.heap.size + 1) (.slice ao (l.flatMap (tellL 3)).length ocap) (l.flatMap (tellL 3))) := hown'
   clear hA hown'
   generalize hN : (l.flatMap (tellL 3)).length = N at *
   have h4' : ¬ (400 : Int) < (N : Int) := by omega
   clear hN
   obtain ⟨hk0, hk1⟩ := res_cells hcw hcw1 (.int .i64 0) (.slice ao N ocap)
   go_wp2
   refine bodyPost_ret (v := .agg #[.int .i64 0, .slice ao N ocap]) (by simp [results, Tryz.results143, go_sem, hk0, hk1]) rfl ?_
   rw [H.out]
   exact BytEnd.some hbel HO.out _ _
set_option maxHeartbeats 1600000 in
set_option maxRecDepth 100000 in
theorem encodeText_4 (a : Option Addr) (n cap : Nat) (l : List Int) (w : World) (hl : l.length = n) (hr : RdI w a l) (hf : flt l = 0) :
  Calls Tryz.prog 143 #[.int .i64 4, .slice a n cap] w fun e w' => BytEnd (encV 4 l) w e w' := by
 obtain ⟨hn, hch⟩ := flt_zero hf
 rw [hl] at hn
 have hb0 : Below w.heap.size w (w.alloc (.cells #[.int .i64 0, .slice none 0 0] 212)) := (Below.refl _ _).alloc (Nat.le_refl _) _
 have hr0 := hr.below hb0
 go_enter Tryz.func143, Tryz.ntmps143
 go_wp2_with (first | (go_at_call 154; refine (charsetAt_any _ _).mono ?_; rintro e w' ⟨rfl, rfl⟩; rw [csV4]) | (go_at_call 155; refine (codesFault_any a n cap l _ hl hr0 (by omega)).mono ?_; rintro e w1 ⟨rfl, hb1⟩; rw [hf]))
 have hrk := hr0.below hb1
 have hbl : Below (w.heap.size + 1) (w.alloc (.cells #[.int .i64 0, .slice none 0 0] 212)) w1 := hb1.mono (by simp)
 clear hb1 hr hr0
 refine (areAll_utf8 a n cap l _ hl hrk (by omega)).mono ?_
 rintro e w2 ⟨rfl, hb2⟩
 have hrt := hrk.below hb2
 have hbl2 : Below (w.heap.size + 1) (w.alloc (.cells #[.int .i64 0, .slice none 0 0] 212)) w2 := hbl.trans (hb2.mono (by have := hbl.size; simp at this; omega))
 clear hb2 hrk hbl
 cases ha : l.all (anyB) with
 | false =>
  have H : Hid (encV 4 l = (8, [])) := encV_bad (by rw [hasC_4]; exact ha)
  obtain ⟨hcw, hcw1, hfw, hfw1⟩ := res_block rfl hbl2
  have hbel : Below w.heap.size w w2 := hb0.trans (hbl2.mono (by omega))
  obtain ⟨hk0, hk1⟩ := res_cells hcw hcw1 (.int .i64 8) (.slice none 0 0)
  go_wp2
  refine bodyPost_ret (v := .agg #[.int .i64 8, .slice none 0 0]) (by simp [results, Tryz.results143, go_sem, hk0, hk1]) rfl ?_
  rw [H.out]
  exact BytEnd.code hbel _ _
 | true =>
  have hA : l.all (hasC 4) = true := by rw [hasC_4]; exact ha
  have hg : ∀ x ∈ l, 0 ≤ x ∧ x < 65536 := fun x hx => by have h1 := chr_iff.1 (hch x hx); omega
  have hz2 : w.heap.size + 1 ≤ w2.heap.size := by have := hbl2.size; simp at this; omega
  go_wp2_with fail
  refine (tellAll_4 a n cap l _ hl hrt (by omega) hg).mono ?_
  rintro e w3 ⟨v, rfl, hown, hb3⟩
  have hbl3 : Below (w.heap.size + 1) (w.alloc (.cells #[.int .i64 0, .slice none 0 0] 212)) w3 := hbl2.trans (hb3.mono hz2)
  have hown' : Own w3 (w.heap.size + 1) v (l.flatMap (tellL 4)) := hown.lower hz2
  obtain ⟨hcw, hcw1, hfw, hfw1⟩ := res_block rfl hbl3
  have hbel : Below w.heap.size w w3 := hb0.trans (hbl3.mono (by omega))
  obtain ⟨ao, ocap, hv, -, -⟩ := hown'.form
  rw [hv] at hown' ⊢
  clear hv hown hb3 hbl3 hbl2 hrt hg
  by_cases h4 : 400 < (l.flatMap (tellL 4)).length
  ·have H : Hid (encV 4 l = (2, [])) := encV_many hA h4
   clear hown' hA
   generalize (l.flatMap (tellL 4)).length = N at *
   have h4' : (400 : Int) < (N : Int) := by omega
   obtain ⟨hk0, hk1⟩ := res_cells hcw hcw1 (.int .i64 2) (.slice none 0 0)
   go_wp2
   refine bodyPost_ret (v := .agg #[.int .i64 2, .slice none 0 0]) (by simp [results, Tryz.results143, go_sem, hk0, hk1]) rfl ?_
   rw [H.out]
   exact BytEnd.code hbel _ _
  ·have H : Hid (encV 4 l = (0, l.flatMap (tellL 4))) := encV_ok hA h4
   have HO : Hid (Own w3 (w.heap.size + 1) (.slice ao (l.flatMap (tellL 4)).length ocap) (l.flatMap (tellL 4))) := hown'
   clear hA hown'
   generalize hN : (l.flatMap (tellL 4)).length = N at *
   have h4' : ¬ (400 : Int) < (N : Int) := by omega
   clear hN
   obtain ⟨hk0, hk1⟩ := res_cells hcw hcw1 (.int .i64 0) (.slice ao N ocap)
   go_wp2
   refine bodyPost_ret (v := .agg #[.int .i64 0, .slice ao N ocap]) (by simp [results, Tryz.results143, go_sem, hk0, hk1]) rfl ?_
   rw [H.out]
   exact BytEnd.some hbel HO.out _ _
set_option maxHeartbeats 1600000 in
set_option maxRecDepth 100000 in
theorem encodeText_5 (a : Option Addr) (n cap : Nat) (l : List Int) (w : World) (hl : l.length = n) (hr : RdI w a l) (hf : flt l = 0) :
  Calls Tryz.prog 143 #[.int .i64 5, .slice a n cap] w fun e w' => BytEnd (encV 5 l) w e w' := by
 obtain ⟨hn, hch⟩ := flt_zero hf
 rw [hl] at hn
 have hb0 : Below w.heap.size w (w.alloc (.cells #[.int .i64 0, .slice none 0 0] 212)) := (Below.refl _ _).alloc (Nat.le_refl _) _
 have hr0 := hr.below hb0
 go_enter Tryz.func143, Tryz.ntmps143
 go_wp2_with (first | (go_at_call 154; refine (charsetAt_any _ _).mono ?_; rintro e w' ⟨rfl, rfl⟩; rw [csV5]) | (go_at_call 155; refine (codesFault_any a n cap l _ hl hr0 (by omega)).mono ?_; rintro e w1 ⟨rfl, hb1⟩; rw [hf]))
 have hrk := hr0.below hb1
 have hbl : Below (w.heap.size + 1) (w.alloc (.cells #[.int .i64 0, .slice none 0 0] 212)) w1 := hb1.mono (by simp)
 clear hb1 hr hr0
 refine (areAll_utf16 a n cap l _ hl hrk (by omega)).mono ?_
 rintro e w2 ⟨rfl, hb2⟩
 have hrt := hrk.below hb2
 have hbl2 : Below (w.heap.size + 1) (w.alloc (.cells #[.int .i64 0, .slice none 0 0] 212)) w2 := hbl.trans (hb2.mono (by have := hbl.size; simp at this; omega))
 clear hb2 hrk hbl
 cases ha : l.all (anyB) with
 | false =>
  have H : Hid (encV 5 l = (8, [])) := encV_bad (by rw [hasC_5]; exact ha)
  obtain ⟨hcw, hcw1, hfw, hfw1⟩ := res_block rfl hbl2
  have hbel : Below w.heap.size w w2 := hb0.trans (hbl2.mono (by omega))
  obtain ⟨hk0, hk1⟩ := res_cells hcw hcw1 (.int .i64 8) (.slice none 0 0)
  go_wp2
  refine bodyPost_ret (v := .agg #[.int .i64 8, .slice none 0 0]) (by simp [results, Tryz.results143, go_sem, hk0, hk1]) rfl ?_
  rw [H.out]
  exact BytEnd.code hbel _ _
 | true =>
  have hA : l.all (hasC 5) = true := by rw [hasC_5]; exact ha
  have hg : ∀ x ∈ l, 0 ≤ x ∧ x < 65536 := fun x hx => by have h1 := chr_iff.1 (hch x hx); omega
  have hz2 : w.heap.size + 1 ≤ w2.heap.size := by have := hbl2.size; simp at this; omega
  go_wp2_with fail
  refine (tellAll_5 a n cap l _ hl hrt (by omega) hg).mono ?_
  rintro e w3 ⟨v, rfl, hown, hb3⟩
  have hbl3 : Below (w.heap.size + 1) (w.alloc (.cells #[.int .i64 0, .slice none 0 0] 212)) w3 := hbl2.trans (hb3.mono hz2)
  have hown' : Own w3 (w.heap.size + 1) v (l.flatMap (tellL 5)) := hown.lower hz2
  obtain ⟨hcw, hcw1, hfw, hfw1⟩ := res_block rfl hbl3
  have hbel : Below w.heap.size w w3 := hb0.trans (hbl3.mono (by omega))
  obtain ⟨ao, ocap, hv, -, -⟩ := hown'.form
  rw [hv] at hown' ⊢
  clear hv hown hb3 hbl3 hbl2 hrt hg
  by_cases h4 : 400 < (l.flatMap (tellL 5)).length
  ·have H : Hid (encV 5 l = (2, [])) := encV_many hA h4
   clear hown' hA
   generalize (l.flatMap (tellL 5)).length = N at *
   have h4' : (400 : Int) < (N : Int) := by omega
   obtain ⟨hk0, hk1⟩ := res_cells hcw hcw1 (.int .i64 2) (.slice none 0 0)
   go_wp2
   refine bodyPost_ret (v := .agg #[.int .i64 2, .slice none 0 0]) (by simp [results, Tryz.results143, go_sem, hk0, hk1]) rfl ?_
   rw [H.out]
   exact BytEnd.code hbel _ _
  ·have H : Hid (encV 5 l = (0, l.flatMap (tellL 5))) := encV_ok hA h4
   have HO : Hid (Own w3 (w.heap.size + 1) (.slice ao (l.flatMap (tellL 5)).length ocap) (l.flatMap (tellL 5))) := hown'
   clear hA hown'
   generalize hN : (l.flatMap (tellL 5)).length = N at *
   have h4' : ¬ (400 : Int) < (N : Int) := by omega
   clear hN
   obtain ⟨hk0, hk1⟩ := res_cells hcw hcw1 (.int .i64 0) (.slice ao N ocap)
   go_wp2
   refine bodyPost_ret (v := .agg #[.int .i64 0, .slice ao N ocap]) (by simp [results, Tryz.results143, go_sem, hk0, hk1]) rfl ?_
   rw [H.out]
   exact BytEnd.some hbel HO.out _ _
set_option maxHeartbeats 1600000 in
set_option maxRecDepth 100000 in
theorem encodeText_any (cs : Int) (a : Option Addr) (n cap : Nat) (l : List Int) (w : World) (hl : l.length = n) (hr : RdI w a l) (hn : n ≤ 1048576) :
  Calls Tryz.prog 143 #[.int .i64 cs, .slice a n cap] w fun e w' => BytEnd (encT cs l) w e w' := by
 by_cases hcs : 1 ≤ cs ∧ cs ≤ 5
 ·by_cases hf : flt l = 0
  ·rw [encT_ok hcs hf]
   rcases cs_cases hcs with rfl | rfl | rfl | rfl | rfl
   ·exact encodeText_1 a n cap l w hl hr hf
   ·exact encodeText_2 a n cap l w hl hr hf
   ·exact encodeText_3 a n cap l w hl hr hf
   ·exact encodeText_4 a n cap l w hl hr hf
   ·exact encodeText_5 a n cap l w hl hr hf
  ·have H : Hid (encT cs l = (flt l, [])) := encT_fault hcs hf
   have hb0 : Below w.heap.size w (w.alloc (.cells #[.int .i64 0, .slice none 0 0] 212)) := (Below.refl _ _).alloc (Nat.le_refl _) _
   have hr0 := hr.below hb0
   have hc23 : flt l = 2 ∨ flt l = 3 := by rcases flt_cases l with h | h | h; exact absurd h hf; exact .inl h; exact .inr h
   have HC : Hid (∀ w, RdI w a l → Calls Tryz.prog 155 #[.slice a n cap] w fun e w' => e = .returned (.int .i64 (flt l)) ∧ Below w.heap.size w w') := fun w hr => codesFault_any a n cap l w hl hr hn
   clear hf
   generalize flt l = c at *
   rcases hc23 with rfl | rfl
   all_goals
    go_enter Tryz.func143, Tryz.ntmps143
    go_wp2_with (first | (go_at_call 154; refine (charsetAt_any _ _).mono ?_; rintro e w' ⟨rfl, rfl⟩; rw [decide_eq_true hcs]))
    refine (HC.out _ hr0).mono ?_
    rintro e w1 ⟨rfl, hb1⟩
    have hbl : Below (w.heap.size + 1) (w.alloc (.cells #[.int .i64 0, .slice none 0 0] 212)) w1 := hb1.mono (by simp)
    obtain ⟨hcw, hcw1, hfw, hfw1⟩ := res_block rfl hbl
    have hbel : Below w.heap.size w w1 := hb0.trans (hbl.mono (by omega))
    clear hb1 hbl hr hr0 HC
   ·obtain ⟨hk0, hk1⟩ := res_cells hcw hcw1 (.int .i64 2) (.slice none 0 0)
    go_wp2
    refine bodyPost_ret (v := .agg #[.int .i64 2, .slice none 0 0]) (by simp [results, Tryz.results143, go_sem, hk0, hk1]) rfl ?_
    rw [H.out]
    exact BytEnd.code hbel _ _
   ·obtain ⟨hk0, hk1⟩ := res_cells hcw hcw1 (.int .i64 3) (.slice none 0 0)
    go_wp2
    refine bodyPost_ret (v := .agg #[.int .i64 3, .slice none 0 0]) (by simp [results, Tryz.results143, go_sem, hk0, hk1]) rfl ?_
    rw [H.out]
    exact BytEnd.code hbel _ _
 ·have H : Hid (encT cs l = (4, [])) := encT_none hcs
  go_enter Tryz.func143, Tryz.ntmps143
  go_wp2_with (first | (go_at_call 154; refine (charsetAt_any _ _).mono ?_; rintro e w' ⟨rfl, rfl⟩; rw [decide_eq_false hcs]))
  go_returns
  exact ⟨.slice none 0 0, by rw [H.out], by rw [H.out]; exact Own.nil _ _, by go_grown⟩
end Go.Proofs.YtjogclofjollnaaGreatDoor
