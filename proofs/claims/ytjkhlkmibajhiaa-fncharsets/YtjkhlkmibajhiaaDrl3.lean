/- The draws of chapters 2 and 3, each whole: some numbers and slices of memory of the draw's own; nothing that was there is turned; sources of at most 1048576 bytes. -/
import Derived.Test.YtjkhlkmibajhiaaDrl2
import Derived.Test.YtjkhlkmibajhiaaMrk0
namespace Go.Proofs.Ytjkhlkmibajhiaa
open Go.RowKit

/-- How a draw of two numbers ends. -/
def PairEnd (w : World) (e : Ending) (w' : World) : Prop := ∃ r x : Int, e = .returned (.tuple #[.int .i64 r, .int .i64 x]) ∧ Below w.heap.size w w'
/-- A slice of numbers that can be read. -/
def Sl (w : World) (v : Value) (l : List Int) : Prop := ∃ (a : Option Addr) (n cap : Nat), v = .slice a n cap ∧ l.length = n ∧ n ≤ cap ∧ n ≤ 1000 ∧ RdI w a l
theorem Sl.below {w w' : World} {v : Value} {l : List Int} (h : Sl w v l) (hb : Below w.heap.size w w') : Sl w' v l := by
  obtain ⟨a, n, cap, e, h1, h2, h3, h4⟩ := h
  exact ⟨a, n, cap, e, h1, h2, h3, h4.below hb⟩
theorem OwnI.sl {w : World} {B : Nat} {v : Value} {l : List Int} (h : OwnI w B v l) (hl : l.length ≤ 1000) : Sl w v l := by
  obtain ⟨a, cap, rfl, h2, _⟩ := h.form
  exact ⟨a, _, cap, rfl, rfl, h2, hl, h.rd.2⟩
/-- How a draw of a number and a text ends. -/
def TxtEnd (w : World) (e : Ending) (w' : World) : Prop := ∃ (r : Int) (v : Value) (l : List Int), e = .returned (.tuple #[.int .i64 r, v]) ∧ Sl w' v l ∧ Below w.heap.size w w'
/-- How a draw of a number and two texts ends. -/
def TwoTxt (w : World) (e : Ending) (w' : World) : Prop := ∃ (r : Int) (v u : Value) (l s : List Int), e = .returned (.tuple #[.int .i64 r, v, u]) ∧ Sl w' v l ∧ Sl w' u s ∧ Below w.heap.size w w'

set_option maxHeartbeats 1600000 in
set_option maxRecDepth 100000 in
theorem drawMapCodes_any (a : Option Addr) (n cap : Nat) (l : List Nat) (w : World) (hl : l.length = n) (hr : Rd w a l) (hB : IsB l) (hn : n ≤ 1048576) :
    Calls Try.prog 27 #[.slice a n cap] w fun e w' => TxtEnd w e w' := by
  go_enter Try.func27, Try.ntmps27
  go_wp2_with fail
  refine (l1Source_any a n cap l _ hl hr hB hn).mono ?_
  rintro e w1 ⟨rfl, hs, hb⟩
  have hlt : w.heap.size < w1.heap.size := (id hs).2.1
  go_wp2_with fail
  refine (l3Draw_any w.heap.size w.heap.size 0 _ hs (by omega)).mono ?_
  rintro e w2 ⟨r, rfl, hs2, hg2⟩
  go_wp2_with fail
  refine (l2Bent_any w.heap.size w.heap.size _ _ hs2 (by omega)).mono ?_
  rintro e w3 ⟨v, out, rfl, ho, hol, -, hs3, hg3⟩
  have HF : Hid (TxtEnd w (.returned (.tuple #[.int .i64 r, v])) w3) := ⟨r, v, out, rfl, ho.sl (by omega), hb.trans (gbelow (gthen hg2 hg3) hlt)⟩
  clear hs hs2 hs3 hg2 hg3 ho
  go_wp2
  go_ret2
  exact HF.out

set_option maxHeartbeats 1600000 in
set_option maxRecDepth 100000 in
theorem drawEncodeText_any (a : Option Addr) (n cap : Nat) (l : List Nat) (w : World) (hl : l.length = n) (hr : Rd w a l) (hB : IsB l) (hn : n ≤ 1048576) :
    Calls Try.prog 17 #[.slice a n cap] w fun e w' => TxtEnd w e w' := by
  go_enter Try.func17, Try.ntmps17
  go_wp2_with fail
  refine (l1Source_any a n cap l _ hl hr hB hn).mono ?_
  rintro e w1 ⟨rfl, hs, hb⟩
  have hlt : w.heap.size < w1.heap.size := (id hs).2.1
  go_wp2_with fail
  refine (l2Draw_any w.heap.size w.heap.size 0 _ hs (by omega)).mono ?_
  rintro e w2 ⟨r, rfl, hs2, hg2⟩
  go_wp2_with fail
  refine (l2Bent_any w.heap.size w.heap.size _ _ hs2 (by omega)).mono ?_
  rintro e w3 ⟨v, out, rfl, ho, hol, -, hs3, hg3⟩
  have HF : Hid (TxtEnd w (.returned (.tuple #[.int .i64 r, v])) w3) := ⟨r, v, out, rfl, ho.sl (by omega), hb.trans (gbelow (gthen hg2 hg3) hlt)⟩
  clear hs hs2 hs3 hg2 hg3 ho
  go_wp2
  go_ret2
  exact HF.out

set_option maxHeartbeats 1600000 in
set_option maxRecDepth 100000 in
theorem drawMapChar_any (a : Option Addr) (n cap : Nat) (l : List Nat) (w : World) (hl : l.length = n) (hr : Rd w a l) (hB : IsB l) (hn : n ≤ 1048576) :
    Calls Try.prog 24 #[.slice a n cap] w fun e w' => PairEnd w e w' := by
  go_enter Try.func24, Try.ntmps24
  go_wp2_with fail
  refine (l1Source_any a n cap l _ hl hr hB hn).mono ?_
  rintro e w1 ⟨rfl, hs, hb⟩
  have hlt : w.heap.size < w1.heap.size := (id hs).2.1
  go_wp2_with fail
  refine (l3Draw_any w.heap.size w.heap.size 0 _ hs (by omega)).mono ?_
  rintro e w2 ⟨r, rfl, hs2, hg2⟩
  have hz2 := hg2.size
  have hs2' : ∀ cs, Src (w2.alloc (.cells cs 2)) w.heap.size w.heap.size (0 + 1) := fun cs => hs2.below ((Below.refl _ _).alloc (by omega) _)
  go_wp2_with fail
  refine (l1Pick_any w.heap.size w.heap.size (0 + 1) _ 18 18 [97, 122, 123, 65, 223, 224, 247, 254, 255, 945, 962, 969, 1072, 1103, 1104, 1119, 1120, -1] _ (hs2' _) (by omega) rfl (by omega) (by omega) (nums_new rfl) (by omega)).mono ?_
  rintro e w3 ⟨x, rfl, -, hs3, hg3⟩
  have HF : Hid (PairEnd w (.returned (.tuple #[.int .i64 r, .int .i64 x])) w3) := ⟨r, x, rfl, hb.trans (gbelow (gthen (gnew hg2 _) hg3) hlt)⟩
  clear hs hs2 hs3 hg2 hg3 hs2'
  go_wp2
  go_ret2
  exact HF.out

set_option maxHeartbeats 1600000 in
set_option maxRecDepth 100000 in
theorem drawHasChar_any (a : Option Addr) (n cap : Nat) (l : List Nat) (w : World) (hl : l.length = n) (hr : Rd w a l) (hB : IsB l) (hn : n ≤ 1048576) :
    Calls Try.prog 20 #[.slice a n cap] w fun e w' => PairEnd w e w' := by
  go_enter Try.func20, Try.ntmps20
  go_wp2_with fail
  refine (l1Source_any a n cap l _ hl hr hB hn).mono ?_
  rintro e w1 ⟨rfl, hs, hb⟩
  have hlt : w.heap.size < w1.heap.size := (id hs).2.1
  go_wp2_with fail
  refine (l2Draw_any w.heap.size w.heap.size 0 _ hs (by omega)).mono ?_
  rintro e w2 ⟨r, rfl, hs2, hg2⟩
  have hz2 := hg2.size
  have hs2' : ∀ cs, Src (w2.alloc (.cells cs 2)) w.heap.size w.heap.size (0 + 1) := fun cs => hs2.below ((Below.refl _ _).alloc (by omega) _)
  go_wp2_with fail
  refine (l1Pick_any w.heap.size w.heap.size (0 + 1) _ 16 16 [127, 128, 160, 161, 167, 173, 1024, 1025, 1037, 1104, 1117, 1119, 8470, 55296, 65535, -1] _ (hs2' _) (by omega) rfl (by omega) (by omega) (nums_new rfl) (by omega)).mono ?_
  rintro e w3 ⟨x, rfl, -, hs3, hg3⟩
  have HF : Hid (PairEnd w (.returned (.tuple #[.int .i64 r, .int .i64 x])) w3) := ⟨r, x, rfl, hb.trans (gbelow (gthen (gnew hg2 _) hg3) hlt)⟩
  clear hs hs2 hs3 hg2 hg3 hs2'
  go_wp2
  go_ret2
  exact HF.out

set_option maxHeartbeats 1600000 in
set_option maxRecDepth 100000 in
theorem drawCompareCodes_any (a : Option Addr) (n cap : Nat) (l : List Nat) (w : World) (hl : l.length = n) (hr : Rd w a l) (hB : IsB l) (hn : n ≤ 1048576) :
    Calls Try.prog 32 #[.slice a n cap] w fun e w' => TwoTxt w e w' := by
  go_enter Try.func32, Try.ntmps32
  go_wp2_with fail
  refine (l1Source_any a n cap l _ hl hr hB hn).mono ?_
  rintro e w1 ⟨rfl, hs, hb⟩
  have hlt : w.heap.size < w1.heap.size := (id hs).2.1
  go_wp2_with fail
  refine (l3Draw_any w.heap.size w.heap.size 0 _ hs (by omega)).mono ?_
  rintro e w2 ⟨r, rfl, hs2, hg2⟩
  have hz2 := hg2.size
  go_wp2_with fail
  refine (l3Letters_any w.heap.size w.heap.size _ _ hs2 (by omega)).mono ?_
  rintro e w3 ⟨v, out, rfl, ho, hol, -, hs3, hg3⟩
  go_wp2_with fail
  refine (l3Letters_any w.heap.size w.heap.size _ _ hs3 (by omega)).mono ?_
  rintro e w4 ⟨u, out2, rfl, ho2, hol2, -, hs4, hg4⟩
  have ho' := ho.keptG hg4 (by omega)
  have HF : Hid (TwoTxt w (.returned (.tuple #[.int .i64 r, v, u])) w4) := ⟨r, v, u, out, out2, rfl, ho'.sl (by omega), ho2.sl (by omega), hb.trans (gbelow (gthen (gthen hg2 hg3) hg4) hlt)⟩
  clear hs hs2 hs3 hg2 hg3 ho ho2 ho' hs4 hg4
  go_wp2
  refine bodyPost_ret (v := .tuple #[.int .i64 r, v, u]) (by simp [results, Try.results32]) rfl ?_
  exact HF.out

set_option maxHeartbeats 1600000 in
set_option maxRecDepth 100000 in
theorem drawHasCodes_any (a : Option Addr) (n cap : Nat) (l : List Nat) (w : World) (hl : l.length = n) (hr : Rd w a l) (hB : IsB l) (hn : n ≤ 1048576) :
    Calls Try.prog 34 #[.slice a n cap] w fun e w' => TwoTxt w e w' := by
  go_enter Try.func34, Try.ntmps34
  go_wp2_with fail
  refine (l1Source_any a n cap l _ hl hr hB hn).mono ?_
  rintro e w1 ⟨rfl, hs, hb⟩
  have hlt : w.heap.size < w1.heap.size := (id hs).2.1
  go_wp2_with fail
  refine (l3Draw_any w.heap.size w.heap.size 0 _ hs (by omega)).mono ?_
  rintro e w2 ⟨r, rfl, hs2, hg2⟩
  have hz2 := hg2.size
  go_wp2_with fail
  refine (l3Letters_any w.heap.size w.heap.size _ _ hs2 (by omega)).mono ?_
  rintro e w3 ⟨v, out, rfl, ho, hol, -, hs3, hg3⟩
  have hz3 := hg3.size
  obtain ⟨ao, co, hv, hco, -⟩ := ho.form
  rw [hv] at ho ⊢
  clear hv
  have HG3 : Hid (w1.grownBy w3 (some w.heap.size)) := gthen hg2 hg3
  clear hg2 hg3 hs hs2
  obtain ⟨N, hN⟩ : ∃ N, out.length = N := ⟨_, rfl⟩
  have HO : Hid (OwnI w3 w2.heap.size (.slice ao N co) out) := by rw [← hN]; exact ho
  rw [hN] at hol hco ⊢
  have HN : Hid (out.length = N) := hN
  clear hN ho
  by_cases h1 : 1 < N
  · have h1' : (1 : Int) < (N : Int) := by omega
    go_wp2_with fail
    refine (l1Chance_any w.heap.size w.heap.size _ 2 _ hs3 (by omega) (by omega) (by omega)).mono ?_
    rintro e w4 ⟨q, rfl, hs4, hg4⟩
    have hz4 := hg4.size
    have HO4 : Hid (OwnI w4 w2.heap.size (.slice ao N co) out) := HO.out.keptG hg4 (by omega)
    have HG4 : Hid (w1.grownBy w4 (some w.heap.size)) := gthen HG3.out hg4
    clear hs3 hg4 HO HG3
    cases q with
    | true =>
      go_wp2_with fail
      refine (l1Next_any w.heap.size w.heap.size _ (N : Int) _ hs4 (by omega) (by omega) (by omega)).mono ?_
      rintro e w5 ⟨x, rfl, r0, r1, _, hs5, hg5⟩
      obtain ⟨j, rfl⟩ := Int.eq_ofNat_of_zero_le r0
      have hjN : j < N := by have := r1 (by omega); omega
      have hjN' : (j : Int) ≤ (N : Int) := by omega
      have hz5 := hg5.size
      have ho5 := HO4.out.keptG hg5 (by omega)
      have HG5 : Hid (w1.grownBy w5 (some w.heap.size)) := gthen HG4.out hg5
      obtain ⟨g, off, rfl, hglt, hcell⟩ := ho5.rd.2.at_ (by have := HN.out; omega)
      have hown0 : OwnI (w5.alloc (.cells #[] 2)) w5.heap.size (.slice (some ⟨w5.heap.size, 0, none⟩) 0 0) [] := OwnI.lit w5 _ (Nat.le_refl _) #[] [] rfl (by decide)
      have hcj : ¬ co = j := by omega
      have hdl : (out.drop j).length = N - j := by rw [List.length_drop, HN.out]
      have hnew : ∀ i, i < N - j → (w5.alloc (.cells #[] 2)).cell? ((⟨g, off + j, none⟩ : Addr).add i) = some (.int .i64 (nthI (out.drop j) i)) := fun i hi => by
        have h := hcell (j + i) (by have := HN.out; omega)
        have e1 : (⟨g, off + j, none⟩ : Addr).add i = ⟨g, off + j + i, none⟩ := Go.WideShapes.add_plain ..
        rw [e1, ((Below.refl w5.heap.size w5).alloc (Nat.le_refl _) _).cell (p := ⟨g, off + j + i, none⟩) hglt, nthI_drop, Nat.add_assoc]
        exact h
      clear hs4 hg5 HO4 HG4 hs5 r1 hcell
      go_wp2_with (at_builtin; refine wpList_appI rfl _ _ rfl w5.heap.size _ [] rfl hown0 ⟨g, off + j, none⟩ (N - j) (co - j) (out.drop j) rfl hdl hnew (by simp only [List.length_nil]; omega) (by simp) ?_; intro v' w6 hown' hb')
      have hbA : Below w5.heap.size w5 w6 := ((Below.refl _ _).alloc (Nat.le_refl _) _).trans hb'
      have hz6 := hbA.size
      have HF : Hid (TwoTxt w (.returned (.tuple #[.int .i64 r, .slice (some ⟨g, off, none⟩) N co, v'])) w6) := ⟨r, _, v', out, out.drop j, rfl, (ho5.sl (by have := HN.out; omega)).below hbA, hown'.sl (by rw [List.nil_append, hdl]; omega), hb.trans (gbelow (glow HG5.out (hbA.mono (by omega))) hlt)⟩
      clear hown' hb' hbA ho5 HG5 hown0 hnew
      refine bodyPost_ret (v := .tuple #[.int .i64 r, .slice (some ⟨g, off, none⟩) N co, v']) (by simp [results, Try.results34]) rfl ?_
      exact HF.out
    | false =>
      go_wp2_with fail
      refine (l3Letters_any w.heap.size w.heap.size _ _ hs4 (by omega)).mono ?_
      rintro e w5 ⟨u, out2, rfl, ho2, hol2, -, hs5, hg5⟩
      have ho' := HO4.out.keptG hg5 (by omega)
      have HF : Hid (TwoTxt w (.returned (.tuple #[.int .i64 r, .slice ao N co, u])) w5) := ⟨r, _, u, out, out2, rfl, ho'.sl (by have := HN.out; omega), ho2.sl (by omega), hb.trans (gbelow (gthen HG4.out hg5) hlt)⟩
      clear hs4 ho2 ho' hs5 hg5 HO4
      go_wp2
      refine bodyPost_ret (v := .tuple #[.int .i64 r, .slice ao N co, u]) (by simp [results, Try.results34]) rfl ?_
      exact HF.out
  · have h1' : ¬ (1 : Int) < (N : Int) := by omega
    go_wp2_with fail
    refine (l3Letters_any w.heap.size w.heap.size _ _ hs3 (by omega)).mono ?_
    rintro e w4 ⟨u, out2, rfl, ho2, hol2, -, hs4, hg4⟩
    have ho' := HO.out.keptG hg4 (by omega)
    have HF : Hid (TwoTxt w (.returned (.tuple #[.int .i64 r, .slice ao N co, u])) w4) := ⟨r, _, u, out, out2, rfl, ho'.sl (by have := HN.out; omega), ho2.sl (by omega), hb.trans (gbelow (gthen HG3.out hg4) hlt)⟩
    clear hs3 ho2 ho' hs4 hg4 HO
    go_wp2
    refine bodyPost_ret (v := .tuple #[.int .i64 r, .slice ao N co, u]) (by simp [results, Try.results34]) rfl ?_
    exact HF.out
end Go.Proofs.Ytjkhlkmibajhiaa
