/- The draw of a text and a piece of it, once more, with a word on texts of nothing; and a choice that the laws make. -/
import Derived.Test.YtjkhlkmibajhiaaDrl3
import Derived.Laws.AppendOwnNone
namespace Go.Proofs.Ytjkhlkmibajhiaa
open Go.RowKit

/-- A slice of numbers that can be read; one without an address has no room. -/
def SlN (w : World) (v : Value) (l : List Int) : Prop := ∃ (a : Option Addr) (n cap : Nat), v = .slice a n cap ∧ l.length = n ∧ n ≤ cap ∧ n ≤ 100 ∧ (a = none → cap = 0) ∧ RdI w a l
theorem SlN.below {w w' : World} {v : Value} {l : List Int} (h : SlN w v l) (hb : Below w.heap.size w w') : SlN w' v l := by
  obtain ⟨a, n, cap, e, h1, h2, h3, h5, h4⟩ := h
  exact ⟨a, n, cap, e, h1, h2, h3, h5, h4.below hb⟩
theorem OwnI.slN {w : World} {B : Nat} {v : Value} {l : List Int} (h : OwnI w B v l) (hl : l.length ≤ 100) : SlN w v l := by
  have hc : ∃ a cap, v = .slice a l.length cap ∧ l.length ≤ cap ∧ (a = none → cap = 0) := by
    rcases h.2 with ⟨h', h0⟩ | ⟨g, cap, cur, h', _, _, h4, h5, _⟩
    · exact ⟨none, 0, by rw [h', h0], by omega, fun _ => rfl⟩
    · exact ⟨_, cap, h', h4, fun e => by cases e⟩
  obtain ⟨a, cap, rfl, h2, h3⟩ := hc
  exact ⟨a, _, cap, rfl, rfl, h2, hl, h3, h.rd.2⟩
/-- How a draw of a number and two texts ends. -/
def TwoTxtN (w : World) (e : Ending) (w' : World) : Prop := ∃ (r : Int) (v u : Value) (l s : List Int), e = .returned (.tuple #[.int .i64 r, v, u]) ∧ SlN w' v l ∧ SlN w' u s ∧ Below w.heap.size w w'

set_option maxHeartbeats 1600000 in
set_option maxRecDepth 100000 in
theorem drawHasCodes_in (a : Option Addr) (n cap : Nat) (l : List Nat) (w : World) (hl : l.length = n) (hr : Rd w a l) (hB : IsB l) (hn : n ≤ 1048576) :
    Calls Try.prog 34 #[.slice a n cap] w fun e w' => TwoTxtN w e w' := by
  go_enter Try.func34, Try.ntmps34
  go_wp2_with fail
  refine (l1Source_any a n cap l _ hl hr hB hn).mono ?_
  rintro e w1 ⟨rfl, hs, hb⟩
  have hlt : w.heap.size < w1.heap.size := (id hs).2.1
  go_wp2_with fail
  refine (l3Draw_any w.heap.size w.heap.size 0 _ hs (by omega)).mono ?_
  rintro e w2 ⟨r, rfl, hs2, hg2⟩
  have hz2 := hg2.size
  go_wp2_with fail
  refine (l3Letters_any w.heap.size w.heap.size _ _ hs2 (by omega)).mono ?_
  rintro e w3 ⟨v, out, rfl, ho, hol, -, hs3, hg3⟩
  have hz3 := hg3.size
  obtain ⟨ao, co, hv, hco, -⟩ := ho.form
  rw [hv] at ho ⊢
  clear hv
  have HG3 : Hid (w1.grownBy w3 (some w.heap.size)) := gthen hg2 hg3
  clear hg2 hg3 hs hs2
  obtain ⟨N, hN⟩ : ∃ N, out.length = N := ⟨_, rfl⟩
  have HO : Hid (OwnI w3 w2.heap.size (.slice ao N co) out) := by rw [← hN]; exact ho
  rw [hN] at hol hco ⊢
  have HN : Hid (out.length = N) := hN
  clear hN ho
  by_cases h1 : 1 < N
  · have h1' : (1 : Int) < (N : Int) := by omega
    go_wp2_with fail
    refine (l1Chance_any w.heap.size w.heap.size _ 2 _ hs3 (by omega) (by omega) (by omega)).mono ?_
    rintro e w4 ⟨q, rfl, hs4, hg4⟩
    have hz4 := hg4.size
    have HO4 : Hid (OwnI w4 w2.heap.size (.slice ao N co) out) := HO.out.keptG hg4 (by omega)
    have HG4 : Hid (w1.grownBy w4 (some w.heap.size)) := gthen HG3.out hg4
    clear hs3 hg4 HO HG3
    cases q with
    | true =>
      go_wp2_with fail
      refine (l1Next_any w.heap.size w.heap.size _ (N : Int) _ hs4 (by omega) (by omega) (by omega)).mono ?_
      rintro e w5 ⟨x, rfl, r0, r1, _, hs5, hg5⟩
      obtain ⟨j, rfl⟩ := Int.eq_ofNat_of_zero_le r0
      have hjN : j < N := by have := r1 (by omega); omega
      have hjN' : (j : Int) ≤ (N : Int) := by omega
      have hz5 := hg5.size
      have ho5 := HO4.out.keptG hg5 (by omega)
      have HG5 : Hid (w1.grownBy w5 (some w.heap.size)) := gthen HG4.out hg5
      obtain ⟨g, off, rfl, hglt, hcell⟩ := ho5.rd.2.at_ (by have := HN.out; omega)
      have hown0 : OwnI (w5.alloc (.cells #[] 2)) w5.heap.size (.slice (some ⟨w5.heap.size, 0, none⟩) 0 0) [] := OwnI.lit w5 _ (Nat.le_refl _) #[] [] rfl (by decide)
      have hcj : ¬ co = j := by omega
      have hdl : (out.drop j).length = N - j := by rw [List.length_drop, HN.out]
      have hnew : ∀ i, i < N - j → (w5.alloc (.cells #[] 2)).cell? ((⟨g, off + j, none⟩ : Addr).add i) = some (.int .i64 (nthI (out.drop j) i)) := fun i hi => by
        have h := hcell (j + i) (by have := HN.out; omega)
        have e1 : (⟨g, off + j, none⟩ : Addr).add i = ⟨g, off + j + i, none⟩ := Go.WideShapes.add_plain ..
        rw [e1, ((Below.refl w5.heap.size w5).alloc (Nat.le_refl _) _).cell (p := ⟨g, off + j + i, none⟩) hglt, nthI_drop, Nat.add_assoc]
        exact h
      clear hs4 hg5 HO4 HG4 hs5 r1 hcell
      go_wp2_with (at_builtin; refine wpList_appI rfl _ _ rfl w5.heap.size _ [] rfl hown0 ⟨g, off + j, none⟩ (N - j) (co - j) (out.drop j) rfl hdl hnew (by simp only [List.length_nil]; omega) (by simp) ?_; intro v' w6 hown' hb')
      have hbA : Below w5.heap.size w5 w6 := ((Below.refl _ _).alloc (Nat.le_refl _) _).trans hb'
      have hz6 := hbA.size
      have HF : Hid (TwoTxtN w (.returned (.tuple #[.int .i64 r, .slice (some ⟨g, off, none⟩) N co, v'])) w6) := ⟨r, _, v', out, out.drop j, rfl, (ho5.slN (by have := HN.out; omega)).below hbA, hown'.slN (by rw [List.nil_append, hdl]; omega), hb.trans (gbelow (glow HG5.out (hbA.mono (by omega))) hlt)⟩
      clear hown' hb' hbA ho5 HG5 hown0 hnew
      refine bodyPost_ret (v := .tuple #[.int .i64 r, .slice (some ⟨g, off, none⟩) N co, v']) (by simp [results, Try.results34]) rfl ?_
      exact HF.out
    | false =>
      go_wp2_with fail
      refine (l3Letters_any w.heap.size w.heap.size _ _ hs4 (by omega)).mono ?_
      rintro e w5 ⟨u, out2, rfl, ho2, hol2, -, hs5, hg5⟩
      have ho' := HO4.out.keptG hg5 (by omega)
      have HF : Hid (TwoTxtN w (.returned (.tuple #[.int .i64 r, .slice ao N co, u])) w5) := ⟨r, _, u, out, out2, rfl, ho'.slN (by have := HN.out; omega), ho2.slN (by omega), hb.trans (gbelow (gthen HG4.out hg5) hlt)⟩
      clear hs4 ho2 ho' hs5 hg5 HO4
      go_wp2
      refine bodyPost_ret (v := .tuple #[.int .i64 r, .slice ao N co, u]) (by simp [results, Try.results34]) rfl ?_
      exact HF.out
  · have h1' : ¬ (1 : Int) < (N : Int) := by omega
    go_wp2_with fail
    refine (l3Letters_any w.heap.size w.heap.size _ _ hs3 (by omega)).mono ?_
    rintro e w4 ⟨u, out2, rfl, ho2, hol2, -, hs4, hg4⟩
    have ho' := HO.out.keptG hg4 (by omega)
    have HF : Hid (TwoTxtN w (.returned (.tuple #[.int .i64 r, .slice ao N co, u])) w4) := ⟨r, _, u, out, out2, rfl, ho'.slN (by have := HN.out; omega), ho2.slN (by omega), hb.trans (gbelow (gthen HG3.out hg4) hlt)⟩
    clear hs3 ho2 ho' hs4 hg4 HO
    go_wp2
    refine bodyPost_ret (v := .tuple #[.int .i64 r, .slice ao N co, u]) (by simp [results, Try.results34]) rfl ?_
    exact HF.out

set_option maxHeartbeats 1600000 in
set_option maxRecDepth 100000 in
theorem lwAt_any (a : Option Addr) (n cap i : Nat) (k : Int) (l : List Nat) (w : World) (hl : l.length = n) (hr : Rd w a l) (hB : IsB l) (hn : n ≤ 1048576) (hi : i ≤ 10) (h0 : 1 ≤ k) (hk : k ≤ 2000) :
    Calls Try.prog 36 #[.slice a n cap, .int .i64 (i : Int), .int .i64 k] w fun e w' => ∃ r : Int, e = .returned (.int .i64 r) ∧ 0 ≤ r ∧ r < k ∧ Below w.heap.size w w' := by
  by_cases hk1 : k ≤ 1
  · go_enter Try.func36, Try.ntmps36
    go_wp2
    go_ret
    exact ⟨0, rfl, by omega, by omega, Below.refl _ _⟩
  · by_cases hn0 : n = 0
    · subst hn0
      go_enter Try.func36, Try.ntmps36
      go_wp2
      go_ret
      have r1 := Int.emod_nonneg ((i : Int) * 7) (show k ≠ 0 by omega)
      have r2 := Int.emod_lt_of_pos ((i : Int) * 7) (show 0 < k by omega)
      exact ⟨_, rfl, r1, r2, Below.refl _ _⟩
    · obtain ⟨q1, hq1⟩ : ∃ q, q = i % n := ⟨_, rfl⟩
      obtain ⟨q2, hq2⟩ : ∃ q, q = (i + 1) % n := ⟨_, rfl⟩
      obtain ⟨p, hp⟩ : ∃ p, p = i / n := ⟨_, rfl⟩
      have q1n : q1 < n := by rw [hq1]; exact Nat.mod_lt _ (by omega)
      have q2n : q2 < n := by rw [hq2]; exact Nat.mod_lt _ (by omega)
      have hp' : p ≤ 1000 := by have := Nat.div_le_self i n; omega
      obtain ⟨d, off, rfl, hdlt, hc⟩ := hr.at_ (by omega)
      have x1 := hc q1 (by omega)
      have x2 := hc q2 (by omega)
      have b1 := nth_lt hB q1
      have b2 := nth_lt hB q2
      generalize nth l q1 = y1 at *
      generalize nth l q2 = y2 at *
      have e1 : (i : Int) % (n : Int) = (q1 : Int) := by rw [hq1]; exact (Int.natCast_emod _ _).symm
      have e2 : ((i : Int) + 1) % (n : Int) = (q2 : Int) := by rw [hq2, Int.natCast_emod]; rfl
      have e3 : (i : Int) / (n : Int) = (p : Int) := by rw [hp]; exact (Int.natCast_ediv _ _).symm
      have i1 : (q1 : Int) < (n : Int) := by omega
      have i2 : (q2 : Int) < (n : Int) := by omega
      have n0 : ((n : Int) == 0) = false := beq_eq_false_iff_ne.2 (by omega)
      clear hc hq1 hq2 hp
      by_cases hk2 : 200 < k
      · go_enter Try.func36, Try.ntmps36
        go_wp2
        go_quiet (fail)
        go_wp2
        go_ret
        have r1 := Int.emod_nonneg (((y1 : Int) + (p : Int) * 3) * 251 + (y2 : Int)) (show k ≠ 0 by omega)
        have r2 := Int.emod_lt_of_pos (((y1 : Int) + (p : Int) * 3) * 251 + (y2 : Int)) (show 0 < k by omega)
        exact ⟨_, rfl, r1, r2, below_drewN (Below.refl _ _) _⟩
      · go_enter Try.func36, Try.ntmps36
        go_wp2
        go_quiet (fail)
        go_wp2
        go_ret
        have r1 := Int.emod_nonneg ((y1 : Int) + (p : Int) * 3) (show k ≠ 0 by omega)
        have r2 := Int.emod_lt_of_pos ((y1 : Int) + (p : Int) * 3) (show 0 < k by omega)
        exact ⟨_, rfl, r1, r2, below_drewN (Below.refl _ _) _⟩
end Go.Proofs.Ytjkhlkmibajhiaa
