/- The draw of bytes of a charset: some number and some bytes, in memory of the draw's own; nothing that was there is turned; sources of at most 1048576 bytes. -/
import Derived.Test.YtjkhlkmibajhiaaDrl3
import Derived.Test.YtjkhlkmibajhiaaDec3
namespace Go.Proofs.Ytjkhlkmibajhiaa
open Go.RowKit

theorem encV_isB {cs : Int} {l : List Int} (hcs : 1 ≤ cs ∧ cs ≤ 5) (hch : ∀ x ∈ l, chr x = true) : IsB (encV cs l).2 := by
  unfold encV
  split
  · rename_i ha
    split
    · intro b hb; simp at hb
    · intro b hb
      obtain ⟨x, hx, hbx⟩ := List.mem_flatMap.1 hb
      exact tellL_isB hcs (hch x hx) (List.all_eq_true.1 ha x hx) b hbx
  · intro b hb; simp at hb
theorem encV_short (cs : Int) (l : List Int) : (encV cs l).2.length ≤ 400 := by
  unfold encV
  split
  · split
    · simp
    · simp only; omega
  · simp
theorem Drawn.chr {l : List Int} (h : Drawn l) : ∀ x ∈ l, Go.Proofs.Ytjkhlkmibajhiaa.chr x = true := fun x hx => by
  have := h x hx
  simp only [List.mem_cons, List.not_mem_nil, or_false] at this
  rw [chr_iff]
  omega
/-- A slice of bytes that can be read. -/
def SlB (w : World) (v : Value) (l : List Nat) : Prop := ∃ (a : Option Addr) (n cap : Nat), v = .slice a n cap ∧ l.length = n ∧ n ≤ cap ∧ n ≤ 1000 ∧ Rd w a l
theorem Own.slB {w : World} {B : Nat} {v : Value} {l : List Nat} (h : Own w B v l) (hl : l.length ≤ 1000) : SlB w v l := by
  obtain ⟨a, cap, rfl, h2, _⟩ := h.form
  exact ⟨a, _, cap, rfl, rfl, h2, hl, h.rd.2⟩
/-- How a draw of a number and some bytes ends. -/
def BTxtEnd (w : World) (e : Ending) (w' : World) : Prop := ∃ (r : Int) (v : Value) (l : List Nat), e = .returned (.tuple #[.int .i64 r, v]) ∧ SlB w' v l ∧ IsB l ∧ Below w.heap.size w w'

set_option maxHeartbeats 1600000 in
set_option maxRecDepth 100000 in
theorem drawDecodeText_any (a : Option Addr) (n cap : Nat) (l : List Nat) (w : World) (hl : l.length = n) (hr : Rd w a l) (hB : IsB l) (hn : n ≤ 1048576) :
    Calls Try.prog 12 #[.slice a n cap] w fun e w' => BTxtEnd w e w' := by
  have HL : Hid (∀ (w1 : World) (M : Nat), M ≤ 800 → Src w1 w.heap.size w.heap.size M → Below w.heap.size w w1 → ∀ r : Int, Calls Try.prog 50 #[.pointer (some ⟨w.heap.size, 0, none⟩)] w1 fun e w' => ∃ v, e = .returned v ∧ BTxtEnd w (.returned (.tuple #[.int .i64 r, v])) w') := fun w1 M hM hs hb r => (l1Long_any w.heap.size w.heap.size M w1 hs hM).mono (by
    rintro e w2 ⟨v, out, rfl, ho, hBo, hol, hb2⟩
    exact ⟨v, rfl, r, v, out, rfl, ho.slB (by omega), hBo, hb.trans hb2⟩)
  go_enter Try.func12, Try.ntmps12
  go_wp2_with fail
  refine (l1Source_any a n cap l _ hl hr hB hn).mono ?_
  rintro e w1 ⟨rfl, hs, hb⟩
  have hlt : w.heap.size < w1.heap.size := (id hs).2.1
  go_wp2_with fail
  refine (l2Draw_any w.heap.size w.heap.size 0 _ hs (by omega)).mono ?_
  rintro e w2 ⟨r, rfl, hs2, hg2⟩
  have hz2 := hg2.size
  have hb2 : Below w.heap.size w w2 := hb.trans (gbelow hg2 hlt)
  clear hs hg2
  by_cases hcs : 1 ≤ r ∧ r ≤ 5
  · go_wp2_with (first | (go_at_call 46; refine (l2Set_any _ _).mono ?_; rintro e w' ⟨rfl, rfl⟩; rw [decide_eq_true hcs]))
    refine (l2Codes_any w.heap.size w.heap.size _ _ hs2 (by omega)).mono ?_
    rintro e w3 ⟨v, out, rfl, ho, hol, hD, hs3, hg3⟩
    have hz3 := hg3.size
    have hb3 : Below w.heap.size w w3 := hb2.trans (gbelow hg3 (by omega))
    obtain ⟨ao, co, hv, hco, -⟩ := ho.form
    rw [hv] at ho ⊢
    clear hv hs2 hg3
    go_wp2_with fail
    refine (l2Encode_any r ao _ co out _ hcs rfl ho.rd.2 (by omega) hD.chr).mono ?_
    rintro e w4 ⟨u, rfl, hou, hb4⟩
    have hs4 := hs3.below (hb4.mono (by omega))
    have hz4 := hb4.size
    have hBu := encV_isB (l := out) hcs hD.chr
    have hlu := encV_short r out
    have hb4' : Below w.heap.size w w4 := hb3.trans (hb4.mono (by omega))
    generalize hE : encV r out = E at *
    obtain ⟨c, t⟩ := E
    simp only at hou hBu hlu ⊢
    clear hE hb4 ho hs3 hD
    generalize out.length = N at *
    by_cases hc : c = 0
    · subst hc
      go_wp2_with fail
      refine (l1Chance_any w.heap.size w.heap.size _ 4 _ hs4 (by omega) (by omega) (by omega)).mono ?_
      rintro e w5 ⟨q, rfl, hs5, hg5⟩
      have hou5 := hou.keptG hg5 (by omega)
      have hb5 : Below w.heap.size w w5 := hb4'.trans (gbelow hg5 (by omega))
      clear hs4 hg5 hou
      cases q with
      | true =>
        go_wp2_with fail
        refine Calls.mono (HL.out _ _ (by omega) hs5 hb5 r) ?_
        rintro e w6 ⟨v', rfl, hend⟩
        have HF : Hid (_) := hend
        clear hend HL
        go_wp2
        go_ret2
        exact HF.out
      | false =>
        have HF : Hid (BTxtEnd w (.returned (.tuple #[.int .i64 r, u])) w5) := ⟨r, u, t, rfl, hou5.slB (by omega), hBu, hb5⟩
        clear hou5 hs5 HL
        go_wp2
        go_ret2
        exact HF.out
    · have e0 : (c == 0) = false := by simp; omega
      clear hou
      go_wp2_with fail
      refine Calls.mono (HL.out _ _ (by omega) hs4 hb4' r) ?_
      rintro e w6 ⟨v', rfl, hend⟩
      have HF : Hid (_) := hend
      clear hend HL
      go_wp2
      go_ret2
      exact HF.out
  · go_wp2_with (first | (go_at_call 46; refine (l2Set_any _ _).mono ?_; rintro e w' ⟨rfl, rfl⟩; rw [decide_eq_false hcs]))
    refine Calls.mono (HL.out _ _ (by omega) hs2 hb2 r) ?_
    rintro e w6 ⟨v', rfl, hend⟩
    have HF : Hid (_) := hend
    clear hend HL
    go_wp2
    go_ret2
    exact HF.out
end Go.Proofs.Ytjkhlkmibajhiaa
