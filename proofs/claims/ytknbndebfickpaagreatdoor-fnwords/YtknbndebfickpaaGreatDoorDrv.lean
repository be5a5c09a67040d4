/- The draws of chapter 4 that the law of words reads: some text, some numbers; sources of at most 1048576 bytes. -/
import Derived.Test.YtknbndebfickpaaGreatDoorDec7ToDrl4
import Derived.Test.YtknbndebfickpaaGreatDoorWpwToEwP
namespace Go.Proofs.YtknbndebfickpaaGreatDoor
open Go.RowKit

theorem drawn_flt {l : List Int} (h : Drawn l) (hl : l.length ≤ 400) : flt l = 0 := by
  refine flt_ok (by omega) (List.all_eq_true.2 (fun x hx => ?_))
  have := h x hx
  simp only [List.mem_cons, List.not_mem_nil, or_false] at this
  rcases this with rfl | rfl | rfl | rfl | rfl | rfl | rfl | rfl | rfl | rfl | rfl | rfl | rfl <;> decide
theorem row_wordV {w : World} {cs : Array Value} {t : TypeId} {ss : List ByteArray} (h : cs.toList = ss.map Value.string) (hs : ∀ s ∈ ss, s.size ≤ 100) (j : Nat) (hj : j < ss.length) :
    ∃ l : List Nat, (w.alloc (.cells cs t)).cell? ⟨w.heap.size, j, none⟩ = some (.string (str l)) ∧ IsB l ∧ l.length ≤ 100 := by
  obtain ⟨l, h1, h2⟩ := str_surj ss[j]
  refine ⟨l, ?_, h2, ?_⟩
  · rw [World.cell?_alloc_mark, ← Array.getElem?_toList, h]
    simp [hj, h1]
  · have := hs ss[j] (List.getElem_mem hj)
    rw [h1, str_size] at this; exact this
/-- How a draw of a text ends. -/
def ValEnd (B b M : Nat) (w : World) (e : Ending) (w' : World) : Prop := ∃ l : List Nat, e = .returned (.string (str l)) ∧ IsB l ∧ l.length ≤ 400 ∧ Src w' B b M ∧ w.grownBy w' (some b)

set_option maxHeartbeats 1600000 in
set_option maxRecDepth 100000 in
theorem l4DrawValue_any (B b M : Nat) (w : World) (hs0 : Src w B b M) (hM : M ≤ 800) :
    Calls Tryz.prog 15 #[.pointer (some ⟨b, 0, none⟩)] w fun e w' => ValEnd B b (M + 7) w e w' := by
  obtain ⟨hBb, hbw, _⟩ := id hs0
  go_enter Tryz.func15, Tryz.ntmps15
  go_wp2_with fail
  refine (l1Next_any B b M 5 _ hs0 (by omega) (by omega) (by omega)).mono ?_
  rintro e w1 ⟨q, rfl, q0, q1, _, hs, hg⟩
  have hz1 := hg.size
  clear hs0
  by_cases h0 : q = 0
  · subst h0
    go_wp2_with fail
    refine (l2Codes_any B b (M + 1) _ hs (by omega)).mono ?_
    rintro e w2 ⟨v, out, rfl, ho, hol, hd, hs2, hg2⟩
    obtain ⟨a2, c2, rfl, -, -⟩ := ho.form
    have hE := l4Encode_any a2 out.length c2 out w2 rfl ho.rd.2 (drawn_flt hd (by omega))
    have hlen := ew_len out
    have hBe := ew_isB out
    have hz2 := hg2.size
    generalize ewV out = ev at *
    obtain ⟨ec, et⟩ := ev
    simp only at hlen hBe
    go_wp2_with fail
    refine hE.mono ?_
    rintro e w3 ⟨rfl, hb3⟩
    simp only
    have HF : Hid (ValEnd B b (M + 7) w (.returned (.string (str et))) w3) := ⟨et, rfl, hBe, hlen, (hs2.more (by omega)).below (hb3.mono (by omega)), glow (gthen hg hg2) (hb3.mono (by omega))⟩
    clear hs hs2 hg hg2 hE ho hb3
    generalize str et = x at *
    go_wp2
    go_ret
    exact HF.out
  · have e0 : (q == 0) = false := beq_eq_false_iff_ne.2 h0
    by_cases h1 : q = 1
    · subst h1
      have hs1 : Src (w1.alloc (.cells #[.string ⟨#[61, 63, 117, 116, 102, 45, 56, 63, 81, 63, 97, 61, 67, 51, 61, 65, 52, 95, 98, 63, 61]⟩, .string ⟨#[61, 63, 105, 115, 111, 45, 56, 56, 53, 57, 45, 53, 63, 113, 63, 61, 68, 54, 63, 61, 32, 61, 63, 117, 115, 45, 97, 115, 99, 105, 105, 63, 66, 63, 89, 81, 61, 61, 63, 61]⟩, .string ⟨#[120, 32, 61, 63, 98, 97, 100, 63, 81, 63, 97, 63, 61, 32, 121]⟩, .string ⟨#[61, 63, 117, 116, 102, 45, 56, 63, 66, 63, 89, 81, 63, 61]⟩, .string ⟨#[97, 32, 228, 32, 98]⟩, .string ⟨#[61, 63, 117, 116, 102, 45, 56, 63, 81, 63, 97, 63, 61, 32, 98, 32, 61, 63, 117, 116, 102, 45, 56, 63, 81, 63, 99, 63, 61]⟩] 9)) B b (M + 1) := hs.below ((Below.refl _ _).alloc (by omega) _)
      have hrow := row_wordV (w := w1) (t := 9) (cs := #[.string ⟨#[61, 63, 117, 116, 102, 45, 56, 63, 81, 63, 97, 61, 67, 51, 61, 65, 52, 95, 98, 63, 61]⟩, .string ⟨#[61, 63, 105, 115, 111, 45, 56, 56, 53, 57, 45, 53, 63, 113, 63, 61, 68, 54, 63, 61, 32, 61, 63, 117, 115, 45, 97, 115, 99, 105, 105, 63, 66, 63, 89, 81, 61, 61, 63, 61]⟩, .string ⟨#[120, 32, 61, 63, 98, 97, 100, 63, 81, 63, 97, 63, 61, 32, 121]⟩, .string ⟨#[61, 63, 117, 116, 102, 45, 56, 63, 66, 63, 89, 81, 63, 61]⟩, .string ⟨#[97, 32, 228, 32, 98]⟩, .string ⟨#[61, 63, 117, 116, 102, 45, 56, 63, 81, 63, 97, 63, 61, 32, 98, 32, 61, 63, 117, 116, 102, 45, 56, 63, 81, 63, 99, 63, 61]⟩]) (ss := [⟨#[61, 63, 117, 116, 102, 45, 56, 63, 81, 63, 97, 61, 67, 51, 61, 65, 52, 95, 98, 63, 61]⟩, ⟨#[61, 63, 105, 115, 111, 45, 56, 56, 53, 57, 45, 53, 63, 113, 63, 61, 68, 54, 63, 61, 32, 61, 63, 117, 115, 45, 97, 115, 99, 105, 105, 63, 66, 63, 89, 81, 61, 61, 63, 61]⟩, ⟨#[120, 32, 61, 63, 98, 97, 100, 63, 81, 63, 97, 63, 61, 32, 121]⟩, ⟨#[61, 63, 117, 116, 102, 45, 56, 63, 66, 63, 89, 81, 63, 61]⟩, ⟨#[97, 32, 228, 32, 98]⟩, ⟨#[61, 63, 117, 116, 102, 45, 56, 63, 81, 63, 97, 63, 61, 32, 98, 32, 61, 63, 117, 116, 102, 45, 56, 63, 81, 63, 99, 63, 61]⟩]) rfl (by intro s hs; simp only [List.mem_cons, List.not_mem_nil, or_false] at hs; rcases hs with rfl | rfl | rfl | rfl | rfl | rfl <;> decide)
      have hgA : w.grownBy (w1.alloc (.cells #[.string ⟨#[61, 63, 117, 116, 102, 45, 56, 63, 81, 63, 97, 61, 67, 51, 61, 65, 52, 95, 98, 63, 61]⟩, .string ⟨#[61, 63, 105, 115, 111, 45, 56, 56, 53, 57, 45, 53, 63, 113, 63, 61, 68, 54, 63, 61, 32, 61, 63, 117, 115, 45, 97, 115, 99, 105, 105, 63, 66, 63, 89, 81, 61, 61, 63, 61]⟩, .string ⟨#[120, 32, 61, 63, 98, 97, 100, 63, 81, 63, 97, 63, 61, 32, 121]⟩, .string ⟨#[61, 63, 117, 116, 102, 45, 56, 63, 66, 63, 89, 81, 63, 61]⟩, .string ⟨#[97, 32, 228, 32, 98]⟩, .string ⟨#[61, 63, 117, 116, 102, 45, 56, 63, 81, 63, 97, 63, 61, 32, 98, 32, 61, 63, 117, 116, 102, 45, 56, 63, 81, 63, 99, 63, 61]⟩] 9)) (some b) := gnew hg _
      have hsA : (w1.alloc (.cells #[.string ⟨#[61, 63, 117, 116, 102, 45, 56, 63, 81, 63, 97, 61, 67, 51, 61, 65, 52, 95, 98, 63, 61]⟩, .string ⟨#[61, 63, 105, 115, 111, 45, 56, 56, 53, 57, 45, 53, 63, 113, 63, 61, 68, 54, 63, 61, 32, 61, 63, 117, 115, 45, 97, 115, 99, 105, 105, 63, 66, 63, 89, 81, 61, 61, 63, 61]⟩, .string ⟨#[120, 32, 61, 63, 98, 97, 100, 63, 81, 63, 97, 63, 61, 32, 121]⟩, .string ⟨#[61, 63, 117, 116, 102, 45, 56, 63, 66, 63, 89, 81, 63, 61]⟩, .string ⟨#[97, 32, 228, 32, 98]⟩, .string ⟨#[61, 63, 117, 116, 102, 45, 56, 63, 81, 63, 97, 63, 61, 32, 98, 32, 61, 63, 117, 116, 102, 45, 56, 63, 81, 63, 99, 63, 61]⟩] 9)).heap.size = w1.heap.size + 1 := by simp
      go_wp2_with fail
      generalize (w1.alloc (.cells #[.string ⟨#[61, 63, 117, 116, 102, 45, 56, 63, 81, 63, 97, 61, 67, 51, 61, 65, 52, 95, 98, 63, 61]⟩, .string ⟨#[61, 63, 105, 115, 111, 45, 56, 56, 53, 57, 45, 53, 63, 113, 63, 61, 68, 54, 63, 61, 32, 61, 63, 117, 115, 45, 97, 115, 99, 105, 105, 63, 66, 63, 89, 81, 61, 61, 63, 61]⟩, .string ⟨#[120, 32, 61, 63, 98, 97, 100, 63, 81, 63, 97, 63, 61, 32, 121]⟩, .string ⟨#[61, 63, 117, 116, 102, 45, 56, 63, 66, 63, 89, 81, 63, 61]⟩, .string ⟨#[97, 32, 228, 32, 98]⟩, .string ⟨#[61, 63, 117, 116, 102, 45, 56, 63, 81, 63, 97, 63, 61, 32, 98, 32, 61, 63, 117, 116, 102, 45, 56, 63, 81, 63, 99, 63, 61]⟩] 9)) = W1 at *
      refine (l1Next_any B b (M + 1) 6 _ hs1 (by omega) (by omega) (by omega)).mono ?_
      rintro e w2 ⟨r, rfl, r0, r1, _, hs2, hg2⟩
      obtain ⟨j, rfl⟩ := Int.eq_ofNat_of_zero_le r0
      have hj : j < 6 := by have := r1 (by omega); omega
      have hj' : (j : Int) < 6 := by omega
      obtain ⟨t, hc, hBt, htl⟩ := hrow j hj
      have hc2 : w2.cell? ⟨w1.heap.size, j, none⟩ = some (.string (str t)) := (hg2.cell_far ⟨w1.heap.size, j, none⟩ (by rw [hsA]; simp) (by simp; omega)).trans hc
      have hlt2 : w1.heap.size < w2.heap.size := by have := hg2.size; omega
      have HF : Hid (ValEnd B b (M + 7) w (.returned (.string (str t))) w2) := ⟨t, rfl, hBt, by omega, hs2.more (by omega), gthen hgA hg2⟩
      clear hs2 hg2 hs1 hs hrow hc hBt htl r1
      generalize str t = x at *
      go_wp2
      go_ret
      exact HF.out
    · have e1 : (q == 1) = false := beq_eq_false_iff_ne.2 h1
      have hs1 : Src (w1.alloc (.cells #[.string ⟨#[]⟩, .string ⟨#[104, 101, 108, 108, 111]⟩, .string ⟨#[97, 58, 32, 98]⟩, .string ⟨#[32, 120]⟩, .string ⟨#[116, 101, 120, 116, 47, 112, 108, 97, 105, 110, 59, 32, 99, 104, 97, 114, 115, 101, 116, 61, 117, 116, 102, 45, 56]⟩, .string ⟨#[98, 97, 115, 101, 54, 52]⟩] 9)) B b (M + 1) := hs.below ((Below.refl _ _).alloc (by omega) _)
      have hrow := row_wordV (w := w1) (t := 9) (cs := #[.string ⟨#[]⟩, .string ⟨#[104, 101, 108, 108, 111]⟩, .string ⟨#[97, 58, 32, 98]⟩, .string ⟨#[32, 120]⟩, .string ⟨#[116, 101, 120, 116, 47, 112, 108, 97, 105, 110, 59, 32, 99, 104, 97, 114, 115, 101, 116, 61, 117, 116, 102, 45, 56]⟩, .string ⟨#[98, 97, 115, 101, 54, 52]⟩]) (ss := [⟨#[]⟩, ⟨#[104, 101, 108, 108, 111]⟩, ⟨#[97, 58, 32, 98]⟩, ⟨#[32, 120]⟩, ⟨#[116, 101, 120, 116, 47, 112, 108, 97, 105, 110, 59, 32, 99, 104, 97, 114, 115, 101, 116, 61, 117, 116, 102, 45, 56]⟩, ⟨#[98, 97, 115, 101, 54, 52]⟩]) rfl (by intro s hs; simp only [List.mem_cons, List.not_mem_nil, or_false] at hs; rcases hs with rfl | rfl | rfl | rfl | rfl | rfl <;> decide)
      have hgA : w.grownBy (w1.alloc (.cells #[.string ⟨#[]⟩, .string ⟨#[104, 101, 108, 108, 111]⟩, .string ⟨#[97, 58, 32, 98]⟩, .string ⟨#[32, 120]⟩, .string ⟨#[116, 101, 120, 116, 47, 112, 108, 97, 105, 110, 59, 32, 99, 104, 97, 114, 115, 101, 116, 61, 117, 116, 102, 45, 56]⟩, .string ⟨#[98, 97, 115, 101, 54, 52]⟩] 9)) (some b) := gnew hg _
      have hsA : (w1.alloc (.cells #[.string ⟨#[]⟩, .string ⟨#[104, 101, 108, 108, 111]⟩, .string ⟨#[97, 58, 32, 98]⟩, .string ⟨#[32, 120]⟩, .string ⟨#[116, 101, 120, 116, 47, 112, 108, 97, 105, 110, 59, 32, 99, 104, 97, 114, 115, 101, 116, 61, 117, 116, 102, 45, 56]⟩, .string ⟨#[98, 97, 115, 101, 54, 52]⟩] 9)).heap.size = w1.heap.size + 1 := by simp
      go_wp2_with fail
      generalize (w1.alloc (.cells #[.string ⟨#[]⟩, .string ⟨#[104, 101, 108, 108, 111]⟩, .string ⟨#[97, 58, 32, 98]⟩, .string ⟨#[32, 120]⟩, .string ⟨#[116, 101, 120, 116, 47, 112, 108, 97, 105, 110, 59, 32, 99, 104, 97, 114, 115, 101, 116, 61, 117, 116, 102, 45, 56]⟩, .string ⟨#[98, 97, 115, 101, 54, 52]⟩] 9)) = W1 at *
      refine (l1Next_any B b (M + 1) 6 _ hs1 (by omega) (by omega) (by omega)).mono ?_
      rintro e w2 ⟨r, rfl, r0, r1, _, hs2, hg2⟩
      obtain ⟨j, rfl⟩ := Int.eq_ofNat_of_zero_le r0
      have hj : j < 6 := by have := r1 (by omega); omega
      have hj' : (j : Int) < 6 := by omega
      obtain ⟨t, hc, hBt, htl⟩ := hrow j hj
      have hc2 : w2.cell? ⟨w1.heap.size, j, none⟩ = some (.string (str t)) := (hg2.cell_far ⟨w1.heap.size, j, none⟩ (by rw [hsA]; simp) (by simp; omega)).trans hc
      have hlt2 : w1.heap.size < w2.heap.size := by have := hg2.size; omega
      have HF : Hid (ValEnd B b (M + 7) w (.returned (.string (str t))) w2) := ⟨t, rfl, hBt, by omega, hs2.more (by omega), gthen hgA hg2⟩
      clear hs2 hg2 hs1 hs hrow hc hBt htl r1
      generalize str t = x at *
      go_wp2
      go_ret
      exact HF.out
end Go.Proofs.YtknbndebfickpaaGreatDoor
