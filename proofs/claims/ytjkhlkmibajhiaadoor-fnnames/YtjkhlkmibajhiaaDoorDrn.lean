/- The draws of names: each ends with a number or a text; nothing that was there is turned; sources of at most 1048576 bytes. -/
import Derived.Test.YtjkhlkmibajhiaaDoorDrw3a
namespace Go.Proofs.YtjkhlkmibajhiaaDoor
open Go.RowKit

set_option maxHeartbeats 800000 in
set_option maxRecDepth 100000 in
theorem drawCharsetName_any (a : Option Addr) (n cap : Nat) (l : List Nat) (w : World) (hl : l.length = n) (hr : Rd w a l) (hB : IsB l) (hn : n ≤ 1048576) :
    Calls Tryd.prog 18 #[.slice a n cap] w fun e w' => ∃ r : Int, e = .returned (.int .i64 r) ∧ Below w.heap.size w w' := by
  have HD : Hid (∀ (w1 : World), Src w1 w.heap.size w.heap.size 0 → Below w.heap.size w w1 → Calls Tryd.prog 26 #[.pointer (some ⟨w.heap.size, 0, none⟩)] w1 fun e w' => ∃ r : Int, e = .returned (.int .i64 r) ∧ Below w.heap.size w w') := fun w1 hs hb => by
    have hlt : w.heap.size < w1.heap.size := (id hs).2.1
    have hs1 : Src (w1.alloc (.cells #[.int .i64 1, .int .i64 2, .int .i64 3, .int .i64 4, .int .i64 5, .int .i64 4, .int .i64 3, .int .i64 0, .int .i64 6] 2)) w.heap.size w.heap.size 0 := hs.below ((Below.refl _ _).alloc (by omega) _)
    go_enter Tryd.func26, Tryd.ntmps26
    go_wp2_with fail
    refine (l1Pick_any w.heap.size w.heap.size 0 _ 9 9 [1, 2, 3, 4, 5, 4, 3, 0, 6] _ hs1 (by omega) rfl (by omega) (by omega) (nums_new rfl) (by omega)).mono ?_
    rintro e w2 ⟨x, rfl, hx, hs2, hg2⟩
    have hb2 : Below w.heap.size w w2 := (hb.alloc (by omega) _).trans ((Below.refl _ _).grown hg2 (by simp; omega) (by intro k hk; simp at hk; omega))
    clear hs2 hg2 hx hs1 hs
    go_wp2
    go_ret
    exact ⟨x, rfl, hb2⟩
  go_enter Tryd.func18, Tryd.ntmps18
  go_wp2_with fail
  refine (l1Source_any a n cap l _ hl hr hB hn).mono ?_
  rintro e w1 ⟨rfl, hs, hb⟩
  go_wp2_with fail
  refine (HD.out _ hs hb).mono ?_
  rintro e w2 ⟨r, rfl, hb2⟩
  go_wp2
  go_ret
  exact ⟨r, rfl, hb2⟩

/-- How a draw of a text ends. -/
def WordEnd (w : World) (e : Ending) (w' : World) : Prop := ∃ l : List Nat, e = .returned (.string (str l)) ∧ IsB l ∧ l.length ≤ 100 ∧ Below w.heap.size w w'
theorem word_of {s : ByteArray} (h : s.size ≤ 100) : ∃ l : List Nat, s = str l ∧ IsB l ∧ l.length ≤ 100 := by
  obtain ⟨t, rfl, hB⟩ := str_surj s
  exact ⟨t, rfl, hB, by rw [str_size] at h; exact h⟩
theorem row_word {w : World} {cs : Array Value} {t : TypeId} {ss : List ByteArray} (h : cs.toList = ss.map Value.string) (hs : ∀ s ∈ ss, s.size ≤ 100) (j : Nat) (hj : j < ss.length) :
    ∃ l : List Nat, (w.alloc (.cells cs t)).cell? ⟨w.heap.size, j, none⟩ = some (.string (str l)) ∧ IsB l ∧ l.length ≤ 100 := by
  obtain ⟨l, h1, h2, h3⟩ := word_of (hs ss[j] (List.getElem_mem hj))
  refine ⟨l, ?_, h2, h3⟩
  rw [World.cell?_alloc_mark, ← Array.getElem?_toList, h]
  simp [hj, h1]

set_option maxHeartbeats 800000 in
set_option maxRecDepth 100000 in
theorem drawCharsetOf_any (a : Option Addr) (n cap : Nat) (l : List Nat) (w : World) (hl : l.length = n) (hr : Rd w a l) (hB : IsB l) (hn : n ≤ 1048576) :
    Calls Tryd.prog 14 #[.slice a n cap] w fun e w' => WordEnd w e w' := by
  go_enter Tryd.func14, Tryd.ntmps14
  go_wp2_with fail
  refine (l1Source_any a n cap l _ hl hr hB hn).mono ?_
  rintro e w1 ⟨rfl, hs, hb⟩
  have hlt : w.heap.size < w1.heap.size := (id hs).2.1
  have hs1 : Src (w1.alloc (.cells #[.string ⟨#[117, 115, 45, 97, 115, 99, 105, 105]⟩, .string ⟨#[85, 84, 70, 45, 56]⟩, .string ⟨#[73, 83, 79, 45, 56, 56, 53, 57, 45, 49]⟩, .string ⟨#[105, 115, 111, 45, 56, 56, 53, 57, 45, 53]⟩, .string ⟨#[117, 116, 102, 45, 49, 54]⟩, .string ⟨#[117, 116, 102, 56]⟩, .string ⟨#[]⟩] 9)) w.heap.size w.heap.size 0 := hs.below ((Below.refl _ _).alloc (by omega) _)
  have hrow := row_word (w := w1) (t := 9) (cs := #[.string ⟨#[117, 115, 45, 97, 115, 99, 105, 105]⟩, .string ⟨#[85, 84, 70, 45, 56]⟩, .string ⟨#[73, 83, 79, 45, 56, 56, 53, 57, 45, 49]⟩, .string ⟨#[105, 115, 111, 45, 56, 56, 53, 57, 45, 53]⟩, .string ⟨#[117, 116, 102, 45, 49, 54]⟩, .string ⟨#[117, 116, 102, 56]⟩, .string ⟨#[]⟩]) (ss := [⟨#[117, 115, 45, 97, 115, 99, 105, 105]⟩, ⟨#[85, 84, 70, 45, 56]⟩, ⟨#[73, 83, 79, 45, 56, 56, 53, 57, 45, 49]⟩, ⟨#[105, 115, 111, 45, 56, 56, 53, 57, 45, 53]⟩, ⟨#[117, 116, 102, 45, 49, 54]⟩, ⟨#[117, 116, 102, 56]⟩, ⟨#[]⟩]) rfl (by intro s hs; simp only [List.mem_cons, List.not_mem_nil, or_false] at hs; rcases hs with rfl | rfl | rfl | rfl | rfl | rfl | rfl <;> decide)
  have hbA : Below w.heap.size w (w1.alloc (.cells #[.string ⟨#[117, 115, 45, 97, 115, 99, 105, 105]⟩, .string ⟨#[85, 84, 70, 45, 56]⟩, .string ⟨#[73, 83, 79, 45, 56, 56, 53, 57, 45, 49]⟩, .string ⟨#[105, 115, 111, 45, 56, 56, 53, 57, 45, 53]⟩, .string ⟨#[117, 116, 102, 45, 49, 54]⟩, .string ⟨#[117, 116, 102, 56]⟩, .string ⟨#[]⟩] 9)) := hb.alloc (by omega) _
  have hsA : (w1.alloc (.cells #[.string ⟨#[117, 115, 45, 97, 115, 99, 105, 105]⟩, .string ⟨#[85, 84, 70, 45, 56]⟩, .string ⟨#[73, 83, 79, 45, 56, 56, 53, 57, 45, 49]⟩, .string ⟨#[105, 115, 111, 45, 56, 56, 53, 57, 45, 53]⟩, .string ⟨#[117, 116, 102, 45, 49, 54]⟩, .string ⟨#[117, 116, 102, 56]⟩, .string ⟨#[]⟩] 9)).heap.size = w1.heap.size + 1 := by simp
  go_wp2_with fail
  generalize w1.alloc (.cells #[.string ⟨#[117, 115, 45, 97, 115, 99, 105, 105]⟩, .string ⟨#[85, 84, 70, 45, 56]⟩, .string ⟨#[73, 83, 79, 45, 56, 56, 53, 57, 45, 49]⟩, .string ⟨#[105, 115, 111, 45, 56, 56, 53, 57, 45, 53]⟩, .string ⟨#[117, 116, 102, 45, 49, 54]⟩, .string ⟨#[117, 116, 102, 56]⟩, .string ⟨#[]⟩] 9) = W1 at *
  refine (l1Next_any w.heap.size w.heap.size 0 7 _ hs1 (by omega) (by omega) (by omega)).mono ?_
  rintro e w2 ⟨r, rfl, r0, r1, _, hs2, hg2⟩
  obtain ⟨j, rfl⟩ := Int.eq_ofNat_of_zero_le r0
  have hj : j < 7 := by have := r1 (by omega); omega
  have hj' : (j : Int) < 7 := by omega
  obtain ⟨t, hc, hBt, htl⟩ := hrow j hj
  have hc2 : w2.cell? ⟨w1.heap.size, j, none⟩ = some (.string (str t)) := (hg2.cell_far ⟨w1.heap.size, j, none⟩ (by rw [hsA]; simp) (by simp; omega)).trans hc
  have hlt2 : w1.heap.size < w2.heap.size := by have := hg2.size; omega
  have hb2 : Below w.heap.size w w2 := hbA.trans ((Below.refl _ _).grown hg2 (by omega) (by intro k hk; simp at hk; omega))
  have HF : Hid (WordEnd w (.returned (.string (str t))) w2) := ⟨t, rfl, hBt, htl, hb2⟩
  clear hs2 hg2 hs1 hs hrow hc hBt htl r1
  generalize str t = x at *
  go_wp2
  go_ret
  exact HF.out

set_option maxHeartbeats 800000 in
set_option maxRecDepth 100000 in
theorem drawComparatorOf_any (a : Option Addr) (n cap : Nat) (l : List Nat) (w : World) (hl : l.length = n) (hr : Rd w a l) (hB : IsB l) (hn : n ≤ 1048576) :
    Calls Tryd.prog 15 #[.slice a n cap] w fun e w' => WordEnd w e w' := by
  go_enter Tryd.func15, Tryd.ntmps15
  go_wp2_with fail
  refine (l1Source_any a n cap l _ hl hr hB hn).mono ?_
  rintro e w1 ⟨rfl, hs, hb⟩
  have hlt : w.heap.size < w1.heap.size := (id hs).2.1
  have hs1 : Src (w1.alloc (.cells #[.string ⟨#[105, 59, 111, 99, 116, 101, 116]⟩, .string ⟨#[105, 59, 97, 115, 99, 105, 105, 45, 99, 97, 115, 101, 109, 97, 112]⟩, .string ⟨#[105, 59, 117, 110, 105, 99, 111, 100, 101, 45, 99, 97, 115, 101, 109, 97, 112]⟩, .string ⟨#[73, 59, 79, 67, 84, 69, 84]⟩, .string ⟨#[]⟩] 9)) w.heap.size w.heap.size 0 := hs.below ((Below.refl _ _).alloc (by omega) _)
  have hrow := row_word (w := w1) (t := 9) (cs := #[.string ⟨#[105, 59, 111, 99, 116, 101, 116]⟩, .string ⟨#[105, 59, 97, 115, 99, 105, 105, 45, 99, 97, 115, 101, 109, 97, 112]⟩, .string ⟨#[105, 59, 117, 110, 105, 99, 111, 100, 101, 45, 99, 97, 115, 101, 109, 97, 112]⟩, .string ⟨#[73, 59, 79, 67, 84, 69, 84]⟩, .string ⟨#[]⟩]) (ss := [⟨#[105, 59, 111, 99, 116, 101, 116]⟩, ⟨#[105, 59, 97, 115, 99, 105, 105, 45, 99, 97, 115, 101, 109, 97, 112]⟩, ⟨#[105, 59, 117, 110, 105, 99, 111, 100, 101, 45, 99, 97, 115, 101, 109, 97, 112]⟩, ⟨#[73, 59, 79, 67, 84, 69, 84]⟩, ⟨#[]⟩]) rfl (by intro s hs; simp only [List.mem_cons, List.not_mem_nil, or_false] at hs; rcases hs with rfl | rfl | rfl | rfl | rfl <;> decide)
  have hbA : Below w.heap.size w (w1.alloc (.cells #[.string ⟨#[105, 59, 111, 99, 116, 101, 116]⟩, .string ⟨#[105, 59, 97, 115, 99, 105, 105, 45, 99, 97, 115, 101, 109, 97, 112]⟩, .string ⟨#[105, 59, 117, 110, 105, 99, 111, 100, 101, 45, 99, 97, 115, 101, 109, 97, 112]⟩, .string ⟨#[73, 59, 79, 67, 84, 69, 84]⟩, .string ⟨#[]⟩] 9)) := hb.alloc (by omega) _
  have hsA : (w1.alloc (.cells #[.string ⟨#[105, 59, 111, 99, 116, 101, 116]⟩, .string ⟨#[105, 59, 97, 115, 99, 105, 105, 45, 99, 97, 115, 101, 109, 97, 112]⟩, .string ⟨#[105, 59, 117, 110, 105, 99, 111, 100, 101, 45, 99, 97, 115, 101, 109, 97, 112]⟩, .string ⟨#[73, 59, 79, 67, 84, 69, 84]⟩, .string ⟨#[]⟩] 9)).heap.size = w1.heap.size + 1 := by simp
  go_wp2_with fail
  generalize w1.alloc (.cells #[.string ⟨#[105, 59, 111, 99, 116, 101, 116]⟩, .string ⟨#[105, 59, 97, 115, 99, 105, 105, 45, 99, 97, 115, 101, 109, 97, 112]⟩, .string ⟨#[105, 59, 117, 110, 105, 99, 111, 100, 101, 45, 99, 97, 115, 101, 109, 97, 112]⟩, .string ⟨#[73, 59, 79, 67, 84, 69, 84]⟩, .string ⟨#[]⟩] 9) = W1 at *
  refine (l1Next_any w.heap.size w.heap.size 0 5 _ hs1 (by omega) (by omega) (by omega)).mono ?_
  rintro e w2 ⟨r, rfl, r0, r1, _, hs2, hg2⟩
  obtain ⟨j, rfl⟩ := Int.eq_ofNat_of_zero_le r0
  have hj : j < 5 := by have := r1 (by omega); omega
  have hj' : (j : Int) < 5 := by omega
  obtain ⟨t, hc, hBt, htl⟩ := hrow j hj
  have hc2 : w2.cell? ⟨w1.heap.size, j, none⟩ = some (.string (str t)) := (hg2.cell_far ⟨w1.heap.size, j, none⟩ (by rw [hsA]; simp) (by simp; omega)).trans hc
  have hlt2 : w1.heap.size < w2.heap.size := by have := hg2.size; omega
  have hb2 : Below w.heap.size w w2 := hbA.trans ((Below.refl _ _).grown hg2 (by omega) (by intro k hk; simp at hk; omega))
  have HF : Hid (WordEnd w (.returned (.string (str t))) w2) := ⟨t, rfl, hBt, htl, hb2⟩
  clear hs2 hg2 hs1 hs hrow hc hBt htl r1
  generalize str t = x at *
  go_wp2
  go_ret
  exact HF.out

end Go.Proofs.YtjkhlkmibajhiaaDoor
