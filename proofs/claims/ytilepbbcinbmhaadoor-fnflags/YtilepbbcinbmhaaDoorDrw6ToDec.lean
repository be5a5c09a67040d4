/- The draws of texts to be read: each ends with some text of at most 1601 letters, and turns nothing that was there; sources of at most 1048576 bytes · What EncodeWords tells: plain, of 400 bytes at most: plain functions, with no program in them · The draws of chapters 2 and 3: each ends with some numbers, in memory of the draw's own; nothing that was there is turned; sources of at most 1048576 bytes · The draws of chapter 4 that the law of words reads: some text, some numbers; sources of at most 1048576 bytes · The draws of chapters 2 and 3, each whole: some numbers and slices of memory of the draw's own; nothing that was there is turned; sources of at most 1048576 bytes · What a charset guesses at the beginning of some bytes, and bytes held against each other: the program's functions by plain functions. -/
import Derived.Test.YtilepbbcinbmhaaDoorDecQToDrw5
import Derived.Test.YtilepbbcinbmhaaDoorEncB3
import Derived.Test.YtilepbbcinbmhaaDoorEncQ3
import Derived.Test.YtilepbbcinbmhaaDoorEwM
import Derived.Test.YtilepbbcinbmhaaDoorAppIToDrl
import Derived.Test.YtilepbbcinbmhaaDoorFldToEncQ2
import Derived.Test.YtilepbbcinbmhaaDoorAppToMrk0
import Derived.Test.YtilepbbcinbmhaaDoorChs0ToTel2
import Derived.BigQuiet
import Derived.Deep.QuietTactic
namespace Go.Proofs.YtilepbbcinbmhaaDoor
open Go.RowKit

theorem enc_isB {l : List Nat} (h : IsB l) : IsB (Xf.enc l) := fun x hx => by have := Xf.enc_plain l h x hx; omega
theorem quo_isB {l : List Nat} (h : IsB l) : IsB (Xq.quo l) := fun x hx => by have := Xq.quo_plain l h x hx; omega

end Go.Proofs.YtilepbbcinbmhaaDoor

namespace Go.Proofs.YtilepbbcinbmhaaDoor
open Go.RowKit

/-- What EncodeWords tells is plain. -/
theorem ew_plain (l : List Int) : ∀ x ∈ (ewV l).2, 1 ≤ x ∧ x ≤ 127 := by
  by_cases hz : (encT 4 l).1 = 0
  · obtain ⟨hf, he, hlen⟩ := encT_zero hz
    have hch := (flt_zero hf).2
    cases hs : sfV l with
    | true =>
      rw [ewV_self hz hs]
      have hs' := hs
      rw [sfV_eq, Bool.and_eq_true] at hs'
      intro x hx
      rw [he] at hx
      have hb := List.all_eq_true.1 ((flat_bos l hch).trans hs'.1) x hx
      have := of_decide_eq_true hb
      omega
    | false =>
      by_cases h4 : 400 < (toldW (encT 4 l).2).length
      · rw [ewV_many hz hs h4]; intro x hx; cases hx
      · rw [ewV_told hz hs h4]
        intro x hx
        unfold toldW at hx
        have hp := Xf.enc_plain (encT 4 l).2 (encT_isB hz)
        rcases List.mem_append.1 hx with hx | hx
        · rcases List.mem_append.1 hx with hx | hx
          · have : ∀ y ∈ twB, 1 ≤ y ∧ y ≤ 127 := by decide
            exact this x hx
          · have := hp x hx; omega
        · have : ∀ y ∈ ([63, 61] : List Nat), 1 ≤ y ∧ y ≤ 127 := by decide
          exact this x hx
  · rw [ewV_bad hz]; intro x hx; cases hx
theorem ew_len (l : List Int) : (ewV l).2.length ≤ 400 := by
  by_cases hz : (encT 4 l).1 = 0
  · cases hs : sfV l with
    | true => rw [ewV_self hz hs]; exact (encT_zero hz).2.2
    | false =>
      by_cases h4 : 400 < (toldW (encT 4 l).2).length
      · rw [ewV_many hz hs h4]; exact Nat.zero_le _
      · rw [ewV_told hz hs h4]; show (toldW (encT 4 l).2).length ≤ 400; omega
  · rw [ewV_bad hz]; exact Nat.zero_le _
theorem ew_isB (l : List Int) : IsB (ewV l).2 := fun x hx => by have := ew_plain l x hx; omega
end Go.Proofs.YtilepbbcinbmhaaDoor

namespace Go.Proofs.YtilepbbcinbmhaaDoor
open Go.RowKit

end Go.Proofs.YtilepbbcinbmhaaDoor

namespace Go.Proofs.YtilepbbcinbmhaaDoor
open Go.RowKit

theorem drawn_flt {l : List Int} (h : Drawn l) (hl : l.length ≤ 400) : flt l = 0 := by
  refine flt_ok (by omega) (List.all_eq_true.2 (fun x hx => ?_))
  have := h x hx
  simp only [List.mem_cons, List.not_mem_nil, or_false] at this
  rcases this with rfl | rfl | rfl | rfl | rfl | rfl | rfl | rfl | rfl | rfl | rfl | rfl | rfl <;> decide
theorem row_wordV {w : World} {cs : Array Value} {t : TypeId} {ss : List ByteArray} (h : cs.toList = ss.map Value.string) (hs : ∀ s ∈ ss, s.size ≤ 100) (j : Nat) (hj : j < ss.length) :
    ∃ l : List Nat, (w.alloc (.cells cs t)).cell? ⟨w.heap.size, j, none⟩ = some (.string (str l)) ∧ IsB l ∧ l.length ≤ 100 := by
  obtain ⟨l, h1, h2⟩ := str_surj ss[j]
  refine ⟨l, ?_, h2, ?_⟩
  · rw [World.cell?_alloc_mark, ← Array.getElem?_toList, h]
    simp [hj, h1]
  · have := hs ss[j] (List.getElem_mem hj)
    rw [h1, str_size] at this; exact this
/-- How a draw of a text ends. -/
def ValEnd (B b M : Nat) (w : World) (e : Ending) (w' : World) : Prop := ∃ l : List Nat, e = .returned (.string (str l)) ∧ IsB l ∧ l.length ≤ 400 ∧ Src w' B b M ∧ w.grownBy w' (some b)

end Go.Proofs.YtilepbbcinbmhaaDoor

namespace Go.Proofs.YtilepbbcinbmhaaDoor
open Go.RowKit

/-- How a draw of two numbers ends. -/
def PairEnd (w : World) (e : Ending) (w' : World) : Prop := ∃ r x : Int, e = .returned (.tuple #[.int .i64 r, .int .i64 x]) ∧ Below w.heap.size w w'
/-- A slice of numbers that can be read. -/
def Sl (w : World) (v : Value) (l : List Int) : Prop := ∃ (a : Option Addr) (n cap : Nat), v = .slice a n cap ∧ l.length = n ∧ n ≤ cap ∧ n ≤ 1000 ∧ RdI w a l
theorem Sl.below {w w' : World} {v : Value} {l : List Int} (h : Sl w v l) (hb : Below w.heap.size w w') : Sl w' v l := by
  obtain ⟨a, n, cap, e, h1, h2, h3, h4⟩ := h
  exact ⟨a, n, cap, e, h1, h2, h3, h4.below hb⟩
theorem OwnI.sl {w : World} {B : Nat} {v : Value} {l : List Int} (h : OwnI w B v l) (hl : l.length ≤ 1000) : Sl w v l := by
  obtain ⟨a, cap, rfl, h2, _⟩ := h.form
  exact ⟨a, _, cap, rfl, rfl, h2, hl, h.rd.2⟩
/-- How a draw of a number and a text ends. -/
def TxtEndD (w : World) (e : Ending) (w' : World) : Prop := ∃ (r : Int) (v : Value) (l : List Int), e = .returned (.tuple #[.int .i64 r, v]) ∧ Sl w' v l ∧ Below w.heap.size w w'
/-- How a draw of a number and two texts ends. -/
def TwoTxtD (w : World) (e : Ending) (w' : World) : Prop := ∃ (r : Int) (v u : Value) (l s : List Int), e = .returned (.tuple #[.int .i64 r, v, u]) ∧ Sl w' v l ∧ Sl w' u s ∧ Below w.heap.size w w'

end Go.Proofs.YtilepbbcinbmhaaDoor

namespace Go.Proofs.YtilepbbcinbmhaaDoor
open Go.RowKit

theorem str_inj {a b : List Nat} (ha : IsB a) (hb : IsB b) : str a = str b ↔ a = b := by
  constructor
  · intro h
    have h1 : (a.map UInt8.ofNat) = (b.map UInt8.ofNat) := by
      have := congrArg (fun s => s.data.toList) h
      simpa [str] using this
    have h2 : ∀ l : List Nat, IsB l → (l.map UInt8.ofNat).map UInt8.toNat = l := fun l hl => by
      rw [List.map_map]
      conv => rhs; rw [← List.map_id l]
      apply List.map_congr_left
      intro x hx
      have := hl x hx
      simp only [Function.comp, UInt8.toNat_ofNat', id]
      omega
    rw [← h2 a ha, ← h2 b hb, h1]
  · intro h; rw [h]
theorem toList_str (l : List Nat) : (str l).toList = l.map UInt8.ofNat := by
  rw [ByteArray.toList_eq]; simp [str]
/-- The character of a cyrillic byte. -/
def cyU (b : Nat) : Nat := if b = 253 then 167 else if b = 240 then 8470 else if b ≤ 160 ∨ b = 173 then b else b + 864


end Go.Proofs.YtilepbbcinbmhaaDoor
