/- The parts of DecodeQuoted, the program's: a digit's value, a line that is broken, a byte that is quoted; slices of at least one byte · DecodeQuoted, the program's, at every text: the bytes of its quoted text, or a code; texts of whatever length · The draws of chapter 1: each ends with some bytes or a number; nothing that was there is turned; sources of at most 1048576 bytes · A text that the model bends: it ends with some text of at most four letters more; nothing below its source is turned · A text that the model bends: it ends with some text of at most four letters more; nothing below its source is turned · The draws of texts to be read: each ends with some text of at most 1601 letters, and turns nothing that was there; sources of at most 1048576 bytes · What EncodeWords tells: plain, of 400 bytes at most: plain functions, with no program in them · The draws of chapters 2 and 3: each ends with some numbers, in memory of the draw's own; nothing that was there is turned; sources of at most 1048576 bytes · The draws of chapter 4 that the law of words reads: some text, some numbers; sources of at most 1048576 bytes · The draws of chapters 2 and 3, each whole: some numbers and slices of memory of the draw's own; nothing that was there is turned; sources of at most 1048576 bytes · What a charset guesses at the beginning of some bytes, and bytes held against each other: the program's functions by plain functions · The character at the beginning of some bytes, by each charset: plain functions, with no program in them; what is guessed and told again is just what the model reads · readChar, at each charset: the character that some bytes begin with, as the plain function reads it; at least one byte · The draw of bytes of a charset: some number and some bytes, in memory of the draw's own; nothing that was there is turned; sources of at most 1048576 bytes. -/
import Derived.Test.YtdcgihcjiiemdaaDoorMemFToEncQ2
import Derived.Laws.BitsAllLaws
import Derived.WalkLawsBesides
import Derived.Test.YtdcgihcjiiemdaaDoorMathToEncB2
import Derived.Test.YtdcgihcjiiemdaaDoorDrw2ToAppI
import Derived.Test.YtdcgihcjiiemdaaDoorDrlToGrw
import Derived.ArgAppend
import Derived.Test.YtdcgihcjiiemdaaDoorEncB3
import Derived.Test.YtdcgihcjiiemdaaDoorEncQ3
import Derived.Test.YtdcgihcjiiemdaaDoorMrk0ToDrw
import Derived.Test.YtdcgihcjiiemdaaDoorChs0ToTel2
import Derived.BigQuiet
import Derived.Deep.QuietTactic
import Derived.Test.YtdcgihcjiiemdaaDoorTel3ToWrd2
import Derived.Deep.RegionHeld3
namespace Go.Proofs.YtdcgihcjiiemdaaDoor
open Go.RowKit
end Go.Proofs.YtdcgihcjiiemdaaDoor
namespace Go.Proofs.YtdcgihcjiiemdaaDoor
open Go.RowKit
theorem Own.low {w : World} {B C : Nat} {v : Value} {l : List Nat} (h : Own w B v l) (hC : C ≤ B) : Own w C v l := by
 refine ⟨h.1, ?_⟩
 rcases h.2 with h' | ⟨g, cap, cur, h1, h2, h3⟩
 ·exact .inl h'
 ·exact .inr ⟨g, cap, cur, h1, Nat.le_trans hC h2, h3⟩
theorem Own.set {w : World} {B : Nat} {v : Value} {l : List Nat} (h : Own w B v l) (p : Addr) (hp : p.block < B) (u : Value) : Own (w.setCell p u) B v l := ownsRow_setCell_below h hp u
end Go.Proofs.YtdcgihcjiiemdaaDoor
namespace Go.Proofs.YtdcgihcjiiemdaaDoor
open Go.RowKit
end Go.Proofs.YtdcgihcjiiemdaaDoor
namespace Go.Proofs.YtdcgihcjiiemdaaDoor
open Go.RowKit
end Go.Proofs.YtdcgihcjiiemdaaDoor
namespace Go.Proofs.YtdcgihcjiiemdaaDoor
open Go.RowKit
theorem Cv.set {w : World} {g n cap j y : Nat} {l : List Nat} (h : Cv w g n cap l) (hj : j < n) : Rd (w.setCell ⟨g, j, none⟩ (.int .u8 (y : Int))) (some ⟨g, 0, none⟩) (l.set j y) := by
 obtain ⟨hl, _, hg, hc, _⟩ := h
 refine .inr ⟨g, 0, rfl, by simpa using hg, fun i hi => ?_⟩
 rw [List.length_set] at hi
 rw [show (⟨g, 0 + i, none⟩ : Addr) = ⟨g, i, none⟩ by rw [Nat.zero_add], nth_get (by rw [List.length_set]; exact hi), List.getElem_set]
 by_cases e : j = i
 ·subst e
  rw [if_pos rfl]
  exact World.cell?_setCell_same _ _ _ (hc j (by omega))
 ·rw [if_neg e, World.cell?_setCell_other _ _ _ _ (fun h => e (by cases h; rfl)), hc i (by omega), nth_get hi]
theorem isB_set {l : List Nat} (h : IsB l) {j y : Nat} (hy : y < 256) : IsB (l.set j y) := by
 intro x hx
 rcases List.mem_or_eq_of_mem_set hx with h1 | h1
 ·exact h x h1
 ·omega
end Go.Proofs.YtdcgihcjiiemdaaDoor
namespace Go.Proofs.YtdcgihcjiiemdaaDoor
open Go.RowKit
theorem enc_isB {l : List Nat} (h : IsB l) : IsB (Xf.enc l) := fun x hx => by have := Xf.enc_plain l h x hx; omega
theorem quo_isB {l : List Nat} (h : IsB l) : IsB (Xq.quo l) := fun x hx => by have := Xq.quo_plain l h x hx; omega
end Go.Proofs.YtdcgihcjiiemdaaDoor
namespace Go.Proofs.YtdcgihcjiiemdaaDoor
open Go.RowKit
theorem ew_plain (l : List Int) : ∀ x ∈ (ewV l).2, 1 ≤ x ∧ x ≤ 127 := by
 by_cases hz : (encT 4 l).1 = 0
 ·obtain ⟨hf, he, hlen⟩ := encT_zero hz
  have hch := (flt_zero hf).2
  cases hs : sfV l with
  | true =>
   rw [ewV_self hz hs]
   have hs' := hs
   rw [sfV_eq, Bool.and_eq_true] at hs'
   intro x hx
   rw [he] at hx
   have hb := List.all_eq_true.1 ((flat_bos l hch).trans hs'.1) x hx
   have := of_decide_eq_true hb
   omega
  | false =>
   by_cases h4 : 400 < (toldW (encT 4 l).2).length
   ·rw [ewV_many hz hs h4]; intro x hx; cases hx
   ·rw [ewV_told hz hs h4]
    intro x hx
    unfold toldW at hx
    have hp := Xf.enc_plain (encT 4 l).2 (encT_isB hz)
    rcases List.mem_append.1 hx with hx | hx
    ·rcases List.mem_append.1 hx with hx | hx
     ·have : ∀ y ∈ twB, 1 ≤ y ∧ y ≤ 127 := by decide
      exact this x hx
     ·have := hp x hx; omega
    ·have : ∀ y ∈ ([63, 61] : List Nat), 1 ≤ y ∧ y ≤ 127 := by decide
     exact this x hx
 ·rw [ewV_bad hz]; intro x hx; cases hx
theorem ew_len (l : List Int) : (ewV l).2.length ≤ 400 := by
 by_cases hz : (encT 4 l).1 = 0
 ·cases hs : sfV l with
  | true => rw [ewV_self hz hs]; exact (encT_zero hz).2.2
  | false =>
   by_cases h4 : 400 < (toldW (encT 4 l).2).length
   ·rw [ewV_many hz hs h4]; exact Nat.zero_le _
   ·rw [ewV_told hz hs h4]; show (toldW (encT 4 l).2).length ≤ 400; omega
 ·rw [ewV_bad hz]; exact Nat.zero_le _
theorem ew_isB (l : List Int) : IsB (ewV l).2 := fun x hx => by have := ew_plain l x hx; omega
end Go.Proofs.YtdcgihcjiiemdaaDoor
namespace Go.Proofs.YtdcgihcjiiemdaaDoor
open Go.RowKit
end Go.Proofs.YtdcgihcjiiemdaaDoor
namespace Go.Proofs.YtdcgihcjiiemdaaDoor
open Go.RowKit
theorem drawn_flt {l : List Int} (h : Drawn l) (hl : l.length ≤ 400) : flt l = 0 := by
 refine flt_ok (by omega) (List.all_eq_true.2 (fun x hx => ?_))
 have := h x hx
 simp only [List.mem_cons, List.not_mem_nil, or_false] at this
 rcases this with rfl | rfl | rfl | rfl | rfl | rfl | rfl | rfl | rfl | rfl | rfl | rfl | rfl <;> decide
theorem row_wordV {w : World} {cs : Array Value} {t : TypeId} {ss : List ByteArray} (h : cs.toList = ss.map Value.string) (hs : ∀ s ∈ ss, s.size ≤ 100) (j : Nat) (hj : j < ss.length) :
  ∃ l : List Nat, (w.alloc (.cells cs t)).cell? ⟨w.heap.size, j, none⟩ = some (.string (str l)) ∧ IsB l ∧ l.length ≤ 100 := by
 obtain ⟨l, h1, h2⟩ := str_surj ss[j]
 refine ⟨l, ?_, h2, ?_⟩
 ·rw [World.cell?_alloc_mark, ← Array.getElem?_toList, h]
  simp [hj, h1]
 ·have := hs ss[j] (List.getElem_mem hj)
  rw [h1, str_size] at this; exact this
end Go.Proofs.YtdcgihcjiiemdaaDoor
namespace Go.Proofs.YtdcgihcjiiemdaaDoor
open Go.RowKit
def Sl (w : World) (v : Value) (l : List Int) : Prop := ∃ (a : Option Addr) (n cap : Nat), v = .slice a n cap ∧ l.length = n ∧ n ≤ cap ∧ n ≤ 1000 ∧ RdI w a l
theorem Sl.below {w w' : World} {v : Value} {l : List Int} (h : Sl w v l) (hb : Below w.heap.size w w') : Sl w' v l := by
 obtain ⟨a, n, cap, e, h1, h2, h3, h4⟩ := h
 exact ⟨a, n, cap, e, h1, h2, h3, h4.below hb⟩
theorem OwnI.sl {w : World} {B : Nat} {v : Value} {l : List Int} (h : OwnI w B v l) (hl : l.length ≤ 1000) : Sl w v l := by
 obtain ⟨a, cap, rfl, h2, _⟩ := h.form
 exact ⟨a, _, cap, rfl, rfl, h2, hl, h.rd.2⟩
end Go.Proofs.YtdcgihcjiiemdaaDoor
namespace Go.Proofs.YtdcgihcjiiemdaaDoor
open Go.RowKit
end Go.Proofs.YtdcgihcjiiemdaaDoor
namespace Go.Proofs.YtdcgihcjiiemdaaDoor
open Go.RowKit
end Go.Proofs.YtdcgihcjiiemdaaDoor
namespace Go.Proofs.YtdcgihcjiiemdaaDoor
open Go.RowKit
theorem tellL_isB {cs c : Int} (hcs : 1 ≤ cs ∧ cs ≤ 5) (h2 : chr c = true) (h3 : hasC cs c = true) : IsB (tellL cs c) := by
 have hc := chr_iff.1 h2
 intro x hx
 unfold tellL at hx
 split at hx
 ·rename_i h
  subst h
  rw [hasC_3] at h3
  have h4 := cyr_pos.1 (decide_eq_true_iff.1 (show decide (0 ≤ cyr c) = true from h3))
  have h5 : cyr c ≤ 255 := by
   unfold cyr
   split
   ·omega
   ·split
    ·omega
    ·split
     ·omega
     ·split <;> omega
  simp at hx
  omega
 ·split at hx
  ·unfold u8L at hx
   split at hx
   ·simp at hx; omega
   ·split at hx
    ·simp at hx; omega
    ·simp at hx; omega
  ·split at hx
   ·simp at hx; omega
   ·simp at hx
    rename_i hn3 hn4 hn5
    unfold hasC at h3
    split at h3
    ·simp at h3; omega
    ·split at h3
     ·simp at h3; omega
     ·omega
end Go.Proofs.YtdcgihcjiiemdaaDoor
namespace Go.Proofs.YtdcgihcjiiemdaaDoor
open Go.RowKit
theorem encV_isB {cs : Int} {l : List Int} (hcs : 1 ≤ cs ∧ cs ≤ 5) (hch : ∀ x ∈ l, chr x = true) : IsB (encV cs l).2 := by
 unfold encV
 split
 ·rename_i ha
  split
  ·intro b hb; simp at hb
  ·intro b hb
   obtain ⟨x, hx, hbx⟩ := List.mem_flatMap.1 hb
   exact tellL_isB hcs (hch x hx) (List.all_eq_true.1 ha x hx) b hbx
 ·intro b hb; simp at hb
theorem encV_short (cs : Int) (l : List Int) : (encV cs l).2.length ≤ 400 := by
 unfold encV
 split
 ·split
  ·simp
  ·simp only; omega
 ·simp
end Go.Proofs.YtdcgihcjiiemdaaDoor
