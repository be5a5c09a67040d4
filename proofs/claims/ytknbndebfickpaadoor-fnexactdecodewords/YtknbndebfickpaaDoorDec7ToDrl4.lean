/- The program's and the model's DecodeText at once · The model's draws: each ends with some number or bytes within small bounds, and turns nothing that was there; sources of at most 1048576 bytes · More of the model's draws: a source, a chance, a pick, some bytes; each ends within small bounds and turns nothing but its source · Bytes that the model draws: at most 401 of them, in memory of the draw's own; nothing that was there is turned; sources of at most 1048576 bytes · The model's draws of characters: each ends with some numbers, in memory of the draw's own; nothing that was there is turned but the source; sources of at most 1048576 bytes · The draws of chapters 2 and 3: each ends with some numbers, in memory of the draw's own; nothing that was there is turned; sources of at most 1048576 bytes · The draws of chapters 2 and 3, each whole: some numbers and slices of memory of the draw's own; nothing that was there is turned; sources of at most 1048576 bytes · The draw of bytes of a charset: some number and some bytes, in memory of the draw's own; nothing that was there is turned; sources of at most 1048576 bytes. -/
import Derived.Test.YtknbndebfickpaaDoorDec4
import Derived.Test.YtknbndebfickpaaDoorDec6
import Derived.Test.YtknbndebfickpaaDoorApp
import Derived.Test.YtknbndebfickpaaDoorMrk0ToMemF
import Derived.Handy
import Derived.WalkSpells
import Derived.Test.YtknbndebfickpaaDoorAppIToChs2
import Derived.Test.YtknbndebfickpaaDoorDec3
namespace Go.Proofs.YtknbndebfickpaaDoor
open Go.RowKit

theorem decL_len (cs : Int) : ∀ (n : Nat) (l : List Nat) (u : List Int), l.length ≤ n → decL cs l = some u → u.length ≤ l.length := by
  intro n
  induction n with
  | zero =>
    intro l u hl h
    rw [decL_nil (by omega)] at h
    cases h
    exact Nat.zero_le _
  | succ n ih =>
    intro l u hl h
    by_cases h0 : l.length = 0
    · rw [decL_nil h0] at h
      cases h
      exact Nat.zero_le _
    · by_cases hs : (rdC cs l).2 = 0
      · rw [decL_none (by omega) hs] at h; cases h
      · rw [decL_step (c := (rdC cs l).1) (s := (rdC cs l).2) (by omega) hs rfl] at h
        cases hd : decL cs (l.drop (rdC cs l).2) with
        | none => rw [hd] at h; cases h
        | some v =>
          rw [hd] at h
          simp only [Option.map_some, Option.some.injEq] at h
          subst h
          have := ih _ _ (by rw [List.length_drop]; omega) hd
          rw [List.length_drop] at this
          rw [List.length_cons]
          omega
theorem decT_few (cs : Int) (l : List Nat) : (decT cs l).2.length ≤ 400 := by
  unfold decT
  split
  · split
    · simp
    · cases hd : decL cs l with
      | none => simp
      | some u =>
        have := decL_len cs l.length l u (Nat.le_refl _) hd
        simp only
        omega
  · simp
end Go.Proofs.YtknbndebfickpaaDoor

namespace Go.Proofs.YtknbndebfickpaaDoor
open Go.RowKit

/-- A source of draws, laid at block b: its bytes lie below B, and at most M have been drawn. -/
def Src (w : World) (B b M : Nat) : Prop := B ≤ b ∧ b < w.heap.size ∧ ∃ (a : Option Addr) (n cap at' : Nat) (l : List Nat),
  w.cell? ⟨b, 0, none⟩ = some (.slice a n cap) ∧ w.cell? ⟨b, 1, none⟩ = some (.int .i64 (at' : Int)) ∧ w.frozen? ⟨b, 1, none⟩ = false ∧ l.length = n ∧ n ≤ 1048576 ∧ IsB l ∧ at' ≤ M ∧
  (l = [] ∨ ∃ d off, a = some ⟨d, off, none⟩ ∧ d < B ∧ ∀ i, i < n → w.cell? ⟨d, off + i, none⟩ = some (.int .u8 (nth l i : Int)))
theorem Src.below {w w' : World} {B b M : Nat} (h : Src w B b M) (hb : Below (b + 1) w w') : Src w' B b M := by
  obtain ⟨h1, h2, a, n, cap, at', l, c0, c1, f1, hl, hn, hB, ha, hd⟩ := h
  refine ⟨h1, Nat.lt_of_lt_of_le h2 hb.size, a, n, cap, at', l, (hb.cell (p := ⟨b, 0, none⟩) (by simp)).trans c0, (hb.cell (p := ⟨b, 1, none⟩) (by simp)).trans c1, (hb.frozen (p := ⟨b, 1, none⟩) (by simp)).trans f1, hl, hn, hB, ha, ?_⟩
  rcases hd with hd | ⟨d, off, e, hlt, hc⟩
  · exact .inl hd
  · exact .inr ⟨d, off, e, hlt, fun i hi => (hb.cell (p := ⟨d, off + i, none⟩) (by simp; omega)).trans (hc i hi)⟩
theorem Src.more {w : World} {B b M M' : Nat} (h : Src w B b M) (hM : M ≤ M') : Src w B b M' := by
  obtain ⟨h1, h2, a, n, cap, at', l, c0, c1, f1, hl, hn, hB, ha, hd⟩ := h
  exact ⟨h1, h2, a, n, cap, at', l, c0, c1, f1, hl, hn, hB, by omega, hd⟩
theorem Own.keptG {w w' : World} {B b : Nat} {v : Value} {l : List Nat} (h : Own w B v l) (hg : w.grownBy w' (some b)) (hb : b < B) : Own w' B v l := by
  refine World.ownsRow.kept h hg ?_
  cases hv : v.ownBlock with
  | none => exact .inl rfl
  | some k => right; intro e; have := (h.lt k hv).1; simp at e; omega

end Go.Proofs.YtknbndebfickpaaDoor

namespace Go.Proofs.YtknbndebfickpaaDoor
open Go.RowKit

/-- A row of whole numbers in a block of its own. -/
def Nums (w : World) (g : Nat) (vs : List Int) : Prop := ∀ i, i < vs.length → w.cell? ⟨g, i, none⟩ = some (.int .i64 (vs.getD i 0))

theorem nums_new {w : World} {cs : Array Value} {vs : List Int} {t : TypeId} (h : cs.toList = vs.map (Value.int .i64)) : Nums (w.alloc (.cells cs t)) w.heap.size vs := by
  intro i hi
  rw [World.cell?_alloc_mark, ← Array.getElem?_toList, h]
  simp [hi]

end Go.Proofs.YtknbndebfickpaaDoor

namespace Go.Proofs.YtknbndebfickpaaDoor
open Go.RowKit

/-- How a draw of bytes ends: a plain word, so that no walk opens it. -/
def LongEnd (b C : Nat) (w : World) (e : Ending) (w' : World) : Prop := ∃ (v : Value) (out : List Nat), e = .returned v ∧ Own w' C v out ∧ IsB out ∧ out.length ≤ 401 ∧ Below b w w'
theorem longEnd {b C : Nat} {w w' : World} {v : Value} {out : List Nat} (h1 : Own w' C v out) (h2 : IsB out) (h3 : out.length ≤ 401) (h4 : Below b w w') : LongEnd b C w (.returned v) w' := ⟨v, out, rfl, h1, h2, h3, h4⟩


end Go.Proofs.YtknbndebfickpaaDoor

namespace Go.Proofs.YtknbndebfickpaaDoor
open Go.RowKit

theorem OwnI.keptG {w w' : World} {B b : Nat} {v : Value} {l : List Int} (h : OwnI w B v l) (hg : w.grownBy w' (some b)) (hb : b < B) : OwnI w' B v l := by
  refine World.ownsRow.kept h hg ?_
  cases hv : v.ownBlock with
  | none => exact .inl rfl
  | some k => right; intro e; have := (h.lt k hv).1; simp at e; omega
theorem OwnI.lowG {w : World} {B C : Nat} {v : Value} {l : List Int} (h : OwnI w B v l) (hC : C ≤ B) : OwnI w C v l := by
  refine ⟨h.1, ?_⟩
  rcases h.2 with h' | ⟨g, cap, cur, h1, h2, h3⟩
  · exact .inl h'
  · exact .inr ⟨g, cap, cur, h1, Nat.le_trans hC h2, h3⟩
theorem gthen {w w1 w2 : World} {row : Option Nat} (h : w.grownBy w1 row) (k : w1.grownBy w2 row) : w.grownBy w2 row := ⟨k.os.trans h.os, k.tape.trans h.tape, k.output.trans h.output, Nat.le_trans h.size k.size, fun g hg hne => (k.block g (Nat.lt_of_lt_of_le hg h.size) hne).trans (h.block g hg hne)⟩
theorem glow {w w1 w2 : World} {row : Option Nat} (h : w.grownBy w1 row) (k : Below w.heap.size w1 w2) : w.grownBy w2 row := ⟨k.os.trans h.os, k.tape.trans h.tape, k.output.trans h.output, Nat.le_trans h.size k.size, fun g hg hne => (k.block g hg).trans (h.block g hg hne)⟩
theorem gnew {w w1 : World} {row : Option Nat} (h : w.grownBy w1 row) (o : Obj) : w.grownBy (w1.alloc o) row := gthen h (World.grownBy_alloc _ _ _)
theorem gbelow {w w1 : World} {b : Nat} (h : w.grownBy w1 (some b)) (hb : b < w.heap.size) : Below b w w1 := (Below.refl _ _).grown h (by omega) (by intro k hk; simp at hk; omega)
/-- How a draw of numbers ends: a plain word, so that no walk opens it. -/
def NumsEnd (B b M K : Nat) (V : List Int → Prop) (w : World) (e : Ending) (w' : World) : Prop := ∃ (v : Value) (out : List Int), e = .returned v ∧ OwnI w' w.heap.size v out ∧ out.length ≤ K ∧ V out ∧ Src w' B b M ∧ w.grownBy w' (some b)
theorem numsEnd {B b M K : Nat} {V : List Int → Prop} {w w' : World} {v : Value} {out : List Int} (h1 : OwnI w' w.heap.size v out) (h3 : out.length ≤ K) (h2 : V out) (h5 : Src w' B b M) (h4 : w.grownBy w' (some b)) : NumsEnd B b M K V w (.returned v) w' := ⟨v, out, rfl, h1, h3, h2, h5, h4⟩
def Any (_ : List Int) : Prop := True
/-- The characters that the model draws. -/
def Drawn (l : List Int) : Prop := ∀ x ∈ l, x ∈ [97, 66, 32, 228, 1078, 1046, 8470, 167, 8364, 127, 160, 1037, (0 : Int)]
theorem Drawn.nil : Drawn [] := fun _ h => by simp at h
theorem Drawn.snoc {l : List Int} {x : Int} (h : Drawn l) (hx : x ∈ [97, 66, 32, 228, 1078, 1046, 8470, 167, 8364, 127, 160, (1037 : Int)]) : Drawn (l ++ [x]) := fun y hy => by
  rcases List.mem_append.1 hy with hy | hy
  · exact h y hy
  · rw [List.mem_singleton] at hy
    subst hy
    simp only [List.mem_cons, List.not_mem_nil, or_false] at hx ⊢
    omega
/-- How a draw of one number ends. -/
def OneEnd (B b M : Nat) (w : World) (e : Ending) (w' : World) : Prop := ∃ r : Int, e = .returned (.int .i64 r) ∧ Src w' B b M ∧ w.grownBy w' (some b)

end Go.Proofs.YtknbndebfickpaaDoor

namespace Go.Proofs.YtknbndebfickpaaDoor
open Go.RowKit

end Go.Proofs.YtknbndebfickpaaDoor

namespace Go.Proofs.YtknbndebfickpaaDoor
open Go.RowKit

/-- How a draw of two numbers ends. -/
def PairEnd (w : World) (e : Ending) (w' : World) : Prop := ∃ r x : Int, e = .returned (.tuple #[.int .i64 r, .int .i64 x]) ∧ Below w.heap.size w w'
/-- A slice of numbers that can be read. -/
def Sl (w : World) (v : Value) (l : List Int) : Prop := ∃ (a : Option Addr) (n cap : Nat), v = .slice a n cap ∧ l.length = n ∧ n ≤ cap ∧ n ≤ 1000 ∧ RdI w a l
theorem Sl.below {w w' : World} {v : Value} {l : List Int} (h : Sl w v l) (hb : Below w.heap.size w w') : Sl w' v l := by
  obtain ⟨a, n, cap, e, h1, h2, h3, h4⟩ := h
  exact ⟨a, n, cap, e, h1, h2, h3, h4.below hb⟩
theorem OwnI.sl {w : World} {B : Nat} {v : Value} {l : List Int} (h : OwnI w B v l) (hl : l.length ≤ 1000) : Sl w v l := by
  obtain ⟨a, cap, rfl, h2, _⟩ := h.form
  exact ⟨a, _, cap, rfl, rfl, h2, hl, h.rd.2⟩
/-- How a draw of a number and a text ends. -/
def TxtEndD (w : World) (e : Ending) (w' : World) : Prop := ∃ (r : Int) (v : Value) (l : List Int), e = .returned (.tuple #[.int .i64 r, v]) ∧ Sl w' v l ∧ Below w.heap.size w w'
/-- How a draw of a number and two texts ends. -/
def TwoTxt (w : World) (e : Ending) (w' : World) : Prop := ∃ (r : Int) (v u : Value) (l s : List Int), e = .returned (.tuple #[.int .i64 r, v, u]) ∧ Sl w' v l ∧ Sl w' u s ∧ Below w.heap.size w w'

end Go.Proofs.YtknbndebfickpaaDoor

namespace Go.Proofs.YtknbndebfickpaaDoor
open Go.RowKit

theorem encV_isB {cs : Int} {l : List Int} (hcs : 1 ≤ cs ∧ cs ≤ 5) (hch : ∀ x ∈ l, chr x = true) : IsB (encV cs l).2 := by
  unfold encV
  split
  · rename_i ha
    split
    · intro b hb; simp at hb
    · intro b hb
      obtain ⟨x, hx, hbx⟩ := List.mem_flatMap.1 hb
      exact tellL_isB hcs (hch x hx) (List.all_eq_true.1 ha x hx) b hbx
  · intro b hb; simp at hb
theorem encV_short (cs : Int) (l : List Int) : (encV cs l).2.length ≤ 400 := by
  unfold encV
  split
  · split
    · simp
    · simp only; omega
  · simp
theorem Drawn.chr {l : List Int} (h : Drawn l) : ∀ x ∈ l, Go.Proofs.YtknbndebfickpaaDoor.chr x = true := fun x hx => by
  have := h x hx
  simp only [List.mem_cons, List.not_mem_nil, or_false] at this
  rw [chr_iff]
  omega
/-- A slice of bytes that can be read. -/
def SlB (w : World) (v : Value) (l : List Nat) : Prop := ∃ (a : Option Addr) (n cap : Nat), v = .slice a n cap ∧ l.length = n ∧ n ≤ cap ∧ n ≤ 1000 ∧ Rd w a l
theorem Own.slB {w : World} {B : Nat} {v : Value} {l : List Nat} (h : Own w B v l) (hl : l.length ≤ 1000) : SlB w v l := by
  obtain ⟨a, cap, rfl, h2, _⟩ := h.form
  exact ⟨a, _, cap, rfl, rfl, h2, hl, h.rd.2⟩
/-- How a draw of a number and some bytes ends. -/
def BTxtEnd (w : World) (e : Ending) (w' : World) : Prop := ∃ (r : Int) (v : Value) (l : List Nat), e = .returned (.tuple #[.int .i64 r, v]) ∧ SlB w' v l ∧ IsB l ∧ Below w.heap.size w w'

end Go.Proofs.YtknbndebfickpaaDoor
