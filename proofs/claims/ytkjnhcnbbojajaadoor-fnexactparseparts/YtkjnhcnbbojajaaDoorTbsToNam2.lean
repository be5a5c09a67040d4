/- Tables of texts at package level: what a row lists of one gives its cells; no program in it · The names of the charsets and of the comparators: the program's and the model's functions answer by one plain function each · ComparatorOf, the program's and the model's, at every text: both by one plain function. -/
import Derived.Test.YtkjnhcnbbojajaaDoorMrk0ToMemF
import Derived.Lib.LaidTab
import Derived.LaidMore
namespace Go.Proofs.YtkjnhcnbbojajaaDoor
open Go.RowKit

/-- A table of texts as a row lists it. -/
def strData {H : Type} (zs : List (List UInt8)) : DataW H := .agg (zs.map fun z => .lit (.string z))
/-- A text of bytes. -/
def txt (z : List UInt8) : ByteArray := ⟨z.toArray⟩
theorem cells_of_strs {H : Type} {enc : TypeId × Value → H} {P : Program} {w : World} {base : Nat} {sp : Nat → Bool} {held : Bool} {fuel : Nat} {t e : TypeId} {n : Nat} {cs : List Value} {zs : List (List UInt8)} {p : List MemPlace}
    (ht : P.underlying t = some (.array n e)) (he : P.underlying e = some .string) (hce : P.cellsOf e = 1) (hct : P.cellsOf t = n)
    (h : DataW.trod enc P w base sp held fuel t cs = some (strData zs, p)) : cs = zs.map fun z => Value.string (txt z) := by
  cases fuel with
  | zero => simp [DataW.trod] at h
  | succ fuel =>
    simp only [DataW.trod, ht, hce, hct, Nat.mul_one] at h
    split at h
    · rename_i hl
      obtain ⟨xs, hm, hx⟩ := Option.map_eq_some_iff.1 h
      have hxs : xs.map (·.1) = zs.map fun z => (DataW.lit (.string z) : DataW H) := by
        have := congrArg Prod.fst hx
        simpa [strData] using this
      have hxl : xs.length = n := by simpa using Lib.mapM_length hm
      have hzl : zs.length = n := by
        have := congrArg List.length hxs
        simp at this
        omega
      apply List.ext_getElem?
      intro i
      by_cases hi : i < n
      · obtain ⟨b, hb, hf⟩ := Lib.mapM_at hm i i (by simp [hi])
        obtain ⟨s, hc, rfl, _⟩ := DataW.trod_string he hf
        have h1 : cs[i]? = some (.string s) := by
          have := congrArg (·[0]?) hc
          simpa [List.getElem?_take, List.getElem?_drop] using this
        have h2 : (xs.map (·.1))[i]? = some (DataW.lit (.string s.data.toList) : DataW H) := by simp [hb]
        rw [hxs] at h2
        simp only [List.getElem?_map, Option.map_eq_some_iff, DataW.lit.injEq, Lit.string.injEq] at h2
        obtain ⟨z', hz', e'⟩ := h2
        simp [h1, hz', e', txt]
      · rw [List.getElem?_eq_none (by omega), List.getElem?_eq_none (by simp; omega)]
    · cases h

/-- The variable holds just these texts. -/
def StrsAre (P : Program) (w : World) (name : String) (zs : List (List UInt8)) : Prop := w.var? P name = some (zs.map fun z => Value.string (txt z)).toArray
theorem strsAre_of_head {P : Program} {W : World} {name : String} {zs : List (List UInt8)} {rest : List (String × DataW Unit)} {g : Nat} {t e : TypeId} {n : Nat}
    (hg : P.globalNamed name = some g) (hty : (P.globals[g]?).map (·.type) = some t) (ht : P.underlying t = some (.array n e)) (he : P.underlying e = some .string) (hce : P.cellsOf e = 1) (hct : P.cellsOf t = n)
    (h : laidMet P ((name, strData zs) :: rest) W) : StrsAre P W name zs := by
  obtain ⟨ps, ⟨g', t', cs, fuel, p, q, hg', ht', hvar, hd, _, _⟩, _⟩ := h
  obtain rfl := Option.some.inj (hg.symm.trans hg')
  obtain rfl := Option.some.inj (hty.symm.trans ht')
  unfold StrsAre
  rw [hvar, ← cells_of_strs ht he hce hct hd]
theorem StrsAre.cell {P : Program} {W : World} {name : String} {zs : List (List UInt8)} {g : Nat} (h : StrsAre P W name zs) (hg : P.globalNamed name = some g) (i : Nat) (hi : i < zs.length) :
    W.cell? ⟨g, i, none⟩ = some (.string (txt (zs.getD i []))) := by
  have := World.var?_cell hg h i
  simpa [List.getD, hi] using this
end Go.Proofs.YtkjnhcnbbojajaaDoor

namespace Go.Proofs.YtkjnhcnbbojajaaDoor
open Go.RowKit

/-- The names of the charsets, and those of the comparators. -/
def csZ : List (List UInt8) := [[117, 115, 45, 97, 115, 99, 105, 105], [105, 115, 111, 45, 56, 56, 53, 57, 45, 49], [105, 115, 111, 45, 56, 56, 53, 57, 45, 53], [117, 116, 102, 45, 56], [117, 116, 102, 45, 49, 54]]
def cmZ : List (List UInt8) := [[105, 59, 111, 99, 116, 101, 116], [105, 59, 97, 115, 99, 105, 105, 45, 99, 97, 115, 101, 109, 97, 112], [105, 59, 117, 110, 105, 99, 111, 100, 101, 45, 99, 97, 115, 101, 109, 97, 112]]
/-- The name at a place. -/
def csN (i : Nat) : ByteArray := txt (csZ.getD i [])
def cmN (i : Nat) : ByteArray := txt (cmZ.getD i [])
/-- THE TABLES LIE IN THEIR VARIABLES. -/
def TabC (w : World) : Prop := ∀ v, v < 5 → w.cell? ⟨1, v, none⟩ = some (.string (csN v))
theorem TabC.below {w w' : World} (h : TabC w) (hb : Below w.heap.size w w') : TabC w' := fun v hv =>
  (hb.cell (p := ⟨1, v, none⟩) (World.block_lt_of_cell? w ⟨1, 0, none⟩ (h 0 (by decide)))).trans (h v hv)
/-- A number lies between two others: a plain word. -/
def inN (v a b : Int) : Bool := decide (a ≤ v ∧ v ≤ b)
theorem inN_yes {v a b : Int} (h : a ≤ v ∧ v ≤ b) : inN v a b = true := decide_eq_true h
theorem inN_no {v a b : Int} (h : ¬ (a ≤ v ∧ v ≤ b)) : inN v a b = false := decide_eq_false h
theorem l1In_nam (v a b : Int) (w : World) : Calls Tryd.prog 54 #[.int .i64 v, .int .i64 a, .int .i64 b] w fun e w' => e = .returned (.bool (inN v a b)) ∧ w = w' := by
  by_cases h1 : a ≤ v
  · by_cases h2 : v ≤ b
    · have H : Hid (inN v a b = true) := inN_yes ⟨h1, h2⟩
      go_enter Tryd.func54, Tryd.ntmps54
      go_wp2
      go_ret
      exact ⟨by rw [H.out]; rfl, rfl⟩
    · have H : Hid (inN v a b = false) := inN_no (fun h => h2 h.2)
      go_enter Tryd.func54, Tryd.ntmps54
      go_wp2
      go_ret
      exact ⟨by rw [H.out]; rfl, rfl⟩
  · have H : Hid (inN v a b = false) := inN_no (fun h => h1 h.1)
    go_enter Tryd.func54, Tryd.ntmps54
    go_wp2
    go_ret
    exact ⟨by rw [H.out]; rfl, rfl⟩
theorem csRow_at (w : World) (t : TypeId) (j : Nat) (hj : j < 5) : (w.alloc (.cells #[.string ⟨#[]⟩, .string ⟨#[117, 115, 45, 97, 115, 99, 105, 105]⟩, .string ⟨#[105, 115, 111, 45, 56, 56, 53, 57, 45, 49]⟩, .string ⟨#[105, 115, 111, 45, 56, 56, 53, 57, 45, 53]⟩, .string ⟨#[117, 116, 102, 45, 56]⟩, .string ⟨#[117, 116, 102, 45, 49, 54]⟩] t)).cell? ⟨w.heap.size, j + 1, none⟩ = some (.string (csN j)) := by
  rw [World.cell?_alloc_mark]
  match j, hj with
  | 0, _ => rfl
  | 1, _ => rfl
  | 2, _ => rfl
  | 3, _ => rfl
  | 4, _ => rfl
theorem cmRow_at (w : World) (t : TypeId) (j : Nat) (hj : j < 3) : (w.alloc (.cells #[.string ⟨#[]⟩, .string ⟨#[105, 59, 111, 99, 116, 101, 116]⟩, .string ⟨#[105, 59, 97, 115, 99, 105, 105, 45, 99, 97, 115, 101, 109, 97, 112]⟩, .string ⟨#[105, 59, 117, 110, 105, 99, 111, 100, 101, 45, 99, 97, 115, 101, 109, 97, 112]⟩] t)).cell? ⟨w.heap.size, j + 1, none⟩ = some (.string (cmN j)) := by
  rw [World.cell?_alloc_mark]
  match j, hj with
  | 0, _ => rfl
  | 1, _ => rfl
  | 2, _ => rfl

set_option maxHeartbeats 1600000 in
set_option maxRecDepth 100000 in
theorem l2Name_any (j : Nat) (hj : j < 5) (w : World) : Calls Tryd.prog 124 #[.int .i64 ((j + 1 : Nat) : Int)] w fun e w' => e = .returned (.string (csN j)) ∧ Below w.heap.size w w' := by
  have hc := csRow_at w 9 j hj
  have h1 : ((j + 1 : Nat) : Int) < 6 := by omega
  go_enter Tryd.func124, Tryd.ntmps124
  go_wp2
  go_ret
  exact ⟨rfl, by go_grown⟩
/-- What CharsetName answers. -/
def nameV (cs : Int) : Int × ByteArray := if 1 ≤ cs ∧ cs ≤ 5 then (0, csN (cs.toNat - 1)) else (4, ByteArray.empty)
theorem nameV_no {cs : Int} (h : ¬ (1 ≤ cs ∧ cs ≤ 5)) : nameV cs = (4, ByteArray.empty) := if_neg h
theorem nameV_yes {j : Nat} (h : j < 5) : nameV ((j + 1 : Nat) : Int) = (0, csN j) := by
  unfold nameV; rw [if_pos (by omega)]; congr 2
/-- An answer with a text. -/
def TxtAns (r : Int × ByteArray) (w : World) (e : Ending) (w' : World) : Prop := e = .returned (.agg #[.int .i64 r.1, .string r.2]) ∧ Below w.heap.size w w'

theorem eqIntResult_nam (c v : Int) (w : World) :
    Calls Tryd.prog 23 #[.agg #[.int .i64 c, .int .i64 v], .agg #[.int .i64 c, .int .i64 v]] w fun e w' => e = .returned (.bool true) ∧ Below w.heap.size w w' := by
  go_enter Tryd.func23, Tryd.ntmps23
  go_wp2
  go_ret
  exact ⟨rfl, by go_grown⟩
end Go.Proofs.YtkjnhcnbbojajaaDoor

namespace Go.Proofs.YtkjnhcnbbojajaaDoor
open Go.RowKit

theorem toList_txt (l : List Nat) : (str l).toList = l.map UInt8.ofNat := by
  rw [ByteArray.toList_eq]; simp [str]
theorem txt_ne {x s : ByteArray} (h : x ≠ s) : (x.toList == s.toList) = false := by
  rw [beq_eq_false_iff_ne]
  intro he
  apply h
  obtain ⟨a, rfl, _⟩ := str_surj x
  obtain ⟨b, rfl, _⟩ := str_surj s
  rw [toList_txt, toList_txt] at he
  unfold str
  rw [he]

/-- The place of a name among the first n of a table. -/
def findN (f : Nat → ByteArray) (s : ByteArray) : Nat → Option Nat
  | 0 => none
  | n + 1 => match findN f s n with
    | some i => some i
    | none => if f n = s then some n else none
theorem findN_none {f : Nat → ByteArray} {s : ByteArray} : ∀ {n : Nat}, (∀ i, i < n → f i ≠ s) → findN f s n = none
  | 0, _ => rfl
  | n + 1, h => by
    rw [findN, findN_none (fun i hi => h i (by omega))]
    exact if_neg (h n (by omega))
theorem findN_some {f : Nat → ByteArray} {s : ByteArray} {j : Nat} (h : ∀ i, i < j → f i ≠ s) (hj : f j = s) : ∀ {n : Nat}, j < n → findN f s n = some j
  | 0, hn => by omega
  | n + 1, hn => by
    by_cases e : j = n
    · subst e
      rw [findN, findN_none h]
      exact if_pos hj
    · rw [findN, findN_some h hj (n := n) (by omega)]
/-- The answer of a look for a name. -/
def ofV (o : Option Nat) : Int × Int := match o with
  | some i => (0, (i : Int) + 1)
  | none => (4, 0)
def cmV (s : ByteArray) : Int × Int := ofV (findN cmN s 3)
theorem cmV_none {s : ByteArray} (h : ∀ i, i < 3 → cmN i ≠ s) : cmV s = (4, 0) := by unfold cmV; rw [findN_none h]; rfl
theorem cmV_some {s : ByteArray} {j : Nat} (h : ∀ i, i < j → cmN i ≠ s) (hj : cmN j = s) (h3 : j < 3) : cmV s = (0, (j : Int) + 1) := by unfold cmV; rw [findN_some h hj h3]; rfl
/-- An answer with one number. -/
def IntEnd (r : Int × Int) (w : World) (e : Ending) (w' : World) : Prop := e = .returned (.agg #[.int .i64 r.1, .int .i64 r.2]) ∧ Below w.heap.size w w'
theorem IntEnd.put {r : Int × Int} {w w1 : World} (hbel : Below w.heap.size w w1) (x y : Value) : IntEnd r w (.returned (.agg #[.int .i64 r.1, .int .i64 r.2])) ((w1.setCell ⟨w.heap.size, 0, none⟩ x).setCell ⟨w.heap.size, 1, none⟩ y) :=
  ⟨rfl, (hbel.setCell (by simp) _).setCell (by simp) _⟩

end Go.Proofs.YtkjnhcnbbojajaaDoor
