/- A slice of fields of the call's own, and what an append to it leaves: laws for this program's types · A slice of fields that came in: what the row tells of it gives its cells; no program in it · The laws' helpers over slices of fields: they copy one, reckon its size, and hold two against each other · More of the laws' helpers over slices of fields: a slice's size, and whether two are the same · Which numbers are characters, and which lie between two others: plain functions; at every number. -/
import Derived.Test.YtfbjodbihenmjaaGreatDoorAppToMemF
import Derived.Test.YtfbjodbihenmjaaGreatDoorJfqToInf
import Derived.ChangeArms
import Derived.DataReads
import Derived.Deep.RegionHeld3
import Derived.Test.YtfbjodbihenmjaaGreatDoorProg
import Derived.WalkKit
import Derived.Handy
import Derived.Below
namespace Go.Proofs.YtfbjodbihenmjaaGreatDoor
open Go.RowKit

/-- A field as a value. -/
def fv (p : FldP) : Value := .agg #[.string p.1, .string p.2]
def zeroF : Value := .agg #[.string ⟨#[]⟩, .string ⟨#[]⟩]
theorem infoF : (Tryz.prog.info? 119).map (fun i => (i.zero, i.size, i.bytes)) = some (some zeroF, 2, 32) := by kernel_rfl

/-- THE SLICE v IS THE CALL's OWN AND HOLDS THE FIELDS l. -/
def OwnF (w : World) (B : Nat) (v : Value) (l : List FldP) : Prop := w.ownsRow B 119 2 v l.length (fc l)
theorem OwnF.nil (w : World) (B : Nat) : OwnF w B (.slice none 0 0) [] := World.ownsRow_nil _ _ _ _
theorem OwnF.alloc {w : World} {B : Nat} {v : Value} {l : List FldP} (h : OwnF w B v l) (o : Obj) : OwnF (w.alloc o) B v l := World.ownsRow.alloc h o
theorem OwnF.below {w w' : World} {B C : Nat} {v : Value} {l : List FldP} (h : OwnF w B v l) (hb : Below C w w') (hC : w.heap.size ≤ C) : OwnF w' B v l := by
  refine ⟨h.1, ?_⟩
  rcases h.2 with h' | ⟨g, cap, cur, h1, h2, h3, h4⟩
  · exact .inl h'
  · refine .inr ⟨g, cap, cur, h1, h2, ?_, h4⟩
    have hg : g < w.heap.size := by
      rcases Nat.lt_or_ge g w.heap.size with hlt | hge
      · exact hlt
      · simp [Array.getElem?_eq_none hge] at h3
    rw [hb.block g (by omega)]; exact h3
theorem OwnF.form {w : World} {B : Nat} {v : Value} {l : List FldP} (h : OwnF w B v l) : ∃ a cap, v = .slice a l.length cap ∧ l.length ≤ cap ∧ cap ≤ maxLen := by
  rcases h.2 with ⟨h', h0⟩ | ⟨g, cap, cur, h', _, _, h4, h5, _⟩
  · exact ⟨none, 0, by rw [h', h0], by omega, by decide⟩
  · exact ⟨_, cap, h', h4, h5⟩
theorem OwnF.rd {w : World} {B n cap : Nat} {a : Option Addr} {l : List FldP} (h : OwnF w B (.slice a n cap) l) : l.length = n ∧ RdF w a l := by
  have hf : l.length = n := by
    obtain ⟨a', c', e, _⟩ := h.form
    simp at e; omega
  subst hf
  exact ⟨rfl, RdF.own h⟩
theorem OwnF.low {w : World} {B C : Nat} {v : Value} {l : List FldP} (h : OwnF w B v l) (hC : C ≤ B) : OwnF w C v l := by
  refine ⟨h.1, ?_⟩
  rcases h.2 with h' | ⟨g, cap, cur, h1, h2, h3⟩
  · exact .inl h'
  · exact .inr ⟨g, cap, cur, h1, Nat.le_trans hC h2, h3⟩
theorem OwnF.kept {w : World} {B : Nat} {v : Value} {l : List FldP} (h : OwnF w B v l) (p : Addr) (hp : p.block < B) (u : Value) : OwnF (w.setCell p u) B v l := ownsRow_setCell_below h hp u
theorem OwnF.far {w w' : World} {B : Nat} {v : Value} {l : List FldP} {row : Option Nat} (h : OwnF w B v l) (hg : w.grownBy w' row) (hne : ∀ b, v.ownBlock = some b → some b ≠ row) : OwnF w' B v l := by
  refine ⟨h.1, ?_⟩
  rcases h.2 with h' | ⟨g, cap, cur, h1, h2, h3, h4⟩
  · exact .inl h'
  · refine .inr ⟨g, cap, cur, h1, h2, ?_, h4⟩
    have hlt : g < w.heap.size := by
      rcases Nat.lt_or_ge g w.heap.size with hlt | hge
      · exact hlt
      · simp [Array.getElem?_eq_none hge] at h3
    rw [hg.block g hlt (hne g (by rw [h1]; rfl))]; exact h3

/-- AN APPEND: what stands at the second slice's address is there behind what was. -/
theorem wpList_appF {w : World} {ops : Array Oper} {rest : List Oper} {o : Oper} {a : Act} {Q : Exit → Act → World → Prop} (hgd : o.guard = none) (s x : Operand)
    (ho : o.op = .call { callee := .builtin .append, args := #[s, x], argTypes := #[97, 97] })
    (B : Nat) (v : Value) (l : List FldP) (hs : a.eval s = v) (hown : OwnF w B v l) (ad : Addr) (m c : Nat) (new : List FldP) (hx : a.eval x = .slice (some ad) m c) (hm : new.length = m)
    (hnew : ∀ j, j < m → w.cell? (ad.add (j * 2)) = some (.string (nthF new j).1) ∧ w.cell? (ad.add (j * 2 + 1)) = some (.string (nthF new j).2)) (hsz : l.length + m ≤ 1048576) (hB : B ≤ w.heap.size)
    (h : ∀ v' w1, OwnF w1 B v' (l ++ new) → Below B w w1 → wpList Tryz.prog ops Q rest (a.put o.dst v') w1) : wpList Tryz.prog ops Q (o :: rest) a w := by
  obtain ⟨i0, hi, hz0, hz1, hz2⟩ := info_parts infoF
  refine wpList_append_own w hgd s x 97 ho B 119 i0 zeroF 2 32 Tryz.underlying97 hi hz0 hz1 hz2 rfl (by decide) v l.length (fc l) hs hown ad m c (fc new) hx (by rw [fc_len, hm]) ?_ (fc_one new) (by unfold maxLen; omega) (by omega) hB ?_
  · intro j u hj
    have hjl : j < new.length * 2 := by
      rcases Nat.lt_or_ge j (new.length * 2) with hlt | hge
      · exact hlt
      · rw [List.getElem?_eq_none (by rw [fc_len]; exact hge)] at hj; cases hj
    have hf := fc_get new (j / 2) (by omega)
    have hn := hnew (j / 2) (by omega)
    have hjj : j = j / 2 * 2 ∨ j = j / 2 * 2 + 1 := by omega
    rcases hjj with e | e
    · rw [e, hf.1] at hj
      rw [e, hn.1]; exact hj
    · rw [e, hf.2] at hj
      rw [e, hn.2]; exact hj
  · intro v' w1 hown' hgr _
    refine h v' w1 ?_ ((Below.refl _ _).grown hgr hB (fun k hk => (hown.lt k hk).1))
    unfold OwnF
    rw [fc_app, List.length_append, hm]
    exact hown'
/-- AN APPEND AT A STEP OF A REGION THAT DRAWS ITS ORDER. -/
theorem step_appF {w : World} {ops : Array Oper} {o : Oper} {a : Act} {K : Act → World → Prop} {Q : Exit → Act → World → Prop} {E : Prop} (hgd : o.guard = none) (s x : Operand)
    (ho : o.op = .call { callee := .builtin .append, args := #[s, x], argTypes := #[97, 97] })
    (B : Nat) (v : Value) (l : List FldP) (hs : a.eval s = v) (hown : OwnF w B v l) (ad : Addr) (m c : Nat) (new : List FldP) (hx : a.eval x = .slice (some ad) m c) (hm : new.length = m)
    (hnew : ∀ j, j < m → w.cell? (ad.add (j * 2)) = some (.string (nthF new j).1) ∧ w.cell? (ad.add (j * 2 + 1)) = some (.string (nthF new j).2)) (hsz : l.length + m ≤ 1048576) (hB : B ≤ w.heap.size)
    (h : ∀ v' w1, OwnF w1 B v' (l ++ new) → Below B w w1 → w.grownBy w1 v.ownBlock → K (a.put o.dst v') w1) : if Region.wanted o (yielded ops a.tmps) = true then Oper.wp Tryz.prog o a w K Q else E := by
  have hw : Region.wanted o (yielded ops a.tmps) = true := by simp [Region.wanted, hgd]
  rw [if_pos hw]
  obtain ⟨i0, hi, hz0, hz1, hz2⟩ := info_parts infoF
  refine wp_append_own w s x 97 ho B 119 i0 zeroF 2 32 Tryz.underlying97 hi hz0 hz1 hz2 rfl (by decide) v l.length (fc l) hs hown ad m c (fc new) hx (by rw [fc_len, hm]) ?_ (fc_one new) (by unfold maxLen; omega) (by omega) hB ?_
  · intro j u hj
    have hjl : j < new.length * 2 := by
      rcases Nat.lt_or_ge j (new.length * 2) with hlt | hge
      · exact hlt
      · rw [List.getElem?_eq_none (by rw [fc_len]; exact hge)] at hj; cases hj
    have hf := fc_get new (j / 2) (by omega)
    have hn := hnew (j / 2) (by omega)
    have hjj : j = j / 2 * 2 ∨ j = j / 2 * 2 + 1 := by omega
    rcases hjj with e | e
    · rw [e, hf.1] at hj
      rw [e, hn.1]; exact hj
    · rw [e, hf.2] at hj
      rw [e, hn.2]; exact hj
  · intro v' w1 hown' hgr _
    refine h v' w1 ?_ ((Below.refl _ _).grown hgr hB (fun k hk => (hown.lt k hk).1)) hgr
    unfold OwnF
    rw [fc_app, List.length_append, hm]
    exact hown'
end Go.Proofs.YtfbjodbihenmjaaGreatDoor

namespace Go.Proofs.YtfbjodbihenmjaaGreatDoor
open Go.RowKit

/-- A slice of fields, as it came in. -/
def IsFlds (w : World) (a : Option Addr) (len cap : Nat) (l : List FldP) : Prop := l.length = len ∧ len ≤ cap ∧ cap ≤ maxLen ∧ RdF w a l ∧ ∀ p ∈ l, p.1.size ≤ maxLen ∧ p.2.size ≤ maxLen

theorem add_zero (a : Addr) : a.add 0 = a := by cases a; simp [Addr.add]
theorem add_add (a : Addr) (i j : Nat) : (a.add i).add j = a.add (i + j) := by
  unfold Addr.add
  by_cases hi : i = 0 <;> by_cases hj : j = 0 <;> simp [hi, hj, Nat.add_assoc]
theorem open_flds {H : Type} {enc : TypeId × Value → H} {P : Program} {w : World} {base : Nat} {sp : Nat → Bool} {held : Bool} {fuel : Nat} {t e s : TypeId} {f0 f1 : Field} {a0 : Option Addr} {len0 cap0 : Nat} {x : DataW H × List MemPlace}
    (ht : P.underlying t = some (.slice e)) (he : P.underlying e = some (.struct #[f0, f1])) (hs : P.underlying s = some .string) (h0 : f0.type = s) (h1 : f1.type = s) (o0 : f0.offset = 0) (o1 : f1.offset = 1) (cs1 : P.cellsOf s = 1) (ce : P.cellsOf e = 2)
    (h : DataW.trod enc P w base sp held fuel t [.slice a0 len0 cap0] = some x) : ∃ l, IsFlds w a0 len0 cap0 l := by
  rcases DataW.trod_slice ht h with ⟨hcs, _⟩ | ⟨a, len, cap, elems, rest, n, _, hcs, _, _, hl, hm, hlen, hel, _, _⟩
  · simp at hcs
    obtain ⟨rfl, rfl, rfl⟩ := hcs
    exact ⟨[], rfl, by omega, by decide, .inl rfl, fun p hp => by simp at hp⟩
  · simp at hcs
    obtain ⟨rfl, rfl, rfl⟩ := hcs
    have each : ∀ i, i < len0 → ∃ p : FldP, (w.cell? (a.add (i * 2)) = some (.string p.1) ∧ w.cell? (a.add (i * 2 + 1)) = some (.string p.2)) ∧ p.1.size ≤ maxLen ∧ p.2.size ≤ maxLen := by
      intro i hi
      have hb := hel i hi
      rw [List.getElem?_eq_getElem (by omega), Option.bind_eq_some_iff] at hb
      obtain ⟨cs', hc, hy⟩ := hb
      rw [ce] at hc
      obtain ⟨xs, n', _, _, hcl, _, hfs⟩ := DataW.trod_struct he hy
      obtain ⟨-, hcl2, hcell⟩ := World.cells?_some hc
      have hxl : xs.length = 2 := by assumption
      have g0 := hfs 0 f0 rfl
      have g1 := hfs 1 f1 rfl
      rw [h0, o0, cs1, List.getElem?_eq_getElem (by omega)] at g0
      rw [h1, o1, cs1, List.getElem?_eq_getElem (by omega)] at g1
      obtain ⟨s0, e0, _, z0⟩ := DataW.trod_string hs g0
      obtain ⟨s1, e1, _, z1⟩ := DataW.trod_string hs g1
      have c0 : cs'[0]? = some (.string s0) := by
        have := congrArg (·[0]?) e0
        simpa using this
      have c1 : cs'[1]? = some (.string s1) := by
        have := congrArg (·[0]?) e1
        simpa [List.getElem?_drop] using this
      refine ⟨(s0, s1), ⟨?_, ?_⟩, z0, z1⟩
      · have := hcell 0 (by omega)
        rw [c0, add_zero] at this
        exact this
      · have := hcell 1 (by omega)
        rw [c1, add_add] at this
        exact this
    have hsz : ∀ i (h : i < len0), _ := fun i h => Classical.choose_spec (each i h)
    refine ⟨(List.range len0).map fun i => if h : i < len0 then Classical.choose (each i h) else (ByteArray.empty, ByteArray.empty), by simp, hl, hm, ?_, ?_⟩
    · by_cases hz : len0 = 0
      · left; subst hz; rfl
      · right
        obtain ⟨b, off, spot⟩ := a
        have hspot : spot = none := by
          have := World.cell?_spot (hsz 0 (by omega)).1.1
          simpa [Addr.add] using this
        subst hspot
        refine ⟨b, off, rfl, World.block_lt_of_cell? w _ (hsz 0 (by omega)).1.1, fun i hi => ?_⟩
        have hi' : i < len0 := by simpa using hi
        have hn : nthF ((List.range len0).map fun i => if h : i < len0 then Classical.choose (each i h) else (ByteArray.empty, ByteArray.empty)) i = Classical.choose (each i hi') := by
          rw [nthF_get hi]; simp [hi']
        rw [hn]
        have := (hsz i hi').1
        generalize Classical.choose (each i hi') = q at this ⊢
        rw [Go.WideShapes.add_plain, Go.WideShapes.add_plain] at this
        exact this
    · intro p hp
      simp only [List.mem_map, List.mem_range] at hp
      obtain ⟨i, hi, rfl⟩ := hp
      rw [dif_pos hi]
      exact (hsz i hi).2
end Go.Proofs.YtfbjodbihenmjaaGreatDoor

namespace Go.Proofs.YtfbjodbihenmjaaGreatDoor
open Go.RowKit

end Go.Proofs.YtfbjodbihenmjaaGreatDoor

namespace Go.Proofs.YtfbjodbihenmjaaGreatDoor
open Go.RowKit

/-- How the reckoning of a field's size ends. -/
def SzEnd (left : Int) (x y : ByteArray) (w : World) (e : Ending) (w' : World) : Prop := ∃ r : Int, e = .returned (.int .i64 r) ∧ (r = -1 ∨ 0 ≤ r ∧ r ≤ left ∧ x.size ≤ 1048576 ∧ y.size ≤ 1048576) ∧ Below w.heap.size w w'

/-- How the reckoning of a slice's size ends. -/
def SzsEnd (n : Nat) (l : List FldP) (w : World) (e : Ending) (w' : World) : Prop := ∃ r : Int, e = .returned (.int .i64 r) ∧ (r = -1 ∨ 0 ≤ r ∧ n ≤ 1048576 ∧ ∀ p ∈ l, p.1.size ≤ 1048576 ∧ p.2.size ≤ 1048576) ∧ Below w.heap.size w w'

end Go.Proofs.YtfbjodbihenmjaaGreatDoor

namespace Go.Proofs.YtfbjodbihenmjaaGreatDoor
open Go.RowKit

/-- A character. -/
def chr (c : Int) : Bool := decide (0 ≤ c ∧ c ≤ 65535 ∧ (c < 55296 ∨ 57343 < c))
theorem chr_iff {c : Int} : chr c = true ↔ (0 ≤ c ∧ c ≤ 65535 ∧ (c < 55296 ∨ 57343 < c)) := decide_eq_true_iff
theorem chr_no {c : Int} (h : ¬ (0 ≤ c ∧ c ≤ 65535 ∧ (c < 55296 ∨ 57343 < c))) : chr c = false := decide_eq_false h
theorem ret_bool {b b' : Bool} {w : World} (h : b = b') : Ending.returned (Value.bool b) = .returned (.bool b') ∧ w = w := ⟨by rw [h], rfl⟩
theorem ret_int {b b' : Int} {w : World} (h : b = b') : Ending.returned (Value.int .i64 b) = .returned (.int .i64 b') ∧ w = w := ⟨by rw [h], rfl⟩

theorem ret_boolB {b b' : Bool} {w w' : World} {n : Nat} (h : b = b') (hb : Below n w w') : Ending.returned (Value.bool b) = .returned (.bool b') ∧ Below n w w' := ⟨by rw [h], hb⟩

theorem isCharacter_any (c : Int) (w : World) : Calls Tryz.prog 81 #[.int .i64 c] w fun e w' => e = .returned (.bool (chr c)) ∧ w = w' := by
  go_enter Tryz.func81, Tryz.ntmps81
  go_wp2
  all_goals (go_ret; refine ret_bool ?_; rw [Bool.eq_iff_iff, chr_iff]; simp; try omega)

theorem l1In_any (c a b : Int) (w : World) : Calls Tryz.prog 32 #[.int .i64 c, .int .i64 a, .int .i64 b] w fun e w' => e = .returned (.bool (decide (a ≤ c ∧ c ≤ b))) ∧ w = w' := by
  go_enter Tryz.func32, Tryz.ntmps32
  go_wp2
  all_goals (go_ret; refine ret_bool ?_; rw [Bool.eq_iff_iff]; simp; try omega)

theorem l2Char_any (c : Int) (w : World) : Calls Tryz.prog 126 #[.int .i64 c] w fun e w' => e = .returned (.bool (chr c)) ∧ w = w' := by
  go_enter Tryz.func126, Tryz.ntmps126
  go_wp2_with (first | (go_at_call 32; refine (l1In_any _ _ _ _).mono ?_; rintro e w' ⟨rfl, rfl⟩))
  all_goals (go_ret; refine ret_bool ?_; rw [Bool.eq_iff_iff, chr_iff]; simp; try omega)
end Go.Proofs.YtfbjodbihenmjaaGreatDoor
