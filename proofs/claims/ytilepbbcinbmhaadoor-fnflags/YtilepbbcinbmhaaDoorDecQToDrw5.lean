/- The parts of DecodeQuoted, the program's: a digit's value, a line that is broken, a byte that is quoted; slices of at least one byte · DecodeQuoted, the program's, at every text: the bytes of its quoted text, or a code; texts of whatever length · The draws of chapter 1: each ends with some bytes or a number; nothing that was there is turned; sources of at most 1048576 bytes · A text that the model bends: it ends with some text of at most four letters more; nothing below its source is turned · A text that the model bends: it ends with some text of at most four letters more; nothing below its source is turned. -/
import Derived.Test.YtilepbbcinbmhaaDoorFldToEncQ2
import Derived.Laws.BitsAllLaws
import Derived.WalkLawsBesides
import Derived.Test.YtilepbbcinbmhaaDoorBytToEncB2
import Derived.Test.YtilepbbcinbmhaaDoorDrw3aToBytI
import Derived.Test.YtilepbbcinbmhaaDoorDrkToCv
import Derived.ArgAppend
namespace Go.Proofs.YtilepbbcinbmhaaDoor
open Go.RowKit

/-- Does r begin with a fill and a line feed? -/
def brk (r : List Nat) : Bool := decide (2 ≤ r.length ∧ nth r 0 = 61 ∧ nth r 1 = 10)
/-- The byte that r begins with, quoted. -/
def rdq (r : List Nat) : Option Nat :=
  if 3 ≤ r.length ∧ nth r 0 = 61 ∧ Xq.unhex (nth r 1) < 16 ∧ Xq.unhex (nth r 2) < 16 then some (Xq.unhex (nth r 1) * 16 + Xq.unhex (nth r 2)) else none

theorem unq_step_self {r : List Nat} (hp : 0 < r.length) (h : selfL r = true) : Xq.unq r = (Xq.unq (r.drop 1)).map (nth r 0 :: ·) := by
  match r, hp with
  | c :: r, _ => exact Xq.unq_self (by simpa [selfL, nth] using h)
theorem unq_step_brk {r : List Nat} (h : brk r = true) : Xq.unq r = Xq.unq (r.drop 2) := by
  have h' := of_decide_eq_true h
  match r, h' with
  | c :: d :: r, h' =>
    obtain ⟨_, h1, h2⟩ := h'
    simp only [nth, List.getD_cons_zero, List.getD_cons_succ] at h1 h2
    subst h1 h2
    simpa using Xq.unq_break r
theorem unq_step_hex {r : List Nat} {x : Nat} (hb : brk r = false) (h : rdq r = some x) : Xq.unq r = (Xq.unq (r.drop 3)).map (x :: ·) := by
  unfold rdq at h
  split at h
  · rename_i hh
    obtain ⟨h3, h0, h1, h2⟩ := hh
    have hb' := of_decide_eq_false hb
    match r, h3 with
    | c :: d :: e :: r, _ =>
      simp only [nth, List.getD_cons_zero, List.getD_cons_succ] at h0 h1 h2 hb' h
      subst h0
      have hd : d ≠ 10 := fun hd => hb' ⟨by simp, rfl, hd⟩
      rw [Xq.unq_byte hd ⟨h1, h2⟩]
      simp only [Option.some.injEq] at h
      rw [h]
      simp
  · cases h
theorem unq_step_bad {r : List Nat} (hp : 0 < r.length) (hs : selfL r = false) (hb : brk r = false) (h : rdq r = none) : Xq.unq r = none := by
  have hb' := of_decide_eq_false hb
  unfold rdq at h
  split at h
  · cases h
  · rename_i hh
    match r, hp with
    | c :: r, _ =>
      have hs' : Xq.self c r = false := by simpa [selfL, nth] using hs
      by_cases hc : c = 61
      · subst hc
        match r with
        | [] => exact Xq.unq_short1
        | [d] =>
          have hd : d ≠ 10 := fun hd => hb' ⟨by simp, by simp [nth], by simpa [nth] using hd⟩
          exact Xq.unq_short2 hd
        | d :: e :: r =>
          have hd : d ≠ 10 := fun hd => hb' ⟨by simp, by simp [nth], by simpa [nth] using hd⟩
          exact Xq.unq_bad hd (fun h2 => hh ⟨by simp, by simp [nth], by simpa [nth] using h2.1, by simpa [nth] using h2.2⟩)
      · exact Xq.unq_none hs' hc

/-- What hexValue answers. -/
def hexV (c : Nat) : Value := if Xq.unhex c < 16 then .tuple #[.int .u8 (Xq.unhex c : Int), .bool true] else .tuple #[.int .u8 0, .bool false]
theorem hexV_in {c : Nat} (h : Xq.unhex c < 16) : hexV c = .tuple #[.int .u8 (Xq.unhex c : Int), .bool true] := if_pos h
theorem hexV_out {c : Nat} (h : ¬ Xq.unhex c < 16) : hexV c = .tuple #[.int .u8 0, .bool false] := if_neg h

/-- What readQuoted answers. -/
def rdqV (r : List Nat) : Value := match rdq r with
  | some x => .tuple #[.int .u8 (x : Int), .bool true]
  | none => .tuple #[.int .u8 0, .bool false]
theorem rdqV_some {r : List Nat} {x : Nat} (h : rdq r = some x) : rdqV r = .tuple #[.int .u8 (x : Int), .bool true] := by simp [rdqV, h]
theorem rdqV_none {r : List Nat} (h : rdq r = none) : rdqV r = .tuple #[.int .u8 0, .bool false] := by simp [rdqV, h]
theorem or_hex (x y : Nat) (hx : x < 16) (hy : y < 16) : Go.bits BinOp.or IntKind.u8 ((x : Int) * 16) (y : Int) = ((x * 16 + y : Nat) : Int) := by
  have := u8_or_nat (x * 16) y (by omega) (by omega)
  rw [show ((x * 16 : Nat) : Int) = (x : Int) * 16 by omega] at this
  rw [this]
  have h := Nat.shiftLeft_add_eq_or_of_lt (show y < 2 ^ 4 by omega) x
  rw [Nat.shiftLeft_eq] at h
  rw [show x * 16 = x * 2 ^ 4 from rfl, ← h]

end Go.Proofs.YtilepbbcinbmhaaDoor

namespace Go.Proofs.YtilepbbcinbmhaaDoor
open Go.RowKit

/-- What DecodeQuoted answers: a code and bytes. -/
def decQ (t : List Nat) : Int × List Nat :=
  if 1600 < t.length then (2, []) else match Xq.unq t with
    | none => (7, [])
    | some b => if 400 < b.length then (2, []) else (0, b)
theorem decQ_long {t : List Nat} (h : 1600 < t.length) : decQ t = (2, []) := by unfold decQ; rw [if_pos h]
theorem decQ_none {t : List Nat} (h : ¬ 1600 < t.length) (hn : Xq.unq t = none) : decQ t = (7, []) := by unfold decQ; rw [if_neg h, hn]
theorem decQ_many {t b : List Nat} (h : ¬ 1600 < t.length) (hn : Xq.unq t = some b) (hb : 400 < b.length) : decQ t = (2, []) := by unfold decQ; rw [if_neg h, hn]; simp only; rw [if_pos hb]
theorem decQ_some {t b : List Nat} (h : ¬ 1600 < t.length) (hn : Xq.unq t = some b) (hb : ¬ 400 < b.length) : decQ t = (0, b) := by unfold decQ; rw [if_neg h, hn]; simp only; rw [if_neg hb]

theorem Own.low {w : World} {B C : Nat} {v : Value} {l : List Nat} (h : Own w B v l) (hC : C ≤ B) : Own w C v l := by
  refine ⟨h.1, ?_⟩
  rcases h.2 with h' | ⟨g, cap, cur, h1, h2, h3⟩
  · exact .inl h'
  · exact .inr ⟨g, cap, cur, h1, Nat.le_trans hC h2, h3⟩
theorem Own.set {w : World} {B : Nat} {v : Value} {l : List Nat} (h : Own w B v l) (p : Addr) (hp : p.block < B) (u : Value) : Own (w.setCell p u) B v l := ownsRow_setCell_below h hp u

/-- What becomes of what is still to be read. -/
theorem map_app {o : Option (List Nat)} {a b : List Nat} : (o.map (b ++ ·)).map (a ++ ·) = o.map ((a ++ b) ++ ·) := by cases o <;> simp

end Go.Proofs.YtilepbbcinbmhaaDoor

namespace Go.Proofs.YtilepbbcinbmhaaDoor
open Go.RowKit

end Go.Proofs.YtilepbbcinbmhaaDoor

namespace Go.Proofs.YtilepbbcinbmhaaDoor
open Go.RowKit

/-- AN APPEND onto such a slice: where there is room, and where there is none. -/
theorem wpList_app_cv {w : World} {ops : Array Oper} {rest : List Oper} {o : Oper} {a : Act} {Q : Exit → Act → World → Prop} (hgd : o.guard = none) (s x : Operand)
    (ho : o.op = .call { callee := .builtin .append, args := #[s, x], argTypes := #[22, 22] })
    (g n cap : Nat) (l : List Nat) (hs : a.eval s = .slice (some ⟨g, 0, none⟩) n cap) (hcv : Cv w g n cap l) (ad : Addr) (m c : Nat) (new : List Nat) (hx : a.eval x = .slice (some ad) m c) (hm : new.length = m)
    (hnew : ∀ j, j < m → w.cell? (ad.add j) = some (.int .u8 (nth new j : Int))) (hsz : n + m ≤ 1073741824)
    (h : ∀ (ao : Option Addr) (N cap' : Nat) (w1 : World), (∀ c', (convert 22 9 (.slice ao N c')).run Tryd.prog w1 = .ok (.string (str (l ++ new))) w1) → Below g w w1 → wpList Tryd.prog ops Q rest (a.put o.dst (.slice ao N cap')) w1) : wpList Tryd.prog ops Q (o :: rest) a w := by
  obtain ⟨i0, hi, hz0, hz1, hz2⟩ := info_parts infoB
  obtain ⟨hl, hn, hlt, hc, hf⟩ := hcv
  refine wpList_append_arg w hgd s x 22 ho 5 i0 (.int .u8 0) 1 1 Tryd.underlying22 hi hz0 hz1 hz2 rfl (by decide) g 0 n cap (bc l) hs (by rw [bc_len, hl]; omega) ?_ ad m c (bc new) hx (by rw [bc_len, hm]; omega) ?_ (bc_one new) ?_ (by unfold maxLen; omega) (by omega) ?_ ?_
  · intro j u hj
    have hjl : j < l.length := by
      rcases Nat.lt_or_ge j l.length with hlt | hge
      · exact hlt
      · rw [List.getElem?_eq_none (by rw [bc_len]; exact hge)] at hj; cases hj
    rw [bc_get hjl] at hj
    cases hj
    rw [Nat.zero_add]
    exact hc j (by omega)
  · intro j u hj
    have hjl : j < new.length := by
      rcases Nat.lt_or_ge j new.length with hlt | hge
      · exact hlt
      · rw [List.getElem?_eq_none (by rw [bc_len]; exact hge)] at hj; cases hj
    rw [bc_get hjl] at hj
    cases hj
    exact hnew j (by omega)
  · intro hr j hj
    rw [bc_len] at hj
    exact hf _ (by omega)
  · intro hr
    have hin := World.cell?_setCells_in g (bc new) (0 + n * 1) w (fun j hj => by rw [bc_len] at hj; exact (hf _ (by omega)).1)
    have hrd : Rd (w.setCells g (0 + n * 1) (bc new)) (some ⟨g, 0, none⟩) (l ++ new) := by
      refine .inr ⟨g, 0, rfl, Nat.lt_of_lt_of_le hlt (below_setCells g _ _ _).size, fun i hi => ?_⟩
      rw [List.length_append] at hi
      rw [show (⟨g, 0 + i, none⟩ : Addr) = ⟨g, i, none⟩ by rw [Nat.zero_add]]
      rcases Nat.lt_or_ge i n with h1 | h1
      · rw [World.cell?_setCells_out g (bc new) (0 + n * 1) w ⟨g, i, none⟩ (fun _ _ => .inl (by simp; omega)), hc i h1, nth_get (by omega), nth_get (by rw [List.length_append]; omega), List.getElem_append_left (by omega)]
      · have := hin (i - n) (by rw [bc_len]; omega)
        rw [show 0 + n * 1 + (i - n) = i by omega] at this
        rw [this, nth_get (by rw [List.length_append]; omega), List.getElem_append_right (by omega)]
        simp [bc, hl]
    exact h _ _ _ _ (fun c' => run_str (by rw [List.length_append]; omega) hrd) (below_setCells g _ _ _)
  · intro _ v' w' hown hgr
    have ho' : Own w' w.heap.size v' (l ++ new) := by unfold Own; rw [bc_app, List.length_append, hl, hm]; exact hown
    obtain ⟨ao, cap', rfl, _⟩ := ho'.form
    exact h ao _ cap' w' (fun c' => run_str rfl ho'.rd.2) ((Below.refl _ _).grown hgr (by omega) (by intro k hk; cases hk))
end Go.Proofs.YtilepbbcinbmhaaDoor

namespace Go.Proofs.YtilepbbcinbmhaaDoor
open Go.RowKit

/-- How a draw of a text ends: a plain word, so that no walk opens it. -/
def TextEnd (b m : Nat) (w : World) (e : Ending) (w' : World) : Prop := ∃ l : List Nat, e = .returned (.string (str l)) ∧ IsB l ∧ l.length ≤ m ∧ Below b w w'
theorem textEnd {b m : Nat} {w w' : World} {l : List Nat} (h1 : IsB l) (h2 : l.length ≤ m) (h3 : Below b w w') : TextEnd b m w (.returned (.string (str l))) w' := ⟨l, rfl, h1, h2, h3⟩

theorem Cv.set {w : World} {g n cap j y : Nat} {l : List Nat} (h : Cv w g n cap l) (hj : j < n) : Rd (w.setCell ⟨g, j, none⟩ (.int .u8 (y : Int))) (some ⟨g, 0, none⟩) (l.set j y) := by
  obtain ⟨hl, _, hg, hc, _⟩ := h
  refine .inr ⟨g, 0, rfl, by simpa using hg, fun i hi => ?_⟩
  rw [List.length_set] at hi
  rw [show (⟨g, 0 + i, none⟩ : Addr) = ⟨g, i, none⟩ by rw [Nat.zero_add], nth_get (by rw [List.length_set]; exact hi), List.getElem_set]
  by_cases e : j = i
  · subst e
    rw [if_pos rfl]
    exact World.cell?_setCell_same _ _ _ (hc j (by omega))
  · rw [if_neg e, World.cell?_setCell_other _ _ _ _ (fun h => e (by cases h; rfl)), hc i (by omega), nth_get hi]
theorem isB_set {l : List Nat} (h : IsB l) {j y : Nat} (hy : y < 256) : IsB (l.set j y) := by
  intro x hx
  rcases List.mem_or_eq_of_mem_set hx with h1 | h1
  · exact h x h1
  · omega
theorem isB_app {a b : List Nat} (ha : IsB a) (hb : IsB b) : IsB (a ++ b) := fun x hx => (List.mem_append.1 hx).elim (ha x) (hb x)
theorem rd_take {w : World} {a : Option Addr} {l : List Nat} (h : Rd w a l) (k : Nat) : Rd w a (l.take k) := by
  rcases h with h | ⟨g, o, e, hg, hc⟩
  · exact .inl (by rw [h]; simp)
  · refine .inr ⟨g, o, e, hg, fun i hi => ?_⟩
    rw [List.length_take] at hi
    rw [hc i (by omega), nth_get (by omega), nth_get (by rw [List.length_take]; omega), List.getElem_take]

/-- The six texts that are hung on. -/
def hung : List (List Nat) := [[61], [61, 10], [32], [61, 52], [61, 61, 61, 61], [61, 51, 100]]
theorem hung_at (w : World) (j : Nat) (hj : j < 6) (t : TypeId) : ∃ new : List Nat, IsB new ∧ 1 ≤ new.length ∧ new.length ≤ 4 ∧ (w.alloc (.cells #[.string ⟨#[61]⟩, .string ⟨#[61, 10]⟩, .string ⟨#[32]⟩, .string ⟨#[61, 52]⟩, .string ⟨#[61, 61, 61, 61]⟩, .string ⟨#[61, 51, 100]⟩] t)).cell? ⟨w.heap.size, j, none⟩ = some (.string (str new)) := by
  have hm : hung.getD j [] ∈ hung := by rw [List.getD_eq_getElem?_getD, List.getElem?_eq_getElem (by exact hj)]; exact List.getElem_mem _
  have hall : ∀ x ∈ hung, (1 ≤ x.length ∧ x.length ≤ 4) ∧ ∀ y ∈ x, y < 256 := by decide
  refine ⟨hung.getD j [], fun y hy => (hall _ hm).2 y hy, (hall _ hm).1.1, (hall _ hm).1.2, ?_⟩
  rw [World.cell?_alloc_mark]
  match j, hj with
  | 0, _ => rfl
  | 1, _ => rfl
  | 2, _ => rfl
  | 3, _ => rfl
  | 4, _ => rfl
  | 5, _ => rfl

end Go.Proofs.YtilepbbcinbmhaaDoor
