/- Which kind of line begins at a place, the model's; the ranges of a body as the model tells them, by a plain function · What both sides make of a part's bytes: the same, but for a mark that is too long. -/
import Derived.Test.YtkjnhcnbbojajaaDoorOne
namespace Go.Proofs.YtkjnhcnbbojajaaDoor
open Go.RowKit

/-- Which kind of line a text is. -/
def kdM (bg en t : ByteArray) : Int := if t = bg then 1 else if t = en then 2 else 0
set_option maxHeartbeats 1600000 in
set_option maxRecDepth 100000 in
theorem l5Line_any (b m : Nat) (d : List Nat) (mk bg en : ByteArray) (w : World) (hr : Rd w (some ⟨b, 0, none⟩) d) (hl : d.length = m) (_hm : m ≤ 400) (i j : Nat) (him : i < m) (hij : i ≤ j) (hjm : j ≤ m) (hmk : mk.size ≤ 1000) (hbg : ⟨#[45, 45]⟩ ++ mk = bg) (hen : bg ++ ⟨#[45, 45]⟩ = en) :
    Calls Tryd.prog 91 #[.slice (some ⟨b, 0, none⟩) m m, .int .i64 (i : Int), .int .i64 (j : Int), .string mk] w fun e w' => e = .returned (.int .i64 (kdM bg en (str (cutN d i j)))) ∧ w = w' := by
  have htl : (cutN d i j).length = j - i := by unfold cutN; rw [List.length_drop, List.length_take]; omega
  have hrc : Rd w (some ⟨b, i, none⟩) (cutN d i j) := by
    have h := (rd_takeH hr j).drop i
    rw [Nat.zero_add] at h; exact h
  have hst := fun c' => run_str (cap := c') (n := j - i) htl hrc
  have hbs : bg.size = 2 + mk.size := by rw [← hbg, ByteArray.size_append]; rfl
  have hcat1 : ¬ 9223372036854775807 < 2 + mk.size := by omega
  have hcat2 : ¬ 9223372036854775807 < 2 + mk.size + 2 := by omega
  have hcat3 : ¬ 9223372036854775807 < bg.size + 2 := by omega
  have hi1 : (i : Int) ≤ (j : Int) := by omega
  have hi2 : (j : Int) ≤ (m : Int) := by omega
  have hmi : ¬ m = i := by omega
  generalize str (cutN d i j) = t at *
  clear hrc htl
  by_cases h1 : t = bg
  · have HM : Hid (kdM bg en t = 1) := if_pos h1
    have e1 : (t.toList == bg.toList) = true := by rw [h1]; simp
    go_enter Tryd.func91, Tryd.ntmps91
    go_wp2
    go_ret
    exact ⟨by rw [HM.out]; rfl, rfl⟩
  · have e1 := texts_ne h1
    by_cases h2 : t = en
    · have HM : Hid (kdM bg en t = 2) := (if_neg h1).trans (if_pos h2)
      have e2 : (t.toList == en.toList) = true := by rw [h2]; simp
      have e3 : (en.toList == bg.toList) = false := by rw [← h2]; exact e1
      go_enter Tryd.func91, Tryd.ntmps91
      go_wp2
      go_ret
      exact ⟨by rw [HM.out]; rfl, rfl⟩
    · have HM : Hid (kdM bg en t = 0) := (if_neg h1).trans (if_neg h2)
      have e2 := texts_ne h2
      go_enter Tryd.func91, Tryd.ntmps91
      go_wp2
      go_ret
      exact ⟨by rw [HM.out]; rfl, rfl⟩
/-- What the model has at its end. -/
def finM (tt : Nat) (out : List RngP) (o : Option Nat) : List RngP := match o with
  | some s => out ++ [((s : Int), (tt : Int))]
  | none => out
/-- What the model has behind a line of a mark that begins at a place. -/
def cloM (k : Nat) (out : List RngP) (o : Option Nat) : List RngP := match o with
  | some s => out ++ [((s : Int), ((if s ≤ k - 1 then k - 1 else s : Nat) : Int))]
  | none => out
/-- A line of a kind, and what comes behind it. -/
def spS (kd : Int) (k e tt : Nat) (out : List RngP) (o : Option Nat) (F : Nat → List RngP → Option Nat → List RngP) : List RngP :=
  if kd = 2 then cloM k out o else if kd = 1 then F (e + 1) (cloM k out o) (some (if e + 1 ≤ tt then e + 1 else tt)) else F (e + 1) out o
/-- The model's ranges, line by line: what is closed, where the open one began. -/
def spF (d : List Nat) (tt : Nat) (bg en : ByteArray) : Nat → Nat → List RngP → Option Nat → List RngP
  | 0, _, out, o => finM tt out o
  | f + 1, k, out, o => if k < tt then spS (kdM bg en (str (cutN d k (eoL (d.take tt) k)))) k (eoL (d.take tt) k) tt out o (fun a b c => spF d tt bg en f a b c) else finM tt out o
theorem spF_yes {d : List Nat} {tt f k : Nat} {bg en : ByteArray} {out : List RngP} {o : Option Nat} (h : k < tt) : spF d tt bg en (f + 1) k out o = spS (kdM bg en (str (cutN d k (eoL (d.take tt) k)))) k (eoL (d.take tt) k) tt out o (spF d tt bg en f) := if_pos h
theorem spF_end {d : List Nat} {tt f k : Nat} {bg en : ByteArray} {out : List RngP} {o : Option Nat} (h : ¬ k < tt) : spF d tt bg en f k out o = finM tt out o := by
  cases f with
  | zero => rfl
  | succ f => exact if_neg h
end Go.Proofs.YtkjnhcnbbojajaaDoor

namespace Go.Proofs.YtkjnhcnbbojajaaDoor
open Go.RowKit

theorem mm_apart {p : List Nat} (h : bgN p wMulti = true) : bgN p wMark = false := by
  cases hm : bgN p wMark with
  | false => rfl
  | true =>
    exfalso
    have h1 := of_decide_eq_true h
    have h2 := of_decide_eq_true hm
    have l1 := bgN_len h
    cases p with
    | nil => simp [wMulti] at l1
    | cons c p =>
      simp [wMulti] at h1
      simp [wMark] at h2
      omega
theorem nm_tail {t : List Nat} (h : (tyV t).1 = 2) : nmN wMark (pcs t) = nmN wMark ((pcs t).drop 1) := by
  cases hp : pcs t with
  | nil => rfl
  | cons p l =>
    have hb : bgN p wMulti = true := by
      cases hb : bgN p wMulti with
      | true => rfl
      | false =>
        exfalso
        cases ht : bgN p wText with
        | true => rw [tyV_text hp hb ht] at h; simp at h
        | false => rw [tyV_else hp hb ht] at h; simp at h
    rw [nmN, mm_apart hb]
    rfl
/-- A mark that the program takes. -/
def mkT (r : (Int × Int × Int) × Nat × List Nat) : List Nat := if r.1.1 = 2 ∧ r.2.2.length ≤ 20 then r.2.2 else []
theorem oneV_M (x : List Nat) : oneV x = ((oneM x).1, (oneM x).2.1, mkT (oneM x)) := by
  by_cases h : (phV x).1 = 0
  · cases hf : fdOf (phV x).2.2 wct with
    | none =>
      rw [oneV_none h hf, oneM_none h hf]
      simp [mkT]
    | some v =>
      rw [oneV_some h hf, oneM_some h hf]
      by_cases ht : (tyV (bts v)).1 = 2
      · have e := nm_tail ht
        simp only [ht, if_true, mkT, true_and]
        unfold mkC
        rw [e]
        cases nmN wMark ((pcs (bts v)).drop 1) with
        | none => simp
        | some y => simp
      · simp [ht, mkT]
  · rw [oneV_bad h, oneM_bad h]
    simp [mkT]
end Go.Proofs.YtkjnhcnbbojajaaDoor
