/- What kind of part a value tells, plainly. -/
import Derived.Test.YtpgjichcpnjeoaaDoorPcs
import Derived.Test.YtpgjichcpnjeoaaDoorHdr2
import Derived.Test.YtpgjichcpnjeoaaDoorLow
namespace Go.Proofs.YtpgjichcpnjeoaaDoor
open Go.RowKit

/-- A text that begins with another one, its letters small. -/
def bgN (t p : List Nat) : Bool := decide ((t.take p.length).map low = p)
theorem bgN_len {t p : List Nat} (h : bgN t p = true) : p.length ≤ t.length := by
  have := congrArg List.length (of_decide_eq_true h)
  rw [List.length_map, List.length_take] at this
  omega
/-- What stands behind the first piece that begins so. -/
def nmN (p : List Nat) : List (List Nat) → Option (List Nat)
  | [] => none
  | t :: l => if bgN t p then some (t.drop p.length) else nmN p l
theorem nmN_skip {p : List Nat} : ∀ {l : List (List Nat)} {k : Nat}, k ≤ l.length → (∀ i, i < k → bgN (l.getD i []) p = false) → nmN p l = nmN p (l.drop k) := by
  intro l k
  induction k generalizing l with
  | zero => intro _ _; simp
  | succ k ih =>
    intro h1 h2
    cases l with
    | nil => simp at h1
    | cons t r =>
      have h0 : bgN t p = false := h2 0 (by omega)
      rw [nmN, h0, List.drop_succ_cons]
      simp only [Bool.false_eq_true, if_false]
      exact ih (by simpa using h1) (fun i hi => h2 (i + 1) (by omega))
theorem nmN_none {p : List Nat} {l : List (List Nat)} (h : ∀ i, i < l.length → bgN (l.getD i []) p = false) : nmN p l = none := by
  rw [nmN_skip (Nat.le_refl _) h, List.drop_length]; rfl
theorem nmN_some {p : List Nat} {l : List (List Nat)} {k : Nat} (h1 : k < l.length) (h2 : ∀ i, i < k → bgN (l.getD i []) p = false) (h3 : bgN (l.getD k []) p = true) : nmN p l = some ((l.getD k []).drop p.length) := by
  rw [nmN_skip (by omega) h2]
  have e : l.drop k = l.getD k [] :: l.drop (k + 1) := by
    rw [List.getD_eq_getElem?_getD, List.getElem?_eq_getElem h1]; exact List.drop_eq_getElem_cons h1
  rw [e, nmN, h3]
  rfl
/-- text/ · multipart/ · charset= · boundary= -/
def wText : List Nat := [116, 101, 120, 116, 47]
def wMulti : List Nat := [109, 117, 108, 116, 105, 112, 97, 114, 116, 47]
def wChar : List Nat := [99, 104, 97, 114, 115, 101, 116, 61]
def wMark : List Nat := [98, 111, 117, 110, 100, 97, 114, 121, 61]
/-- A charset by its name. -/
def csNm (t : List Nat) : Int := csI (str (t.map low))
/-- The charset that pieces behind the first one tell. -/
def chN (l : List (List Nat)) : Int := match nmN wChar l with
  | none => 1
  | some x => csNm x
/-- The kind and the charset that a value tells. -/
def tyV (t : List Nat) : Int × Int := match pcs t with
  | [] => (3, 0)
  | p :: l => if bgN p wMulti then (2, 0) else if bgN p wText then (1, chN l) else (3, 0)
theorem tyV_nil {t : List Nat} (h : pcs t = []) : tyV t = (3, 0) := by unfold tyV; rw [h]
theorem tyV_multi {t p : List Nat} {l : List (List Nat)} (h : pcs t = p :: l) (h1 : bgN p wMulti = true) : tyV t = (2, 0) := by unfold tyV; rw [h]; simp only [h1, if_true]
theorem tyV_text {t p : List Nat} {l : List (List Nat)} (h : pcs t = p :: l) (h1 : bgN p wMulti = false) (h2 : bgN p wText = true) : tyV t = (1, chN l) := by unfold tyV; rw [h]; simp [h1, h2]
theorem tyV_else {t p : List Nat} {l : List (List Nat)} (h : pcs t = p :: l) (h1 : bgN p wMulti = false) (h2 : bgN p wText = false) : tyV t = (3, 0) := by unfold tyV; rw [h]; simp [h1, h2]
theorem tm_apart {p : List Nat} (h : bgN p wText = true) : bgN p wMulti = false := by
  cases hm : bgN p wMulti with
  | false => rfl
  | true =>
    exfalso
    have h1 := of_decide_eq_true h
    have h2 := of_decide_eq_true hm
    have l1 := bgN_len h
    cases p with
    | nil => simp [wText] at l1
    | cons c p =>
      simp [wText] at h1
      simp [wMulti] at h2
      omega
theorem chN_none {l : List (List Nat)} (h : nmN wChar l = none) : chN l = 1 := by unfold chN; rw [h]
theorem chN_some {l : List (List Nat)} {x : List Nat} (h : nmN wChar l = some x) : chN l = csNm x := by unfold chN; rw [h]
end Go.Proofs.YtpgjichcpnjeoaaDoor
