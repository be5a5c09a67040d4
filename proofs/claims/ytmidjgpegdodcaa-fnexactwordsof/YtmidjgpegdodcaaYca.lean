/- A text cut at a byte: plain functions, with no program in them. -/
import Derived.Test.YtmidjgpegdodcaaMemS
import Derived.Lib.Replace
namespace Go.Proofs.Ytmidjgpegdodcaa
open Go.RowKit

/-- A text cut at a byte. -/
def cutM (c : Nat) : List Nat → List (List Nat)
  | [] => [[]]
  | x :: r => if x = c then [] :: cutM c r else match cutM c r with
    | [] => [[x]]
    | h :: t => (x :: h) :: t
theorem cutM_ne (c : Nat) : ∀ l, cutM c l ≠ []
  | [] => by simp [cutM]
  | x :: r => by
    unfold cutM
    split
    · simp
    · split <;> simp
theorem cutM_cons {c x : Nat} {r : List Nat} (h : x ≠ c) : ∃ y t, cutM c r = y :: t ∧ cutM c (x :: r) = (x :: y) :: t := by
  cases hc : cutM c r with
  | nil => exact absurd hc (cutM_ne c r)
  | cons y t => exact ⟨y, t, rfl, by rw [cutM, if_neg h, hc]⟩
theorem cutM_no {c : Nat} : ∀ {l : List Nat}, c ∉ l → cutM c l = [l]
  | [], _ => rfl
  | x :: r, h => by
    have hx : x ≠ c := fun e => h (by rw [e]; exact List.mem_cons_self ..)
    have := cutM_no (c := c) (l := r) fun e => h (List.mem_cons_of_mem _ e)
    rw [cutM, if_neg hx, this]
theorem cutM_hit {c : Nat} : ∀ {y : List Nat} (r : List Nat), c ∉ y → cutM c (y ++ c :: r) = y :: cutM c r
  | [], r, _ => by rw [List.nil_append, cutM, if_pos rfl]
  | x :: y, r, h => by
    have hx : x ≠ c := fun e => h (by rw [e]; exact List.mem_cons_self ..)
    have := cutM_hit (c := c) (y := y) r fun e => h (List.mem_cons_of_mem _ e)
    rw [List.cons_append, cutM, if_neg hx, this]
theorem str_exY (t : List Nat) (a b : Nat) : (str t).extract a b = str ((t.take b).drop a) := by
  rw [Lib.extract_eq, show (str t).data.toList = t.map UInt8.ofNat by simp [str], ← List.map_drop, ← List.map_take, List.drop_take]
  rfl
end Go.Proofs.Ytmidjgpegdodcaa
