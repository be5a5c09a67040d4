/- The laws' helpers that write marks into an answer's bytes, look for them again, and hold two answers with bytes against each other, do what their texts say; at most 1048576 bytes. -/
import Derived.Test.YtahalpbgoganmaaMrk0
import Derived.Test.YtahalpbgoganmaaByt
namespace Go.Proofs.Ytahalpbgoganmaa
open Go.RowKit

/-- The marks: n numbers from k on, what 256 leaves of them. -/
def marks (n k : Nat) : List Nat := (List.range n).map fun i => (k + i) % 256
theorem marks_len (n k : Nat) : (marks n k).length = n := by simp [marks]
theorem marks_nth {n k i : Nat} (h : i < n) : nth (marks n k) i = (k + i) % 256 := by
  rw [nth_get (by rw [marks_len]; exact h)]; simp [marks]
def mhalf (l : List Nat) (k i : Nat) : List Nat := marks i k ++ l.drop i
theorem mhalf_zero (l : List Nat) (k : Nat) : mhalf l k 0 = l := by simp [mhalf, marks]
theorem mhalf_all (l : List Nat) (k : Nat) : mhalf l k l.length = marks l.length k := by simp [mhalf]
theorem mhalf_len (l : List Nat) (k i : Nat) (h : i ≤ l.length) : (mhalf l k i).length = l.length := by simp [mhalf, marks_len]; omega
theorem mhalf_set (l : List Nat) (k i : Nat) (h : i < l.length) : (bc (mhalf l k i)).set i (.int .u8 (((k + i) % 256 : Nat) : Int)) = bc (mhalf l k (i + 1)) := by
  have hm : (bc (marks i k)).length = i := by rw [bc_len, marks_len]
  have e : marks (i + 1) k = marks i k ++ [(k + i) % 256] := by simp [marks, List.range_succ]
  unfold mhalf
  rw [e, bc_app, List.set_append, hm, if_neg (Nat.lt_irrefl i), Nat.sub_self, drop_cons l i h]
  simp [bc]

end Go.Proofs.Ytahalpbgoganmaa
