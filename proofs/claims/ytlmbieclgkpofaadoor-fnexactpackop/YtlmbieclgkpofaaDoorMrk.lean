/- The laws' helpers that write marks into an answer's bytes, look for them again, and hold two answers with bytes against each other, do what their texts say; at most 1048576 bytes. -/
import Derived.Test.YtlmbieclgkpofaaDoorMrk0
import Derived.Test.YtlmbieclgkpofaaDoorByt
namespace Go.Proofs.YtlmbieclgkpofaaDoor
open Go.RowKit

/-- The marks: n numbers from k on, what 256 leaves of them. -/
def marks (n k : Nat) : List Nat := (List.range n).map fun i => (k + i) % 256
theorem marks_len (n k : Nat) : (marks n k).length = n := by simp [marks]
theorem marks_nth {n k i : Nat} (h : i < n) : nth (marks n k) i = (k + i) % 256 := by
  rw [nth_get (by rw [marks_len]; exact h)]; simp [marks]
def mhalf (l : List Nat) (k i : Nat) : List Nat := marks i k ++ l.drop i
theorem mhalf_zero (l : List Nat) (k : Nat) : mhalf l k 0 = l := by simp [mhalf, marks]
theorem mhalf_all (l : List Nat) (k : Nat) : mhalf l k l.length = marks l.length k := by simp [mhalf]
theorem mhalf_len (l : List Nat) (k i : Nat) (h : i ≤ l.length) : (mhalf l k i).length = l.length := by simp [mhalf, marks_len]; omega
theorem mhalf_set (l : List Nat) (k i : Nat) (h : i < l.length) : (bc (mhalf l k i)).set i (.int .u8 (((k + i) % 256 : Nat) : Int)) = bc (mhalf l k (i + 1)) := by
  have hm : (bc (marks i k)).length = i := by rw [bc_len, marks_len]
  have e : marks (i + 1) k = marks i k ++ [(k + i) % 256] := by simp [marks, List.range_succ]
  unfold mhalf
  rw [e, bc_app, List.set_append, hm, if_neg (Nat.lt_irrefl i), Nat.sub_self, drop_cons l i h]
  simp [bc]

set_option maxHeartbeats 1600000 in
set_option maxRecDepth 100000 in
theorem markByteS_any (a : Option Addr) (n cap k B : Nat) (l : List Nat) (w : World) (hown : Own w B (.slice a n cap) l) (hn : n ≤ 1048576) (hk : k ≤ 1048576) :
    Calls Tryd.prog 24 #[.slice a n cap, .int .i64 (k : Int)] w fun e w' =>
      e = .returned (.int .i64 ((k + n : Nat) : Int)) ∧ Own w' B (.slice a n cap) (marks n k) ∧ w.grownBy w' (Value.slice a n cap).ownBlock := by
  obtain ⟨hl, hr⟩ := hown.rd
  go_enter Tryd.func24, Tryd.ntmps24
  go_wp2
  go_loopw [1, 5] (fun q i wr => ∃ j : Nat, j ≤ n ∧ i = .int .i64 j ∧ q = .int .i64 ((k + j : Nat) : Int) ∧ Own wr B (.slice a n cap) (mhalf l k j) ∧ w.grownBy wr (Value.slice a n cap).ownBlock)
    (fun _ i _ => n - (intOf i).toNat)
  case atStart => exact ⟨0, Nat.zero_le _, rfl, rfl, by rw [mhalf_zero]; exact hown, World.grownBy.refl _ _⟩
  case round =>
    obtain ⟨j, hj, rfl, rfl, hown', hgr⟩ := hrel
    clear hown
    by_cases hjn : j < n
    · obtain ⟨g, off, ha, _, hcell⟩ := hown'.rd.2.at_ (by rw [mhalf_len _ _ _ (by omega)]; omega)
      obtain ⟨ad, hform⟩ : ∃ g', a = some ⟨g', 0, none⟩ := by
        rcases hown'.2 with ⟨h0, h1⟩ | ⟨g', cap', cur, h', _⟩
        · rw [mhalf_len _ _ _ (by omega)] at h1; omega
        · simp at h'; exact ⟨g', h'.1⟩
      rw [ha] at hform
      obtain ⟨rfl, rfl⟩ : g = ad ∧ off = 0 := by simpa using hform
      subst ha
      have hlen : (mhalf l k j).length = n := by rw [mhalf_len _ _ _ (by omega)]; exact hl
      have ho2 : wr.ownsRow B 5 1 (.slice (some ⟨g, 0, none⟩) n cap) n (bc (mhalf l k j)) := by have := hown'; unfold Own at this; rw [hlen] at this; exact this
      have hc : wr.cell? ⟨g, j, none⟩ = some (.int .u8 (nth (mhalf l k j) j : Int)) := by have := hcell j (by omega); rw [Nat.zero_add] at this; exact this
      have hf := ho2.frozenAt j
      obtain ⟨hst, hgr2⟩ := ho2.stored j (.int .u8 (((k + j) % 256 : Nat) : Int))
      rw [mhalf_set l k j (by omega)] at hst
      have HO : Hid (Own (wr.setCell ⟨g, j, none⟩ (.int .u8 (((k + j) % 256 : Nat) : Int))) B (.slice (some ⟨g, 0, none⟩) n cap) (mhalf l k (j + 1))) := by
        show Own _ _ _ _
        unfold Own
        rw [mhalf_len _ _ _ (by omega), hl]; exact hst
      have hgr3 : w.grownBy (wr.setCell ⟨g, j, none⟩ (.int .u8 (((k + j) % 256 : Nat) : Int))) (some g) := ⟨hgr2.os.trans hgr.os, hgr2.tape.trans hgr.tape, hgr2.output.trans hgr.output, Nat.le_trans hgr.size hgr2.size, fun b hb hne => (hgr2.block b (Nat.lt_of_lt_of_le hb hgr.size) hne).trans (hgr.block b hb hne)⟩
      obtain ⟨q, hq⟩ : ∃ q, q = (k + j) % 256 := ⟨_, rfl⟩
      rw [← hq] at HO hgr3
      have e1 : ((k : Int) + (j : Int)) % 256 = (q : Int) := by omega
      clear hst hgr2 ho2 hcell hown' hgr hform hq hr
      go_wp2
      go_roundw
      case rel => exact ⟨j + 1, by omega, by go_num, by go_num, HO.out, hgr3⟩
      case measure => simp [intOf]; omega
    · have hjj : j = n := by omega
      subst hjj
      rw [← hl, mhalf_all, hl] at hown'
      go_wp2
      go_ret
      exact ⟨rfl, hown', hgr⟩

set_option maxHeartbeats 800000 in
set_option maxRecDepth 100000 in
theorem heldByteS_any (a : Option Addr) (n cap k : Nat) (w : World) (hr : Rd w a (marks n k)) (hn : n ≤ 1048576) (hk : k ≤ 1048576) :
    Calls Tryd.prog 53 #[.slice a n cap, .int .i64 (k : Int)] w fun e w' => e = .returned (.int .i64 ((k + n : Nat) : Int)) ∧ w = w' := by
  go_enter Tryd.func53, Tryd.ntmps53
  go_wp2
  go_loop [1, 5] (fun q i => ∃ j : Nat, j ≤ n ∧ i = .int .i64 j ∧ q = .int .i64 ((k + j : Nat) : Int)) (fun _ i => n - (intOf i).toNat)
  case atStart => exact ⟨0, Nat.zero_le _, rfl, rfl⟩
  case round =>
    obtain ⟨j, hj, rfl, rfl⟩ := hrel
    by_cases hjn : j < n
    · obtain ⟨b, off, rfl, hblt, hcell⟩ := hr.at_ (by rw [marks_len]; omega)
      have hc := hcell j (by rw [marks_len]; exact hjn)
      rw [marks_nth hjn] at hc
      obtain ⟨q, hq⟩ : ∃ q, q = (k + j) % 256 := ⟨_, rfl⟩
      rw [← hq] at hc
      have e1 : ((k : Int) + (j : Int)) % 256 = (q : Int) := by omega
      clear hcell hq hr
      go_wp2
      go_round
      case rel => exact ⟨j + 1, by omega, by go_num, by go_num⟩
      case measure => simp [intOf]; omega
    · have hjj : j = n := by omega
      subst hjj
      go_wp2
      go_ret
      exact ⟨rfl, rfl⟩

set_option maxHeartbeats 800000 in
set_option maxRecDepth 100000 in
theorem markBytesResult_any (c : Int) (a : Option Addr) (n cap B : Nat) (l : List Nat) (w : World) (hown : Own w B (.slice a n cap) l) (hn : n ≤ 1048576) :
    Calls Tryd.prog 17 #[.agg #[.int .i64 c, .slice a n cap], .int .i64 1] w fun e w' =>
      e = .returned (.int .i64 ((1 + n : Nat) : Int)) ∧ Own w' B (.slice a n cap) (marks n 1) ∧ w.grownBy w' (Value.slice a n cap).ownBlock := by
  go_enter Tryd.func17, Tryd.ntmps17
  go_wp2_with fail
  refine (markByteS_any a n cap 1 B l _ (by exact hown.alloc _) hn (by omega)).mono ?_
  rintro e w1 ⟨rfl, h1, h2⟩
  have h3 := grown_alloc h2
  clear h2
  go_wp2
  go_ret
  exact ⟨rfl, h1, h3⟩

set_option maxHeartbeats 800000 in
set_option maxRecDepth 100000 in
theorem heldBytesResult_any (c : Int) (a : Option Addr) (n cap : Nat) (w : World) (hr : Rd w a (marks n 1)) (hn : n ≤ 1048576) :
    Calls Tryd.prog 18 #[.agg #[.int .i64 c, .slice a n cap], .int .i64 1] w fun e w' =>
      e = .returned (.int .i64 ((1 + n : Nat) : Int)) ∧ Below w.heap.size w w' := by
  have hpos : ¬ (((1 + n : Nat) : Int)) < 0 := by omega
  go_enter Tryd.func18, Tryd.ntmps18
  go_wp2_with fail
  refine (heldByteS_any a n cap 1 _ (by exact hr.below ((Below.refl _ _).alloc (Nat.le_refl _) _)) hn (by omega)).mono ?_
  rintro e w1 ⟨rfl, rfl⟩
  go_wp2
  go_ret
  exact ⟨rfl, by go_grown⟩

set_option maxHeartbeats 800000 in
set_option maxRecDepth 100000 in
theorem eqBytesResult_same (c : Int) (a b : Option Addr) (n cap cap' : Nat) (l : List Nat) (w : World) (hl : l.length = n) (hr : Rd w a l) (hs : Rd w b l) (hn : n ≤ 1048576) :
    Calls Tryd.prog 15 #[.agg #[.int .i64 c, .slice a n cap], .agg #[.int .i64 c, .slice b n cap']] w fun e w' => e = .returned (.bool true) ∧ Below w.heap.size w w' := by
  go_enter Tryd.func15, Tryd.ntmps15
  go_wp2_with fail
  have hb : Below w.heap.size w ((w.alloc (.cells #[.int .i64 c, .slice a n cap] 33)).alloc (.cells #[.int .i64 c, .slice b n cap'] 33)) := ((Below.refl _ _).alloc (Nat.le_refl _) _).alloc (by simp) _
  refine (eqByteS_same a b n cap cap' l _ hl (by exact hr.below hb) (by exact hs.below hb) hn).mono ?_
  rintro e w1 ⟨rfl, hb1⟩
  go_wp2
  go_ret
  exact ⟨rfl, hb.trans (hb1.mono (by simp; omega))⟩

end Go.Proofs.YtlmbieclgkpofaaDoor
