/- The laws' helpers that write marks into an answer's bytes, look for them again, and hold two answers with bytes against each other, do what their texts say; at most 1048576 bytes · A row of bytes of the call's own is kept where another one grows. -/
import Derived.Test.YtkjnhcnbbojajaaDoorMrk0ToMemF
import Derived.Test.YtkjnhcnbbojajaaDoorPsmToByt
namespace Go.Proofs.YtkjnhcnbbojajaaDoor
open Go.RowKit

/-- The marks: n numbers from k on, what 256 leaves of them. -/
def marks (n k : Nat) : List Nat := (List.range n).map fun i => (k + i) % 256
theorem marks_len (n k : Nat) : (marks n k).length = n := by simp [marks]
theorem marks_nth {n k i : Nat} (h : i < n) : nth (marks n k) i = (k + i) % 256 := by
  rw [nth_get (by rw [marks_len]; exact h)]; simp [marks]
def mhalf (l : List Nat) (k i : Nat) : List Nat := marks i k ++ l.drop i
theorem mhalf_zero (l : List Nat) (k : Nat) : mhalf l k 0 = l := by simp [mhalf, marks]
theorem mhalf_all (l : List Nat) (k : Nat) : mhalf l k l.length = marks l.length k := by simp [mhalf]
theorem mhalf_len (l : List Nat) (k i : Nat) (h : i ≤ l.length) : (mhalf l k i).length = l.length := by simp [mhalf, marks_len]; omega
theorem mhalf_set (l : List Nat) (k i : Nat) (h : i < l.length) : (bc (mhalf l k i)).set i (.int .u8 (((k + i) % 256 : Nat) : Int)) = bc (mhalf l k (i + 1)) := by
  have hm : (bc (marks i k)).length = i := by rw [bc_len, marks_len]
  have e : marks (i + 1) k = marks i k ++ [(k + i) % 256] := by simp [marks, List.range_succ]
  unfold mhalf
  rw [e, bc_app, List.set_append, hm, if_neg (Nat.lt_irrefl i), Nat.sub_self, drop_cons l i h]
  simp [bc]

set_option maxHeartbeats 1600000 in
set_option maxRecDepth 100000 in
theorem markByteS_any (a : Option Addr) (n cap k B : Nat) (l : List Nat) (w : World) (hown : Own w B (.slice a n cap) l) (hn : n ≤ 1048576) (hk : k ≤ 1048576) :
    Calls Tryd.prog 18 #[.slice a n cap, .int .i64 (k : Int)] w fun e w' =>
      e = .returned (.int .i64 ((k + n : Nat) : Int)) ∧ Own w' B (.slice a n cap) (marks n k) ∧ w.grownBy w' (Value.slice a n cap).ownBlock := by
  obtain ⟨hl, hr⟩ := hown.rd
  go_enter Tryd.func18, Tryd.ntmps18
  go_wp2
  go_loopw [1, 5] (fun q i wr => ∃ j : Nat, j ≤ n ∧ i = .int .i64 j ∧ q = .int .i64 ((k + j : Nat) : Int) ∧ Own wr B (.slice a n cap) (mhalf l k j) ∧ w.grownBy wr (Value.slice a n cap).ownBlock)
    (fun _ i _ => n - (intOf i).toNat)
  case atStart => exact ⟨0, Nat.zero_le _, rfl, rfl, by rw [mhalf_zero]; exact hown, World.grownBy.refl _ _⟩
  case round =>
    obtain ⟨j, hj, rfl, rfl, hown', hgr⟩ := hrel
    clear hown
    by_cases hjn : j < n
    · obtain ⟨g, off, ha, _, hcell⟩ := hown'.rd.2.at_ (by rw [mhalf_len _ _ _ (by omega)]; omega)
      obtain ⟨ad, hform⟩ : ∃ g', a = some ⟨g', 0, none⟩ := by
        rcases hown'.2 with ⟨h0, h1⟩ | ⟨g', cap', cur, h', _⟩
        · rw [mhalf_len _ _ _ (by omega)] at h1; omega
        · simp at h'; exact ⟨g', h'.1⟩
      rw [ha] at hform
      obtain ⟨rfl, rfl⟩ : g = ad ∧ off = 0 := by simpa using hform
      subst ha
      have hlen : (mhalf l k j).length = n := by rw [mhalf_len _ _ _ (by omega)]; exact hl
      have ho2 : wr.ownsRow B 5 1 (.slice (some ⟨g, 0, none⟩) n cap) n (bc (mhalf l k j)) := by have := hown'; unfold Own at this; rw [hlen] at this; exact this
      have hc : wr.cell? ⟨g, j, none⟩ = some (.int .u8 (nth (mhalf l k j) j : Int)) := by have := hcell j (by omega); rw [Nat.zero_add] at this; exact this
      have hf := ho2.frozenAt j
      obtain ⟨hst, hgr2⟩ := ho2.stored j (.int .u8 (((k + j) % 256 : Nat) : Int))
      rw [mhalf_set l k j (by omega)] at hst
      have HO : Hid (Own (wr.setCell ⟨g, j, none⟩ (.int .u8 (((k + j) % 256 : Nat) : Int))) B (.slice (some ⟨g, 0, none⟩) n cap) (mhalf l k (j + 1))) := by
        show Own _ _ _ _
        unfold Own
        rw [mhalf_len _ _ _ (by omega), hl]; exact hst
      have hgr3 : w.grownBy (wr.setCell ⟨g, j, none⟩ (.int .u8 (((k + j) % 256 : Nat) : Int))) (some g) := ⟨hgr2.os.trans hgr.os, hgr2.tape.trans hgr.tape, hgr2.output.trans hgr.output, Nat.le_trans hgr.size hgr2.size, fun b hb hne => (hgr2.block b (Nat.lt_of_lt_of_le hb hgr.size) hne).trans (hgr.block b hb hne)⟩
      obtain ⟨q, hq⟩ : ∃ q, q = (k + j) % 256 := ⟨_, rfl⟩
      rw [← hq] at HO hgr3
      have e1 : ((k : Int) + (j : Int)) % 256 = (q : Int) := by omega
      clear hst hgr2 ho2 hcell hown' hgr hform hq hr
      go_wp2
      go_roundw
      case rel => exact ⟨j + 1, by omega, by go_num, by go_num, HO.out, hgr3⟩
      case measure => simp [intOf]; omega
    · have hjj : j = n := by omega
      subst hjj
      rw [← hl, mhalf_all, hl] at hown'
      go_wp2
      go_ret
      exact ⟨rfl, hown', hgr⟩

end Go.Proofs.YtkjnhcnbbojajaaDoor

namespace Go.Proofs.YtkjnhcnbbojajaaDoor
open Go.RowKit

theorem Own.far {w w' : World} {B : Nat} {v : Value} {l : List Nat} {row : Option Nat} (h : Own w B v l) (hg : w.grownBy w' row) (hne : ∀ b, v.ownBlock = some b → some b ≠ row) : Own w' B v l := by
  refine ⟨h.1, ?_⟩
  rcases h.2 with h' | ⟨g, cap, cur, h1, h2, h3, h4⟩
  · exact .inl h'
  · refine .inr ⟨g, cap, cur, h1, h2, ?_, h4⟩
    have hlt : g < w.heap.size := by
      rcases Nat.lt_or_ge g w.heap.size with hlt | hge
      · exact hlt
      · simp [Array.getElem?_eq_none hge] at h3
    rw [hg.block g hlt (hne g (by rw [h1]; rfl))]; exact h3
end Go.Proofs.YtkjnhcnbbojajaaDoor
