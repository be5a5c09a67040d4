/- The laws' helpers that write marks into an answer's numbers, look for them again, and hold two answers with numbers against each other, do what their texts say; at most 1048576 numbers. -/
import Derived.Test.YtahalpbgoganmaaAppI
import Derived.Test.YtahalpbgoganmaaMrk0
import Derived.Handy
namespace Go.Proofs.Ytahalpbgoganmaa
open Go.RowKit

/-- The marks: n numbers from k on. -/
def marksI (n k : Nat) : List Int := (List.range n).map fun i => ((k + i : Nat) : Int)
theorem marksI_len (n k : Nat) : (marksI n k).length = n := by simp [marksI]
theorem marksI_nth {n k i : Nat} (h : i < n) : nthI (marksI n k) i = ((k + i : Nat) : Int) := by
  rw [nthI_get (by rw [marksI_len]; exact h)]; simp [marksI]
def mhalfI (l : List Int) (k i : Nat) : List Int := marksI i k ++ l.drop i
theorem mhalfI_zero (l : List Int) (k : Nat) : mhalfI l k 0 = l := by simp [mhalfI, marksI]
theorem mhalfI_all (l : List Int) (k : Nat) : mhalfI l k l.length = marksI l.length k := by simp [mhalfI]
theorem mhalfI_len (l : List Int) (k i : Nat) (h : i ≤ l.length) : (mhalfI l k i).length = l.length := by simp [mhalfI, marksI_len]; omega
theorem mhalfI_set (l : List Int) (k i : Nat) (h : i < l.length) : (ic (mhalfI l k i)).set i (.int .i64 ((k + i : Nat) : Int)) = ic (mhalfI l k (i + 1)) := by
  have hm : (ic (marksI i k)).length = i := by rw [ic_len, marksI_len]
  have e : marksI (i + 1) k = marksI i k ++ [((k + i : Nat) : Int)] := by simp [marksI, List.range_succ]
  unfold mhalfI
  rw [e, ic_app, List.set_append, hm, if_neg (Nat.lt_irrefl i), Nat.sub_self, drop_consI l i h]
  simp [ic]

set_option maxHeartbeats 1600000 in
set_option maxRecDepth 100000 in
theorem markInt64S_any (a : Option Addr) (n cap k B : Nat) (l : List Int) (w : World) (hown : OwnI w B (.slice a n cap) l) (hn : n ≤ 1048576) (hk : k ≤ 1048576) :
    Calls Try.prog 9 #[.slice a n cap, .int .i64 (k : Int)] w fun e w' =>
      e = .returned (.int .i64 ((k + n : Nat) : Int)) ∧ OwnI w' B (.slice a n cap) (marksI n k) ∧ w.grownBy w' (Value.slice a n cap).ownBlock := by
  obtain ⟨hl, hr⟩ := hown.rd
  go_enter Try.func9, Try.ntmps9
  go_wp2
  go_loopw [1, 5] (fun q i wr => ∃ j : Nat, j ≤ n ∧ i = .int .i64 j ∧ q = .int .i64 ((k + j : Nat) : Int) ∧ OwnI wr B (.slice a n cap) (mhalfI l k j) ∧ w.grownBy wr (Value.slice a n cap).ownBlock)
    (fun _ i _ => n - (intOf i).toNat)
  case atStart => exact ⟨0, Nat.zero_le _, rfl, rfl, by rw [mhalfI_zero]; exact hown, World.grownBy.refl _ _⟩
  case round =>
    obtain ⟨j, hj, rfl, rfl, hown', hgr⟩ := hrel
    clear hown
    by_cases hjn : j < n
    · obtain ⟨g, off, ha, _, hcell⟩ := hown'.rd.2.at_ (by rw [mhalfI_len _ _ _ (by omega)]; omega)
      obtain ⟨ad, hform⟩ : ∃ g', a = some ⟨g', 0, none⟩ := by
        rcases hown'.2 with ⟨h0, h1⟩ | ⟨g', cap', cur, h', _⟩
        · rw [mhalfI_len _ _ _ (by omega)] at h1; omega
        · simp at h'; exact ⟨g', h'.1⟩
      rw [ha] at hform
      obtain ⟨rfl, rfl⟩ : g = ad ∧ off = 0 := by simpa using hform
      subst ha
      have hlen : (mhalfI l k j).length = n := by rw [mhalfI_len _ _ _ (by omega)]; exact hl
      have ho2 : wr.ownsRow B 2 1 (.slice (some ⟨g, 0, none⟩) n cap) n (ic (mhalfI l k j)) := by have := hown'; unfold OwnI at this; rw [hlen] at this; exact this
      have hc : wr.cell? ⟨g, j, none⟩ = some (.int .i64 (nthI (mhalfI l k j) j)) := by have := hcell j (by omega); rw [Nat.zero_add] at this; exact this
      have hf := ho2.frozenAt j
      obtain ⟨hst, hgr2⟩ := ho2.stored j (.int .i64 ((k + j : Nat) : Int))
      rw [mhalfI_set l k j (by omega)] at hst
      have HO : Hid (OwnI (wr.setCell ⟨g, j, none⟩ (.int .i64 ((k + j : Nat) : Int))) B (.slice (some ⟨g, 0, none⟩) n cap) (mhalfI l k (j + 1))) := by
        show OwnI _ _ _ _
        unfold OwnI
        rw [mhalfI_len _ _ _ (by omega), hl]; exact hst
      have hgr3 : w.grownBy (wr.setCell ⟨g, j, none⟩ (.int .i64 ((k + j : Nat) : Int))) (some g) := ⟨hgr2.os.trans hgr.os, hgr2.tape.trans hgr.tape, hgr2.output.trans hgr.output, Nat.le_trans hgr.size hgr2.size, fun b hb hne => (hgr2.block b (Nat.lt_of_lt_of_le hb hgr.size) hne).trans (hgr.block b hb hne)⟩
      have e0 : ((k + j : Nat) : Int) = (k : Int) + (j : Int) := by omega
      rw [e0] at HO hgr3
      clear hst hgr2 ho2 hcell hown' hgr hform hr e0
      go_wp2
      go_roundw
      case rel => exact ⟨j + 1, by omega, by go_num, by go_num, HO.out, hgr3⟩
      case measure => simp [intOf]; omega
    · have hjj : j = n := by omega
      subst hjj
      rw [← hl, mhalfI_all, hl] at hown'
      go_wp2
      go_ret
      exact ⟨rfl, hown', hgr⟩

set_option maxHeartbeats 800000 in
set_option maxRecDepth 100000 in
theorem heldInt64S_any (a : Option Addr) (n cap k : Nat) (w : World) (hr : RdI w a (marksI n k)) (hn : n ≤ 1048576) (hk : k ≤ 1048576) :
    Calls Try.prog 15 #[.slice a n cap, .int .i64 (k : Int)] w fun e w' => e = .returned (.int .i64 ((k + n : Nat) : Int)) ∧ w = w' := by
  go_enter Try.func15, Try.ntmps15
  go_wp2
  go_loop [1, 5] (fun q i => ∃ j : Nat, j ≤ n ∧ i = .int .i64 j ∧ q = .int .i64 ((k + j : Nat) : Int)) (fun _ i => n - (intOf i).toNat)
  case atStart => exact ⟨0, Nat.zero_le _, rfl, rfl⟩
  case round =>
    obtain ⟨j, hj, rfl, rfl⟩ := hrel
    by_cases hjn : j < n
    · obtain ⟨b, off, rfl, hblt, hcell⟩ := hr.at_ (by rw [marksI_len]; omega)
      have hc := hcell j (by rw [marksI_len]; exact hjn)
      rw [marksI_nth hjn] at hc
      rw [show ((k + j : Nat) : Int) = (k : Int) + (j : Int) by omega] at hc
      clear hcell hr
      go_wp2
      go_round
      case rel => exact ⟨j + 1, by omega, by go_num, by go_num⟩
      case measure => simp [intOf]; omega
    · have hjj : j = n := by omega
      subst hjj
      go_wp2
      go_ret
      exact ⟨rfl, rfl⟩

end Go.Proofs.Ytahalpbgoganmaa
