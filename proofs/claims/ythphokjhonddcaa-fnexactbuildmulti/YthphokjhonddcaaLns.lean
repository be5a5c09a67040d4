/- The lines of some bytes, told by an iterator, the program's. -/
import Derived.RangeFuncNested
import Derived.RangeFuncBound
import Derived.RangeFuncCalls
import Derived.RangeFuncLeaves
import Derived.Shelf.Abstract
import Derived.Shelf.RegionOpen
import Derived.OwnWalkIn
import Derived.TacticsInMore
import Derived.LoopNIn
import Derived.LoopIn
import Derived.Test.YthphokjhonddcaaLin
namespace Go.Proofs.Ythphokjhonddcaa
open Go.RowKit Go.Shelf
attribute [local go_sem] Oper.semAt_some

set_option maxHeartbeats 1600000 in
set_option maxRecDepth 100000 in
theorem lineAt_wide (b off n cap k : Nat) (d : List Nat) (w : World) (hl : d.length = n) (hr : Rd w (some ⟨b, off, none⟩) d) (hB : IsB d) (hn : n ≤ 2000000) (hcap : n ≤ cap) (hk : k ≤ n) :
    Calls Try.prog 30 #[.slice (some ⟨b, off, none⟩) n cap, .int .i64 (k : Int)] w fun e w' => e = .returned (.tuple #[.string (str ((d.take (eoL d k)).drop k)), .int .i64 ((if eoL d k < n then eoL d k + 1 else eoL d k : Nat) : Int)]) ∧ w = w' := by
  have hge := eoL_ge d k
  have hle := eoL_le (l := d) (i := k) (by omega)
  rw [hl] at hle
  have hk1 : (k : Int) ≤ (n : Int) := by omega
  have hk2 : (k : Int) ≤ (cap : Int) := by omega
  by_cases hq : eoL d k < n
  · have hck : ¬ cap = k := by omega
    have HC := lf_call b (off + k) (n - k) (cap - k) k d w hB (by omega) (by omega) (hr.drop k)
    rw [hl, if_pos hq] at HC
    have htl : ((d.take (eoL d k)).drop k).length = eoL d k - k := by rw [List.length_drop, List.length_take]; omega
    have hst := fun c' => run_str (cap := c') (n := eoL d k - k) htl ((rd_takeH hr (eoL d k)).drop k)
    have HI : Hid ((if eoL d k < n then eoL d k + 1 else eoL d k : Nat) = eoL d k + 1) := if_pos hq
    generalize (d.take (eoL d k)).drop k = t at *
    generalize hqq : eoL d k = q at *
    rw [HI.out]
    clear hqq htl HI
    obtain ⟨j, rfl⟩ : ∃ j, q = k + j := ⟨q - k, by omega⟩
    have e1 : ((k + j : Nat) : Int) - (k : Int) = (j : Int) := by omega
    have e2 : k + j - k = j := by omega
    rw [e1] at HC
    rw [e2] at hst
    have q0 : ¬ (j : Int) < 0 := by omega
    have q1 : (k : Int) ≤ (k : Int) + (j : Int) := by omega
    have q2 : (k : Int) + (j : Int) ≤ (cap : Int) := by omega
    rw [show ((k + j + 1 : Nat) : Int) = (k : Int) + (j : Int) + 1 by omega]
    clear e1 e2
    go_enter Try.func30, Try.ntmps30
    go_wp2_with fail
    refine HC.mono ?_
    rintro e w' ⟨rfl, rfl⟩
    go_wp2
    go_ret2
    exact ⟨rfl, rfl⟩
  · have hqe : eoL d k = n := by omega
    have HI : Hid ((if eoL d k < n then eoL d k + 1 else eoL d k : Nat) = n) := (if_neg hq).trans hqe
    have HT : Hid ((d.take (eoL d k)).drop k = d.drop k) := take_drop_all (by omega)
    have hdl : (d.drop k).length = n - k := by rw [List.length_drop, hl]
    rw [HI.out, HT.out]
    clear HI HT
    by_cases hck : cap = k
    · obtain rfl : n = k := by omega
      subst hck
      have hz : d.drop cap = [] := List.length_eq_zero_iff.1 (by omega)
      have HC := lf_call b off 0 0 cap d w hB (by omega) (by omega) (by rw [hz]; exact .inl rfl)
      rw [if_neg (by omega)] at HC
      have hst := fun c' => run_str (cap := c') (n := 0) (a := some ⟨b, off, none⟩) (w := w) (l := []) rfl (.inl rfl)
      rw [hz]
      clear hz hdl
      go_enter Try.func30, Try.ntmps30
      go_wp2_with fail
      refine HC.mono ?_
      rintro e w' ⟨rfl, rfl⟩
      go_wp2
      go_ret2
      exact ⟨rfl, rfl⟩
    · have HC := lf_call b (off + k) (n - k) (cap - k) k d w hB (by omega) (by omega) (hr.drop k)
      rw [hl, if_neg hq] at HC
      have hst := fun c' => run_str (cap := c') (n := n - k) hdl (hr.drop k)
      generalize d.drop k = t at *
      clear hdl
      go_enter Try.func30, Try.ntmps30
      go_wp2_with fail
      refine HC.mono ?_
      rintro e w' ⟨rfl, rfl⟩
      go_wp2
      go_ret2
      exact ⟨rfl, rfl⟩

/-- The place behind a line. -/
def nxL (d : List Nat) (k : Nat) : Nat := if eoL d k < d.length then eoL d k + 1 else eoL d k
/-- A line: its text, where it begins, the place behind it. -/
abbrev Line := ByteArray × Int × Int
/-- The lines from a place on. -/
def lnsF (d : List Nat) : Nat → Nat → List Line
  | 0, _ => []
  | f + 1, k => if k < d.length then (str ((d.take (eoL d k)).drop k), (k : Int), (nxL d k : Int)) :: lnsF d f (nxL d k) else []
def lns (d : List Nat) : List Line := lnsF d d.length 0
theorem nxL_gt {d : List Nat} {k : Nat} (h : k < d.length) : k < nxL d k ∧ nxL d k ≤ d.length := by
  have h1 := eoL_ge d k
  have h2 := eoL_le (l := d) (i := k) (by omega)
  unfold nxL
  split
  · omega
  · omega
theorem lnsF_yes {d : List Nat} {k : Nat} (h : k < d.length) (f : Nat) : lnsF d (f + 1) k = (str ((d.take (eoL d k)).drop k), (k : Int), (nxL d k : Int)) :: lnsF d f (nxL d k) := if_pos h
theorem lnsF_no {d : List Nat} {k : Nat} (h : ¬ k < d.length) : ∀ f, lnsF d f k = []
  | 0 => rfl
  | _ + 1 => if_neg h
theorem lnsF_more {d : List Nat} : ∀ (f k : Nat), d.length ≤ f + k → lnsF d (f + 1) k = lnsF d f k
  | 0, k, h => by rw [lnsF_no (by omega), lnsF_no (by omega)]
  | f + 1, k, h => by
    by_cases hk : k < d.length
    · have := nxL_gt hk
      rw [lnsF_yes hk, lnsF_yes hk, lnsF_more f _ (by omega)]
    · rw [lnsF_no hk, lnsF_no hk]
theorem lnsF_step {d : List Nat} {k : Nat} (h : k < d.length) : lnsF d (d.length - k) k = (str ((d.take (eoL d k)).drop k), (k : Int), (nxL d k : Int)) :: lnsF d (d.length - nxL d k) (nxL d k) := by
  obtain ⟨h1, h2⟩ := nxL_gt h
  obtain ⟨m, hm⟩ : ∃ m, d.length - k = m + 1 := ⟨d.length - k - 1, by omega⟩
  rw [hm, lnsF_yes h]
  congr 1
  obtain ⟨j, hj⟩ : ∃ j, m = (d.length - nxL d k) + j := ⟨m - (d.length - nxL d k), by omega⟩
  rw [hj]
  clear hj hm
  induction j with
  | zero => rfl
  | succ j ih => rw [← Nat.add_assoc, lnsF_more _ _ (by omega), ih]
def encL (x : Line) : Array Value := #[.agg #[.string x.1, .int .i64 x.2.1, .int .i64 x.2.2]]

set_option maxRecDepth 100000 in
set_option maxHeartbeats 2000000 in
theorem lines_in (n Bn : Nat) (hn : 1 ≤ n) (l m cap : Nat) (a : Option Addr) (d : List Nat) (Kp : World → World → Prop) (hKc : ∀ W W', Kp W W' → W'.cell? ⟨Bn, 0, none⟩ = W.cell? ⟨Bn, 0, none⟩) (hKr : ∀ W W', Kp W W' → Rd W a d → Rd W' a d) (J Jx : List Line → World → Prop)
    (hY : ∀ pre x W, J pre W → pre.length < (lns d).length → YieldAt Fence.wide (n - 1) Try.prog l (encL x) W fun e W' =>
      (e = .returned (.bool true) ∧ J (pre ++ [x]) W' ∧ Kp W W') ∨ (e = .returned (.bool false) ∧ Jx (pre ++ [x]) W'))
    (W : World) (hBn : W.cell? ⟨Bn, 0, none⟩ = some (.slice a m cap)) (ha : 0 < m → ∃ b off, a = some ⟨b, off, none⟩) (hl : d.length = m) (hr : Rd W a d) (hB : IsB d) (hm : m ≤ 2000000) (hcap : m ≤ cap) (h0 : J [] W) :
    CallsIn Fence.wide n Try.prog 29 #[.func (.yield l) #[] #[], .pointer (some ⟨Bn, 0, none⟩)] W fun e W' => (∃ v, e = .returned v) ∧ ((∃ ys, ys = lns d ∧ J ys W') ∨ (∃ pre, pre <+: lns d ∧ Jx pre W')) := by
  refine callsIn_of_wp Try.func29 rfl trivial ?_ rfl
  simp only [Try.ntmps29, List.size_toArray, List.length_cons, List.length_nil, Nat.reduceAdd, Nat.reduceSub, Array.replicate_succ, Array.replicate_zero, List.push_toArray, List.append_toArray, List.nil_append, List.cons_append]
  have HL : Hid (d.length = m) := hl
  clear hl
  gi_wp2
  gi_loopw [3] (fun v wr => ∃ (k : Nat) (pre : List Line), v = .int .i64 k ∧ k ≤ m ∧ Hid (lns d = pre ++ lnsF d (m - k) k) ∧ J pre wr ∧ Hid (wr.cell? ⟨Bn, 0, none⟩ = some (.slice a m cap)) ∧ Hid (Rd wr a d)) (fun v _ => m - (intOf v).toNat)
  case atStart => exact ⟨0, [], rfl, Nat.zero_le _, (by show _ = _; rw [← HL.out]; rfl), h0, hBn, hr⟩
  case round =>
    obtain ⟨k, pre, rfl, hk, HX, hJ, HBn, HR⟩ := hrel
    have hc := HBn.out
    by_cases hkm : k < m
    · have hki : (k : Int) < (m : Int) := by omega
      obtain ⟨b, off, rfl⟩ := ha (by omega)
      have HLA := lineAt_wide b off m cap k d wr HL.out HR.out hB hm hcap hk
      obtain ⟨hg1, hg2⟩ := nxL_gt (d := d) (k := k) (by rw [HL.out]; exact hkm)
      rw [HL.out] at hg2
      have HX1 : Hid (lns d = (pre ++ [(str ((d.take (eoL d k)).drop k), (k : Int), (nxL d k : Int))]) ++ lnsF d (m - nxL d k) (nxL d k)) := by
        have h := HX.out
        have h2 := lnsF_step (d := d) (k := k) (by rw [HL.out]; exact hkm)
        rw [HL.out] at h2
        rw [h2] at h
        show _ = _
        rw [h]; simp
      have hlen : pre.length < (lns d).length := by rw [HX1.out]; simp
      obtain ⟨fn, tm, asg, bdy, hy, hR⟩ := hY pre (str ((d.take (eoL d k)).drop k), (k : Int), (nxL d k : Int)) wr hJ hlen
      have HN : Hid ((if eoL d k < m then eoL d k + 1 else eoL d k : Nat) = nxL d k) := by show _ = _; unfold nxL; rw [HL.out]
      rw [HN.out] at HLA
      dsimp only [encL] at hy
      clear HX hlen HN
      generalize str ((d.take (eoL d k)).drop k) = tx at *
      generalize nxL d k = nx at *
      gi_wp2_with (first | (gi_at_call 30; refine (callsIn_wide.2 HLA).mono ?_; rintro e w' ⟨rfl, rfl⟩) | (refine ⟨trivial, ?_⟩; gi_at_call 30; refine (callsIn_wide.2 HLA).mono ?_; rintro e w' ⟨rfl, rfl⟩))
      refine hR.mono ?_
      rintro e W3 (⟨rfl, hJ3, hk3⟩ | ⟨rfl, hJx3⟩)
      · have HBn3 : Hid (W3.cell? ⟨Bn, 0, none⟩ = some (.slice (some ⟨b, off, none⟩) m cap)) := (hKc _ _ hk3).trans HBn.out
        have HR3 : Hid (Rd W3 (some ⟨b, off, none⟩) d) := hKr _ _ hk3 HR.out
        gi_wp2
        go_roundw
        case rel => exact ⟨nx, pre ++ [(tx, (k : Int), (nx : Int))], rfl, by omega, HX1, hJ3, HBn3, HR3⟩
        case measure => simp [intOf]; omega
      · gi_wp2
        refine bodyPost_ret (results_none rfl _ _ _) rfl ?_
        exact ⟨⟨_, rfl⟩, .inr ⟨_, ⟨_, HX1.out.symm⟩, hJx3⟩⟩
    · have hki : ¬ (k : Int) < (m : Int) := by omega
      have HX1 : Hid (lns d = pre) := by
        have h := HX.out
        rw [lnsF_no (by rw [HL.out]; exact hkm), List.append_nil] at h
        exact h
      clear HX
      gi_wp2
      go_end0
      exact ⟨⟨_, rfl⟩, .inl (by rw [HX1.out]; exact hJ)⟩

theorem lines_stops (n Bn m cap : Nat) (hn : 1 ≤ n) (a : Option Addr) (d : List Nat) (Kp : World → World → Prop) (w : World) (hKc : ∀ W W', Kp W W' → W'.cell? ⟨Bn, 0, none⟩ = W.cell? ⟨Bn, 0, none⟩) (hKr : ∀ W W', Kp W W' → Rd W a d → Rd W' a d) (hBn : w.cell? ⟨Bn, 0, none⟩ = some (.slice a m cap)) (h0w : Bn < w.heap.size) (ha : 0 < m → ∃ b off, a = some ⟨b, off, none⟩) (hl : d.length = m) (hr : Rd w a d) (hB : IsB d) (hm : m ≤ 2000000) (hcap : m ≤ cap) :
    SeqStopsK Fence.wide n Try.prog 29 #[.pointer (some ⟨Bn, 0, none⟩)] encL Kp (fun ys => ys = lns d) (fun pre => pre <+: lns d) (lns d).length w := fun l J Jx W hW _ _ hY hJ0 =>
  lines_in n Bn hn l m cap a d Kp hKc hKr J Jx hY W ((hW.cell (p := ⟨Bn, 0, none⟩) h0w).trans hBn) ha hl (hr.below hW) hB hm hcap hJ0
theorem rd_belowL {n₀ : Nat} {a : Option Addr} {d : List Nat} {W W' : World} (h : Below n₀ W W') (hr : Rd W a d) (hlt : ∀ b off, a = some ⟨b, off, none⟩ → b < n₀) : Rd W' a d := by
  rcases hr with h1 | ⟨b, off, e, hb, hc⟩
  · exact .inl h1
  · exact .inr ⟨b, off, e, Nat.lt_of_lt_of_le hb h.size, fun i hi => (h.cell (p := ⟨b, off + i, none⟩) (hlt b off e)).trans (hc i hi)⟩
/-- The program's lines, as a value. -/
theorem linesOf_any (a : Option Addr) (m cap : Nat) (w : World) : Calls Try.prog 27 #[.slice a m cap] w fun e w' => e = .returned (.func (.func 29) #[] #[.pointer (some ⟨w.heap.size, 0, none⟩)]) ∧ w' = w.alloc (.cells #[.slice a m cap] 24) := by
  go_enter Try.func27, Try.ntmps27
  go_wp2
  go_ret
  exact ⟨rfl, rfl⟩
end Go.Proofs.Ythphokjhonddcaa
