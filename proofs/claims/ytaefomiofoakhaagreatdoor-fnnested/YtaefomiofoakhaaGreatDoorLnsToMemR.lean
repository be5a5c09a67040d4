/- The lines of some bytes, told by an iterator, the program's · Whether a line of some bytes begins with two dashes, the program's · Words on memory: where a slice of ranges (two numbers each) is read, what a row of the call's own holds, an append; no conditions beyond those that each fact names. -/
import Derived.RangeFuncNested
import Derived.RangeFuncBound
import Derived.RangeFuncCalls
import Derived.RangeFuncLeaves
import Derived.Shelf.Abstract
import Derived.Shelf.RegionOpen
import Derived.OwnWalkIn
import Derived.TacticsInMore
import Derived.LoopNIn
import Derived.LoopIn
import Derived.Test.YtaefomiofoakhaaGreatDoorLin
import Derived.Test.YtaefomiofoakhaaGreatDoorAppToMemF
namespace Go.Proofs.YtaefomiofoakhaaGreatDoor
open Go.RowKit Go.Shelf
attribute [local go_sem] Oper.semAt_some

set_option maxHeartbeats 1600000 in
set_option maxRecDepth 100000 in
theorem lineAt_wide (b off n cap k : Nat) (d : List Nat) (w : World) (hl : d.length = n) (hr : Rd w (some ⟨b, off, none⟩) d) (hB : IsB d) (hn : n ≤ 2000000) (hcap : n ≤ cap) (hk : k ≤ n) :
    Calls Tryz.prog 73 #[.slice (some ⟨b, off, none⟩) n cap, .int .i64 (k : Int)] w fun e w' => e = .returned (.tuple #[.string (str ((d.take (eoL d k)).drop k)), .int .i64 ((if eoL d k < n then eoL d k + 1 else eoL d k : Nat) : Int)]) ∧ w = w' := by
  have hge := eoL_ge d k
  have hle := eoL_le (l := d) (i := k) (by omega)
  rw [hl] at hle
  have hk1 : (k : Int) ≤ (n : Int) := by omega
  have hk2 : (k : Int) ≤ (cap : Int) := by omega
  by_cases hq : eoL d k < n
  · have hck : ¬ cap = k := by omega
    have HC := lf_call b (off + k) (n - k) (cap - k) k d w hB (by omega) (by omega) (hr.drop k)
    rw [hl, if_pos hq] at HC
    have htl : ((d.take (eoL d k)).drop k).length = eoL d k - k := by rw [List.length_drop, List.length_take]; omega
    have hst := fun c' => run_str (cap := c') (n := eoL d k - k) htl ((rd_takeH hr (eoL d k)).drop k)
    have HI : Hid ((if eoL d k < n then eoL d k + 1 else eoL d k : Nat) = eoL d k + 1) := if_pos hq
    generalize (d.take (eoL d k)).drop k = t at *
    generalize hqq : eoL d k = q at *
    rw [HI.out]
    clear hqq htl HI
    obtain ⟨j, rfl⟩ : ∃ j, q = k + j := ⟨q - k, by omega⟩
    have e1 : ((k + j : Nat) : Int) - (k : Int) = (j : Int) := by omega
    have e2 : k + j - k = j := by omega
    rw [e1] at HC
    rw [e2] at hst
    have q0 : ¬ (j : Int) < 0 := by omega
    have q1 : (k : Int) ≤ (k : Int) + (j : Int) := by omega
    have q2 : (k : Int) + (j : Int) ≤ (cap : Int) := by omega
    rw [show ((k + j + 1 : Nat) : Int) = (k : Int) + (j : Int) + 1 by omega]
    clear e1 e2
    go_enter Tryz.func73, Tryz.ntmps73
    go_wp2_with fail
    refine HC.mono ?_
    rintro e w' ⟨rfl, rfl⟩
    go_wp2
    go_ret2
    exact ⟨rfl, rfl⟩
  · have hqe : eoL d k = n := by omega
    have HI : Hid ((if eoL d k < n then eoL d k + 1 else eoL d k : Nat) = n) := (if_neg hq).trans hqe
    have HT : Hid ((d.take (eoL d k)).drop k = d.drop k) := take_drop_all (by omega)
    have hdl : (d.drop k).length = n - k := by rw [List.length_drop, hl]
    rw [HI.out, HT.out]
    clear HI HT
    by_cases hck : cap = k
    · obtain rfl : n = k := by omega
      subst hck
      have hz : d.drop cap = [] := List.length_eq_zero_iff.1 (by omega)
      have HC := lf_call b off 0 0 cap d w hB (by omega) (by omega) (by rw [hz]; exact .inl rfl)
      rw [if_neg (by omega)] at HC
      have hst := fun c' => run_str (cap := c') (n := 0) (a := some ⟨b, off, none⟩) (w := w) (l := []) rfl (.inl rfl)
      rw [hz]
      clear hz hdl
      go_enter Tryz.func73, Tryz.ntmps73
      go_wp2_with fail
      refine HC.mono ?_
      rintro e w' ⟨rfl, rfl⟩
      go_wp2
      go_ret2
      exact ⟨rfl, rfl⟩
    · have HC := lf_call b (off + k) (n - k) (cap - k) k d w hB (by omega) (by omega) (hr.drop k)
      rw [hl, if_neg hq] at HC
      have hst := fun c' => run_str (cap := c') (n := n - k) hdl (hr.drop k)
      generalize d.drop k = t at *
      clear hdl
      go_enter Tryz.func73, Tryz.ntmps73
      go_wp2_with fail
      refine HC.mono ?_
      rintro e w' ⟨rfl, rfl⟩
      go_wp2
      go_ret2
      exact ⟨rfl, rfl⟩

/-- The place behind a line. -/
def nxL (d : List Nat) (k : Nat) : Nat := if eoL d k < d.length then eoL d k + 1 else eoL d k
/-- A line: its text, where it begins, the place behind it. -/
abbrev Line := ByteArray × Int × Int
/-- The lines from a place on. -/
def lnsF (d : List Nat) : Nat → Nat → List Line
  | 0, _ => []
  | f + 1, k => if k < d.length then (str ((d.take (eoL d k)).drop k), (k : Int), (nxL d k : Int)) :: lnsF d f (nxL d k) else []
def lns (d : List Nat) : List Line := lnsF d d.length 0
theorem nxL_gt {d : List Nat} {k : Nat} (h : k < d.length) : k < nxL d k ∧ nxL d k ≤ d.length := by
  have h1 := eoL_ge d k
  have h2 := eoL_le (l := d) (i := k) (by omega)
  unfold nxL
  split
  · omega
  · omega
theorem lnsF_yes {d : List Nat} {k : Nat} (h : k < d.length) (f : Nat) : lnsF d (f + 1) k = (str ((d.take (eoL d k)).drop k), (k : Int), (nxL d k : Int)) :: lnsF d f (nxL d k) := if_pos h
theorem lnsF_no {d : List Nat} {k : Nat} (h : ¬ k < d.length) : ∀ f, lnsF d f k = []
  | 0 => rfl
  | _ + 1 => if_neg h
theorem lnsF_more {d : List Nat} : ∀ (f k : Nat), d.length ≤ f + k → lnsF d (f + 1) k = lnsF d f k
  | 0, k, h => by rw [lnsF_no (by omega), lnsF_no (by omega)]
  | f + 1, k, h => by
    by_cases hk : k < d.length
    · have := nxL_gt hk
      rw [lnsF_yes hk, lnsF_yes hk, lnsF_more f _ (by omega)]
    · rw [lnsF_no hk, lnsF_no hk]
theorem lnsF_step {d : List Nat} {k : Nat} (h : k < d.length) : lnsF d (d.length - k) k = (str ((d.take (eoL d k)).drop k), (k : Int), (nxL d k : Int)) :: lnsF d (d.length - nxL d k) (nxL d k) := by
  obtain ⟨h1, h2⟩ := nxL_gt h
  obtain ⟨m, hm⟩ : ∃ m, d.length - k = m + 1 := ⟨d.length - k - 1, by omega⟩
  rw [hm, lnsF_yes h]
  congr 1
  obtain ⟨j, hj⟩ : ∃ j, m = (d.length - nxL d k) + j := ⟨m - (d.length - nxL d k), by omega⟩
  rw [hj]
  clear hj hm
  induction j with
  | zero => rfl
  | succ j ih => rw [← Nat.add_assoc, lnsF_more _ _ (by omega), ih]
def encL (x : Line) : Array Value := #[.agg #[.string x.1, .int .i64 x.2.1, .int .i64 x.2.2]]

set_option maxRecDepth 100000 in
set_option maxHeartbeats 2000000 in
theorem lines_in (n Bn : Nat) (hn : 1 ≤ n) (l m cap : Nat) (a : Option Addr) (d : List Nat) (Kp : World → World → Prop) (hKc : ∀ W W', Kp W W' → W'.cell? ⟨Bn, 0, none⟩ = W.cell? ⟨Bn, 0, none⟩) (hKr : ∀ W W', Kp W W' → Rd W a d → Rd W' a d) (J Jx : List Line → World → Prop)
    (hY : ∀ pre x W, J pre W → pre.length < (lns d).length → YieldAt Fence.wide (n - 1) Tryz.prog l (encL x) W fun e W' =>
      (e = .returned (.bool true) ∧ J (pre ++ [x]) W' ∧ Kp W W') ∨ (e = .returned (.bool false) ∧ Jx (pre ++ [x]) W'))
    (W : World) (hBn : W.cell? ⟨Bn, 0, none⟩ = some (.slice a m cap)) (ha : 0 < m → ∃ b off, a = some ⟨b, off, none⟩) (hl : d.length = m) (hr : Rd W a d) (hB : IsB d) (hm : m ≤ 2000000) (hcap : m ≤ cap) (h0 : J [] W) :
    CallsIn Fence.wide n Tryz.prog 72 #[.func (.yield l) #[] #[], .pointer (some ⟨Bn, 0, none⟩)] W fun e W' => (∃ v, e = .returned v) ∧ ((∃ ys, ys = lns d ∧ J ys W') ∨ (∃ pre, pre <+: lns d ∧ Jx pre W')) := by
  refine callsIn_of_wp Tryz.func72 rfl trivial ?_ rfl
  simp only [Tryz.ntmps72, List.size_toArray, List.length_cons, List.length_nil, Nat.reduceAdd, Nat.reduceSub, Array.replicate_succ, Array.replicate_zero, List.push_toArray, List.append_toArray, List.nil_append, List.cons_append]
  have HL : Hid (d.length = m) := hl
  clear hl
  gi_wp2
  gi_loopw [3] (fun v wr => ∃ (k : Nat) (pre : List Line), v = .int .i64 k ∧ k ≤ m ∧ Hid (lns d = pre ++ lnsF d (m - k) k) ∧ J pre wr ∧ Hid (wr.cell? ⟨Bn, 0, none⟩ = some (.slice a m cap)) ∧ Hid (Rd wr a d)) (fun v _ => m - (intOf v).toNat)
  case atStart => exact ⟨0, [], rfl, Nat.zero_le _, (by show _ = _; rw [← HL.out]; rfl), h0, hBn, hr⟩
  case round =>
    obtain ⟨k, pre, rfl, hk, HX, hJ, HBn, HR⟩ := hrel
    have hc := HBn.out
    by_cases hkm : k < m
    · have hki : (k : Int) < (m : Int) := by omega
      obtain ⟨b, off, rfl⟩ := ha (by omega)
      have HLA := lineAt_wide b off m cap k d wr HL.out HR.out hB hm hcap hk
      obtain ⟨hg1, hg2⟩ := nxL_gt (d := d) (k := k) (by rw [HL.out]; exact hkm)
      rw [HL.out] at hg2
      have HX1 : Hid (lns d = (pre ++ [(str ((d.take (eoL d k)).drop k), (k : Int), (nxL d k : Int))]) ++ lnsF d (m - nxL d k) (nxL d k)) := by
        have h := HX.out
        have h2 := lnsF_step (d := d) (k := k) (by rw [HL.out]; exact hkm)
        rw [HL.out] at h2
        rw [h2] at h
        show _ = _
        rw [h]; simp
      have hlen : pre.length < (lns d).length := by rw [HX1.out]; simp
      obtain ⟨fn, tm, asg, bdy, hy, hR⟩ := hY pre (str ((d.take (eoL d k)).drop k), (k : Int), (nxL d k : Int)) wr hJ hlen
      have HN : Hid ((if eoL d k < m then eoL d k + 1 else eoL d k : Nat) = nxL d k) := by show _ = _; unfold nxL; rw [HL.out]
      rw [HN.out] at HLA
      dsimp only [encL] at hy
      clear HX hlen HN
      generalize str ((d.take (eoL d k)).drop k) = tx at *
      generalize nxL d k = nx at *
      gi_wp2_with (first | (gi_at_call 73; refine (callsIn_wide.2 HLA).mono ?_; rintro e w' ⟨rfl, rfl⟩) | (refine ⟨trivial, ?_⟩; gi_at_call 73; refine (callsIn_wide.2 HLA).mono ?_; rintro e w' ⟨rfl, rfl⟩))
      refine hR.mono ?_
      rintro e W3 (⟨rfl, hJ3, hk3⟩ | ⟨rfl, hJx3⟩)
      · have HBn3 : Hid (W3.cell? ⟨Bn, 0, none⟩ = some (.slice (some ⟨b, off, none⟩) m cap)) := (hKc _ _ hk3).trans HBn.out
        have HR3 : Hid (Rd W3 (some ⟨b, off, none⟩) d) := hKr _ _ hk3 HR.out
        gi_wp2
        go_roundw
        case rel => exact ⟨nx, pre ++ [(tx, (k : Int), (nx : Int))], rfl, by omega, HX1, hJ3, HBn3, HR3⟩
        case measure => simp [intOf]; omega
      · gi_wp2
        refine bodyPost_ret (results_none rfl _ _ _) rfl ?_
        exact ⟨⟨_, rfl⟩, .inr ⟨_, ⟨_, HX1.out.symm⟩, hJx3⟩⟩
    · have hki : ¬ (k : Int) < (m : Int) := by omega
      have HX1 : Hid (lns d = pre) := by
        have h := HX.out
        rw [lnsF_no (by rw [HL.out]; exact hkm), List.append_nil] at h
        exact h
      clear HX
      gi_wp2
      go_end0
      exact ⟨⟨_, rfl⟩, .inl (by rw [HX1.out]; exact hJ)⟩

theorem lines_stops (n Bn m cap : Nat) (hn : 1 ≤ n) (a : Option Addr) (d : List Nat) (Kp : World → World → Prop) (w : World) (hKc : ∀ W W', Kp W W' → W'.cell? ⟨Bn, 0, none⟩ = W.cell? ⟨Bn, 0, none⟩) (hKr : ∀ W W', Kp W W' → Rd W a d → Rd W' a d) (hBn : w.cell? ⟨Bn, 0, none⟩ = some (.slice a m cap)) (h0w : Bn < w.heap.size) (ha : 0 < m → ∃ b off, a = some ⟨b, off, none⟩) (hl : d.length = m) (hr : Rd w a d) (hB : IsB d) (hm : m ≤ 2000000) (hcap : m ≤ cap) :
    SeqStopsK Fence.wide n Tryz.prog 72 #[.pointer (some ⟨Bn, 0, none⟩)] encL Kp (fun ys => ys = lns d) (fun pre => pre <+: lns d) (lns d).length w := fun l J Jx W hW _ _ hY hJ0 =>
  lines_in n Bn hn l m cap a d Kp hKc hKr J Jx hY W ((hW.cell (p := ⟨Bn, 0, none⟩) h0w).trans hBn) ha hl (hr.below hW) hB hm hcap hJ0
theorem rd_belowL {n₀ : Nat} {a : Option Addr} {d : List Nat} {W W' : World} (h : Below n₀ W W') (hr : Rd W a d) (hlt : ∀ b off, a = some ⟨b, off, none⟩ → b < n₀) : Rd W' a d := by
  rcases hr with h1 | ⟨b, off, e, hb, hc⟩
  · exact .inl h1
  · exact .inr ⟨b, off, e, Nat.lt_of_lt_of_le hb h.size, fun i hi => (h.cell (p := ⟨b, off + i, none⟩) (hlt b off e)).trans (hc i hi)⟩
/-- The program's lines, as a value. -/
theorem linesOf_any (a : Option Addr) (m cap : Nat) (w : World) : Calls Tryz.prog 50 #[.slice a m cap] w fun e w' => e = .returned (.func (.func 72) #[] #[.pointer (some ⟨w.heap.size, 0, none⟩)]) ∧ w' = w.alloc (.cells #[.slice a m cap] 22) := by
  go_enter Tryz.func50, Tryz.ntmps50
  go_wp2
  go_ret
  exact ⟨rfl, rfl⟩
end Go.Proofs.YtaefomiofoakhaaGreatDoor

namespace Go.Proofs.YtaefomiofoakhaaGreatDoor
open Go.RowKit Go.Shelf
attribute [local go_sem] Oper.semAt_some

/-- A block that holds a line. -/
def LnAt (W : World) (B : Nat) (x : Line) : Prop := W.heap[B]? = some (.cells #[.string x.1, .int .i64 x.2.1, .int .i64 x.2.2] 92 (0, 0))
theorem LnAt.lt {W : World} {B : Nat} {x : Line} (h : LnAt W B x) : B < W.heap.size := (Array.getElem?_eq_some_iff.1 h).1
theorem LnAt.cells {W : World} {B : Nat} {x : Line} (h : LnAt W B x) : W.cell? ⟨B, 0, none⟩ = some (.string x.1) ∧ W.cell? ⟨B, 1, none⟩ = some (.int .i64 x.2.1) ∧ W.cell? ⟨B, 2, none⟩ = some (.int .i64 x.2.2) := by
  unfold LnAt at h
  simp [World.cell?, h]
theorem LnAt.kept {W W' : World} {B : Nat} {x : Line} {row : Option Nat} (h : LnAt W B x) (hg : W.grownBy W' row) (hr : ∀ r, row = some r → ∃ o : Obj, W.heap[r]? = some o ∧ o.isCells = false) : LnAt W' B x := by
  unfold LnAt
  rw [hg.block B h.lt (fun e => by
    obtain ⟨o, ho, hc⟩ := hr B e.symm
    unfold LnAt at h
    rw [h] at ho
    cases ho
    cases hc)]
  exact h

theorem cellA {W : World} {o : Obj} {p : Addr} {v : Value} (h : W.cell? p = some v) : (W.alloc o).cell? p = some v := (((Below.refl _ W).alloc (Nat.le_refl _) o).cell (World.block_lt_of_cell? W _ h)).trans h
end Go.Proofs.YtaefomiofoakhaaGreatDoor

namespace Go.Proofs.YtaefomiofoakhaaGreatDoor
open Go.RowKit

/-- A field: its name and its value. -/
abbrev RngP := Int × Int
def nthR (l : List RngP) (i : Nat) : RngP := l.getD i (0, 0)
/-- Fields as cells. -/
def rc (l : List RngP) : List Value := l.flatMap fun p => [Value.int .i64 p.1, Value.int .i64 p.2]
theorem rc_cons (p : RngP) (l : List RngP) : rc (p :: l) = .int .i64 p.1 :: .int .i64 p.2 :: rc l := rfl
theorem rc_len : ∀ l : List RngP, (rc l).length = l.length * 2
  | [] => rfl
  | p :: l => by rw [rc_cons, List.length_cons, List.length_cons, rc_len l, List.length_cons]; omega
theorem rc_app (a b : List RngP) : rc (a ++ b) = rc a ++ rc b := by simp [rc]
theorem rc_one (l : List RngP) : ∀ u ∈ rc l, u.oneCell' = true := by
  intro u hu
  simp only [rc, List.mem_flatMap, List.mem_cons, List.not_mem_nil, or_false] at hu
  obtain ⟨p, _, rfl | rfl⟩ := hu <;> rfl
theorem rc_get : ∀ (l : List RngP) (i : Nat), i < l.length → (rc l)[i * 2]? = some (.int .i64 (nthR l i).1) ∧ (rc l)[i * 2 + 1]? = some (.int .i64 (nthR l i).2)
  | [], _, h => by simp at h
  | p :: l, 0, _ => ⟨rfl, rfl⟩
  | p :: l, i + 1, h => by
    have := rc_get l i (by simpa using h)
    rw [rc_cons, show (i + 1) * 2 = i * 2 + 2 by omega]
    exact this
/-- WHERE A SLICE OF FIELDS IS READ. -/
def RdR (w : World) (a : Option Addr) (l : List RngP) : Prop :=
  l = [] ∨ ∃ b off, a = some ⟨b, off, none⟩ ∧ b < w.heap.size ∧ ∀ i, i < l.length → w.cell? ⟨b, off + i * 2, none⟩ = some (.int .i64 (nthR l i).1) ∧ w.cell? ⟨b, off + i * 2 + 1, none⟩ = some (.int .i64 (nthR l i).2)
theorem RdR.below {w w' : World} {a : Option Addr} {l : List RngP} (h : RdR w a l) (hb : Below w.heap.size w w') : RdR w' a l := by
  rcases h with h | ⟨b, off, e, hlt, hc⟩
  · exact .inl h
  · exact .inr ⟨b, off, e, Nat.lt_of_lt_of_le hlt hb.size, fun i hi => ⟨(hb.cell (p := ⟨b, off + i * 2, none⟩) hlt).trans (hc i hi).1, (hb.cell (p := ⟨b, off + i * 2 + 1, none⟩) hlt).trans (hc i hi).2⟩⟩
theorem RdR.at_ {w : World} {a : Option Addr} {l : List RngP} (h : RdR w a l) (hp : 0 < l.length) :
    ∃ b off, a = some ⟨b, off, none⟩ ∧ b < w.heap.size ∧ ∀ i, i < l.length → w.cell? ⟨b, off + i * 2, none⟩ = some (.int .i64 (nthR l i).1) ∧ w.cell? ⟨b, off + i * 2 + 1, none⟩ = some (.int .i64 (nthR l i).2) := by
  rcases h with h | h
  · rw [h] at hp; simp at hp
  · exact h
theorem RdR.own {w : World} {base e n cap : Nat} {a : Option Addr} {l : List RngP} (h : w.ownsRow base e 2 (.slice a n cap) n (rc l)) : RdR w a l := by
  have hl : l.length = n := by have := h.1; rw [rc_len] at this; omega
  rcases h.2 with ⟨_, h0⟩ | ⟨g, cap', cur, h', _, hg, _, _, _, htake⟩
  · left; exact List.length_eq_zero_iff.1 (by omega)
  · simp only [Value.slice.injEq] at h'
    obtain ⟨rfl, _, rfl⟩ := h'
    right
    refine ⟨g, 0, rfl, ?_, fun i hi => ?_⟩
    · rcases Nat.lt_or_ge g w.heap.size with hlt | hge
      · exact hlt
      · simp [Array.getElem?_eq_none hge] at hg
    · have hf := rc_get l i hi
      refine ⟨?_, ?_⟩
      · rw [cell_of_row w g (0 + i * 2) cur e (0, 0) hg, ← hf.1, ← htake, List.getElem?_take, if_pos (by omega)]
        simp
      · rw [cell_of_row w g (0 + i * 2 + 1) cur e (0, 0) hg, ← hf.2, ← htake, List.getElem?_take, if_pos (by omega)]
        simp

def zeroR : Value := .agg #[.int .i64 0, .int .i64 0]
theorem infoR : (Tryz.prog.info? 48).map (fun i => (i.zero, i.size, i.bytes)) = some (some zeroR, 2, 16) := by kernel_rfl

/-- THE SLICE v IS THE CALL's OWN AND HOLDS THE FIELDS l. -/
def OwnR (w : World) (B : Nat) (v : Value) (l : List RngP) : Prop := w.ownsRow B 48 2 v l.length (rc l)
theorem OwnR.nil (w : World) (B : Nat) : OwnR w B (.slice none 0 0) [] := World.ownsRow_nil _ _ _ _
theorem OwnR.alloc {w : World} {B : Nat} {v : Value} {l : List RngP} (h : OwnR w B v l) (o : Obj) : OwnR (w.alloc o) B v l := World.ownsRow.alloc h o
theorem OwnR.below {w w' : World} {B C : Nat} {v : Value} {l : List RngP} (h : OwnR w B v l) (hb : Below C w w') (hC : w.heap.size ≤ C) : OwnR w' B v l := by
  refine ⟨h.1, ?_⟩
  rcases h.2 with h' | ⟨g, cap, cur, h1, h2, h3, h4⟩
  · exact .inl h'
  · refine .inr ⟨g, cap, cur, h1, h2, ?_, h4⟩
    have hg : g < w.heap.size := by
      rcases Nat.lt_or_ge g w.heap.size with hlt | hge
      · exact hlt
      · simp [Array.getElem?_eq_none hge] at h3
    rw [hb.block g (by omega)]; exact h3
theorem OwnR.form {w : World} {B : Nat} {v : Value} {l : List RngP} (h : OwnR w B v l) : ∃ a cap, v = .slice a l.length cap ∧ l.length ≤ cap ∧ cap ≤ maxLen := by
  rcases h.2 with ⟨h', h0⟩ | ⟨g, cap, cur, h', _, _, h4, h5, _⟩
  · exact ⟨none, 0, by rw [h', h0], by omega, by decide⟩
  · exact ⟨_, cap, h', h4, h5⟩
theorem OwnR.rd {w : World} {B n cap : Nat} {a : Option Addr} {l : List RngP} (h : OwnR w B (.slice a n cap) l) : l.length = n ∧ RdR w a l := by
  have hf : l.length = n := by
    obtain ⟨a', c', e, _⟩ := h.form
    simp at e; omega
  subst hf
  exact ⟨rfl, RdR.own h⟩
theorem OwnR.low {w : World} {B C : Nat} {v : Value} {l : List RngP} (h : OwnR w B v l) (hC : C ≤ B) : OwnR w C v l := by
  refine ⟨h.1, ?_⟩
  rcases h.2 with h' | ⟨g, cap, cur, h1, h2, h3⟩
  · exact .inl h'
  · exact .inr ⟨g, cap, cur, h1, Nat.le_trans hC h2, h3⟩
theorem OwnR.kept {w : World} {B : Nat} {v : Value} {l : List RngP} (h : OwnR w B v l) (p : Addr) (hp : p.block < B) (u : Value) : OwnR (w.setCell p u) B v l := ownsRow_setCell_below h hp u
theorem OwnR.far {w w' : World} {B : Nat} {v : Value} {l : List RngP} {row : Option Nat} (h : OwnR w B v l) (hg : w.grownBy w' row) (hne : ∀ b, v.ownBlock = some b → some b ≠ row) : OwnR w' B v l := by
  refine ⟨h.1, ?_⟩
  rcases h.2 with h' | ⟨g, cap, cur, h1, h2, h3, h4⟩
  · exact .inl h'
  · refine .inr ⟨g, cap, cur, h1, h2, ?_, h4⟩
    have hlt : g < w.heap.size := by
      rcases Nat.lt_or_ge g w.heap.size with hlt | hge
      · exact hlt
      · simp [Array.getElem?_eq_none hge] at h3
    rw [hg.block g hlt (hne g (by rw [h1]; rfl))]; exact h3

end Go.Proofs.YtaefomiofoakhaaGreatDoor
