/- The size of a store that comes in, in all: messages, bytes and mailboxes together; no conditions beyond those that each fact names · The model: flags of messages are turned; no conditions beyond those that each fact names. -/
import Derived.Test.YtejbbnpgghpgaaaGreatDoorBxhToStc
import Derived.Test.YtejbbnpgghpgaaaGreatDoorDdiToApk
import Derived.Test.YtejbbnpgghpgaaaGreatDoorMsbToBxs
namespace Go.Proofs.YtejbbnpgghpgaaaGreatDoor
open Go.RowKit
set_option linter.unusedVariables false
def wtMs (l : List Msg) : Nat := l.length + (l.map fun m => m.b.length).sum
def wtXs (l : List Bx) : Nat := l.length + (l.map fun b => wtMs b.m).sum
theorem mem_le_sum {x : Nat} : ∀ {l : List Nat}, x ∈ l → x ≤ l.sum
  | y :: l, h => by
    rw [List.sum_cons]
    rcases List.mem_cons.1 h with rfl | h'
    · omega
    · have := mem_le_sum h'
      omega
def SzW (left : Int) (wt : Nat) (w : World) (e : Ending) (w' : World) : Prop := ∃ r : Int, e = .returned (.int .i64 r) ∧ (r = -1 ∨ 0 ≤ r ∧ r + (wt : Int) ≤ left) ∧ Below w.heap.size w w'
theorem sum_takeM {l : List Msg} {k : Nat} (h : k < l.length) : ((l.take (k + 1)).map fun m => m.b.length).sum = ((l.take k).map fun m => m.b.length).sum + (nthM l k).b.length := by
  rw [List.take_succ_eq_append_getElem h, List.map_append, List.sum_append, nthM_get h]; simp
theorem sum_takeX {l : List Bx} {k : Nat} (h : k < l.length) : ((l.take (k + 1)).map fun b => wtMs b.m).sum = ((l.take k).map fun b => wtMs b.m).sum + wtMs (nthX l k).m := by
  rw [List.take_succ_eq_append_getElem h, List.map_append, List.sum_append, nthX_get h]; simp
theorem szByteS_w (s : SlQ) (left : Int) (w : World) (h0 : 0 ≤ left) (h1 : left ≤ 1048576) (hn : s.2.1 ≤ maxLen) :
    Calls Tryz.prog 54 #[slW s, .int .i64 left] w fun e w' => SzW left s.2.1 w e w' := by
  obtain ⟨a, n, cap⟩ := s
  dsimp only at *
  unfold maxLen at hn
  by_cases c1 : left - (n : Int) < 0
  · go_enter Tryz.func54, Tryz.ntmps54
    go_wp2
    go_ret
    exact ⟨-1, rfl, .inl rfl, by go_grown⟩
  · go_enter Tryz.func54, Tryz.ntmps54
    go_wp2
    go_ret
    exact ⟨left - (n : Int), rfl, .inr ⟨by omega, by omega⟩, by go_grown⟩
set_option maxHeartbeats 800000 in
set_option maxRecDepth 100000 in
theorem szMessage_w (m : Msg) (s : SlQ) (left : Int) {lo : Nat} (w : World) (h0 : 0 ≤ left) (h1 : left ≤ 1048576) (hs : IsSl lo w s m.b) :
    Calls Tryz.prog 181 #[msX m s, .int .i64 left] w fun e w' => SzW left m.b.length w e w' := by
  have hb0 : Below w.heap.size w (w.alloc (.cells #[.int .i64 m.u, .int .i64 m.f, .int .i64 m.d, slW s] 199)) := (Below.refl _ _).alloc (Nat.le_refl _) _
  have HC := szByteS_w s left (w.alloc (.cells #[.int .i64 m.u, .int .i64 m.f, .int .i64 m.d, slW s] 199)) h0 h1 (Nat.le_trans hs.2.1 hs.2.2.1)
  rw [← hs.1] at HC
  go_enter Tryz.func181, Tryz.ntmps181
  go_wp2_with fail
  refine HC.mono ?_
  rintro e w1 ⟨r, rfl, hcase, hb1⟩
  have hbw := hb0.trans (hb1.mono hb0.size)
  clear HC hb0 hb1
  rcases hcase with rfl | ⟨q0, q1⟩
  · go_wp2
    go_ret
    exact ⟨-1, rfl, .inl rfl, hbw⟩
  · have hneg : ¬ r < 0 := by omega
    go_wp2
    go_ret
    exact ⟨r, rfl, .inr ⟨q0, q1⟩, hbw⟩
set_option maxHeartbeats 1600000 in
set_option maxRecDepth 100000 in
theorem szMessageS_w (s : SlQ) (l : List Msg) (left : Int) {lo : Nat} (w : World) (h0 : 0 ≤ left) (h1 : left ≤ 1048576) (hs : IsMs lo w s l) :
    Calls Tryz.prog 147 #[slW s, .int .i64 left] w fun e w' => SzW left (wtMs l) w e w' := by
  obtain ⟨a, n, cap⟩ := s
  obtain ⟨hl, hnc, hcm, hr⟩ := hs
  dsimp only [slW] at *
  unfold maxLen at hcm
  by_cases c1 : left - (n : Int) < 0
  · go_enter Tryz.func147, Tryz.ntmps147
    go_wp2
    go_ret
    exact ⟨-1, rfl, .inl rfl, Below.refl _ _⟩
  · go_enter Tryz.func147, Tryz.ntmps147
    go_wp2
    go_loopw [1, 5] (fun q i wr => ∃ (k : Nat) (r : Int), k ≤ n ∧ i = .int .i64 k ∧ q = .int .i64 r ∧ 0 ≤ r ∧ r + (n : Int) + (((l.take k).map fun m => m.b.length).sum : Nat) ≤ left ∧ Below w.heap.size w wr)
      (fun _ i _ => n - (intOf i).toNat)
    case atStart => exact ⟨0, _, Nat.zero_le _, rfl, rfl, by omega, by simp, Below.refl _ _⟩
    case round =>
      obtain ⟨k, r, hk, rfl, rfl, hr0, hr1, hbel⟩ := hrel
      by_cases hkn : k < n
      · obtain ⟨b, off, rfl, -, hblt, hcell⟩ := (hr.below hbel).at_ (by omega)
        obtain ⟨s, ⟨hc0, hc1, hc2, hc3⟩, hI⟩ := hcell k (by omega)
        have hki : (k : Int) < (n : Int) := by omega
        have HC := szMessage_w (nthM l k) s r wr hr0 (by omega) hI
        have hst := sum_takeM (l := l) (k := k) (by omega)
        have hq : ∀ r' : Int, 0 ≤ r' → r' + ((nthM l k).b.length : Int) ≤ r → r' + (n : Int) + (((l.take (k + 1)).map fun m => m.b.length).sum : Nat) ≤ left := fun r' _ h => by rw [hst]; push_cast; omega
        have HQ : Hid (_) := hq
        clear hq hst hr1
        clear hcell hI
        generalize nthM l k = p at *
        go_wp2_with fail
        refine HC.mono ?_
        rintro e w1 ⟨r', rfl, hcase, hb1⟩
        have hbel1 := hbel.trans (hb1.mono hbel.size)
        clear hb1 hbel HC
        rcases hcase with rfl | ⟨q0, q1⟩
        · go_wp2
          go_ret
          exact ⟨-1, rfl, .inl rfl, hbel1⟩
        · have hneg : ¬ r' < 0 := by omega
          have hr1' := HQ.out r' q0 q1
          clear HQ
          go_wp2
          go_roundw
          case rel => exact ⟨k + 1, r', by omega, by go_num, by trivial, q0, hr1', hbel1⟩
          case measure => simp [intOf]; omega
      · have hki : ¬ (k : Int) < (n : Int) := by omega
        have hw : r + ((wtMs l : Nat) : Int) ≤ left := by
          have hkk : k = l.length := by omega
          rw [hkk, List.take_length] at hr1
          unfold wtMs
          push_cast
          omega
        go_wp2
        go_ret
        exact ⟨r, rfl, .inr ⟨hr0, hw⟩, hbel⟩
set_option maxHeartbeats 1600000 in
set_option maxRecDepth 100000 in
theorem szBox_w (m : Bx) (s : SlQ) (left : Int) {lo : Nat} (w : World) (h0 : 0 ≤ left) (h1 : left ≤ 1048576) (hs : IsMs lo w s m.m) (hok : OkX m) :
    Calls Tryz.prog 107 #[bxX m s, .int .i64 left] w fun e w' => SzW left (m.n.size + wtMs m.m) w e w' := by
  have hb0 : Below w.heap.size w (w.alloc (.cells #[.string m.n, .int .i64 m.v, .int .i64 m.x, slW s] 123)) := (Below.refl _ _).alloc (Nat.le_refl _) _
  have hok' : m.n.size ≤ maxLen := hok
  unfold maxLen at hok'
  by_cases c1 : left - (m.n.size : Int) < 0
  · go_enter Tryz.func107, Tryz.ntmps107
    go_wp2
    go_ret
    exact ⟨-1, rfl, .inl rfl, hb0⟩
  · have HC := szMessageS_w s m.m (left - (m.n.size : Int)) (w.alloc (.cells #[.string m.n, .int .i64 m.v, .int .i64 m.x, slW s] 123)) (by omega) (by omega) (hs.below hb0)
    go_enter Tryz.func107, Tryz.ntmps107
    go_wp2_with fail
    refine HC.mono ?_
    rintro e w1 ⟨r, rfl, hcase, hb1⟩
    have hbw := hb0.trans (hb1.mono hb0.size)
    clear HC hb0 hb1
    rcases hcase with rfl | ⟨q0, q1⟩
    · go_wp2
      go_ret
      exact ⟨-1, rfl, .inl rfl, hbw⟩
    · have hneg : ¬ r < 0 := by omega
      have q1' : r + ((m.n.size + wtMs m.m : Nat) : Int) ≤ left := by omega
      clear q1
      go_wp2
      go_ret
      exact ⟨r, rfl, .inr ⟨q0, q1'⟩, hbw⟩
theorem wtMs_ft {l : List Msg} (h : wtMs l ≤ 1048576) : FtMs l := by
  unfold wtMs at h
  refine ⟨by omega, fun i hi => ?_⟩
  have hm : (nthM l i).b.length ∈ l.map (fun m => m.b.length) := List.mem_map.2 ⟨nthM l i, by rw [nthM_get hi]; exact List.getElem_mem hi, rfl⟩
  have := mem_le_sum hm
  show (nthM l i).b.length ≤ 1048576
  omega
theorem ftX_of {b : Bx} (h : b.n.size + wtMs b.m ≤ 1048576) : FtX b := ⟨by omega, wtMs_ft (by omega)⟩
set_option maxHeartbeats 1600000 in
set_option maxRecDepth 100000 in
theorem szBoxS_w (s : SlQ) (l : List Bx) (left : Int) {lo : Nat} (w : World) (h0 : 0 ≤ left) (h1 : left ≤ 1048576) (hs : IsXs lo w s l) (hok : ∀ i, i < l.length → OkX (nthX l i)) :
    Calls Tryz.prog 52 #[slW s, .int .i64 left] w fun e w' => ∃ r : Int, e = .returned (.int .i64 r) ∧ (r = -1 ∨ 0 ≤ r ∧ r + (wtXs l : Int) ≤ left ∧ FtXs l) ∧ Below w.heap.size w w' := by
  obtain ⟨a, n, cap⟩ := s
  obtain ⟨hl, hnc, hcm, hr⟩ := hs
  dsimp only [slW] at *
  unfold maxLen at hcm
  by_cases c1 : left - (n : Int) < 0
  · go_enter Tryz.func52, Tryz.ntmps52
    go_wp2
    go_ret
    exact ⟨-1, rfl, .inl rfl, Below.refl _ _⟩
  · go_enter Tryz.func52, Tryz.ntmps52
    go_wp2
    go_loopw [1, 5] (fun q i wr => ∃ (k : Nat) (r : Int), k ≤ n ∧ i = .int .i64 k ∧ q = .int .i64 r ∧ 0 ≤ r ∧ r + (n : Int) + (((l.take k).map fun b => wtMs b.m).sum : Nat) ≤ left ∧ (∀ j, j < k → FtX (nthX l j)) ∧ Below w.heap.size w wr)
      (fun _ i _ => n - (intOf i).toNat)
    case atStart => exact ⟨0, _, Nat.zero_le _, rfl, rfl, by omega, by simp, fun j hj => absurd hj (Nat.not_lt_zero _), Below.refl _ _⟩
    case round =>
      obtain ⟨k, r, hk, rfl, rfl, hr0, hr1, hall, hbel⟩ := hrel
      by_cases hkn : k < n
      · obtain ⟨b, off, rfl, -, hblt, hcell⟩ := (hr.below hbel).at_ (by omega)
        obtain ⟨s, ⟨hc0, hc1, hc2, hc3⟩, hI⟩ := hcell k (by omega)
        have hki : (k : Int) < (n : Int) := by omega
        have HC := szBox_w (nthX l k) s r wr hr0 (by omega) hI (hok k (by omega))
        have HA : Hid (FtX (nthX l k) → ∀ j, j < k + 1 → FtX (nthX l j)) := fun h j hj => by
          rcases Nat.lt_or_ge j k with h' | h'
          · exact hall j h'
          · obtain rfl : j = k := by omega
            exact h
        have hst := sum_takeX (l := l) (k := k) (by omega)
        have hq : ∀ r' : Int, 0 ≤ r' → r' + (((nthX l k).n.size + wtMs (nthX l k).m : Nat) : Int) ≤ r → r' + (n : Int) + (((l.take (k + 1)).map fun b => wtMs b.m).sum : Nat) ≤ left ∧ FtX (nthX l k) := fun r' _ h => by
          refine ⟨by rw [hst]; push_cast at h ⊢; omega, ?_⟩
          exact ftX_of (by push_cast at h; omega)
        have HQ : Hid (_) := hq
        clear hq hst hr1
        clear hcell hall hI
        generalize nthX l k = p at *
        go_wp2_with fail
        refine HC.mono ?_
        rintro e w1 ⟨r', rfl, hcase, hb1⟩
        have hbel1 := hbel.trans (hb1.mono hbel.size)
        clear hb1 hbel HC
        rcases hcase with rfl | ⟨q0, q1⟩
        · go_wp2
          go_ret
          exact ⟨-1, rfl, .inl rfl, hbel1⟩
        · have hneg : ¬ r' < 0 := by omega
          have hr1' := (HQ.out r' q0 q1).1
          have HM : Hid (_) := HA.out (HQ.out r' q0 q1).2
          clear HA HQ
          go_wp2
          go_roundw
          case rel => exact ⟨k + 1, r', by omega, by go_num, by trivial, q0, hr1', HM.out, hbel1⟩
          case measure => simp [intOf]; omega
      · have hki : ¬ (k : Int) < (n : Int) := by omega
        have hw : r + ((wtXs l : Nat) : Int) ≤ left := by
          have hkk : k = l.length := by omega
          rw [hkk, List.take_length] at hr1
          unfold wtXs
          push_cast
          omega
        have HM : Hid (FtXs l) := ⟨by omega, fun i hi => hall i (by omega)⟩
        clear hall
        go_wp2
        go_ret
        exact ⟨r, rfl, .inr ⟨hr0, hw, HM.out⟩, hbel⟩
set_option maxHeartbeats 800000 in
set_option maxRecDepth 100000 in
theorem szStore_w (v : Int) (s : SlQ) (l : List Bx) (left : Int) {lo : Nat} (w : World) (h0 : 0 ≤ left) (h1 : left ≤ 1048576) (hs : IsXs lo w s l) (hok : ∀ i, i < l.length → OkX (nthX l i)) :
    Calls Tryz.prog 12 #[.agg #[.int .i64 v, slW s], .int .i64 left] w fun e w' => ∃ r : Int, e = .returned (.int .i64 r) ∧ (r = -1 ∨ 0 ≤ r ∧ r + (wtXs l : Int) ≤ left ∧ FtXs l) ∧ Below w.heap.size w w' := by
  have hb0 : Below w.heap.size w (w.alloc (.cells #[.int .i64 v, slW s] 24)) := (Below.refl _ _).alloc (Nat.le_refl _) _
  have HC := szBoxS_w s l left (w.alloc (.cells #[.int .i64 v, slW s] 24)) h0 h1 (hs.below hb0) hok
  go_enter Tryz.func12, Tryz.ntmps12
  go_wp2_with fail
  refine HC.mono ?_
  rintro e w1 ⟨r, rfl, hcase, hb1⟩
  have hbw := hb0.trans (hb1.mono hb0.size)
  clear HC hb0 hb1
  rcases hcase with rfl | ⟨q0, q1, q2⟩
  · go_wp2
    go_ret
    exact ⟨-1, rfl, .inl rfl, hbw⟩
  · have hneg : ¬ r < 0 := by omega
    go_wp2
    go_ret
    exact ⟨r, rfl, .inr ⟨q0, q1, q2⟩, hbw⟩
end Go.Proofs.YtejbbnpgghpgaaaGreatDoor
namespace Go.Proofs.YtejbbnpgghpgaaaGreatDoor
open Go.RowKit List
set_option linter.unusedVariables false
def MfEnd (N : Nat) (s : SlQ) (l : List Bx) (xs : List Dx) (i : Nat) (us : List Int) (m b : Int) (w : World) (e : Ending) (w' : World) : Prop :=
  ∃ su xs', e = .returned (slW su) ∧ OwZ 2 w' su (flR 0 l i us m b).2.1 ∧ CX N w' s (flR 0 l i us m b).2.2.2 xs' ∧ fpX xs' = fpX xs ∧ Kx (blkS s ++ fpX xs) w w' ∧ ∀ g ∈ blkS su, w.heap.size ≤ g
set_option maxHeartbeats 1600000 in
set_option maxRecDepth 100000 in
theorem l8Flag_any (N B : Nat) (l : List Bx) (s : SlQ) (xs : List Dx) (o : OpR) (p : SlO) (i gX : Nat) (w : World) (hC : CX N w s l xs) (hgX : s.1 = some ⟨gX, 0, none⟩) (hi : i < l.length) (hl3 : l.length ≤ 3) (hm6 : (nthX l i).m.length ≤ 6) (hN : N ≤ w.heap.size) (hQ : Qo w B (opQ o p)) (hBo : B ∉ blkS s ++ fpX xs) (hI : o.u.length = p.1.2.1 ∧ RdI w p.1.1 o.u) (hIo : ∀ x, p.1.1 = some x → x.block < w.heap.size ∧ x.block ∉ blkS s ++ fpX xs) (hul : o.u.length ≤ 6) :
    Calls Tryz.prog 116 #[.pointer (some ⟨gX, i * 4, none⟩), .pointer (some ⟨B, 0, none⟩)] w fun e w' => MfEnd N s l xs i o.u o.m o.f w e w' := by
  obtain ⟨ok, ox, ot, ou, om, of, od, ob⟩ := o
  dsimp only [opQ] at hQ hI hul ⊢
  obtain ⟨hIl, hIr⟩ := hI
  obtain ⟨a, cap, rfl, hxl, hlc, hcm, -⟩ := hC.form
  dsimp only at hgX
  subst hgX
  have hix : i < xs.length := by omega
  have hbx : nthX l i = xs[i].bx := (congrArg (fun l => nthX l i) hC.2.1.symm).trans (map_nthX hix)
  obtain ⟨d, hd⟩ : ∃ d, xs[i] = d := ⟨_, rfl⟩
  rw [hd] at hbx
  obtain ⟨-, K2, K3, K4, K5⟩ := flag_kit (N := N) (gs := 0) (gX := gX) (cap := cap) (v := 0) (om := om) (of := of) (ou := ou) (w := w) hi hix d hd hbx
  have hmn : d.ms.length ≤ 6 := by rw [hbx] at hm6; simpa [Dx.bx] using hm6
  have HROW : Hid (∀ (W : World) (P : List Int), CX N W (some ⟨gX, 0, none⟩, l.length, cap) (l.set i (Dx.bx ⟨d.n, d.v, d.x, d.s, flJ om of d.ms P⟩)) (xs.set i ⟨d.n, d.v, d.x, d.s, flJ om of d.ms P⟩) → W.cell? ⟨gX, i * 4 + 3, none⟩ = some (slW d.s)) := fun W P h => by
    obtain ⟨g', e, -, -, -, -, r⟩ := h.1.row_at i (by rw [List.length_set]; exact hix)
    cases e
    rw [List.getElem_set_self] at r
    exact r
  obtain ⟨sa, mcap, hms, hmc, hmm, hma⟩ : ∃ sa mcap, d.s = (sa, d.ms.length, mcap) ∧ d.ms.length ≤ mcap ∧ mcap ≤ maxLen ∧ (d.ms = [] ∨ ∃ g, sa = some ⟨g, 0, none⟩) := by
    obtain ⟨ma, mcap, hms, -, hmc, hmm, hma⟩ := (hd ▸ hC.box i hix : CM N _ d.s (d.ms.map Dm.m) d.ms).form
    rw [List.length_map] at hms hmc
    refine ⟨ma, mcap, hms, hmc, hmm, ?_⟩
    rcases hma with ⟨-, h⟩ | h
    · exact .inl (List.map_eq_nil_iff.1 h)
    · exact .inr h
  have HSTEP : Hid (_) := K2
  have HFPE : Hid (_) := K4
  have HFIN : Hid (∀ (W : World) (su : SlQ), OwZ 2 W su ((psN (fun k => hasZ ou (nthD d.ms k).m.u) d.ms.length).map fun k => (nthD d.ms k).m.u) → CX N W (some ⟨gX, 0, none⟩, l.length, cap) (l.set i (Dx.bx ⟨d.n, d.v, d.x, d.s, flJ om of d.ms (psZ (fun k => hasZ ou (nthD d.ms k).m.u) d.ms.length)⟩)) (xs.set i ⟨d.n, d.v, d.x, d.s, flJ om of d.ms (psZ (fun k => hasZ ou (nthD d.ms k).m.u) d.ms.length)⟩) → Kx (blkS ((some ⟨gX, 0, none⟩, l.length, cap) : SlQ) ++ fpX xs) w W → (∀ g ∈ blkS su, w.heap.size ≤ g) → MfEnd N (some ⟨gX, 0, none⟩, l.length, cap) l xs i ou om of w (.returned (slW su)) W) := fun W su h1 h2 h3 h4 => by
    refine ⟨su, xs.set i ⟨d.n, d.v, d.x, d.s, flJ om of d.ms (psZ (fun k => hasZ ou (nthD d.ms k).m.u) d.ms.length)⟩, rfl, ?_, ?_, K4 _, h3, h4⟩
    · show OwZ _ _ _ (((nthX l i).m.filter fun x => hasZ ou x.u).map Msg.u)
      rw [hbx]
      rw [uidJ_all] at h1
      exact h1
    · show CX N W _ (l.set i ⟨(nthX l i).n, (nthX l i).v, (nthX l i).x, (nthX l i).m.map (flM ou om of)⟩) _
      have e : Dx.bx ⟨d.n, d.v, d.x, d.s, flJ om of d.ms (psZ (fun k => hasZ ou (nthD d.ms k).m.u) d.ms.length)⟩ = ⟨(nthX l i).n, (nthX l i).v, (nthX l i).x, (nthX l i).m.map (flM ou om of)⟩ := by
        rw [hbx]; unfold Dx.bx; dsimp only; rw [flJ_all]
      rw [← e]; exact h2
  have hC0 := K3 w hC
  have hms0 : ∀ k ∈ blkS ((some ⟨gX, 0, none⟩, l.length, cap) : SlQ) ++ fpX xs, k < w.heap.size := hC.1.lt
  have hQl := hQ.lt
  have hgXm : gX ∈ blkS ((some ⟨gX, 0, none⟩, l.length, cap) : SlQ) ++ fpX xs := List.mem_append_left _ (by simp [blkS])
  have HI : Hid (∀ W, Kx (blkS ((some ⟨gX, 0, none⟩, l.length, cap) : SlQ) ++ fpX xs) w W → RdI W p.1.1 ou) := fun W hK => by
    rcases hIr with h | ⟨b, off, e, hlt, hc⟩
    · exact .inl h
    · have hb := hIo _ e
      exact .inr ⟨b, off, e, Nat.lt_of_lt_of_le hlt hK.size, fun i hi => (World.cell?_of_block (hK.block b hb.1 hb.2)).trans (hc i hi)⟩
  have HQ : Hid (∀ W, Kx (blkS ((some ⟨gX, 0, none⟩, l.length, cap) : SlQ) ++ fpX xs) w W → Qo W B ⟨.int .i64 ok, .string ox, .string ot, slW p.1, .int .i64 om, .int .i64 of, .int .i64 od, slW p.2⟩) := fun W hK => hQ.of_block (hK.block B hQl hBo)
  have hpn : p.1.2.1 ≤ 1048576 := by omega
  clear K2 K3 K4 K5 hbx hd hm6 hIr hQ
  obtain ⟨qn, qv, qx, qs, qm⟩ := d
  dsimp only at hmn hms hmc hmm hma HROW HSTEP HFPE HFIN hC0
  subst hms
  unfold maxLen at hmm hcm
  have hb0 : Below w.heap.size w (w.alloc (.cells #[] 2)) := (Below.refl _ _).alloc (Nat.le_refl _) _
  have hC1 := hC0.below hb0 (Nat.le_refl _)
  have hK1 : Kx (blkS ((some ⟨gX, 0, none⟩, l.length, cap) : SlQ) ++ fpX xs) w (w.alloc (.cells #[] 2)) := Kx.of_below hb0
  have hU1 := OwZ.lit 2 w
  go_enter Tryz.func116, Tryz.ntmps116
  go_wp2
  go_loopw [5, 6] (fun u y wr => ∃ (k : Nat) (su : SlQ), k ≤ qm.length ∧ y = .int .i64 k ∧ u = slW su ∧
      CX N wr (some ⟨gX, 0, none⟩, l.length, cap) (l.set i (Dx.bx ⟨qn, qv, qx, (sa, qm.length, mcap), flJ om of qm (psZ (fun k => hasZ ou (nthD qm k).m.u) k)⟩)) (xs.set i ⟨qn, qv, qx, (sa, qm.length, mcap), flJ om of qm (psZ (fun k => hasZ ou (nthD qm k).m.u) k)⟩) ∧
      OwZ 2 wr su ((psN (fun k => hasZ ou (nthD qm k).m.u) k).map fun k => (nthD qm k).m.u) ∧ (∀ g ∈ blkS su, w.heap.size ≤ g) ∧ Kx (blkS ((some ⟨gX, 0, none⟩, l.length, cap) : SlQ) ++ fpX xs) w wr) (fun _ y _ => qm.length - (intV y).toNat)
  case atStart => exact ⟨0, (some ⟨w.heap.size, 0, none⟩, 0, 0), Nat.zero_le _, rfl, rfl, hC1, hU1, fun g hg => by simp [blkS] at hg; omega, hK1⟩
  case round =>
    obtain ⟨k, su, hk, rfl, rfl, hC, hU, hge, hK⟩ := hrel
    clear hC1 hU1 hK1 hC0 hb0
    have c3 := HROW.out wr _ hC
    dsimp only [slW] at c3
    by_cases hkn : k < qm.length
    · have hki : (k : Int) < (qm.length : Int) := by omega
      obtain ⟨gm, rfl⟩ : ∃ gm, sa = some ⟨gm, 0, none⟩ := by
        rcases hma with h' | h'
        · rw [h'] at hkn; simp at hkn
        · exact h'
      have h0 : hasZ (psZ (fun k => hasZ ou (nthD qm k).m.u) k) (k : Int) = false := by
        refine decide_eq_false (fun hm => ?_)
        obtain ⟨x, hx, e⟩ := List.mem_map.1 hm
        have := psN_lt hx
        omega
      have hpl : ((psN (fun k => hasZ ou (nthD qm k).m.u) k).map fun k => (nthD qm k).m.u).length + 1 ≤ 1048576 := by rw [List.length_map]; have := psN_len (fun k => hasZ ou (nthD qm k).m.u) k; omega
      have HS1 : Hid (hasZ ou (nthD qm k).m.u = true → psZ (fun k => hasZ ou (nthD qm k).m.u) (k + 1) = psZ (fun k => hasZ ou (nthD qm k).m.u) k ++ [(k : Int)] ∧ (psN (fun k => hasZ ou (nthD qm k).m.u) (k + 1)).map (fun k => (nthD qm k).m.u) = (psN (fun k => hasZ ou (nthD qm k).m.u) k).map (fun k => (nthD qm k).m.u) ++ [(nthD qm k).m.u]) := fun h => ⟨psZ_yes (p := fun k => hasZ ou (nthD qm k).m.u) h, by rw [psN, if_pos h, List.map_append]; rfl⟩
      have HS0 : Hid (hasZ ou (nthD qm k).m.u = false → psZ (fun k => hasZ ou (nthD qm k).m.u) (k + 1) = psZ (fun k => hasZ ou (nthD qm k).m.u) k ∧ psN (fun k => hasZ ou (nthD qm k).m.u) (k + 1) = psN (fun k => hasZ ou (nthD qm k).m.u) k) := fun h => ⟨psZ_no (p := fun k => hasZ ou (nthD qm k).m.u) h, by rw [psN, if_neg (by rw [h]; decide)]⟩
      go_wp2_with fail
      have hbD : Below wr.heap.size wr wr.drew := (Below.refl _ _).drew
      have hC2 := hC.below hbD (Nat.le_refl _)
      have hU2 := hU.below hbD (Nat.le_refl _)
      have hK2 := hK.below hbD
      clear hC hU hK hbD c3
      obtain ⟨⟨m0, m1, mz⟩, -⟩ := HSTEP.out wr.drew _ k hkn gm qm.length mcap h0 rfl (Nat.le_trans hN hK2.size) hC2
      have hQ2 := HQ.out wr.drew hK2
      refine wp_region_held_drew (S := fun w' => w'.cell? ⟨B, 3, none⟩ = some (slW p.1) ∧ w'.cell? ⟨gm, k * 4, none⟩ = some (.int .i64 (nthD qm k).m.u)) (by kernel_rfl) ?hS1 (fun hHeld => ?_)
      case hS1 => exact ⟨hQ2.2.2.2.1, m0⟩
      refine tk (i := 0) (v := ?_) rfl (Or.inl ⟨by rfl, ?hy2⟩) ?ty2
      case hy2 => (intro w5 hSw; obtain ⟨p0, p1⟩ := hSw; go_simp; all_goals with_reducible rfl)
      simp only [Act.put, J1, J2, J4, J5, J6]
      refine tk (i := 1) (v := ?_) rfl (Or.inl ⟨by rfl, ?hy3⟩) ?ty3
      case hy3 => (intro w5 hSw; obtain ⟨p0, p1⟩ := hSw; go_simp; all_goals with_reducible rfl)
      simp only [Act.put, J1, J2, J3, J4, J5, J6]
      refine tk (i := 2) (v := ?_) rfl (Or.inl ⟨by rfl, ?hy4⟩) ?ty4
      case hy4 => (intro w5 hSw; obtain ⟨p0, p1⟩ := hSw; go_simp; all_goals with_reducible rfl)
      simp only [Act.put, J1, J2, J3, J4, J5, J6]
      refine tk (i := 3) (v := ?_) rfl (Or.inl ⟨by rfl, ?hy5⟩) ?ty5
      case hy5 => (intro w5 hSw; obtain ⟨p0, p1⟩ := hSw; go_simp; all_goals with_reducible rfl)
      simp only [Act.put, J1, J2, J3, J4, J5, J6]
      refine tk (i := 4) (v := ?_) rfl (Or.inl ⟨by rfl, ?hy6⟩) ?ty6
      case hy6 => (intro w5 hSw; obtain ⟨p0, p1⟩ := hSw; go_simp; all_goals with_reducible rfl)
      simp only [Act.put, J1, J2, J3, J4, J5, J6]
      refine tk (i := 5) (v := ?_) rfl (Or.inl ⟨by rfl, ?hy7⟩) ?ty7
      case hy7 => (intro w5 hSw; obtain ⟨p0, p1⟩ := hSw; go_simp; all_goals with_reducible rfl)
      simp only [Act.put, J1, J2, J3, J4, J5, J6]
      refine tk (i := 6) (v := ?_) rfl (Or.inl ⟨by rfl, ?hy8⟩) ?ty8
      case hy8 => (intro w5 hSw; obtain ⟨p0, p1⟩ := hSw; go_simp; all_goals with_reducible rfl)
      simp only [Act.put, J1, J2, J3, J4, J5, J6]
      refine tk (i := 7) (v := ?_) rfl (Or.inl ⟨by rfl, ?hy9⟩) ?ty9
      case hy9 => (intro w5 hSw; obtain ⟨p0, p1⟩ := hSw; go_simp; all_goals with_reducible rfl)
      simp only [Act.put, J1, J2, J3, J4, J5, J6]
      generalize World.drew wr = Y0 at *
      refine wpAnyH_ready (rs := [8]) (by kernel_rfl) (by simp) ?_
      refine AllReadyH.cons rfl (fun K hK => ?_) AllReadyH.nil
      go_simp
      refine (l8Has_any p.1.1 p.1.2.1 p.1.2.2 ou (nthD qm k).m.u Y0 hIl (HI.out Y0 hK2) hpn).mono ?_
      rintro e Y1 ⟨rfl, rfl⟩
      refine hK.out _ _ ⟨hQ2.2.2.2.1, m0⟩ (fun hHeld => ?_)
      clear hK K
      refine wpAnyH_done (by kernel_rfl) ?_ _
      clear hHeld
      cases hb : hasZ ou (nthD qm k).m.u with
      | false =>
        obtain ⟨e1, e2⟩ := HS0.out hb
        have HC3 : Hid (_) := hC2
        have HU3 : Hid (_) := hU2
        have HR : Hid (CX N Y0 (some ⟨gX, 0, none⟩, l.length, cap) (l.set i (Dx.bx ⟨qn, qv, qx, (some ⟨gm, 0, none⟩, qm.length, mcap), flJ om of qm (psZ (fun k => hasZ ou (nthD qm k).m.u) (k + 1))⟩)) (xs.set i ⟨qn, qv, qx, (some ⟨gm, 0, none⟩, qm.length, mcap), flJ om of qm (psZ (fun k => hasZ ou (nthD qm k).m.u) (k + 1))⟩) ∧ OwZ 2 Y0 su ((psN (fun k => hasZ ou (nthD qm k).m.u) (k + 1)).map fun k => (nthD qm k).m.u)) := by rw [Hid, e1, e2]; exact ⟨hC2, hU2⟩
        clear HS0 HS1 e1 e2 hC2 hU2 HC3 HU3
        go_wp2
        go_roundw
        case rel => exact ⟨k + 1, su, by omega, by go_num, rfl, HR.out.1, HR.out.2, hge, hK2⟩
        case measure => simp [intV, Go.RowKit.intOf]; omega
      | true =>
        obtain ⟨e1, e2⟩ := HS1.out hb
        have HE : Hid (_ ∧ _) := ⟨e1, e2⟩
        clear HS0 HS1 e1 e2
        go_wp2_with fail
        have hbD : Below Y0.heap.size Y0 Y0.drew := (Below.refl _ _).drew
        have hC3 := hC2.below hbD (Nat.le_refl _)
        have hU3 := hU2.below hbD (Nat.le_refl _)
        have hK3 := hK2.below hbD
        have hQ3 := hQ2.below hbD hQ2.lt
        clear hC2 hU2 hK2 hQ2 hbD m0 m1 mz
        have hzN3 := Nat.le_trans hN hK3.size
        refine wp_region_held_drew (S := fun w' => w'.cell? ⟨B, 4, none⟩ = some (.int .i64 om) ∧ w'.cell? ⟨B, 5, none⟩ = some (.int .i64 of)) (by kernel_rfl) ?hS10 (fun hHeld => ?_)
        case hS10 => exact ⟨hQ3.2.2.2.2.1, hQ3.2.2.2.2.2.1⟩
        refine tk (i := 0) (v := ?_) rfl (Or.inl ⟨by rfl, ?hy11⟩) ?ty11
        case hy11 => (intro w5 hSw; obtain ⟨p0, p1⟩ := hSw; go_simp; all_goals with_reducible rfl)
        simp only [Act.put, J1, J2, J4, J5, J6]
        refine tk (i := 1) (v := ?_) rfl (Or.inl ⟨by rfl, ?hy12⟩) ?ty12
        case hy12 => (intro w5 hSw; obtain ⟨p0, p1⟩ := hSw; go_simp; all_goals with_reducible rfl)
        simp only [Act.put, J1, J2, J3, J4, J5, J6]
        refine tk (i := 2) (v := ?_) rfl (Or.inl ⟨by rfl, ?hy13⟩) ?ty13
        case hy13 => (intro w5 hSw; obtain ⟨p0, p1⟩ := hSw; go_simp; all_goals with_reducible rfl)
        simp only [Act.put, J1, J2, J3, J4, J5, J6]
        refine tk (i := 3) (v := ?_) rfl (Or.inl ⟨by rfl, ?hy14⟩) ?ty14
        case hy14 => (intro w5 hSw; obtain ⟨p0, p1⟩ := hSw; go_simp; all_goals with_reducible rfl)
        simp only [Act.put, J1, J2, J3, J4, J5, J6]
        refine tk (i := 5) (v := ?_) rfl (Or.inl ⟨by rfl, ?hy15⟩) ?ty15
        case hy15 => (intro w5 hSw; obtain ⟨p0, p1⟩ := hSw; go_simp; all_goals with_reducible rfl)
        simp only [Act.put, J1, J2, J3, J4, J5, J6]
        refine tk (i := 6) (v := ?_) rfl (Or.inl ⟨by rfl, ?hy16⟩) ?ty16
        case hy16 => (intro w5 hSw; obtain ⟨p0, p1⟩ := hSw; go_simp; all_goals with_reducible rfl)
        simp only [Act.put, J1, J2, J3, J4, J5, J6]
        refine tk (i := 7) (v := ?_) rfl (Or.inl ⟨by rfl, ?hy17⟩) ?ty17
        case hy17 => (intro w5 hSw; obtain ⟨p0, p1⟩ := hSw; go_simp; all_goals with_reducible rfl)
        simp only [Act.put, J1, J2, J3, J4, J5, J6]
        refine tk (i := 8) (v := ?_) rfl (Or.inl ⟨by rfl, ?hy18⟩) ?ty18
        case hy18 => (intro w5 hSw; obtain ⟨p0, p1⟩ := hSw; go_simp; all_goals with_reducible rfl)
        simp only [Act.put, J1, J2, J3, J4, J5, J6]
        refine tk (i := 9) (v := ?_) rfl (Or.inl ⟨by rfl, ?hy19⟩) ?ty19
        case hy19 => (intro w5 hSw; obtain ⟨p0, p1⟩ := hSw; go_simp; all_goals with_reducible rfl)
        simp only [Act.put, J1, J2, J3, J4, J5, J6]
        refine tk (i := 10) (v := ?_) rfl (Or.inl ⟨by rfl, ?hy20⟩) ?ty20
        case hy20 => (intro w5 hSw; obtain ⟨p0, p1⟩ := hSw; go_simp; all_goals with_reducible rfl)
        simp only [Act.put, J1, J2, J3, J4, J5, J6]
        refine tk (i := 11) (v := ?_) rfl (Or.inl ⟨by rfl, ?hy21⟩) ?ty21
        case hy21 => (intro w5 hSw; obtain ⟨p0, p1⟩ := hSw; go_simp; all_goals with_reducible rfl)
        simp only [Act.put, J1, J2, J3, J4, J5, J6]
        refine tk (i := 12) (v := ?_) rfl (Or.inl ⟨by rfl, ?hy22⟩) ?ty22
        case hy22 => (intro w5 hSw; obtain ⟨p0, p1⟩ := hSw; go_simp; all_goals with_reducible rfl)
        simp only [Act.put, J1, J2, J3, J4, J5, J6]
        generalize World.drew Y0 = Y3 at *
        obtain ⟨⟨m0, m1, mz⟩, hC4, hK4⟩ := HSTEP.out Y3 _ k hkn gm qm.length mcap h0 rfl hzN3 hC3
        refine wpAnyH_ready (rs := [4]) (by kernel_rfl) (by simp) ?_
        refine AllReadyH.cons rfl (fun K hK => ?_) AllReadyH.nil
        go_simp
        refine hK.out _ _ ⟨hQ3.2.2.2.2.1, hQ3.2.2.2.2.2.1⟩ (fun hHeld => ?_)
        clear hK K
        refine wpAnyH_ready (rs := [13]) (by kernel_rfl) (by simp) ?_
        refine AllReadyH.cons rfl (fun K hK => ?_) AllReadyH.nil
        go_simp
        refine (l8Flags_any (nthD qm k).m.f om of Y3).mono ?_
        rintro e Y4 ⟨rfl, rfl⟩
        refine hK.out _ _ ⟨hQ3.2.2.2.2.1, hQ3.2.2.2.2.2.1⟩ (fun hHeld => ?_)
        clear hK K
        refine tk (i := 14) (v := ?_) rfl (Or.inl ⟨by rfl, ?hy23⟩) ?ty23
        case hy23 => (intro w5 hSw; obtain ⟨p0, p1⟩ := hSw; go_simp; all_goals with_reducible rfl)
        simp only [Act.put, J1, J2, J3, J4, J5, J6]
        refine tk (i := 15) (v := ?_) rfl (Or.inl ⟨by rfl, ?hy24⟩) ?ty24
        case hy24 => (intro w5 hSw; obtain ⟨p0, p1⟩ := hSw; go_simp; all_goals with_reducible rfl)
        simp only [Act.put, J1, J2, J3, J4, J5, J6]
        refine wpAnyH_ready (rs := [16]) (by kernel_rfl) (by simp) ?_
        refine AllReadyH.cons rfl (fun K hK => ?_) AllReadyH.nil
        have hgmf : gm ∈ blkS ((some ⟨gX, 0, none⟩, l.length, cap) : SlQ) ++ fpX xs := by rw [← HFPE.out (psZ (fun k => hasZ ou (nthD qm k).m.u) k)]; exact List.mem_append_right _ (mem_flat_get (f := fpD) (l := xs.set i ⟨qn, qv, qx, (some ⟨gm, 0, none⟩, qm.length, mcap), flJ om of qm (psZ (fun k => hasZ ou (nthD qm k).m.u) k)⟩) (i := i) (by rw [List.length_set]; exact hix) (by rw [List.getElem_set_self]; exact List.mem_append_left _ (by simp [blkS])))
        have hgm1 := hms0 gm hgmf
        have hBne : gm ≠ B := fun e => hBo (e ▸ hgmf)
        have hQ4 := hQ3.far gm (k * 4 + 1) (.int .i64 (tuF (nthD qm k).m.f om of)) hBne
        have hU4 : OwZ 2 (Y3.setCell ⟨gm, k * 4 + 1, none⟩ (.int .i64 (tuF (nthD qm k).m.f om of))) su ((psN (fun k => hasZ ou (nthD qm k).m.u) k).map fun k => (nthD qm k).m.u) := hU3.keep fun g hg => Below.heap_setCell _ _ _ _ (fun e => by have := hge g hg; rw [show g = gm from e] at this; omega)
        have m0' : (Y3.setCell ⟨gm, k * 4 + 1, none⟩ (.int .i64 (tuF (nthD qm k).m.f om of))).cell? ⟨gm, k * 4, none⟩ = some (.int .i64 (nthD qm k).m.u) := (World.cell?_setCell_other _ _ _ _ (fun e => by injection e with _ e; omega)).trans m0
        have hK5 := hK3.trans hK4 (fun g hg => .inl hg)
        go_simp
        generalize World.setCell Y3 ⟨gm, k * 4 + 1, none⟩ (.int .i64 (tuF (nthD qm k).m.f om of)) = Y4 at *
        refine hK.out _ _ ⟨hQ4.2.2.2.2.1, hQ4.2.2.2.2.2.1⟩ (fun hHeld => ?_)
        clear hK K
        refine wpAnyH_done (by kernel_rfl) ?_ _
        clear hHeld hK4 hK3 hU3 hC3 hQ3 m0 m1 mz hzN3
        have hb5 : Below Y4.heap.size Y4 (Y4.alloc (.cells #[.int .i64 (nthD qm k).m.u] 2)) := (Below.refl _ _).alloc (Nat.le_refl _) _
        have hC5 := hC4.below hb5 (Nat.le_refl _)
        have hU5 := hU4.below hb5 (Nat.le_refl _)
        have hK6 := hK5.below hb5
        clear hC4 hU4 hK5 hb5 hQ4
        go_wp2_with (at_builtin; go_loud (refine app1 rfl _ _ 25 2 rfl Tryz.underlying25 infoZ64 su _ rfl hU5 Y4.heap.size (nthD qm k).m.u rfl (by simp) hpl ?_; intro s6 Y6 hU6 hgr6 hloc6))
        have hK7 : Kx (blkS ((some ⟨gX, 0, none⟩, l.length, cap) : SlQ) ++ fpX xs) w Y6 := hK6.grown hgr6 (fun g hg => .inr (hge g (mem_blkS.2 hg)))
        have hge7 : ∀ g ∈ blkS s6, w.heap.size ≤ g := fun g hg => by
          rcases hloc6 with e | e
          · exact hge g (e ▸ hg)
          · rw [e, List.mem_singleton] at hg; rw [hg]; exact hK6.size
        have HC7 : Hid (CX N Y6 (some ⟨gX, 0, none⟩, l.length, cap) (l.set i (Dx.bx ⟨qn, qv, qx, (some ⟨gm, 0, none⟩, qm.length, mcap), flJ om of qm (psZ (fun k => hasZ ou (nthD qm k).m.u) (k + 1))⟩)) (xs.set i ⟨qn, qv, qx, (some ⟨gm, 0, none⟩, qm.length, mcap), flJ om of qm (psZ (fun k => hasZ ou (nthD qm k).m.u) (k + 1))⟩)) := by
          rw [HE.out.1]
          refine ⟨hC5.1.keep fun g hg => hgr6.block g (hC5.1.lt g hg) (fun e => ?_), hC5.2⟩
          have h1 := hge g (mem_blkS.2 e.symm)
          rw [HFPE.out] at hg
          have h2 := hms0 g hg
          omega
        have HU7 : Hid (OwZ 2 Y6 s6 ((psN (fun k => hasZ ou (nthD qm k).m.u) (k + 1)).map fun k => (nthD qm k).m.u)) := by rw [Hid, HE.out.2]; exact hU6
        clear hU6 hgr6 hloc6 hC5 hU5 hK6
        go_wp2
        go_roundw
        case rel => exact ⟨k + 1, s6, by omega, by go_num, rfl, HC7.out, HU7.out, hge7, hK7⟩
        case measure => simp [intV, Go.RowKit.intOf]; omega
    · have hki : ¬ (k : Int) < (qm.length : Int) := by omega
      obtain rfl : k = qm.length := by omega
      have HE : Hid (_) := HFIN.out wr su hU hC hK hge
      clear hU hC
      go_wp2
      go_ret
      exact HE.out
end Go.Proofs.YtejbbnpgghpgaaaGreatDoor
