/- A step of a region that draws its order: what is plain of it is found by itself; no conditions beyond those that each fact names · The laws' helpers over slices of messages: their size, a copy, whether two are the same; no conditions beyond those that each fact names · Mailboxes: the laws' helpers: a mailbox's size, a copy, whether two are the same; no conditions beyond those that each fact names · The laws' helpers over slices of mailboxes: their size, a copy, whether two are the same; no conditions beyond those that each fact names. -/
import Derived.Test.YtejbbnpgghpgaaaGreatDoorProg
import Derived.OrdersHeld
import Derived.WalkKit
import Derived.Test.YtejbbnpgghpgaaaGreatDoorMsaToMsb
namespace Go.Proofs.YtejbbnpgghpgaaaGreatDoor
open Go.RowKit

/-- An operation that reads is taken. -/
theorem tk {P : Program} {md : _} {ops : Array Oper} {Q : Exit → Act → World → Prop} {S : World → Prop} {i : Nat} {oi : Oper} {v : Value} {fuel : Nat} {listed : Array Bool} {a : Act} {w : World} (hi : ops[i]? = some oi)
    (hy : YieldsIf P ops S oi v a) (h : wpAnyH P md ops Q S fuel (listed.setIfInBounds i true) (a.put oi.dst v) w)
    (hs : Region.noSelect ops = true := by kernel_rfl) (hf : Region.free md ops listed i = true := by kernel_rfl) (hr : (Region.ready md ops listed).contains i = true := by kernel_rfl)
    (hQ : ∀ c a w, Q (.panic c) (a.put oi.dst v) w → Q (.panic c) a w := by exact fun _ _ _ h => h) (hS : S w := by assumption) : wpAnyH P md ops Q S (fuel + 1) listed a w :=
  wpAnyH_take hi hs hf hr hQ hy hS h
theorem J1 {α : Type} {l : List α} {i : Nat} (h : i < l.toArray.size) : l.toArray[i] = l[i]'h := rfl
theorem J2 {α : Type} {a : α} {l : List α} (h : 0 < (a :: l).length) : (a :: l)[0]'h = a := rfl
theorem J3 {α : Type} {a : α} {l : List α} {i : Nat} (h : i + 1 < (a :: l).length) : (a :: l)[i + 1]'h = l[i]'(Nat.lt_of_succ_lt_succ h) := rfl
theorem J4 {α : Type} {l : List α} {i : Nat} {a : α} : l.toArray.setIfInBounds i a = (l.set i a).toArray := List.setIfInBounds_toArray ..
theorem J5 {α : Type} {a b : α} {l : List α} : (a :: l).set 0 b = b :: l := rfl
theorem J6 {α : Type} {a b : α} {l : List α} {n : Nat} : (a :: l).set (n + 1) b = a :: l.set n b := rfl
end Go.Proofs.YtejbbnpgghpgaaaGreatDoor

namespace Go.Proofs.YtejbbnpgghpgaaaGreatDoor
open Go.RowKit List

/-- What the laws let through. -/
def FtMs (l : List Msg) : Prop := l.length ≤ 1048576 ∧ ∀ i, i < l.length → FtM (nthM l i)

theorem infoMessage : (Tryz.prog.info? 136).map (fun i => (i.zero, i.size, i.bytes)) = some (some (.agg #[.int .i64 0, .int .i64 0, .int .i64 0, .slice none 0 0]), 4, 48) := by kernel_rfl
abbrev zMessage : Qd := (.int .i64 0, .int .i64 0, .int .i64 0, .slice none 0 0)

set_option maxHeartbeats 1600000 in
set_option maxRecDepth 100000 in
theorem eqMessageS_ft (s s' : SlQ) (l : List Msg) {lo lo' : Nat} (w : World) (hs : IsMs lo w s l) (hs' : IsMs lo' w s' l) (hf : FtMs l) :
    Calls Tryz.prog 166 #[slW s, slW s'] w fun e w' => e = .returned (.bool true) ∧ Below w.heap.size w w' := by
  obtain ⟨a, n, cap⟩ := s
  obtain ⟨c, n', cap'⟩ := s'
  obtain ⟨hl, hnc, hcm, hr⟩ := hs
  obtain ⟨hl', hnc', hcm', hr'⟩ := hs'
  obtain ⟨hn, hft⟩ := hf
  dsimp only [slW] at *
  obtain rfl : n = n' := by omega
  go_enter Tryz.func166, Tryz.ntmps166
  go_wp2
  go_loopw [5] (fun i wr => ∃ k : Nat, k ≤ n ∧ i = .int .i64 k ∧ Below w.heap.size w wr) (fun i _ => n - (intOf i).toNat)
  case atStart => exact ⟨0, Nat.zero_le _, rfl, Below.refl _ _⟩
  case round =>
    obtain ⟨k, hk, rfl, hbel⟩ := hrel
    by_cases hkn : k < n
    · obtain ⟨b, off, rfl, -, hblt, hcell⟩ := (hr.below hbel).at_ (by omega)
      obtain ⟨d, off', rfl, -, hdlt, hdell⟩ := (hr'.below hbel).at_ (by omega)
      obtain ⟨s, ⟨hc0, hc1, hc2, hc3⟩, hI⟩ := hcell k (by omega)
      obtain ⟨s', ⟨hd0, hd1, hd2, hd3⟩, hI'⟩ := hdell k (by omega)
      have hki : (k : Int) < (n : Int) := by omega
      have hF := hft k (by omega)
      clear hcell hdell hr hr' hft
      generalize nthM l k = p at *
      obtain ⟨mu, mf, md, mb⟩ := p
      dsimp only at hc0 hc1 hc2 hd0 hd1 hd2
      go_wp2_with fail
      refine wp_region_held_drew (S := fun w' => (w'.cell? ⟨b, off + k * 4, none⟩ = some (.int .i64 mu) ∧ w'.cell? ⟨b, off + k * 4 + 1, none⟩ = some (.int .i64 mf) ∧ w'.cell? ⟨b, off + k * 4 + 2, none⟩ = some (.int .i64 md) ∧ w'.cell? ⟨b, off + k * 4 + 3, none⟩ = some (slW s)) ∧ (w'.cell? ⟨d, off' + k * 4, none⟩ = some (.int .i64 mu) ∧ w'.cell? ⟨d, off' + k * 4 + 1, none⟩ = some (.int .i64 mf) ∧ w'.cell? ⟨d, off' + k * 4 + 2, none⟩ = some (.int .i64 md) ∧ w'.cell? ⟨d, off' + k * 4 + 3, none⟩ = some (slW s'))) (by kernel_rfl) ?hS1 (fun hHeld => ?_)
      case hS1 => exact ⟨⟨hc0, hc1, hc2, hc3⟩, ⟨hd0, hd1, hd2, hd3⟩⟩
      refine tk (i := 0) (v := ?_) rfl (Or.inl ⟨by rfl, ?hy0⟩) ?ty0
      case hy0 => (intro w' hSw; obtain ⟨⟨e0, e1, e2, e3⟩, ⟨d0, d1, d2, d3⟩⟩ := hSw; go_simp; all_goals with_reducible rfl)
      simp only [Act.put, J1, J2, J4, J5, J6]
      refine tk (i := 1) (v := ?_) rfl (Or.inl ⟨by rfl, ?hy1⟩) ?ty1
      case hy1 => (intro w' hSw; obtain ⟨⟨e0, e1, e2, e3⟩, ⟨d0, d1, d2, d3⟩⟩ := hSw; go_simp; all_goals with_reducible rfl)
      simp only [Act.put, J1, J2, J3, J4, J5, J6]
      refine tk (i := 2) (v := ?_) rfl (Or.inl ⟨by rfl, ?hy2⟩) ?ty2
      case hy2 => (intro w' hSw; obtain ⟨⟨e0, e1, e2, e3⟩, ⟨d0, d1, d2, d3⟩⟩ := hSw; go_simp; all_goals with_reducible rfl)
      simp only [Act.put, J1, J2, J3, J4, J5, J6]
      refine tk (i := 3) (v := ?_) rfl (Or.inl ⟨by rfl, ?hy3⟩) ?ty3
      case hy3 => (intro w' hSw; obtain ⟨⟨e0, e1, e2, e3⟩, ⟨d0, d1, d2, d3⟩⟩ := hSw; go_simp; all_goals with_reducible rfl)
      simp only [Act.put, J1, J2, J3, J4, J5, J6]
      refine tk (i := 4) (v := ?_) rfl (Or.inl ⟨by rfl, ?hy4⟩) ?ty4
      case hy4 => (intro w' hSw; obtain ⟨⟨e0, e1, e2, e3⟩, ⟨d0, d1, d2, d3⟩⟩ := hSw; go_simp; all_goals with_reducible rfl)
      simp only [Act.put, J1, J2, J3, J4, J5, J6]
      refine tk (i := 5) (v := ?_) rfl (Or.inl ⟨by rfl, ?hy5⟩) ?ty5
      case hy5 => (intro w' hSw; obtain ⟨⟨e0, e1, e2, e3⟩, ⟨d0, d1, d2, d3⟩⟩ := hSw; go_simp; all_goals with_reducible rfl)
      simp only [Act.put, J1, J2, J3, J4, J5, J6]
      refine tk (i := 6) (v := ?_) rfl (Or.inl ⟨by rfl, ?hy6⟩) ?ty6
      case hy6 => (intro w' hSw; obtain ⟨⟨e0, e1, e2, e3⟩, ⟨d0, d1, d2, d3⟩⟩ := hSw; go_simp; all_goals with_reducible rfl)
      simp only [Act.put, J1, J2, J3, J4, J5, J6]
      refine tk (i := 7) (v := ?_) rfl (Or.inl ⟨by rfl, ?hy7⟩) ?ty7
      case hy7 => (intro w' hSw; obtain ⟨⟨e0, e1, e2, e3⟩, ⟨d0, d1, d2, d3⟩⟩ := hSw; go_simp; all_goals with_reducible rfl)
      simp only [Act.put, J1, J2, J3, J4, J5, J6]
      refine wpAnyH_ready (rs := [8]) (by kernel_rfl) (by simp) ?_
      refine AllReadyH.cons rfl (fun K hK => ?_) AllReadyH.nil
      go_simp
      refine (eqMessage_ft ⟨mu, mf, md, mb⟩ s s' _ (hI.below (Below.refl _ _).drew) (hI'.below (Below.refl _ _).drew) hF).mono ?_
      rintro e w1 ⟨rfl, hbx⟩
      have HW : Hid (Below wr.heap.size wr w1) := (Below.refl _ _).drew.trans hbx
      have hsS : (w1.cell? ⟨b, off + k * 4, none⟩ = some (.int .i64 mu) ∧ w1.cell? ⟨b, off + k * 4 + 1, none⟩ = some (.int .i64 mf) ∧ w1.cell? ⟨b, off + k * 4 + 2, none⟩ = some (.int .i64 md) ∧ w1.cell? ⟨b, off + k * 4 + 3, none⟩ = some (slW s)) ∧ (w1.cell? ⟨d, off' + k * 4, none⟩ = some (.int .i64 mu) ∧ w1.cell? ⟨d, off' + k * 4 + 1, none⟩ = some (.int .i64 mf) ∧ w1.cell? ⟨d, off' + k * 4 + 2, none⟩ = some (.int .i64 md) ∧ w1.cell? ⟨d, off' + k * 4 + 3, none⟩ = some (slW s')) :=
        ⟨⟨(HW.out.cell (p := ⟨b, off + k * 4, none⟩) hblt).trans hc0, (HW.out.cell (p := ⟨b, off + k * 4 + 1, none⟩) hblt).trans hc1, (HW.out.cell (p := ⟨b, off + k * 4 + 2, none⟩) hblt).trans hc2, (HW.out.cell (p := ⟨b, off + k * 4 + 3, none⟩) hblt).trans hc3⟩, ⟨(HW.out.cell (p := ⟨d, off' + k * 4, none⟩) hdlt).trans hd0, (HW.out.cell (p := ⟨d, off' + k * 4 + 1, none⟩) hdlt).trans hd1, (HW.out.cell (p := ⟨d, off' + k * 4 + 2, none⟩) hdlt).trans hd2, (HW.out.cell (p := ⟨d, off' + k * 4 + 3, none⟩) hdlt).trans hd3⟩⟩
      refine hK.out _ _ hsS (fun hHeld => ?_)
      clear hK K
      refine tk (i := 9) (v := ?_) rfl (Or.inl ⟨by rfl, ?hy10⟩) ?ty10
      case hy10 => (intro w' hSw; go_simp; all_goals with_reducible rfl)
      simp only [Act.put, J1, J2, J3, J4, J5, J6]
      refine wpAnyH_done (by kernel_rfl) ?_ _
      have hbel2 := hbel.trans (HW.out.mono hbel.size)
      clear hHeld hsS hbx HW
      go_wp2
      go_roundw
      case rel => exact ⟨k + 1, by omega, by go_num, hbel2⟩
      case measure => simp [intOf]; omega
    · have hki : ¬ (k : Int) < (n : Int) := by omega
      go_wp2
      go_ret
      exact ⟨rfl, hbel⟩
end Go.Proofs.YtejbbnpgghpgaaaGreatDoor

namespace Go.Proofs.YtejbbnpgghpgaaaGreatDoor
open Go.RowKit

/-- What the laws let through. -/
def FtX (m : Bx) : Prop := m.n.size ≤ 1048576 ∧ FtMs m.m
def OkX (m : Bx) : Prop := m.n.size ≤ maxLen

set_option maxHeartbeats 1600000 in
set_option maxRecDepth 100000 in
theorem eqBox_ft (m : Bx) (s s' : SlQ) {lo lo' : Nat} (w : World) (hs : IsMs lo w s m.m) (hs' : IsMs lo' w s' m.m) (hf : FtX m) :
    Calls Tryz.prog 127 #[bxX m s, bxX m s'] w fun e w' => e = .returned (.bool true) ∧ Below w.heap.size w w' := by
  have hbW : Below w.heap.size w (((w.alloc (.cells #[.string m.n, .int .i64 m.v, .int .i64 m.x, slW s] 128)).alloc (.cells #[.string m.n, .int .i64 m.v, .int .i64 m.x, slW s'] 128))) :=
    ((Below.refl _ _).alloc (Nat.le_refl _) _).alloc (by simp) _
  have HC := eqMessageS_ft s s' m.m _ (hs.below hbW) (hs'.below hbW) hf.2
  go_enter Tryz.func127, Tryz.ntmps127
  go_wp2_with fail
  refine HC.mono ?_
  rintro e w1 ⟨rfl, hb1⟩
  have hbw := hbW.trans (hb1.mono hbW.size)
  clear HC hb1 hbW
  go_wp2
  go_ret
  exact ⟨rfl, hbw⟩
end Go.Proofs.YtejbbnpgghpgaaaGreatDoor

namespace Go.Proofs.YtejbbnpgghpgaaaGreatDoor
open Go.RowKit List

/-- What the laws let through. -/
def FtXs (l : List Bx) : Prop := l.length ≤ 1048576 ∧ ∀ i, i < l.length → FtX (nthX l i)

theorem infoBox : (Tryz.prog.info? 128).map (fun i => (i.zero, i.size, i.bytes)) = some (some (.agg #[.string ByteArray.empty, .int .i64 0, .int .i64 0, .slice none 0 0]), 4, 56) := by kernel_rfl
abbrev zBox : Qd := (.string ByteArray.empty, .int .i64 0, .int .i64 0, .slice none 0 0)

set_option maxHeartbeats 1600000 in
set_option maxRecDepth 100000 in
theorem eqBoxS_ft (s s' : SlQ) (l : List Bx) {lo lo' : Nat} (w : World) (hs : IsXs lo w s l) (hs' : IsXs lo' w s' l) (hf : FtXs l) :
    Calls Tryz.prog 67 #[slW s, slW s'] w fun e w' => e = .returned (.bool true) ∧ Below w.heap.size w w' := by
  obtain ⟨a, n, cap⟩ := s
  obtain ⟨c, n', cap'⟩ := s'
  obtain ⟨hl, hnc, hcm, hr⟩ := hs
  obtain ⟨hl', hnc', hcm', hr'⟩ := hs'
  obtain ⟨hn, hft⟩ := hf
  dsimp only [slW] at *
  obtain rfl : n = n' := by omega
  go_enter Tryz.func67, Tryz.ntmps67
  go_wp2
  go_loopw [5] (fun i wr => ∃ k : Nat, k ≤ n ∧ i = .int .i64 k ∧ Below w.heap.size w wr) (fun i _ => n - (intOf i).toNat)
  case atStart => exact ⟨0, Nat.zero_le _, rfl, Below.refl _ _⟩
  case round =>
    obtain ⟨k, hk, rfl, hbel⟩ := hrel
    by_cases hkn : k < n
    · obtain ⟨b, off, rfl, -, hblt, hcell⟩ := (hr.below hbel).at_ (by omega)
      obtain ⟨d, off', rfl, -, hdlt, hdell⟩ := (hr'.below hbel).at_ (by omega)
      obtain ⟨s, ⟨hc0, hc1, hc2, hc3⟩, hI⟩ := hcell k (by omega)
      obtain ⟨s', ⟨hd0, hd1, hd2, hd3⟩, hI'⟩ := hdell k (by omega)
      have hki : (k : Int) < (n : Int) := by omega
      have hF := hft k (by omega)
      clear hcell hdell hr hr' hft
      generalize nthX l k = p at *
      obtain ⟨n0, v0, x0, m0⟩ := p
      dsimp only at hc0 hc1 hc2 hd0 hd1 hd2
      go_wp2_with fail
      refine wp_region_held_drew (S := fun w' => (w'.cell? ⟨b, off + k * 4, none⟩ = some (.string n0) ∧ w'.cell? ⟨b, off + k * 4 + 1, none⟩ = some (.int .i64 v0) ∧ w'.cell? ⟨b, off + k * 4 + 2, none⟩ = some (.int .i64 x0) ∧ w'.cell? ⟨b, off + k * 4 + 3, none⟩ = some (slW s)) ∧ (w'.cell? ⟨d, off' + k * 4, none⟩ = some (.string n0) ∧ w'.cell? ⟨d, off' + k * 4 + 1, none⟩ = some (.int .i64 v0) ∧ w'.cell? ⟨d, off' + k * 4 + 2, none⟩ = some (.int .i64 x0) ∧ w'.cell? ⟨d, off' + k * 4 + 3, none⟩ = some (slW s'))) (by kernel_rfl) ?hS1 (fun hHeld => ?_)
      case hS1 => exact ⟨⟨hc0, hc1, hc2, hc3⟩, ⟨hd0, hd1, hd2, hd3⟩⟩
      refine tk (i := 0) (v := ?_) rfl (Or.inl ⟨by rfl, ?hy0⟩) ?ty0
      case hy0 => (intro w' hSw; obtain ⟨⟨e0, e1, e2, e3⟩, ⟨d0, d1, d2, d3⟩⟩ := hSw; go_simp; all_goals with_reducible rfl)
      simp only [Act.put, J1, J2, J4, J5, J6]
      refine tk (i := 1) (v := ?_) rfl (Or.inl ⟨by rfl, ?hy1⟩) ?ty1
      case hy1 => (intro w' hSw; obtain ⟨⟨e0, e1, e2, e3⟩, ⟨d0, d1, d2, d3⟩⟩ := hSw; go_simp; all_goals with_reducible rfl)
      simp only [Act.put, J1, J2, J3, J4, J5, J6]
      refine tk (i := 2) (v := ?_) rfl (Or.inl ⟨by rfl, ?hy2⟩) ?ty2
      case hy2 => (intro w' hSw; obtain ⟨⟨e0, e1, e2, e3⟩, ⟨d0, d1, d2, d3⟩⟩ := hSw; go_simp; all_goals with_reducible rfl)
      simp only [Act.put, J1, J2, J3, J4, J5, J6]
      refine tk (i := 3) (v := ?_) rfl (Or.inl ⟨by rfl, ?hy3⟩) ?ty3
      case hy3 => (intro w' hSw; obtain ⟨⟨e0, e1, e2, e3⟩, ⟨d0, d1, d2, d3⟩⟩ := hSw; go_simp; all_goals with_reducible rfl)
      simp only [Act.put, J1, J2, J3, J4, J5, J6]
      refine tk (i := 4) (v := ?_) rfl (Or.inl ⟨by rfl, ?hy4⟩) ?ty4
      case hy4 => (intro w' hSw; obtain ⟨⟨e0, e1, e2, e3⟩, ⟨d0, d1, d2, d3⟩⟩ := hSw; go_simp; all_goals with_reducible rfl)
      simp only [Act.put, J1, J2, J3, J4, J5, J6]
      refine tk (i := 5) (v := ?_) rfl (Or.inl ⟨by rfl, ?hy5⟩) ?ty5
      case hy5 => (intro w' hSw; obtain ⟨⟨e0, e1, e2, e3⟩, ⟨d0, d1, d2, d3⟩⟩ := hSw; go_simp; all_goals with_reducible rfl)
      simp only [Act.put, J1, J2, J3, J4, J5, J6]
      refine tk (i := 6) (v := ?_) rfl (Or.inl ⟨by rfl, ?hy6⟩) ?ty6
      case hy6 => (intro w' hSw; obtain ⟨⟨e0, e1, e2, e3⟩, ⟨d0, d1, d2, d3⟩⟩ := hSw; go_simp; all_goals with_reducible rfl)
      simp only [Act.put, J1, J2, J3, J4, J5, J6]
      refine tk (i := 7) (v := ?_) rfl (Or.inl ⟨by rfl, ?hy7⟩) ?ty7
      case hy7 => (intro w' hSw; obtain ⟨⟨e0, e1, e2, e3⟩, ⟨d0, d1, d2, d3⟩⟩ := hSw; go_simp; all_goals with_reducible rfl)
      simp only [Act.put, J1, J2, J3, J4, J5, J6]
      refine wpAnyH_ready (rs := [8]) (by kernel_rfl) (by simp) ?_
      refine AllReadyH.cons rfl (fun K hK => ?_) AllReadyH.nil
      go_simp
      refine (eqBox_ft ⟨n0, v0, x0, m0⟩ s s' _ (hI.below (Below.refl _ _).drew) (hI'.below (Below.refl _ _).drew) hF).mono ?_
      rintro e w1 ⟨rfl, hbx⟩
      have HW : Hid (Below wr.heap.size wr w1) := (Below.refl _ _).drew.trans hbx
      have hsS : (w1.cell? ⟨b, off + k * 4, none⟩ = some (.string n0) ∧ w1.cell? ⟨b, off + k * 4 + 1, none⟩ = some (.int .i64 v0) ∧ w1.cell? ⟨b, off + k * 4 + 2, none⟩ = some (.int .i64 x0) ∧ w1.cell? ⟨b, off + k * 4 + 3, none⟩ = some (slW s)) ∧ (w1.cell? ⟨d, off' + k * 4, none⟩ = some (.string n0) ∧ w1.cell? ⟨d, off' + k * 4 + 1, none⟩ = some (.int .i64 v0) ∧ w1.cell? ⟨d, off' + k * 4 + 2, none⟩ = some (.int .i64 x0) ∧ w1.cell? ⟨d, off' + k * 4 + 3, none⟩ = some (slW s')) :=
        ⟨⟨(HW.out.cell (p := ⟨b, off + k * 4, none⟩) hblt).trans hc0, (HW.out.cell (p := ⟨b, off + k * 4 + 1, none⟩) hblt).trans hc1, (HW.out.cell (p := ⟨b, off + k * 4 + 2, none⟩) hblt).trans hc2, (HW.out.cell (p := ⟨b, off + k * 4 + 3, none⟩) hblt).trans hc3⟩, ⟨(HW.out.cell (p := ⟨d, off' + k * 4, none⟩) hdlt).trans hd0, (HW.out.cell (p := ⟨d, off' + k * 4 + 1, none⟩) hdlt).trans hd1, (HW.out.cell (p := ⟨d, off' + k * 4 + 2, none⟩) hdlt).trans hd2, (HW.out.cell (p := ⟨d, off' + k * 4 + 3, none⟩) hdlt).trans hd3⟩⟩
      refine hK.out _ _ hsS (fun hHeld => ?_)
      clear hK K
      refine tk (i := 9) (v := ?_) rfl (Or.inl ⟨by rfl, ?hy10⟩) ?ty10
      case hy10 => (intro w' hSw; go_simp; all_goals with_reducible rfl)
      simp only [Act.put, J1, J2, J3, J4, J5, J6]
      refine wpAnyH_done (by kernel_rfl) ?_ _
      have hbel2 := hbel.trans (HW.out.mono hbel.size)
      clear hHeld hsS hbx HW
      go_wp2
      go_roundw
      case rel => exact ⟨k + 1, by omega, by go_num, hbel2⟩
      case measure => simp [intOf]; omega
    · have hki : ¬ (k : Int) < (n : Int) := by omega
      go_wp2
      go_ret
      exact ⟨rfl, hbel⟩
end Go.Proofs.YtejbbnpgghpgaaaGreatDoor
