/- The fault of a store: the model; a mailbox by its name, on both sides; no conditions beyond those that each fact names · What is done to a shelf: a mailbox made, erased, a message added; no conditions beyond those that each fact names. -/
import Derived.Test.YtejbbnpgghpgaaaGreatDoorStd
import Derived.Test.YtejbbnpgghpgaaaGreatDoorWiw
import Derived.Test.YtejbbnpgghpgaaaGreatDoorOpo
import Derived.Test.YtejbbnpgghpgaaaGreatDoorMsbToBxs
namespace Go.Proofs.YtejbbnpgghpgaaaGreatDoor
open Go.RowKit
def nmX (l : List Bx) (nm : ByteArray) (k : Nat) : Bool := decide ((nthX l k).n = nm)
set_option maxHeartbeats 800000 in
set_option maxRecDepth 100000 in
theorem isNamed_any (U : Nat) (nm : ByteArray) (m : Bx) (q : SlQ) (w : World) (hU : w.cell? ⟨U, 0, none⟩ = some (.string nm)) :
    Calls Tryz.prog 158 #[bxX m q, .pointer (some ⟨U, 0, none⟩)] w fun e w' => e = .returned (.bool (decide (m.n = nm))) ∧ Below w.heap.size w w' := by
  have hb0 : Below w.heap.size w (w.alloc (.cells #[.string m.n, .int .i64 m.v, .int .i64 m.x, slW q] 128)) := (Below.refl _ _).alloc (Nat.le_refl _) _
  have hU' := (hb0.cell (World.block_lt_of_cell? w _ hU)).trans hU
  obtain ⟨mn, mv, mx, mm⟩ := m
  dsimp only at *
  by_cases h : mn = nm
  · have HM : Hid (decide (mn = nm) = true) := decide_eq_true h
    generalize decide (mn = nm) = r at *
    subst h
    go_enter Tryz.func158, Tryz.ntmps158
    go_wp2
    go_ret
    rw [HM.out]
    exact ⟨rfl, hb0⟩
  · have HM : Hid (decide (mn = nm) = false) := decide_eq_false h
    have hl' : (mn.toList == nm.toList) = false := by simpa using toList_ne h
    generalize decide (mn = nm) = r at *
    go_enter Tryz.func158, Tryz.ntmps158
    go_wp2
    go_ret
    rw [HM.out]
    exact ⟨rfl, hb0⟩
set_option maxHeartbeats 800000 in
set_option maxRecDepth 100000 in
theorem placeOf_any (s : SlQ) (l : List Bx) (nm : ByteArray) {lo : Nat} (w : World) (hs : IsXs lo w s l) :
    Calls Tryz.prog 125 #[slW s, .string nm] w fun e w' => e = .returned (.int .i64 (ixG l.length (nmX l nm))) ∧ Below w.heap.size w w' := by
  have hb0 : Below w.heap.size w (w.alloc (.cells #[.string nm] 9)) := (Below.refl _ _).alloc (Nat.le_refl _) _
  have hU : (w.alloc (.cells #[.string nm] 9)).cell? ⟨w.heap.size, 0, none⟩ = some (.string nm) := by simp
  have hUl : w.heap.size < (w.alloc (.cells #[.string nm] 9)).heap.size := by simp
  have HC := indexBox_any 158 (.pointer (some ⟨w.heap.size, 0, none⟩)) s l (nmX l nm) _ (hs.below hb0) (fun _ _ => by kernel_rfl) (fun k _ q w' hb' => isNamed_any w.heap.size nm (nthX l k) q w' ((hb'.cell (p := ⟨w.heap.size, 0, none⟩) hUl).trans hU))
  generalize ixG l.length (nmX l nm) = r at *
  go_enter Tryz.func125, Tryz.ntmps125
  go_wp2_with fail
  refine HC.mono ?_
  rintro e w1 ⟨rfl, hb1⟩
  have hbw := hb0.trans (hb1.mono hb0.size)
  clear HC hb0 hb1
  go_wp2
  go_ret
  exact ⟨rfl, hbw⟩
set_option maxHeartbeats 1600000 in
set_option maxRecDepth 100000 in
theorem l7At_any (v : Int) (l : List Bx) (s : SlQ) (nm : ByteArray) (g0 : Nat) {lo : Nat} (w : World) (hs : IsXs lo w s l) (hD : Dc w g0 (.int .i64 v, slW s)) :
    Calls Tryz.prog 114 #[.pointer (some ⟨g0, 0, none⟩), .string nm] w fun e w' => e = .returned (.int .i64 (ixG l.length (nmX l nm))) ∧ Below w.heap.size w w' := by
  obtain ⟨a, n, cap⟩ := s
  obtain ⟨hl, hnc, hcm, hr⟩ := hs
  dsimp only [slW] at *
  unfold maxLen at hcm
  rw [hl]
  go_enter Tryz.func114, Tryz.ntmps114
  go_wp2
  go_loopw [5] (fun i wr => ∃ k : Nat, k ≤ n ∧ i = .int .i64 k ∧ (∀ j, j < k → nmX l nm j = false) ∧ Below w.heap.size w wr) (fun i _ => n - (intOf i).toNat)
  case atStart => exact ⟨0, Nat.zero_le _, rfl, fun j hj => absurd hj (Nat.not_lt_zero _), Below.refl _ _⟩
  case round =>
    obtain ⟨k, hk, rfl, hall, hbel⟩ := hrel
    obtain ⟨d0, d1⟩ := hD.below hbel hD.lt
    dsimp only at d0 d1
    by_cases hkn : k < n
    · have hki : (k : Int) < (n : Int) := by omega
      obtain ⟨g, off, rfl, -, hglt, hcell⟩ := (hr.below hbel).at_ (by omega)
      obtain ⟨q, ⟨c0, -, -, -⟩, -⟩ := hcell k (by omega)
      have HY : Hid ((nthX l k).n = nm → ixG n (nmX l nm) = (k : Int)) := fun h => ixG_at hkn (decide_eq_true h) hall
      have HN : Hid ((nthX l k).n ≠ nm → ∀ j, j < k + 1 → nmX l nm j = false) := fun h j hj => by
        rcases Nat.lt_or_ge j k with h' | h'
        · exact hall j h'
        · obtain rfl : j = k := by omega
          exact decide_eq_false h
      clear hall hcell
      generalize (nthX l k).n = yn at *
      by_cases h : yn = nm
      · have HM : Hid (ixG n (nmX l nm) = (k : Int)) := HY.out h
        clear HY HN
        subst h
        go_wp2
        go_ret
        rw [HM.out]
        exact ⟨rfl, hbel⟩
      · have HM : Hid (_) := HN.out h
        have h' : (yn.toList == nm.toList) = false := by simpa using toList_ne h
        clear HY HN
        go_wp2
        go_roundw
        case rel => exact ⟨k + 1, by omega, by go_num, HM.out, hbel⟩
        case measure => simp [intOf]; omega
    · have hki : ¬ (k : Int) < (n : Int) := by omega
      have HM : Hid (ixG n (nmX l nm) = -1) := ixG_no (fun i hi => hall i (by omega))
      clear hall
      go_wp2
      go_ret
      rw [HM.out]
      exact ⟨rfl, hbel⟩
end Go.Proofs.YtejbbnpgghpgaaaGreatDoor
namespace Go.Proofs.YtejbbnpgghpgaaaGreatDoor
open Go.RowKit List
set_option linter.unusedVariables false
def GdB (b : Bx) : Prop := (1 ≤ b.x ∧ b.x ≤ 1000) ∧ b.m.length ≤ 6 ∧ ∀ m ∈ b.m, (0 ≤ m.f ∧ m.f ≤ 15) ∧ m.b.length ≤ 400
def GdS (v : Int) (l : List Bx) : Prop := (1 ≤ v ∧ v ≤ 1000) ∧ l.length ≤ 3 ∧ ∀ b ∈ l, GdB b
abbrev Rs := Int × List Int × Int × List Bx
def badR (c : Int) : Rs := (c, [], 0, [])
def DeEnd (N gs : Nat) (r : Rs) (w : World) (e : Ending) (w' : World) : Prop :=
  (r.1 ≠ 0 ∧ e = .returned (.tuple #[.slice none 0 0, .int .i64 r.1]) ∧ Below N w w') ∨
  (r.1 = 0 ∧ ∃ su s xs, e = .returned (.tuple #[slW su, .int .i64 0]) ∧ OwZ 2 w' su r.2.1 ∧ Sh N w' gs r.2.2.1 r.2.2.2 s xs ∧ (∀ g ∈ blkS su, N ≤ g ∧ g ≠ gs ∧ g ∉ blkS s ++ fpX xs) ∧ Below N w w')
theorem nthX_mem {l : List Bx} {i : Nat} (h : i < l.length) : nthX l i ∈ l := by rw [nthX_get h]; exact List.getElem_mem h
theorem Sh.len {N g : Nat} {w : World} {v : Int} {l : List Bx} {s : SlQ} {xs : List Dx} (h : Sh N w g v l s xs) : ∃ a cap, s = (a, l.length, cap) ∧ xs.length = l.length ∧ l.length ≤ cap ∧ cap ≤ maxLen ∧ (a = none ∧ l = [] ∨ ∃ g, a = some ⟨g, 0, none⟩) := h.2.1.form
def mkR (v : Int) (l : List Bx) (nm : ByteArray) (pl : Int) : Rs := if 0 ≤ pl then badR 6 else if 3 ≤ l.length ∨ 999 < v then badR 10 else (0, [], v + 1, l ++ [⟨nm, v, 1, []⟩])
theorem Sh.made {N g : Nat} {w w1 : World} {v : Int} {l : List Bx} {sl s' : SlQ} {xs : List Dx} (h : Sh N w g v l sl xs) (nm : ByteArray)
    (hrow : w1.ownsRow 0 128 4 (slW s') (xs.map Dx.q ++ [(⟨nm, v, 1, (none, 0, 0), []⟩ : Dx).q]).length (qc (xs.map Dx.q ++ [(⟨nm, v, 1, (none, 0, 0), []⟩ : Dx).q]))) (hg : w.grownBy w1 (slW sl).ownBlock) (hloc : blkS s' = blkS sl ∨ blkS s' = [w.heap.size]) :
    Sh N (w1.setCell ⟨g, 1, none⟩ (slW s')) g v (l ++ [⟨nm, v, 1, []⟩]) s' (xs ++ [⟨nm, v, 1, (none, 0, 0), []⟩]) :=
  h.push (d := ⟨nm, v, 1, (none, 0, 0), []⟩) (CM.nil N w).1 (by simp [fpD, blkS, fpM]) (fun k hk => by simp [fpD, blkS, fpM] at hk) hrow hg hloc
theorem Sh.val {N g : Nat} {w : World} {v : Int} {l : List Bx} {s : SlQ} {xs : List Dx} (h : Sh N w g v l s xs) (v' : Int) : Sh N (w.setCell ⟨g, 0, none⟩ (.int .i64 v')) g v' l s xs :=
  ⟨h.1.set0 (.int .i64 v'), h.2.1.far g 0 _ h.2.2.1, h.2.2⟩
set_option maxHeartbeats 3200000 in
set_option maxRecDepth 100000 in
theorem makeBox_any (N gs : Nat) (v : Int) (l : List Bx) (s : SlQ) (xs : List Dx) (o : OpR) (p : SlO) (pl : Int) (w : World) (hS : Sh N w gs v l s xs) (hG : GdS v l) (hN : N ≤ w.heap.size) :
    Calls Tryz.prog 159 #[.pointer (some ⟨gs, 0, none⟩), opX o p, .int .i64 pl] w fun e w' => DeEnd N gs (mkR v l o.x pl) w e w' := by
  obtain ⟨ok, ox, ot, ou, om, of, od, ob⟩ := o
  have hb0 : Below w.heap.size w (w.alloc (.cells #[.int .i64 ok, .string ox, .string ot, slW p.1, .int .i64 om, .int .i64 of, .int .i64 od, slW p.2] 38)) := (Below.refl _ _).alloc (Nat.le_refl _) _
  have hQ0 := Qo.new w (.int .i64 ok) (.string ox) (.string ot) (slW p.1) (.int .i64 om) (.int .i64 of) (.int .i64 od) (slW p.2) 38
  have hS0 := hS.below hb0 (Nat.le_refl _)
  have hbN : Below N w (w.alloc (.cells #[.int .i64 ok, .string ox, .string ot, slW p.1, .int .i64 om, .int .i64 of, .int .i64 od, slW p.2] 38)) := hb0.mono hN
  obtain ⟨a, cap, rfl, hxl, hlc, hcm, -⟩ := hS.len
  obtain ⟨⟨hv1, hv2⟩, hl3, -⟩ := hG
  have hS' := hS
  obtain ⟨d0, d1⟩ := id hS0.1.1
  have hgl := hS.1.lt
  unfold maxLen at hcm
  dsimp only [slW] at d0 d1
  dsimp only [opX]
  by_cases h1 : 0 ≤ pl
  · have HV : Hid (mkR v l ox pl = badR 6) := if_pos h1
    go_enter Tryz.func159, Tryz.ntmps159
    go_wp2
    go_ret2
    rw [HV.out]
    exact .inl ⟨by decide, rfl, hbN⟩
  · by_cases h2 : 3 ≤ l.length
    · have h2' : (3 : Int) ≤ (l.length : Int) := by omega
      have HV : Hid (mkR v l ox pl = badR 10) := (if_neg h1).trans (if_pos (.inl h2))
      go_enter Tryz.func159, Tryz.ntmps159
      go_wp2
      go_ret2
      rw [HV.out]
      exact .inl ⟨by decide, rfl, hbN⟩
    · have h2' : ¬ (3 : Int) ≤ (l.length : Int) := by omega
      by_cases h3 : 999 < v
      · have HV : Hid (mkR v l ox pl = badR 10) := (if_neg h1).trans (if_pos (.inr h3))
        go_enter Tryz.func159, Tryz.ntmps159
        go_wp2
        go_ret2
        rw [HV.out]
        exact .inl ⟨by decide, rfl, hbN⟩
      · have HV : Hid (mkR v l ox pl = (0, [], v + 1, l ++ [⟨ox, v, 1, []⟩])) := (if_neg h1).trans (if_neg (fun h => h.elim h2 h3))
        go_enter Tryz.func159, Tryz.ntmps159
        go_wp2_with fail
        generalize w.alloc (.cells #[.int .i64 ok, .string ox, .string ot, slW p.1, .int .i64 om, .int .i64 of, .int .i64 od, slW p.2] 38) = W at *
        have hb1 : Below W.heap.size W W.drew := (Below.refl _ _).drew
        have hQ := hQ0.below hb1 hQ0.lt
        have hS := hS0.below hb1 (Nat.le_refl _)
        have hbN := hbN.trans (hb1.mono (Nat.le_trans hN hb0.size))
        have hzN : N ≤ W.drew.heap.size := Nat.le_trans hN (Nat.le_trans hb0.size hb1.size)
        have hlt : ∀ g ∈ blkS ((a, l.length, cap) : SlQ), g < w.heap.size := fun g hg => hS'.2.1.1.lt g (List.mem_append_left _ hg)
        clear hQ0 hS0 hb0 hb1 d0 d1
        refine wp_region_held_drew (S := fun w' => w'.cell? ⟨w.heap.size, 1, none⟩ = some (.string ox) ∧ w'.cell? ⟨gs, 0, none⟩ = some (.int .i64 v)) (by kernel_rfl) ?hS1 (fun hHeld => ?_)
        case hS1 => exact ⟨hQ.2.1, hS.1.1.1⟩
        refine tk (i := 0) (v := ?_) rfl (Or.inl ⟨by rfl, ?hy2⟩) ?ty2
        case hy2 => (intro w5 hSw; obtain ⟨p0, p1⟩ := hSw; go_simp; all_goals with_reducible rfl)
        simp only [Act.put, J1, J2, J4, J5, J6]
        refine tk (i := 1) (v := ?_) rfl (Or.inl ⟨by rfl, ?hy3⟩) ?ty3
        case hy3 => (intro w5 hSw; obtain ⟨p0, p1⟩ := hSw; go_simp; all_goals with_reducible rfl)
        simp only [Act.put, J1, J2, J3, J4, J5, J6]
        refine tk (i := 2) (v := ?_) rfl (Or.inl ⟨by rfl, ?hy4⟩) ?ty4
        case hy4 => (intro w5 hSw; obtain ⟨p0, p1⟩ := hSw; go_simp; all_goals with_reducible rfl)
        simp only [Act.put, J1, J2, J3, J4, J5, J6]
        refine tk (i := 3) (v := ?_) rfl (Or.inl ⟨by rfl, ?hy5⟩) ?ty5
        case hy5 => (intro w5 hSw; obtain ⟨p0, p1⟩ := hSw; go_simp; all_goals with_reducible rfl)
        simp only [Act.put, J1, J2, J3, J4, J5, J6]
        refine tk (i := 5) (v := ?_) rfl (Or.inl ⟨by rfl, ?hy6⟩) ?ty6
        case hy6 => (intro w5 hSw; obtain ⟨p0, p1⟩ := hSw; go_simp; all_goals with_reducible rfl)
        simp only [Act.put, J1, J2, J3, J4, J5, J6]
        refine tk (i := 6) (v := ?_) rfl (Or.inl ⟨by rfl, ?hy7⟩) ?ty7
        case hy7 => (intro w5 hSw; obtain ⟨p0, p1⟩ := hSw; go_simp; all_goals with_reducible rfl)
        simp only [Act.put, J1, J2, J3, J4, J5, J6]
        refine tk (i := 7) (v := ?_) rfl (Or.inl ⟨by rfl, ?hy8⟩) ?ty8
        case hy8 => (intro w5 hSw; obtain ⟨p0, p1⟩ := hSw; go_simp; all_goals with_reducible rfl)
        simp only [Act.put, J1, J2, J3, J4, J5, J6]
        refine tk (i := 8) (v := ?_) rfl (Or.inl ⟨by rfl, ?hy9⟩) ?ty9
        case hy9 => (intro w5 hSw; obtain ⟨p0, p1⟩ := hSw; go_simp; all_goals with_reducible rfl)
        simp only [Act.put, J1, J2, J3, J4, J5, J6]
        refine tk (i := 9) (v := ?_) rfl (Or.inl ⟨by rfl, ?hy10⟩) ?ty10
        case hy10 => (intro w5 hSw; obtain ⟨p0, p1⟩ := hSw; go_simp; all_goals with_reducible rfl)
        simp only [Act.put, J1, J2, J3, J4, J5, J6]
        refine tk (i := 10) (v := ?_) rfl (Or.inl ⟨by rfl, ?hy11⟩) ?ty11
        case hy11 => (intro w5 hSw; obtain ⟨p0, p1⟩ := hSw; go_simp; all_goals with_reducible rfl)
        simp only [Act.put, J1, J2, J3, J4, J5, J6]
        refine tk (i := 11) (v := ?_) rfl (Or.inl ⟨by rfl, ?hy12⟩) ?ty12
        case hy12 => (intro w5 hSw; obtain ⟨p0, p1⟩ := hSw; go_simp; all_goals with_reducible rfl)
        simp only [Act.put, J1, J2, J3, J4, J5, J6]
        generalize World.drew W = Y0 at *
        refine wpAnyH_ready (rs := [4, 12]) (by kernel_rfl) (by simp) ?_
        refine AllReadyH.cons rfl (fun K hK => ?_) (AllReadyH.cons rfl (fun K hK => ?_) AllReadyH.nil)
        · have cL := hS.1.1.2
          dsimp only [slW] at cL
          go_simp
          refine hK.out _ _ ⟨hQ.2.1, hS.1.1.1⟩ (fun hHeld => ?_)
          clear hK K
          refine wpAnyH_ready (rs := [12]) (by kernel_rfl) (by simp) ?_
          refine AllReadyH.cons rfl (fun K hK => ?_) AllReadyH.nil
          have hb3 : Below Y0.heap.size Y0 (Y0.alloc (.cells #[.string ox, .int .i64 v, .int .i64 1, .slice none 0 0] 128)) := (Below.refl _ _).alloc (Nat.le_refl _) _
          have hQ3 := Qc.new Y0 (.string ox) (.int .i64 v) (.int .i64 1) (.slice none 0 0) 128
          have hq3 := hQ.below hb3 hQ.lt
          have hS3 := hS.below hb3 (Nat.le_refl _)
          have hbN3 := hbN.trans (hb3.mono hzN)
          have hzN3 := Nat.le_trans hzN hb3.size
          go_simp
          generalize World.alloc Y0 (.cells #[.string ox, .int .i64 v, .int .i64 1, .slice none 0 0] 128) = Y3 at *
          refine hK.out _ _ ⟨hq3.2.1, hS3.1.1.1⟩ (fun hHeld => ?_)
          clear hK K
          clear hQ hS hbN hb3
          refine wpAnyH_ready (rs := [13]) (by kernel_rfl) (by simp) ?_
          refine AllReadyH.cons rfl (fun K hK => ?_) AllReadyH.nil
          refine step4 rfl _ _ 141 128 rfl _ 56 rfl (by decide) Tryz.underlying141 infoBox (a, l.length, cap) (xs.map Dx.q) (by rfl) (by rw [List.length_map]; exact hS3.2.1.1.1) Y0.heap.size (Dx.q ⟨ox, v, 1, (none, 0, 0), []⟩) (by rfl) hQ3 (Dx.one _) (by rw [List.length_map, hxl]; omega) ?_
          intro s2 Y4 hrow hgr hloc
          have hgs : some gs ≠ (slW ((a, l.length, cap) : SlQ)).ownBlock := fun e => hS3.2.2.1 (List.mem_append_left _ (mem_blkS.2 e.symm))
          have hD4 := hS3.1.grown hgr hgs
          have hq4 : Y4.cell? ⟨w.heap.size, 1, none⟩ = some (.string ox) := hgr.cell hq3.2.1 (fun e => by have h1 := hS3.2.1.1.1.lt _ e.symm; have h2 := hlt _ (mem_blkS.2 e.symm); exact absurd h2 (Nat.lt_irrefl _))
          have hbN4 : Below N w Y4 := hbN3.grown hgr (Nat.le_trans hN hbN3.size) (fun g hg => hS3.2.1.2.2.2 g (List.mem_append_left _ (mem_blkS.2 hg)))
          refine hK.out _ _ ⟨hq4, hD4.1.1⟩ (fun hHeld => ?_)
          clear hK K
          refine tk (i := 14) (v := ?_) rfl (Or.inl ⟨by rfl, ?hy13⟩) ?ty13
          case hy13 => (intro w5 hSw; obtain ⟨p0, p1⟩ := hSw; go_simp; all_goals with_reducible rfl)
          simp only [Act.put, J1, J2, J3, J4, J5, J6]
          refine tk (i := 15) (v := ?_) rfl (Or.inl ⟨by rfl, ?hy14⟩) ?ty14
          case hy14 => (intro w5 hSw; obtain ⟨p0, p1⟩ := hSw; go_simp; all_goals with_reducible rfl)
          simp only [Act.put, J1, J2, J3, J4, J5, J6]
          have fz1 := hD4.2 1
          have cS := hD4.1.2
          dsimp only [slW] at cS
          refine wpAnyH_ready (rs := [16]) (by kernel_rfl) (by simp) ?_
          refine AllReadyH.cons rfl (fun K hK => ?_) AllReadyH.nil
          have hS5 := hS3.made ox hrow hgr hloc
          have hbN5 := below_put hbN4 gs 1 (slW s2) hS3.2.2.2
          have hq5 : (Y4.setCell ⟨gs, 1, none⟩ (slW s2)).cell? ⟨w.heap.size, 1, none⟩ = some (.string ox) := (World.cell?_setCell_other _ _ _ _ (fun e => by injection e with e; omega)).trans hq4
          go_simp
          generalize World.setCell Y4 ⟨gs, 1, none⟩ (slW s2) = Y5 at *
          refine hK.out _ _ ⟨hq5, hS5.1.1.1⟩ (fun hHeld => ?_)
          clear hK K
          refine wpAnyH_done (by kernel_rfl) ?_ _
          clear hHeld fz1 cS hD4 hq4 hbN4 hrow hgr hloc hS3 hq3
          have fz0 := hS5.1.2 0
          have c0 := hS5.1.1.1
          dsimp only at c0
          have HS6 : Hid (_) := hS5.val (v + 1)
          have HB6 : Hid (_) := below_put hbN5 gs 0 (.int .i64 (v + 1)) hS5.2.2.2
          clear hS5 hbN5 hq5
          go_wp2
          go_ret2
          rw [HV.out]
          exact .inr ⟨rfl, (none, 0, 0), s2, _, rfl, OwZ.nil _ _, HS6.out, fun g hg => by simp [blkS] at hg, HB6.out⟩
        · have hb3 : Below Y0.heap.size Y0 (Y0.alloc (.cells #[.string ox, .int .i64 v, .int .i64 1, .slice none 0 0] 128)) := (Below.refl _ _).alloc (Nat.le_refl _) _
          have hQ3 := Qc.new Y0 (.string ox) (.int .i64 v) (.int .i64 1) (.slice none 0 0) 128
          have hq3 := hQ.below hb3 hQ.lt
          have hS3 := hS.below hb3 (Nat.le_refl _)
          have hbN3 := hbN.trans (hb3.mono hzN)
          have hzN3 := Nat.le_trans hzN hb3.size
          go_simp
          generalize World.alloc Y0 (.cells #[.string ox, .int .i64 v, .int .i64 1, .slice none 0 0] 128) = Y3 at *
          refine hK.out _ _ ⟨hq3.2.1, hS3.1.1.1⟩ (fun hHeld => ?_)
          clear hK K
          clear hQ hS hbN hb3
          refine wpAnyH_ready (rs := [4]) (by kernel_rfl) (by simp) ?_
          refine AllReadyH.cons rfl (fun K hK => ?_) AllReadyH.nil
          have cL := hS3.1.1.2
          dsimp only [slW] at cL
          go_simp
          refine hK.out _ _ ⟨hq3.2.1, hS3.1.1.1⟩ (fun hHeld => ?_)
          clear hK K
          refine wpAnyH_ready (rs := [13]) (by kernel_rfl) (by simp) ?_
          refine AllReadyH.cons rfl (fun K hK => ?_) AllReadyH.nil
          refine step4 rfl _ _ 141 128 rfl _ 56 rfl (by decide) Tryz.underlying141 infoBox (a, l.length, cap) (xs.map Dx.q) (by rfl) (by rw [List.length_map]; exact hS3.2.1.1.1) Y0.heap.size (Dx.q ⟨ox, v, 1, (none, 0, 0), []⟩) (by rfl) hQ3 (Dx.one _) (by rw [List.length_map, hxl]; omega) ?_
          intro s2 Y4 hrow hgr hloc
          have hgs : some gs ≠ (slW ((a, l.length, cap) : SlQ)).ownBlock := fun e => hS3.2.2.1 (List.mem_append_left _ (mem_blkS.2 e.symm))
          have hD4 := hS3.1.grown hgr hgs
          have hq4 : Y4.cell? ⟨w.heap.size, 1, none⟩ = some (.string ox) := hgr.cell hq3.2.1 (fun e => by have h1 := hS3.2.1.1.1.lt _ e.symm; have h2 := hlt _ (mem_blkS.2 e.symm); exact absurd h2 (Nat.lt_irrefl _))
          have hbN4 : Below N w Y4 := hbN3.grown hgr (Nat.le_trans hN hbN3.size) (fun g hg => hS3.2.1.2.2.2 g (List.mem_append_left _ (mem_blkS.2 hg)))
          refine hK.out _ _ ⟨hq4, hD4.1.1⟩ (fun hHeld => ?_)
          clear hK K
          refine tk (i := 14) (v := ?_) rfl (Or.inl ⟨by rfl, ?hy15⟩) ?ty15
          case hy15 => (intro w5 hSw; obtain ⟨p0, p1⟩ := hSw; go_simp; all_goals with_reducible rfl)
          simp only [Act.put, J1, J2, J3, J4, J5, J6]
          refine tk (i := 15) (v := ?_) rfl (Or.inl ⟨by rfl, ?hy16⟩) ?ty16
          case hy16 => (intro w5 hSw; obtain ⟨p0, p1⟩ := hSw; go_simp; all_goals with_reducible rfl)
          simp only [Act.put, J1, J2, J3, J4, J5, J6]
          have fz1 := hD4.2 1
          have cS := hD4.1.2
          dsimp only [slW] at cS
          refine wpAnyH_ready (rs := [16]) (by kernel_rfl) (by simp) ?_
          refine AllReadyH.cons rfl (fun K hK => ?_) AllReadyH.nil
          have hS5 := hS3.made ox hrow hgr hloc
          have hbN5 := below_put hbN4 gs 1 (slW s2) hS3.2.2.2
          have hq5 : (Y4.setCell ⟨gs, 1, none⟩ (slW s2)).cell? ⟨w.heap.size, 1, none⟩ = some (.string ox) := (World.cell?_setCell_other _ _ _ _ (fun e => by injection e with e; omega)).trans hq4
          go_simp
          generalize World.setCell Y4 ⟨gs, 1, none⟩ (slW s2) = Y5 at *
          refine hK.out _ _ ⟨hq5, hS5.1.1.1⟩ (fun hHeld => ?_)
          clear hK K
          refine wpAnyH_done (by kernel_rfl) ?_ _
          clear hHeld fz1 cS hD4 hq4 hbN4 hrow hgr hloc hS3 hq3
          have fz0 := hS5.1.2 0
          have c0 := hS5.1.1.1
          dsimp only at c0
          have HS6 : Hid (_) := hS5.val (v + 1)
          have HB6 : Hid (_) := below_put hbN5 gs 0 (.int .i64 (v + 1)) hS5.2.2.2
          clear hS5 hbN5 hq5
          go_wp2
          go_ret2
          rw [HV.out]
          exact .inr ⟨rfl, (none, 0, 0), s2, _, rfl, OwZ.nil _ _, HS6.out, fun g hg => by simp [blkS] at hg, HB6.out⟩
end Go.Proofs.YtejbbnpgghpgaaaGreatDoor
