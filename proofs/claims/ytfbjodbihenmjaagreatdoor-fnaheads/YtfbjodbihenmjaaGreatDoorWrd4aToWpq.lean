/- A told word at a place, the model's, where the form is there · The bytes that a told word tells, the program's. -/
import Derived.Test.YtfbjodbihenmjaaGreatDoorDecLToWpm
import Derived.Test.YtfbjodbihenmjaaGreatDoorDec5ToDec6
import Derived.Test.YtfbjodbihenmjaaGreatDoorWpEToEwp
import Derived.Test.YtfbjodbihenmjaaGreatDoorDecBToDecB2
import Derived.Test.YtfbjodbihenmjaaGreatDoorDecQToEncQ2
namespace Go.Proofs.YtfbjodbihenmjaaGreatDoor
open Go.RowKit

/-- How a word's answer lies. -/
def WdEnd (o : Option (List Int × Nat)) (w : World) (e : Ending) (w' : World) : Prop := Below w.heap.size w w' ∧ match o with
  | some r => ∃ v, e = .returned (.tuple #[v, .int .i64 (r.2 : Int)]) ∧ OwnI w' w.heap.size v r.1
  | none => e = .returned (.tuple #[.slice none 0 0, .int .i64 0])
theorem WdEnd.no {o : Option (List Int × Nat)} {w w' : World} (hb : Below w.heap.size w w') (h : o = none) : WdEnd o w (.returned (.tuple #[.slice none 0 0, .int .i64 0])) w' := by subst h; exact ⟨hb, rfl⟩
/-- What is told where the form is there. -/
def resY (cs : Int) (ob : Option (List Nat)) (z : Nat) : Option (List Int × Nat) := if cs = 0 then none else match ob with
  | none => none
  | some bs => (decL cs bs).map fun u => (u, z + 2)
theorem resY_by (cs : Int) (z : Nat) : resY cs none z = none := by unfold resY; split <;> rfl
theorem dec_few {t l : List Nat} (h : Xf.dec t = some l) : l.length ≤ t.length ∧ IsB l := by
  obtain ⟨he, hb⟩ := Xf.dec_some t l h
  refine ⟨?_, hb⟩
  rw [← he, Xf.enc_len]; omega
theorem toldV_len {kind : Nat} {t bs : List Nat} (h : toldV kind t = some bs) (hB : IsB t) : bs.length ≤ t.length ∧ IsB bs := by
  unfold toldV at h
  split at h
  · exact dec_few h
  · split at h
    · have := ltV_len t.length t bs (Nat.le_refl _) h
      exact ⟨this.1, this.2 hB⟩
    · cases h

set_option maxHeartbeats 3000000 in
set_option maxRecDepth 100000 in
theorem l4Word_yes (t : List Nat) (n i ia iz z : Nat) (p1 p3 : List Nat) (w : World) (hl : t.length = n) (hB : IsB t) (hn : n ≤ 1048576) {q0 : i < (str t).size} {q1 : i + 1 < (str t).size} (g0 : ((str t)[i]).toNat = 61) (g1 : ((str t)[i + 1]).toNat = 63)
    (h632 : nth t (ia + 2) = 63) (h613 : nth t (iz + 1) = 61) (hm1 : mkV t (i + 2) = (ia : Int)) (hm2 : mkV t (ia + 3) = (iz : Int)) (ha2 : i + 2 ≤ ia) (hz3 : ia + 3 ≤ iz) (h4 : iz + 1 < n) (HZ : iz = i + z)
    (he1 : (str t).extract (i + 2) ia = str p1) (he3 : (str t).extract (ia + 3) iz = str p3) (hBp1 : IsB p1) (hBp3 : IsB p3) (hlp1 : p1.length ≤ n) (hlp3 : p3.length ≤ n) :
    Calls Tryz.prog 106 #[.string (str t), .int .i64 (i : Int)] w fun e w' => WdEnd (resY (csI (str (p1.map low))) (toldV (nth t (ia + 1)) p3) z) w e w' := by
  have hsz : (str t).size = n := by rw [str_size, hl]
  have h1' : ¬ (n : Int) ≤ (i : Int) + 1 := by omega
  have h1i : (i : Int) + 1 < (n : Int) := by omega
  have hi0 : (i : Int) < (n : Int) := by omega
  have HK1 := fun w => l4Mark_any t n (i + 2) w hl hB hn (by omega)
  have HK2 := fun w => l4Mark_any t n (ia + 3) w hl hB hn (by omega)
  rw [hm1, show ((i + 2 : Nat) : Int) = (i : Int) + 2 by omega] at HK1
  rw [hm2, show ((ia + 3 : Nat) : Int) = (ia : Int) + 3 by omega] at HK2
  have q1' : ¬ (ia : Int) < 0 := by omega
  have q2' : ¬ (n : Int) ≤ (ia : Int) + 2 := by omega
  have q2i : (ia : Int) + 2 < (n : Int) := by omega
  have g2 := str_get hB (i := ia + 2) (by rw [hsz]; omega)
  have q3' : ¬ (iz : Int) < 0 := by omega
  have q4' : ¬ (n : Int) ≤ (iz : Int) + 1 := by omega
  have q4i : (iz : Int) + 1 < (n : Int) := by omega
  have g3 := str_get hB (i := iz + 1) (by rw [hsz]; omega)
  rw [h632] at g2
  rw [h613] at g3
  have HCs : Hid (∀ w, Calls Tryz.prog 122 #[.string (str p1)] w fun e w' => e = .returned (.int .i64 (csI (str (p1.map low)))) ∧ Below w.heap.size w w') := fun w => l2Of_any p1 _ w rfl hBp1 (by omega)
  have hcs := csI_in (str (p1.map low))
  have ga := str_get hB (i := ia + 1) (by rw [hsz]; omega)
  have HT : Hid (∀ w', Calls Tryz.prog 123 #[.int .u8 (nth t (ia + 1) : Int), .string (str p3)] w' fun e w'' => OptEnd (toldV (nth t (ia + 1)) p3) w' e w'') := fun w' => l4Told_any (nth t (ia + 1)) p3 _ w' (nth_lt hB _) rfl hBp3 (by omega)
  have HBs : Hid (∀ bs, toldV (nth t (ia + 1)) p3 = some bs → bs.length ≤ p3.length ∧ IsB bs) := fun bs h => toldV_len h hBp3
  generalize csI (str (p1.map low)) = cs at *
  generalize toldV (nth t (ia + 1)) p3 = ob at *
  have hx1 : ((ia : Int) + 1).toNat = ia + 1 := by omega
  have hx3 : ((ia : Int) + 3).toNat = ia + 3 := by omega
  have hx4 : (iz : Int).toNat = iz := by omega
  have hw1 : IntKind.i64.wrap ((ia : Int) + 1) = (ia : Int) + 1 := wrap_small _ (by omega) (by omega)
  have hw3 : IntKind.i64.wrap ((ia : Int) + 3) = (ia : Int) + 3 := wrap_small _ (by omega) (by omega)
  have hb1 : (0 : Int) ≤ (ia : Int) + 3 := by omega
  have hb2 : (ia : Int) + 3 ≤ (iz : Int) := by omega
  have hb3 : (iz : Int) ≤ (n : Int) := by omega
  have hs1 : (i : Int) + 2 ≤ (ia : Int) := by omega
  have hs2 : (ia : Int) ≤ (n : Int) := by omega
  have hai : (ia : Int) + 1 < (n : Int) := by omega
  have hx2 : ((i : Int) + 2).toNat = i + 2 := by omega
  have hret : (iz : Int) + 2 - (i : Int) = ((z + 2 : Nat) : Int) := by omega
  clear HZ
  go_enter Tryz.func106, Tryz.ntmps106
  go_wp2_with fail
  refine (HK1 _).mono ?_
  rintro e u1 ⟨rfl, rfl⟩
  go_wp2_with fail
  refine (HK2 _).mono ?_
  rintro e u1 ⟨rfl, rfl⟩
  go_wp2_with fail
  refine (HCs.out _).mono ?_
  rintro e uC ⟨rfl, hbC⟩
  go_wp2_with fail
  refine wp_region_held_drew (S := fun _ => True) (by kernel_rfl) ?hS1 (fun hHeld => ?_)
  case hS1 => exact trivial
  refine wpAnyH_take (i := 0) (v := ?_) rfl (by kernel_rfl) (by kernel_rfl) (by kernel_rfl) (fun _ _ _ h => h) (Or.inl ⟨by rfl, ?hy2⟩) (by assumption) ?ty2
  case hy2 => (intro w hSw; (try dsimp only at hSw); go_simp; all_goals with_reducible rfl)
  simp only [Act.put, List.getElem_toArray, List.getElem_cons_zero, List.setIfInBounds_toArray, List.set_cons_zero, List.set_cons_succ]
  refine wpAnyH_take (i := 1) (v := ?_) rfl (by kernel_rfl) (by kernel_rfl) (by kernel_rfl) (fun _ _ _ h => h) (Or.inl ⟨by rfl, ?hy3⟩) (by assumption) ?ty3
  case hy3 => (intro w hSw; (try dsimp only at hSw); go_simp; all_goals with_reducible rfl)
  simp only [Act.put, List.getElem_toArray, List.getElem_cons_zero, List.getElem_cons_succ, List.setIfInBounds_toArray, List.set_cons_zero, List.set_cons_succ]
  refine wpAnyH_take (i := 2) (v := .int .i64 ((ia : Int) + 1)) rfl (by kernel_rfl) (by kernel_rfl) (by kernel_rfl) (fun _ _ _ h => h) (Or.inl ⟨by rfl, ?hy4⟩) (by assumption) ?ty4
  case hy4 => (intro w hSw; (try dsimp only at hSw); go_simp; first | (simp [hw1]; done) | (all_goals with_reducible rfl))
  simp only [Act.put, List.getElem_toArray, List.getElem_cons_zero, List.getElem_cons_succ, List.setIfInBounds_toArray, List.set_cons_zero, List.set_cons_succ]
  refine wpAnyH_take (i := 3) (v := .int .u8 (nth t (ia + 1) : Int)) rfl (by kernel_rfl) (by kernel_rfl) (by kernel_rfl) (fun _ _ _ h => h) (Or.inl ⟨by rfl, ?hy5⟩) (by assumption) ?ty5
  case hy5 => (intro w hSw; (try dsimp only at hSw); go_simp; all_goals first | (simp [hx1, ga]; done) | (intro hneg; omega))
  simp only [Act.put, List.getElem_toArray, List.getElem_cons_zero, List.getElem_cons_succ, List.setIfInBounds_toArray, List.set_cons_zero, List.set_cons_succ]
  refine wpAnyH_take (i := 4) (v := ?_) rfl (by kernel_rfl) (by kernel_rfl) (by kernel_rfl) (fun _ _ _ h => h) (Or.inl ⟨by rfl, ?hy6⟩) (by assumption) ?ty6
  case hy6 => (intro w hSw; (try dsimp only at hSw); go_simp; all_goals with_reducible rfl)
  simp only [Act.put, List.getElem_toArray, List.getElem_cons_zero, List.getElem_cons_succ, List.setIfInBounds_toArray, List.set_cons_zero, List.set_cons_succ]
  refine wpAnyH_take (i := 5) (v := ?_) rfl (by kernel_rfl) (by kernel_rfl) (by kernel_rfl) (fun _ _ _ h => h) (Or.inl ⟨by rfl, ?hy7⟩) (by assumption) ?ty7
  case hy7 => (intro w hSw; (try dsimp only at hSw); go_simp; all_goals with_reducible rfl)
  simp only [Act.put, List.getElem_toArray, List.getElem_cons_zero, List.getElem_cons_succ, List.setIfInBounds_toArray, List.set_cons_zero, List.set_cons_succ]
  refine wpAnyH_take (i := 6) (v := .int .i64 ((ia : Int) + 3)) rfl (by kernel_rfl) (by kernel_rfl) (by kernel_rfl) (fun _ _ _ h => h) (Or.inl ⟨by rfl, ?hy8⟩) (by assumption) ?ty8
  case hy8 => (intro w hSw; (try dsimp only at hSw); go_simp; first | (simp [hw3]; done) | (all_goals with_reducible rfl))
  simp only [Act.put, List.getElem_toArray, List.getElem_cons_zero, List.getElem_cons_succ, List.setIfInBounds_toArray, List.set_cons_zero, List.set_cons_succ]
  refine wpAnyH_take (i := 7) (v := ?_) rfl (by kernel_rfl) (by kernel_rfl) (by kernel_rfl) (fun _ _ _ h => h) (Or.inl ⟨by rfl, ?hy9⟩) (by assumption) ?ty9
  case hy9 => (intro w hSw; (try dsimp only at hSw); go_simp; all_goals with_reducible rfl)
  simp only [Act.put, List.getElem_toArray, List.getElem_cons_zero, List.getElem_cons_succ, List.setIfInBounds_toArray, List.set_cons_zero, List.set_cons_succ]
  refine wpAnyH_take (i := 8) (v := .string (str p3)) rfl (by kernel_rfl) (by kernel_rfl) (by kernel_rfl) (fun _ _ _ h => h) (Or.inl ⟨by rfl, ?hy10⟩) (by assumption) ?ty10
  case hy10 => (intro w hSw; (try dsimp only at hSw); go_simp; all_goals first | (simp [hx3, hx4, he3, hb1, hb2, hb3]; done) | (intro hneg; omega))
  simp only [Act.put, List.getElem_toArray, List.getElem_cons_zero, List.getElem_cons_succ, List.setIfInBounds_toArray, List.set_cons_zero, List.set_cons_succ]
  refine wpAnyH_ready (rs := [9]) (by kernel_rfl) (by simp) ?_
  refine AllReadyH.cons rfl (fun K hK => ?_) AllReadyH.nil
  go_simp
  refine (HT.out _).mono ?_
  intro e u2 hend
  clear HT
  cases ob with
  | none =>
    have HM : Hid (resY cs none z = none) := resY_by cs z
    obtain ⟨hb2, v, rfl⟩ := hend
    have hbE := hbC.trans ((((Below.refl _ _).drew).trans hb2).mono hbC.size)
    clear hb2
    simp only
    refine hK.out _ _ trivial (fun hHeld => ?_)
    clear hK K
    refine wpAnyH_take (i := 10) (v := ?_) rfl (by kernel_rfl) (by kernel_rfl) (by kernel_rfl) (fun _ _ _ h => h) (Or.inl ⟨by rfl, ?hy11⟩) (by assumption) ?ty11
    case hy11 => (intro w hSw; (try dsimp only at hSw); go_simp; all_goals with_reducible rfl)
    simp only [Act.put, List.getElem_toArray, List.getElem_cons_zero, List.getElem_cons_succ, List.setIfInBounds_toArray, List.set_cons_zero, List.set_cons_succ]
    refine wpAnyH_take (i := 11) (v := ?_) rfl (by kernel_rfl) (by kernel_rfl) (by kernel_rfl) (fun _ _ _ h => h) (Or.inl ⟨by rfl, ?hy12⟩) (by assumption) ?ty12
    case hy12 => (intro w hSw; (try dsimp only at hSw); go_simp; all_goals with_reducible rfl)
    simp only [Act.put, List.getElem_toArray, List.getElem_cons_zero, List.getElem_cons_succ, List.setIfInBounds_toArray, List.set_cons_zero, List.set_cons_succ]
    refine wpAnyH_take (i := 12) (v := ?_) rfl (by kernel_rfl) (by kernel_rfl) (by kernel_rfl) (fun _ _ _ h => h) (Or.inl ⟨by rfl, ?hy13⟩) (by assumption) ?ty13
    case hy13 => (intro w hSw; (try dsimp only at hSw); go_simp; all_goals with_reducible rfl)
    simp only [Act.put, List.getElem_toArray, List.getElem_cons_zero, List.getElem_cons_succ, List.setIfInBounds_toArray, List.set_cons_zero, List.set_cons_succ]
    refine wpAnyH_take (i := 13) (v := ?_) rfl (by kernel_rfl) (by kernel_rfl) (by kernel_rfl) (fun _ _ _ h => h) (Or.inl ⟨by rfl, ?hy14⟩) (by assumption) ?ty14
    case hy14 => (intro w hSw; (try dsimp only at hSw); go_simp; all_goals with_reducible rfl)
    simp only [Act.put, List.getElem_toArray, List.getElem_cons_zero, List.getElem_cons_succ, List.setIfInBounds_toArray, List.set_cons_zero, List.set_cons_succ]
    refine wpAnyH_take (i := 14) (v := ?_) rfl (by kernel_rfl) (by kernel_rfl) (by kernel_rfl) (fun _ _ _ h => h) (Or.inl ⟨by rfl, ?hy15⟩) (by assumption) ?ty15
    case hy15 => (intro w hSw; (try dsimp only at hSw); go_simp; all_goals with_reducible rfl)
    simp only [Act.put, List.getElem_toArray, List.getElem_cons_zero, List.getElem_cons_succ, List.setIfInBounds_toArray, List.set_cons_zero, List.set_cons_succ]
    refine wpAnyH_done (by kernel_rfl) ?_ _
    by_cases hc0 : cs = 0
    · subst hc0
      go_wp2
      go_ret2
      exact .no hbE HM.out
    · have hc0' : (cs == 0) = false := by simp [hc0]
      go_wp2
      go_ret2
      exact .no hbE HM.out
  | some bs =>
    obtain ⟨hb2, v, rfl, hown⟩ := hend
    have hbE := hbC.trans ((((Below.refl _ _).drew).trans hb2).mono hbC.size)
    obtain ⟨bo, bcp, rfl, -, -⟩ := hown.form
    obtain ⟨hlb, hBb⟩ := HBs.out bs rfl
    clear HBs hb2
    simp only
    refine hK.out _ _ trivial (fun hHeld => ?_)
    clear hK K
    refine wpAnyH_take (i := 10) (v := ?_) rfl (by kernel_rfl) (by kernel_rfl) (by kernel_rfl) (fun _ _ _ h => h) (Or.inl ⟨by rfl, ?hy16⟩) (by assumption) ?ty16
    case hy16 => (intro w hSw; (try dsimp only at hSw); go_simp; all_goals with_reducible rfl)
    simp only [Act.put, List.getElem_toArray, List.getElem_cons_zero, List.getElem_cons_succ, List.setIfInBounds_toArray, List.set_cons_zero, List.set_cons_succ]
    refine wpAnyH_take (i := 11) (v := ?_) rfl (by kernel_rfl) (by kernel_rfl) (by kernel_rfl) (fun _ _ _ h => h) (Or.inl ⟨by rfl, ?hy17⟩) (by assumption) ?ty17
    case hy17 => (intro w hSw; (try dsimp only at hSw); go_simp; all_goals with_reducible rfl)
    simp only [Act.put, List.getElem_toArray, List.getElem_cons_zero, List.getElem_cons_succ, List.setIfInBounds_toArray, List.set_cons_zero, List.set_cons_succ]
    refine wpAnyH_take (i := 12) (v := ?_) rfl (by kernel_rfl) (by kernel_rfl) (by kernel_rfl) (fun _ _ _ h => h) (Or.inl ⟨by rfl, ?hy18⟩) (by assumption) ?ty18
    case hy18 => (intro w hSw; (try dsimp only at hSw); go_simp; all_goals with_reducible rfl)
    simp only [Act.put, List.getElem_toArray, List.getElem_cons_zero, List.getElem_cons_succ, List.setIfInBounds_toArray, List.set_cons_zero, List.set_cons_succ]
    refine wpAnyH_take (i := 13) (v := ?_) rfl (by kernel_rfl) (by kernel_rfl) (by kernel_rfl) (fun _ _ _ h => h) (Or.inl ⟨by rfl, ?hy19⟩) (by assumption) ?ty19
    case hy19 => (intro w hSw; (try dsimp only at hSw); go_simp; all_goals with_reducible rfl)
    simp only [Act.put, List.getElem_toArray, List.getElem_cons_zero, List.getElem_cons_succ, List.setIfInBounds_toArray, List.set_cons_zero, List.set_cons_succ]
    refine wpAnyH_take (i := 14) (v := ?_) rfl (by kernel_rfl) (by kernel_rfl) (by kernel_rfl) (fun _ _ _ h => h) (Or.inl ⟨by rfl, ?hy20⟩) (by assumption) ?ty20
    case hy20 => (intro w hSw; (try dsimp only at hSw); go_simp; all_goals with_reducible rfl)
    simp only [Act.put, List.getElem_toArray, List.getElem_cons_zero, List.getElem_cons_succ, List.setIfInBounds_toArray, List.set_cons_zero, List.set_cons_succ]
    refine wpAnyH_done (by kernel_rfl) ?_ _
    by_cases hc0 : cs = 0
    · subst hc0
      have HM : Hid (resY 0 (some bs) z = none) := rfl
      go_wp2
      go_ret2
      exact .no hbE HM.out
    · have hc0' : (cs == 0) = false := by simp [hc0]
      have HM0 : Hid (resY cs (some bs) z = (decL cs bs).map fun u => (u, z + 2)) := if_neg hc0
      have HD := l2Decode_any cs bo bs.length bcp bs _ (by omega) rfl hown.rd.2 hBb (by omega)
      go_wp2_with fail
      refine HD.mono ?_
      clear HD
      rintro e u4 (⟨v4, u, rfl, hd, ho4, hlu, hb4⟩ | ⟨rfl, hd, hb4⟩)
      · have HM : Hid (resY cs (some bs) z = some (u, z + 2)) := by
          show _ = _
          rw [HM0.out, hd]; rfl
        have hbF := hbE.trans (hb4.mono hbE.size)
        have ho5 := ho4.lower hbE.size
        clear HM0 hd hb4
        go_wp2
        go_ret2
        rw [HM.out]
        exact ⟨hbF, v4, rfl, ho5⟩
      · have HM : Hid (resY cs (some bs) z = none) := by
          show _ = _
          rw [HM0.out, hd]; rfl
        have hbF := hbE.trans (hb4.mono hbE.size)
        clear HM0 hd hb4
        go_wp2
        go_ret2
        exact .no hbF HM.out
end Go.Proofs.YtfbjodbihenmjaaGreatDoor

namespace Go.Proofs.YtfbjodbihenmjaaGreatDoor
open Go.RowKit

/-- Bytes, or a code. -/
def obV (o : Option (List Nat)) : Int × List Nat := match o with
  | some bs => (0, bs)
  | none => (7, [])
theorem decQ_rep {t : List Nat} (ht : t.length ≤ 400) (ha : t.all seenB = true) : decQ (repU t) = obV (ltV t) := by
  unfold decQ
  have h1 := repU_len t
  rw [if_neg (by omega), unq_repU t.length t (Nat.le_refl _) ha]
  cases h : ltV t with
  | none => rfl
  | some bs =>
    have := (ltV_len t.length t bs (Nat.le_refl _) h).1
    show (if 400 < bs.length then _ else _) = _
    rw [if_neg (by omega)]; rfl
theorem decB_obV {t : List Nat} (ht : t.length ≤ 400) : decB t = obV (Xf.dec t) := by
  unfold decB
  rw [if_neg (by omega)]
  cases h : Xf.dec t with
  | none => rfl
  | some bs =>
    have := (dec_few h).1
    show (if 400 < bs.length then _ else _) = _
    rw [if_neg (by omega)]; rfl

set_option maxHeartbeats 1600000 in
set_option maxRecDepth 100000 in
theorem quotedBytes_any (t : List Nat) (n : Nat) (w : World) (hl : t.length = n) (hB : IsB t) (hn : n ≤ 400) (hh : TabH w) (hm : MaxI w) :
    Calls Tryz.prog 134 #[.string (str t)] w fun e w' => BytEnd (obV (ltV t)) w e w' := by
  have hb0 : Below w.heap.size w (w.alloc (.cells #[.int .i64 0, .slice none 0 0] 145)) := (Below.refl _ _).alloc (Nat.le_refl _) _
  have hsW : (w.alloc (.cells #[.int .i64 0, .slice none 0 0] 145)).heap.size = w.heap.size + 1 := by simp
  have HA := fun w => areBytes_seen t n w hl hB (by omega)
  cases ha : t.all seenB with
  | false =>
    have HM : Hid (ltV t = none) := ltV_unseen t.length t (Nat.le_refl _) ha
    rw [ha] at HA
    go_enter Tryz.func134, Tryz.ntmps134
    go_wp2_with fail
    refine (HA _).mono ?_
    rintro e w1 ⟨rfl, rfl⟩
    go_wp2
    go_returns
    rw [HM.out]
    exact ⟨_, rfl, Own.nil _ _, by go_grown⟩
  | true =>
    obtain ⟨m, hm'⟩ := hm.below hb0
    have HR := Tryz.strings_ReplaceAll (str t) ⟨#[95]⟩ ⟨#[61, 50, 48]⟩ m _ (by rw [str_size]; omega) hm' (by decide) (by
      have := Lib.countB_le ⟨#[95]⟩ (by decide) (str t).size (str t) (Nat.le_refl _)
      rw [str_size] at this ⊢
      have e : (⟨#[61, 50, 48]⟩ : ByteArray).size = 3 := rfl
      rw [e]; omega)
    rw [show (⟨#[95]⟩ : ByteArray).data.toList = [95] from rfl, show (⟨#[61, 50, 48]⟩ : ByteArray).data.toList = [61, 50, 48] from rfl, replAll t hB] at HR
    have HD := fun w (hw : TabH w) => implDecodeQuoted_any (repU t) _ w rfl (repU_isB hB) hw
    rw [decQ_rep (by omega) ha] at HD
    rw [ha] at HA
    have hh0 := hh.below hb0
    generalize obV (ltV t) = r at *
    generalize str (repU t) = s at *
    go_enter Tryz.func134, Tryz.ntmps134
    go_wp2_with fail
    refine (HA _).mono ?_
    rintro e w1 ⟨rfl, rfl⟩
    go_wp2_with fail
    refine HR.mono ?_
    rintro e w2 ⟨rfl, hb2⟩
    go_wp2_with fail
    refine (HD _ (hh0.below hb2)).mono ?_
    rintro e w3 ⟨v, rfl, hown, hb3⟩
    generalize hW : w.alloc (.cells #[.int .i64 0, .slice none 0 0] 145) = W at *
    have hbl : Below (w.heap.size + 1) W w3 := (hb2.trans (hb3.mono hb2.size)).mono (by omega)
    have hown3 := hown.lower (C := w.heap.size + 1) (by have := hb2.size; omega)
    have hbw := hb0.trans (hbl.mono (by omega))
    obtain ⟨hcw, hcw1, hfw, hfw1⟩ := res_block hW hbl
    obtain ⟨c, o⟩ := r
    simp only at hown3
    obtain ⟨ao, oc, rfl, -, -⟩ := hown3.form
    obtain ⟨hk0, hk1⟩ := res_cells hcw hcw1 (.int .i64 c) (.slice ao o.length oc)
    clear hown hb2 hb3 HR HD HA
    go_wp2
    refine bodyPost_ret (v := .agg #[.int .i64 c, .slice ao o.length oc]) (by simp [results, Tryz.results134, go_sem, hk0, hk1]) rfl ?_
    exact BytEnd.some hbw hown3 _ _
theorem str_eqB {p : List Nat} {c : Nat} (hB : IsB p) (hc : c < 256) : ((str p).toList == [UInt8.ofNat c]) = decide (p = [c]) := by
  rw [Bool.eq_iff_iff, beq_iff_eq, decide_eq_true_iff, ByteArray.toList_eq, show (str p).data.toList = p.map UInt8.ofNat by simp [str]]
  constructor
  · intro h
    match p, hB, h with
    | [], _, h => cases h
    | [x], hB, h =>
      have hx := hB x (by simp)
      have := congrArg UInt8.toNat (List.cons.inj h).1
      rw [UInt8.toNat_ofNat', UInt8.toNat_ofNat'] at this
      congr 1
      omega
    | x :: y :: p, _, h => simp at h
  · intro h; rw [h]; rfl
theorem BytEnd.store {r : Int × List Nat} {w W w3 : World} {v : Value} (hW : w.alloc (.cells #[.int .i64 0, .slice none 0 0] 145) = W) (hown : Own w3 W.heap.size v r.2) (hb3 : Below W.heap.size W w3) :
    Below (w.heap.size + 1) W w3 ∧ Own w3 (w.heap.size + 1) v r.2 := by
  have hs : W.heap.size = w.heap.size + 1 := by rw [← hW]; simp
  exact ⟨hb3.mono (by omega), hown.lower (by omega)⟩

set_option maxHeartbeats 1600000 in
set_option maxRecDepth 100000 in
theorem toldBytes_any (p t : List Nat) (n : Nat) (w : World) (hBp : IsB p) (hl : t.length = n) (hB : IsB t) (hn : n ≤ 400) (ht : TabB w) (hh : TabH w) (hm : MaxI w) :
    Calls Tryz.prog 117 #[.string (str p), .string (str t)] w fun e w' => BytEnd (obV (toldP p t)) w e w' := by
  have hb0 : Below w.heap.size w (w.alloc (.cells #[.int .i64 0, .slice none 0 0] 145)) := (Below.refl _ _).alloc (Nat.le_refl _) _
  have c1 := str_eqB (p := p) (c := 66) hBp (by omega)
  have c2 := str_eqB (p := p) (c := 98) hBp (by omega)
  have c3 := str_eqB (p := p) (c := 81) hBp (by omega)
  have c4 := str_eqB (p := p) (c := 113) hBp (by omega)
  rw [show UInt8.ofNat 66 = (66 : UInt8) from rfl] at c1
  rw [show UInt8.ofNat 98 = (98 : UInt8) from rfl] at c2
  rw [show UInt8.ofNat 81 = (81 : UInt8) from rfl] at c3
  rw [show UInt8.ofNat 113 = (113 : UInt8) from rfl] at c4
  generalize str p = s at *
  by_cases h1 : p = [66] ∨ p = [98]
  · have HM : Hid (obV (toldP p t) = decB t) := by
      show _ = _
      rw [decB_obV (by omega)]
      rcases h1 with rfl | rfl <;> rfl
    have HD := implDecodeBase_any t n _ hl hB (ht.below hb0)
    rw [HM.out]
    generalize decB t = r at *
    clear HM c3 c4 hBp
    by_cases h2 : p = [66]
    · rw [decide_eq_true h2] at c1
      clear c2 h1 h2
      go_enter Tryz.func117, Tryz.ntmps117
      go_wp2_with fail
      refine HD.mono ?_
      rintro e w3 ⟨v, rfl, hown, hb3⟩
      generalize hW : w.alloc (.cells #[.int .i64 0, .slice none 0 0] 145) = W at *
      obtain ⟨hbl, hown3⟩ := BytEnd.store (r := r) hW hown hb3
      have hbw := hb0.trans (hbl.mono (by omega))
      obtain ⟨hcw, hcw1, hfw, hfw1⟩ := res_block hW hbl
      obtain ⟨c, o⟩ := r
      simp only at hown3
      obtain ⟨ao, oc, rfl, -, -⟩ := hown3.form
      obtain ⟨hk0, hk1⟩ := res_cells hcw hcw1 (.int .i64 c) (.slice ao o.length oc)
      clear hown hb3 HD
      go_wp2
      refine bodyPost_ret (v := .agg #[.int .i64 c, .slice ao o.length oc]) (by simp [results, Tryz.results117, go_sem, hk0, hk1]) rfl ?_
      exact BytEnd.some hbw hown3 _ _
    · have h3 : p = [98] := h1.resolve_left h2
      rw [decide_eq_false h2] at c1
      rw [decide_eq_true h3] at c2
      clear h1 h2 h3
      go_enter Tryz.func117, Tryz.ntmps117
      go_wp2_with fail
      refine HD.mono ?_
      rintro e w3 ⟨v, rfl, hown, hb3⟩
      generalize hW : w.alloc (.cells #[.int .i64 0, .slice none 0 0] 145) = W at *
      obtain ⟨hbl, hown3⟩ := BytEnd.store (r := r) hW hown hb3
      have hbw := hb0.trans (hbl.mono (by omega))
      obtain ⟨hcw, hcw1, hfw, hfw1⟩ := res_block hW hbl
      obtain ⟨c, o⟩ := r
      simp only at hown3
      obtain ⟨ao, oc, rfl, -, -⟩ := hown3.form
      obtain ⟨hk0, hk1⟩ := res_cells hcw hcw1 (.int .i64 c) (.slice ao o.length oc)
      clear hown hb3 HD
      go_wp2
      refine bodyPost_ret (v := .agg #[.int .i64 c, .slice ao o.length oc]) (by simp [results, Tryz.results117, go_sem, hk0, hk1]) rfl ?_
      exact BytEnd.some hbw hown3 _ _
  · have n1 : p ≠ [66] := fun h => h1 (.inl h)
    have n2 : p ≠ [98] := fun h => h1 (.inr h)
    rw [decide_eq_false n1] at c1
    rw [decide_eq_false n2] at c2
    by_cases h2 : p = [81] ∨ p = [113]
    · have HM : Hid (obV (toldP p t) = obV (ltV t)) := by
        show _ = _
        rcases h2 with rfl | rfl <;> rfl
      have HD := quotedBytes_any t n _ hl hB hn (hh.below hb0) (hm.below hb0)
      rw [HM.out]
      generalize obV (ltV t) = r at *
      clear HM hBp n1 n2 h1
      by_cases h4 : p = [81]
      · rw [decide_eq_true h4] at c3
        clear c4 h2 h4
        go_enter Tryz.func117, Tryz.ntmps117
        go_wp2_with fail
        refine HD.mono ?_
        rintro e w3 ⟨v, rfl, hown, hb3⟩
        generalize hW : w.alloc (.cells #[.int .i64 0, .slice none 0 0] 145) = W at *
        obtain ⟨hbl, hown3⟩ := BytEnd.store (r := r) hW hown hb3
        have hbw := hb0.trans (hbl.mono (by omega))
        obtain ⟨hcw, hcw1, hfw, hfw1⟩ := res_block hW hbl
        obtain ⟨c, o⟩ := r
        simp only at hown3
        obtain ⟨ao, oc, rfl, -, -⟩ := hown3.form
        obtain ⟨hk0, hk1⟩ := res_cells hcw hcw1 (.int .i64 c) (.slice ao o.length oc)
        clear hown hb3 HD
        go_wp2
        refine bodyPost_ret (v := .agg #[.int .i64 c, .slice ao o.length oc]) (by simp [results, Tryz.results117, go_sem, hk0, hk1]) rfl ?_
        exact BytEnd.some hbw hown3 _ _
      · have h3 : p = [113] := h2.resolve_left h4
        rw [decide_eq_false h4] at c3
        rw [decide_eq_true h3] at c4
        clear h2 h3 h4
        go_enter Tryz.func117, Tryz.ntmps117
        go_wp2_with fail
        refine HD.mono ?_
        rintro e w3 ⟨v, rfl, hown, hb3⟩
        generalize hW : w.alloc (.cells #[.int .i64 0, .slice none 0 0] 145) = W at *
        obtain ⟨hbl, hown3⟩ := BytEnd.store (r := r) hW hown hb3
        have hbw := hb0.trans (hbl.mono (by omega))
        obtain ⟨hcw, hcw1, hfw, hfw1⟩ := res_block hW hbl
        obtain ⟨c, o⟩ := r
        simp only at hown3
        obtain ⟨ao, oc, rfl, -, -⟩ := hown3.form
        obtain ⟨hk0, hk1⟩ := res_cells hcw hcw1 (.int .i64 c) (.slice ao o.length oc)
        clear hown hb3 HD
        go_wp2
        refine bodyPost_ret (v := .agg #[.int .i64 c, .slice ao o.length oc]) (by simp [results, Tryz.results117, go_sem, hk0, hk1]) rfl ?_
        exact BytEnd.some hbw hown3 _ _
    · have n3 : p ≠ [81] := fun h => h2 (.inl h)
      have n4 : p ≠ [113] := fun h => h2 (.inr h)
      rw [decide_eq_false n3] at c3
      rw [decide_eq_false n4] at c4
      have HM : Hid (toldP p t = none) := by
        show _ = _
        unfold toldP
        split
        · rename_i h
          match p, h with
          | [x], _ =>
            refine toldV_no (fun h => ?_) (fun h => ?_)
            · rcases h with h | h
              · exact n1 (congrArg (fun y => [y]) h)
              · exact n2 (congrArg (fun y => [y]) h)
            · rcases h with h | h
              · exact n3 (congrArg (fun y => [y]) h)
              · exact n4 (congrArg (fun y => [y]) h)
        · rfl
      rw [HM.out]
      clear h1 h2 n1 n2 n3 n4 HM hBp
      go_enter Tryz.func117, Tryz.ntmps117
      go_wp2
      go_returns
      exact ⟨_, rfl, Own.nil _ _, by go_grown⟩
end Go.Proofs.YtfbjodbihenmjaaGreatDoor
