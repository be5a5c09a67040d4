/- A field of a result that is held as a value: plain reading · The coding of a part, the model's and the program's; the mark that a value tells, the program's: by plain functions · A scope in which the run jumps to several labels: what holds at each jump, and a measure that every pass lowers; no conditions beyond those that the fact names. -/
import Derived.Test.YtaefomiofoakhaaGreatDoorAppToMemF
import Derived.Test.YtaefomiofoakhaaGreatDoorTyp5
import Derived.Test.YtaefomiofoakhaaGreatDoorFdoToTyp4
import Derived.WalkKit
import Derived.ScopeJumps
import Derived.WalkMore
namespace Go.Proofs.YtaefomiofoakhaaGreatDoor
open Go.RowKit

theorem fldT1 (x y : Value) (w : World) : (Instr.field 86 (.agg #[x, y]) 1).run Tryz.prog w = .ok y w := by
  simp [Instr.field, asAgg, go_sem]
end Go.Proofs.YtaefomiofoakhaaGreatDoor

namespace Go.Proofs.YtaefomiofoakhaaGreatDoor
open Go.RowKit

/-- 'Content-Transfer-Encoding'. -/
def wCte : ByteArray := ⟨#[67, 111, 110, 116, 101, 110, 116, 45, 84, 114, 97, 110, 115, 102, 101, 114, 45, 69, 110, 99, 111, 100, 105, 110, 103]⟩
/-- 'content-transfer-encoding'. -/
def wcte : ByteArray := ⟨#[99, 111, 110, 116, 101, 110, 116, 45, 116, 114, 97, 110, 115, 102, 101, 114, 45, 101, 110, 99, 111, 100, 105, 110, 103]⟩
/-- 'Content-Type'. -/
def wCt : ByteArray := ⟨#[67, 111, 110, 116, 101, 110, 116, 45, 84, 121, 112, 101]⟩
/-- 'content-type'. -/
def wct : ByteArray := ⟨#[99, 111, 110, 116, 101, 110, 116, 45, 116, 121, 112, 101]⟩
theorem fdOf_congr {x y : ByteArray} (h : lowT x = lowT y) : ∀ l, fdOf l x = fdOf l y
  | [] => rfl
  | p :: r => by rw [fdOf, fdOf, h, fdOf_congr h r]
theorem fdOf_cte (l : List FldP) : fdOf l wCte = fdOf l wcte := fdOf_congr (by decide) l
theorem fdOf_ct (l : List FldP) : fdOf l wCt = fdOf l wct := fdOf_congr (by decide) l
theorem fdOf_fit {nm v : ByteArray} : ∀ {l : List FldP}, Fit l → fdOf l nm = some v → v.size ≤ 1048576
  | [], _, h => by simp [fdOf] at h
  | p :: r, hf, h => by
    rw [fdOf] at h
    split at h
    · cases h; exact (hf p (by simp)).2
    · exact fdOf_fit (fun q hq => hf q (by simp [hq])) h
/-- A coding by its name. -/
def cdN (s : ByteArray) : Int := if s = ⟨#[98, 97, 115, 101, 54, 52]⟩ then 2 else if s = ⟨#[113, 117, 111, 116, 101, 100, 45, 112, 114, 105, 110, 116, 97, 98, 108, 101]⟩ then 3 else 1
/-- The coding that fields tell. -/
def cdV (l : List FldP) : Int := cdN (lowT ((fdOf l wcte).getD ⟨#[]⟩))

set_option maxHeartbeats 1600000 in
set_option maxRecDepth 100000 in
theorem l5Coding_any (a : Option Addr) (n cap : Nat) (l : List FldP) (w : World) (hl : l.length = n) (hr : RdF w a l) (hn : n ≤ 1048576) (hfit : Fit l) :
    Calls Tryz.prog 76 #[.slice a n cap] w fun e w' => e = .returned (.int .i64 (cdV l)) ∧ Below w.heap.size w w' := by
  have HO := l4Of_any a n cap l wcte w hl hr hn hfit (by decide)
  have hz : ((fdOf l wcte).getD ⟨#[]⟩).size ≤ 1048576 := by
    cases h : fdOf l wcte with
    | none => decide
    | some v => exact fdOf_fit hfit h
  have HV : Hid (cdV l = cdN (lowT ((fdOf l wcte).getD ⟨#[]⟩))) := rfl
  generalize cdV l = c at *
  unfold wcte at *
  generalize fdOf l _ = o at *
  have HO2 : Calls Tryz.prog 75 #[.slice a n cap, .string ⟨#[99, 111, 110, 116, 101, 110, 116, 45, 116, 114, 97, 110, 115, 102, 101, 114, 45, 101, 110, 99, 111, 100, 105, 110, 103]⟩] w fun e w' => ∃ b, e = .returned (.tuple #[.string (o.getD ⟨#[]⟩), .bool b]) ∧ Below w.heap.size w w' := HO.mono (by
    rintro e w' ⟨rfl, hb⟩
    cases o with
    | none => exact ⟨_, rfl, hb⟩
    | some v => exact ⟨_, rfl, hb⟩)
  clear HO
  generalize o.getD ⟨#[]⟩ = s at *
  have HS : Hid (∀ w, Calls Tryz.prog 62 #[.string s] w fun e w' => e = .returned (.string (lowT s)) ∧ Below w.heap.size w w') := fun w => l2Lower_t s w hz
  generalize lowT s = z at *
  go_enter Tryz.func76, Tryz.ntmps76
  go_wp2_with fail
  refine HO2.mono ?_
  rintro e w1 ⟨b, rfl, hb1⟩
  go_wp2_with fail
  refine (HS.out _).mono ?_
  rintro e w2 ⟨rfl, hb2⟩
  have hb := hb1.trans (hb2.mono hb1.size)
  clear HS HO2
  by_cases h1 : z = ⟨#[98, 97, 115, 101, 54, 52]⟩
  · have HM : Hid (c = 2) := HV.out.trans (if_pos h1)
    subst h1
    go_wp2
    go_ret
    exact ⟨by rw [HM.out]; rfl, hb⟩
  · have e1 : (z.toList == [98, 97, 115, 101, 54, 52]) = false := by have h := texts_ne h1; simp only [ByteArray.toList_eq] at h ⊢; exact h
    by_cases h2 : z = ⟨#[113, 117, 111, 116, 101, 100, 45, 112, 114, 105, 110, 116, 97, 98, 108, 101]⟩
    · have HM : Hid (c = 3) := HV.out.trans ((if_neg h1).trans (if_pos h2))
      subst h2
      go_wp2
      go_ret
      exact ⟨by rw [HM.out]; rfl, hb⟩
    · have HM : Hid (c = 1) := HV.out.trans ((if_neg h1).trans (if_neg h2))
      have e2 : (z.toList == [113, 117, 111, 116, 101, 100, 45, 112, 114, 105, 110, 116, 97, 98, 108, 101]) = false := by have h := texts_ne h2; simp only [ByteArray.toList_eq] at h ⊢; exact h
      go_wp2
      go_ret
      exact ⟨by rw [HM.out]; rfl, hb⟩
set_option maxHeartbeats 1600000 in
set_option maxRecDepth 100000 in
theorem codingOf_any (a : Option Addr) (n cap : Nat) (l : List FldP) (w : World) (hl : l.length = n) (hr : RdF w a l) (hn : n ≤ 1048576) (hfit : Fit l) (hf0 : fdF l = 0) :
    Calls Tryz.prog 47 #[.slice a n cap] w fun e w' => e = .returned (.int .i64 (cdV l)) ∧ Below w.heap.size w w' := by
  have HO := fieldOf_any a n cap l wCte w hl hr hn hfit (by decide)
  have hz : ((fdOf l wcte).getD ⟨#[]⟩).size ≤ 1048576 := by
    cases h : fdOf l wcte with
    | none => decide
    | some v => exact fdOf_fit hfit h
  have HV : Hid (cdV l = cdN (lowT ((fdOf l wcte).getD ⟨#[]⟩))) := rfl
  have e0 : foT l wCte = (fdOf l wcte).getD ⟨#[]⟩ := by rw [← fdOf_cte]; exact if_pos hf0
  rw [e0] at HO
  generalize cdV l = c at *
  generalize foC l wCte = fc at *
  unfold wCte at HO
  generalize (fdOf l wcte).getD ⟨#[]⟩ = s at *
  clear e0
  have HS : Hid (∀ w, Calls Tryz.prog 22 #[.string s] w fun e w' => e = .returned (.string (lowT s)) ∧ Below w.heap.size w w') := fun w => smallLetters_t s w hz
  generalize lowT s = z at *
  go_enter Tryz.func47, Tryz.ntmps47
  go_wp2_with fail
  refine HO.mono ?_
  rintro e w1 ⟨rfl, hb1⟩
  have fT1 := fldT1
  go_wp2_with fail
  refine (HS.out _).mono ?_
  rintro e w2 ⟨rfl, hb2⟩
  have hb := hb1.trans (hb2.mono hb1.size)
  clear HS HO
  by_cases h1 : z = ⟨#[98, 97, 115, 101, 54, 52]⟩
  · have HM : Hid (c = 2) := HV.out.trans (if_pos h1)
    subst h1
    go_wp2
    go_ret
    exact ⟨by rw [HM.out]; rfl, hb⟩
  · have e1 : (z.toList == [98, 97, 115, 101, 54, 52]) = false := by have h := texts_ne h1; simp only [ByteArray.toList_eq] at h ⊢; exact h
    by_cases h2 : z = ⟨#[113, 117, 111, 116, 101, 100, 45, 112, 114, 105, 110, 116, 97, 98, 108, 101]⟩
    · have HM : Hid (c = 3) := HV.out.trans ((if_neg h1).trans (if_pos h2))
      subst h2
      go_wp2
      go_ret
      exact ⟨by rw [HM.out]; rfl, hb⟩
    · have HM : Hid (c = 1) := HV.out.trans ((if_neg h1).trans (if_neg h2))
      have e2 : (z.toList == [113, 117, 111, 116, 101, 100, 45, 112, 114, 105, 110, 116, 97, 98, 108, 101]) = false := by have h := texts_ne h2; simp only [ByteArray.toList_eq] at h ⊢; exact h
      go_wp2
      go_ret
      exact ⟨by rw [HM.out]; rfl, hb⟩

/-- The mark that a value tells; empty where it is too long or there is none. -/
def mkC (t : List Nat) : List Nat := match nmN wMark (pcs t) with
  | none => []
  | some x => if x.length ≤ 20 then x else []
set_option maxHeartbeats 1600000 in
set_option maxRecDepth 100000 in
theorem markOf_any (t : List Nat) (w : World) (hB : IsB t) (hn : t.length ≤ 1048576) : Calls Tryz.prog 49 #[.string (str t)] w fun e w' => e = .returned (.string (str (mkC t))) ∧ Below w.heap.size w w' := by
  have HP := piecesOf_any t w hB hn
  have hpl := pcs_len t
  have hpi := pcs_in hB
  have HOK : Hid (PcOk (pcs t)) := fun p hp => ⟨(hpi p hp).1, by have := (hpi p hp).2; omega⟩
  have hpn : (pcs t).length ≤ 1048576 := by omega
  have HM1 : Hid (nmN wMark (pcs t) = none → mkC t = []) := fun h => by show _ = _; unfold mkC; rw [h]
  have HM2 : Hid (∀ x, nmN wMark (pcs t) = some x → mkC t = if x.length ≤ 20 then x else []) := fun x h => by show _ = _; unfold mkC; rw [h]
  generalize mkC t = y at *
  generalize pcs t = ps at *
  clear hpi hpl
  go_enter Tryz.func49, Tryz.ntmps49
  go_wp2_with fail
  refine HP.mono ?_
  rintro e w1 ⟨v, rfl, hown, hb1⟩
  obtain ⟨a, cap, rfl, hcap, -⟩ := hown.form
  have hrd := hown.rd.2
  have HBB := behindBegin_any a ps.length cap ps wMark w1 rfl hrd hpn HOK.out (by unfold wMark IsB; decide) (by decide)
  have HX : str wMark = ⟨#[98, 111, 117, 110, 100, 97, 114, 121, 61]⟩ := rfl
  rw [HX] at HBB
  clear HX HP hown
  generalize nmN wMark ps = o at *
  go_wp2_with fail
  refine HBB.mono ?_
  rintro e w2 ⟨rfl, hb2⟩
  have hb := hb1.trans (hb2.mono hb1.size)
  clear HBB
  cases o with
  | none =>
    obtain rfl := HM1.out rfl
    simp only [nmP]
    go_wp2
    go_ret
    exact ⟨rfl, hb⟩
  | some x =>
    have HY : Hid (_) := HM2.out x rfl
    have hsz := str_size x
    simp only [nmP]
    by_cases hx : x.length ≤ 20
    · have HY2 : Hid (y = x) := HY.out.trans (if_pos hx)
      have h1 : ¬ (20 : Int) < ((str x).size : Int) := by omega
      go_wp2
      go_ret
      exact ⟨by rw [HY2.out]; rfl, hb⟩
    · have HY2 : Hid (y = []) := HY.out.trans (if_neg hx)
      have h1 : (20 : Int) < ((str x).size : Int) := by omega
      go_wp2
      go_ret
      exact ⟨by rw [HY2.out]; rfl, hb⟩
end Go.Proofs.YtaefomiofoakhaaGreatDoor

namespace Go.Proofs.YtaefomiofoakhaaGreatDoor

/-- As Q; by a goto: J of its label. -/
def jumps (J : Nat → Act → World → Prop) (Q : Exit → Act → World → Prop) : Exit → Act → World → Prop
  | .goto l, a, w => J l a w
  | e, a, w => Q e a w
theorem jumps_ret (J : Nat → Act → World → Prop) (Q : Exit → Act → World → Prop) (a : Act) (w : World) : jumps J Q .ret a w = Q .ret a w := rfl
theorem wp_scope_labels {P : Program} {a : Act} {w : World} {Q : Exit → Act → World → Prop} {c : Code} (J : Nat → Act → World → Prop) (μ : Nat → Act → World → Nat)
    (first : c.wp P (jumps J Q) a w)
    (pass : ∀ l a w, J l a w → ∃ rest, findLabel c l = some rest ∧ rest.wp P (jumps (fun l' a' w' => J l' a' w' ∧ μ l' a' w' < μ l a w) Q) a w) : (Code.scope c).wp P Q a w := by
  intro b k cs
  have key : ∀ n l a w, μ l a w = n → J l a w → ∃ rest, gotoIn l (.inScope c :: k) = some (.code rest :: .inScope c :: k) ∧ ∃ e a' w', Q e a' w' ∧ Arrives P (lone (b.at a (.code rest :: .inScope c :: k)) cs w) b k cs e a' w' := by
    intro n
    induction n using Nat.strongRecOn with
    | _ n ih =>
      intro l a w hn hJ
      obtain ⟨rest, hf, hp⟩ := pass l a w hJ
      refine ⟨rest, by simp [gotoIn, hf], ?_⟩
      obtain ⟨e, a₁, w₁, hq, harr⟩ := hp b (.inScope c :: k) cs
      cases e with
      | normal => exact ⟨.normal, a₁, w₁, hq, Steps.trans harr (.one step_inScope)⟩
      | exit id => exact ⟨.exit id, a₁, w₁, hq, fun k' hk => harr k' (by simp [exitTo, hk])⟩
      | goto l' =>
        obtain ⟨hJ', hlt⟩ := hq
        obtain ⟨r₂, hg₂, e₂, a₂, w₂, hq₂, harr₂⟩ := ih _ (by omega) l' a₁ w₁ rfl hJ'
        exact ⟨e₂, a₂, w₂, hq₂, .of_steps (harr _ hg₂) harr₂⟩
      | ret => exact ⟨_, a₁, w₁, hq, harr⟩
      | panic ch => exact ⟨_, a₁, w₁, hq, harr⟩
      | outgrown => exact ⟨_, a₁, w₁, hq, harr⟩
  obtain ⟨e, a₁, w₁, hq, harr⟩ := first b (.inScope c :: k) cs
  cases e with
  | normal => exact ⟨.normal, a₁, w₁, hq, .head step_scope (Steps.trans harr (.one step_inScope))⟩
  | exit id => exact ⟨.exit id, a₁, w₁, hq, fun k' hk => .head step_scope (harr k' (by simp [exitTo, hk]))⟩
  | goto l' =>
    obtain ⟨r₂, hg₂, e₂, a₂, w₂, hq₂, harr₂⟩ := key _ l' a₁ w₁ rfl hq
    exact ⟨e₂, a₂, w₂, hq₂, .of_steps (.head step_scope (harr _ hg₂)) harr₂⟩
  | ret => exact ⟨_, a₁, w₁, hq, .of_steps (.one step_scope) harr⟩
  | panic ch => exact ⟨_, a₁, w₁, hq, .of_steps (.one step_scope) harr⟩
  | outgrown => exact ⟨_, a₁, w₁, hq, .of_steps (.one step_scope) harr⟩
end Go.Proofs.YtaefomiofoakhaaGreatDoor
