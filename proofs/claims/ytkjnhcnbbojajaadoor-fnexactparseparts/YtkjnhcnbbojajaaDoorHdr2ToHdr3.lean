/- FieldOf, the model's, at every slice of fields and every text: by a plain function · An answer with bytes of the call's own · PackHeader, the model's, at every slice of fields: by a plain function. -/
import Derived.Test.YtkjnhcnbbojajaaDoorHdr
import Derived.Test.YtkjnhcnbbojajaaDoorLow0
import Derived.Test.YtkjnhcnbbojajaaDoorApp
import Derived.Deep.RegionHeld3
namespace Go.Proofs.YtkjnhcnbbojajaaDoor
open Go.RowKit

/-- A text in small letters. -/
def lowT (s : ByteArray) : ByteArray := str ((bts s).map low)
theorem l2Lower_t (s : ByteArray) (w : World) (hs : s.size ≤ 1048576) : Calls Tryd.prog 105 #[.string s] w fun e w' => e = .returned (.string (lowT s)) ∧ Below w.heap.size w w' := by
  have h := l2Lower_any (bts s) _ w rfl (bts_isB s) (by rw [bts_len]; exact hs)
  rw [str_bts] at h; exact h
theorem texts_ne {x s : ByteArray} (h : x ≠ s) : (x.toList == s.toList) = false := by
  rw [beq_eq_false_iff_ne]
  intro he
  apply h
  have e : ∀ z : ByteArray, z.toList = (bts z).map UInt8.ofNat := fun z => by
    conv => lhs; rw [← str_bts z]
    rw [ByteArray.toList_eq]; simp [str]
  rw [e, e] at he
  rw [← str_bts x, ← str_bts s]
  unfold str
  rw [he]

/-- The value of the first field of a name. -/
def fdOf (l : List FldP) (nm : ByteArray) : Option ByteArray := match l with
  | [] => none
  | p :: r => if lowT p.1 = lowT nm then some p.2 else fdOf r nm
theorem fdOf_drop {nm : ByteArray} : ∀ {l : List FldP} {k : Nat}, k ≤ l.length → (∀ i, i < k → lowT (nthF l i).1 ≠ lowT nm) → fdOf l nm = fdOf (l.drop k) nm := by
  intro l k
  induction k generalizing l with
  | zero => intro _ _; simp
  | succ k ih =>
    intro h1 h2
    cases l with
    | nil => simp at h1
    | cons p r =>
      have h0 : lowT p.1 ≠ lowT nm := h2 0 (by omega)
      rw [fdOf, if_neg h0, List.drop_succ_cons]
      exact ih (by simpa using h1) (fun i hi => h2 (i + 1) (by omega))
theorem fdOf_some {l : List FldP} {nm : ByteArray} {k : Nat} (h1 : k < l.length) (h2 : ∀ i, i < k → lowT (nthF l i).1 ≠ lowT nm) (h3 : lowT (nthF l k).1 = lowT nm) : fdOf l nm = some (nthF l k).2 := by
  rw [fdOf_drop (by omega) h2, drop_consF l k h1, fdOf, if_pos h3]
theorem fdOf_none {l : List FldP} {nm : ByteArray} (h2 : ∀ i, i < l.length → lowT (nthF l i).1 ≠ lowT nm) : fdOf l nm = none := by
  rw [fdOf_drop (Nat.le_refl _) h2, List.drop_length]; rfl
/-- What the look for a name ends with. -/
def ofP (o : Option ByteArray) : Value := match o with
  | some v => .tuple #[.string v, .bool true]
  | none => .tuple #[.string ⟨#[]⟩, .bool false]

set_option maxHeartbeats 1600000 in
set_option maxRecDepth 100000 in
theorem l4Of_any (a : Option Addr) (n cap : Nat) (l : List FldP) (nm : ByteArray) (w : World) (hl : l.length = n) (hr : RdF w a l) (hn : n ≤ 1048576) (hfit : Fit l) (hnm : nm.size ≤ 1048576) :
    Calls Tryd.prog 85 #[.slice a n cap, .string nm] w fun e w' => e = .returned (ofP (fdOf l nm)) ∧ Below w.heap.size w w' := by
  have HL : Hid (l.length = n) := hl
  clear hl
  have HN2 : Hid (∀ w, Calls Tryd.prog 105 #[.string nm] w fun e w' => e = .returned (.string (lowT nm)) ∧ Below w.heap.size w w') := fun w => l2Lower_t nm w hnm
  go_enter Tryd.func85, Tryd.ntmps85
  go_wp2
  go_loopw [6] (fun v wr => ∃ k : Nat, k ≤ n ∧ v = .int .i64 k ∧ (∀ i, i < k → lowT (nthF l i).1 ≠ lowT nm) ∧ Below w.heap.size w wr) (fun v _ => n - (intOf v).toNat)
  case atStart => exact ⟨0, Nat.zero_le _, rfl, fun i hi => absurd hi (Nat.not_lt_zero _), Below.refl _ _⟩
  case round =>
    obtain ⟨k, hk, rfl, hall, hbel⟩ := hrel
    by_cases hkn : k < n
    · obtain ⟨b, off, rfl, hblt, hcell⟩ := hr.at_ (by have := HL.out; omega)
      have hc0 : wr.cell? ⟨b, off + k * 2, none⟩ = some (.string (nthF l k).1) := (hbel.cell (p := ⟨b, off + k * 2, none⟩) hblt).trans (hcell k (by have := HL.out; omega)).1
      have hc1 : ∀ wz, Below w.heap.size w wz → wz.cell? ⟨b, off + k * 2 + 1, none⟩ = some (.string (nthF l k).2) := fun wz hz => (hz.cell (p := ⟨b, off + k * 2 + 1, none⟩) hblt).trans (hcell k (by have := HL.out; omega)).2
      have hf := hfit (nthF l k) (by rw [nthF_get (by have := HL.out; omega)]; exact List.getElem_mem _)
      have hki : (k : Int) < (n : Int) := by omega
      have HY : Hid (lowT (nthF l k).1 = lowT nm → fdOf l nm = some (nthF l k).2) := fun h => fdOf_some (by have := HL.out; omega) hall h
      have HN : Hid (lowT (nthF l k).1 ≠ lowT nm → ∀ i, i < k + 1 → lowT (nthF l i).1 ≠ lowT nm) := fun h i hi => by
        by_cases he : i = k
        · rw [he]; exact h
        · exact hall i (by omega)
      clear hcell hall
      generalize nthF l k = p at *
      obtain ⟨x, y⟩ := p
      simp only at hc0 hc1 hf HY HN
      have HX : Hid (∀ w, Calls Tryd.prog 105 #[.string x] w fun e w' => e = .returned (.string (lowT x)) ∧ Below w.heap.size w w') := fun w => l2Lower_t x w hf.1
      clear hf
      generalize lowT x = u at *
      generalize hV : lowT nm = v at *
      go_wp2_with fail
      refine (HX.out _).mono ?_
      rintro e w1 ⟨rfl, hb1⟩
      have hbel1 := hbel.trans (hb1.mono hbel.size)
      clear hb1
      go_wp2_with fail
      refine (HN2.out _).mono ?_
      rintro e w2 ⟨rfl, hb2⟩
      have hbel2 := hbel1.trans (hb2.mono hbel1.size)
      clear hb2
      have hcy := hc1 w2 hbel2
      by_cases huv : u = v
      · subst huv
        have HM : Hid (_) := HY.out rfl
        clear HY HN
        go_wp2
        go_ret2
        exact ⟨by rw [HM.out]; rfl, hbel2⟩
      · have hne := texts_ne huv
        have HM : Hid (_) := HN.out huv
        clear HY HN
        go_wp2
        go_roundw
        case rel => exact ⟨k + 1, by omega, by go_num, HM.out, hbel2⟩
        case measure => simp [intOf]; omega
    · have hki : ¬ (k : Int) < (n : Int) := by omega
      have HM : Hid (fdOf l nm = none) := fdOf_none (fun i hi => hall i (by have := HL.out; omega))
      clear hall
      go_wp2
      go_ret2
      exact ⟨by rw [HM.out]; rfl, hbel⟩

/-- The code that FieldOf answers. -/
def foC (l : List FldP) (nm : ByteArray) : Int := if fdF l = 0 then (if (fdOf l nm).isSome then 0 else 4) else fdF l
/-- The text that FieldOf answers. -/
def foT (l : List FldP) (nm : ByteArray) : ByteArray := if fdF l = 0 then (fdOf l nm).getD ⟨#[]⟩ else ⟨#[]⟩
theorem fo_bad {l : List FldP} (nm : ByteArray) (h : fdF l ≠ 0) : foC l nm = fdF l ∧ foT l nm = ⟨#[]⟩ := ⟨if_neg h, if_neg h⟩
theorem fo_none {l : List FldP} {nm : ByteArray} (h : fdF l = 0) (h1 : fdOf l nm = none) : foC l nm = 4 ∧ foT l nm = ⟨#[]⟩ := by
  unfold foC foT; rw [if_pos h, if_pos h, h1]; exact ⟨rfl, rfl⟩
theorem fo_some {l : List FldP} {nm v : ByteArray} (h : fdF l = 0) (h1 : fdOf l nm = some v) : foC l nm = 0 ∧ foT l nm = v := by
  unfold foC foT; rw [if_pos h, if_pos h, h1]; exact ⟨rfl, rfl⟩

end Go.Proofs.YtkjnhcnbbojajaaDoor

namespace Go.Proofs.YtkjnhcnbbojajaaDoor
open Go.RowKit

theorem Own.lower {w : World} {B C : Nat} {v : Value} {l : List Nat} (h : Own w B v l) (hC : C ≤ B) : Own w C v l := by
  refine ⟨h.1, ?_⟩
  rcases h.2 with h' | ⟨g, cap, cur, h1, h2, h3⟩
  · exact .inl h'
  · exact .inr ⟨g, cap, cur, h1, Nat.le_trans hC h2, h3⟩
theorem Own.kept {w : World} {B : Nat} {v : Value} {l : List Nat} (h : Own w B v l) (p : Addr) (hp : p.block < B) (u : Value) : Own (w.setCell p u) B v l := ownsRow_setCell_below h hp u

/-- An answer with bytes. -/
def BytEnd (r : Int × List Nat) (w : World) (e : Ending) (w' : World) : Prop := ∃ v, e = .returned (.agg #[.int .i64 r.1, v]) ∧ Own w' w.heap.size v r.2 ∧ Below w.heap.size w w'
theorem BytEnd.code {c : Int} {w w1 : World} (hbel : Below w.heap.size w w1) (x y : Value) : BytEnd (c, []) w (.returned (.agg #[.int .i64 c, .slice none 0 0])) ((w1.setCell ⟨w.heap.size, 0, none⟩ x).setCell ⟨w.heap.size, 1, none⟩ y) :=
  ⟨_, rfl, Own.nil _ _, (hbel.setCell (by simp) _).setCell (by simp) _⟩
theorem BytEnd.some {c : Int} {w w1 : World} {v : Value} {l : List Nat} (hbel : Below w.heap.size w w1) (hown : Own w1 (w.heap.size + 1) v l) (x y : Value) : BytEnd (c, l) w (.returned (.agg #[.int .i64 c, v])) ((w1.setCell ⟨w.heap.size, 0, none⟩ x).setCell ⟨w.heap.size, 1, none⟩ y) :=
  ⟨_, rfl, ((hown.kept _ (by simp) _).kept _ (by simp) _).lower (by omega), (hbel.setCell (by simp) _).setCell (by simp) _⟩
end Go.Proofs.YtkjnhcnbbojajaaDoor

namespace Go.Proofs.YtkjnhcnbbojajaaDoor
open Go.RowKit

/-- A line of a header. -/
def lnF (p : FldP) : List Nat := bts p.1 ++ [58, 32] ++ bts p.2 ++ [10]
/-- The lines of a header. -/
def pkH (l : List FldP) : List Nat := l.flatMap lnF
theorem pkH_snoc (l : List FldP) (k : Nat) (h : k < l.length) : pkH (l.take (k + 1)) = pkH (l.take k) ++ lnF (nthF l k) := by
  rw [take_snocF l k h]; simp [pkH]
theorem lnF_isB (p : FldP) : IsB (lnF p) := by
  intro b hb
  simp only [lnF, List.mem_append, List.mem_cons, List.not_mem_nil, or_false] at hb
  rcases hb with ((h | h) | h) | h
  · exact bts_isB _ b h
  · omega
  · exact bts_isB _ b h
  · omega
theorem str_app (a b : List Nat) : str (a ++ b) = str a ++ str b := by
  apply ByteArray.ext
  simp [str, ByteArray.data_append]
/-- The texts of a line, one by one. -/
theorem lnF_str (x y : ByteArray) (h : (lnF (x, y)).length ≤ 1048576) : ∃ u1 u2 : ByteArray, (∀ w, (Op.stringOp .add x ⟨#[58, 32]⟩).run Tryd.prog w = .ok (.string u1) w) ∧
    (∀ w, (Op.stringOp .add u1 y).run Tryd.prog w = .ok (.string u2) w) ∧ ∀ w, (Op.stringOp .add u2 ⟨#[10]⟩).run Tryd.prog w = .ok (.string (str (lnF (x, y)))) w := by
  have hx := bts_len x
  have hy := bts_len y
  have e0 : (⟨#[58, 32]⟩ : ByteArray) = str [58, 32] := rfl
  have e1 : (⟨#[10]⟩ : ByteArray) = str [10] := rfl
  have h' : (bts x).length + 2 + (bts y).length + 1 ≤ 1048576 := by
    simp [lnF] at h; omega
  refine ⟨str (bts x ++ [58, 32]), str (bts x ++ [58, 32] ++ bts y), fun w => ?_, fun w => ?_, fun w => ?_⟩
  · rw [str_app, str_bts, e0]
    exact run_string_add_sum w _ _ (by simp only [str_size, List.length_cons, List.length_nil]; omega)
  · rw [str_app (bts x ++ [58, 32]), str_bts y]
    exact run_string_add_sum w _ _ (by simp only [str_size, List.length_append, List.length_cons, List.length_nil]; omega)
  · unfold lnF
    rw [str_app (bts x ++ [58, 32] ++ bts y), e1]
    exact run_string_add_sum w _ _ (by simp only [str_size, List.length_append, List.length_cons, List.length_nil]; omega)

theorem pkH_le (l : List FldP) (k : Nat) : (pkH (l.take k)).length ≤ (pkH l).length := by
  have h : pkH l = pkH (l.take k) ++ pkH (l.drop k) := by
    unfold pkH; rw [← List.flatMap_append, List.take_append_drop]
  rw [h, List.length_append]; omega

theorem lnF_len (p : FldP) (h : fdOk p = true) : (lnF p).length ≤ 153 := by
  simp only [fdOk, nmOk, vlOk, Bool.and_eq_true, decide_eq_true_eq] at h
  obtain ⟨⟨_, h1⟩, _, h2⟩ := h
  simp only [lnF, List.length_append, List.length_cons, List.length_nil]
  omega
theorem pkH_len : ∀ l : List FldP, l.all fdOk = true → (pkH l).length ≤ l.length * 153
  | [], _ => by simp [pkH]
  | p :: l, h => by
    simp only [List.all_cons, Bool.and_eq_true] at h
    have h1 := lnF_len p h.1
    have h2 := pkH_len l h.2
    have e : pkH (p :: l) = lnF p ++ pkH l := rfl
    rw [e, List.length_append, List.length_cons]
    omega
theorem fdF_zero {l : List FldP} (h : fdF l = 0) : l.length ≤ 8 ∧ l.all fdOk = true := by
  unfold fdF at h
  by_cases h8 : 8 < l.length
  · rw [if_pos h8] at h; cases h
  · rw [if_neg h8] at h
    refine ⟨by omega, ?_⟩
    cases ha : l.all fdOk with
    | true => rfl
    | false => rw [ha] at h; simp at h
theorem pkH_fit {l : List FldP} (h : fdF l = 0) : (pkH l).length ≤ 1224 := by
  have h1 := fdF_zero h
  have h2 := pkH_len l h1.2
  omega
/-- What PackHeader answers. -/
def pkV (l : List FldP) : Int × List Nat := if fdF l = 0 then (if 400 < (pkH l ++ [10]).length then (2, []) else (0, pkH l ++ [10])) else (fdF l, [])
theorem pkV_bad {l : List FldP} (h : fdF l ≠ 0) : pkV l = (fdF l, []) := if_neg h
theorem pkV_many {l : List FldP} (h : fdF l = 0) (h1 : 400 < (pkH l ++ [10]).length) : pkV l = (2, []) := by unfold pkV; rw [if_pos h, if_pos h1]
theorem pkV_ok {l : List FldP} (h : fdF l = 0) (h1 : ¬ 400 < (pkH l ++ [10]).length) : pkV l = (0, pkH l ++ [10]) := by unfold pkV; rw [if_pos h, if_neg h1]

end Go.Proofs.YtkjnhcnbbojajaaDoor
