/- FieldOf, the model's, at every slice of fields and every text: by a plain function. -/
import Derived.Test.YtpgjichcpnjeoaaDoorHdr
import Derived.Test.YtpgjichcpnjeoaaDoorLow0
namespace Go.Proofs.YtpgjichcpnjeoaaDoor
open Go.RowKit

/-- A text in small letters. -/
def lowT (s : ByteArray) : ByteArray := str ((bts s).map low)
theorem l2Lower_t (s : ByteArray) (w : World) (hs : s.size ≤ 1048576) : Calls Tryd.prog 92 #[.string s] w fun e w' => e = .returned (.string (lowT s)) ∧ Below w.heap.size w w' := by
  have h := l2Lower_any (bts s) _ w rfl (bts_isB s) (by rw [bts_len]; exact hs)
  rw [str_bts] at h; exact h
theorem texts_ne {x s : ByteArray} (h : x ≠ s) : (x.toList == s.toList) = false := by
  rw [beq_eq_false_iff_ne]
  intro he
  apply h
  have e : ∀ z : ByteArray, z.toList = (bts z).map UInt8.ofNat := fun z => by
    conv => lhs; rw [← str_bts z]
    rw [ByteArray.toList_eq]; simp [str]
  rw [e, e] at he
  rw [← str_bts x, ← str_bts s]
  unfold str
  rw [he]

/-- The value of the first field of a name. -/
def fdOf (l : List FldP) (nm : ByteArray) : Option ByteArray := match l with
  | [] => none
  | p :: r => if lowT p.1 = lowT nm then some p.2 else fdOf r nm
theorem fdOf_drop {nm : ByteArray} : ∀ {l : List FldP} {k : Nat}, k ≤ l.length → (∀ i, i < k → lowT (nthF l i).1 ≠ lowT nm) → fdOf l nm = fdOf (l.drop k) nm := by
  intro l k
  induction k generalizing l with
  | zero => intro _ _; simp
  | succ k ih =>
    intro h1 h2
    cases l with
    | nil => simp at h1
    | cons p r =>
      have h0 : lowT p.1 ≠ lowT nm := h2 0 (by omega)
      rw [fdOf, if_neg h0, List.drop_succ_cons]
      exact ih (by simpa using h1) (fun i hi => h2 (i + 1) (by omega))
theorem fdOf_some {l : List FldP} {nm : ByteArray} {k : Nat} (h1 : k < l.length) (h2 : ∀ i, i < k → lowT (nthF l i).1 ≠ lowT nm) (h3 : lowT (nthF l k).1 = lowT nm) : fdOf l nm = some (nthF l k).2 := by
  rw [fdOf_drop (by omega) h2, drop_consF l k h1, fdOf, if_pos h3]
theorem fdOf_none {l : List FldP} {nm : ByteArray} (h2 : ∀ i, i < l.length → lowT (nthF l i).1 ≠ lowT nm) : fdOf l nm = none := by
  rw [fdOf_drop (Nat.le_refl _) h2, List.drop_length]; rfl
/-- What the look for a name ends with. -/
def ofP (o : Option ByteArray) : Value := match o with
  | some v => .tuple #[.string v, .bool true]
  | none => .tuple #[.string ⟨#[]⟩, .bool false]

set_option maxHeartbeats 1600000 in
set_option maxRecDepth 100000 in
theorem l4Of_any (a : Option Addr) (n cap : Nat) (l : List FldP) (nm : ByteArray) (w : World) (hl : l.length = n) (hr : RdF w a l) (hn : n ≤ 1048576) (hfit : Fit l) (hnm : nm.size ≤ 1048576) :
    Calls Tryd.prog 106 #[.slice a n cap, .string nm] w fun e w' => e = .returned (ofP (fdOf l nm)) ∧ Below w.heap.size w w' := by
  have HL : Hid (l.length = n) := hl
  clear hl
  have HN2 : Hid (∀ w, Calls Tryd.prog 92 #[.string nm] w fun e w' => e = .returned (.string (lowT nm)) ∧ Below w.heap.size w w') := fun w => l2Lower_t nm w hnm
  go_enter Tryd.func106, Tryd.ntmps106
  go_wp2
  go_loopw [6] (fun v wr => ∃ k : Nat, k ≤ n ∧ v = .int .i64 k ∧ (∀ i, i < k → lowT (nthF l i).1 ≠ lowT nm) ∧ Below w.heap.size w wr) (fun v _ => n - (intOf v).toNat)
  case atStart => exact ⟨0, Nat.zero_le _, rfl, fun i hi => absurd hi (Nat.not_lt_zero _), Below.refl _ _⟩
  case round =>
    obtain ⟨k, hk, rfl, hall, hbel⟩ := hrel
    by_cases hkn : k < n
    · obtain ⟨b, off, rfl, hblt, hcell⟩ := hr.at_ (by have := HL.out; omega)
      have hc0 : wr.cell? ⟨b, off + k * 2, none⟩ = some (.string (nthF l k).1) := (hbel.cell (p := ⟨b, off + k * 2, none⟩) hblt).trans (hcell k (by have := HL.out; omega)).1
      have hc1 : ∀ wz, Below w.heap.size w wz → wz.cell? ⟨b, off + k * 2 + 1, none⟩ = some (.string (nthF l k).2) := fun wz hz => (hz.cell (p := ⟨b, off + k * 2 + 1, none⟩) hblt).trans (hcell k (by have := HL.out; omega)).2
      have hf := hfit (nthF l k) (by rw [nthF_get (by have := HL.out; omega)]; exact List.getElem_mem _)
      have hki : (k : Int) < (n : Int) := by omega
      have HY : Hid (lowT (nthF l k).1 = lowT nm → fdOf l nm = some (nthF l k).2) := fun h => fdOf_some (by have := HL.out; omega) hall h
      have HN : Hid (lowT (nthF l k).1 ≠ lowT nm → ∀ i, i < k + 1 → lowT (nthF l i).1 ≠ lowT nm) := fun h i hi => by
        by_cases he : i = k
        · rw [he]; exact h
        · exact hall i (by omega)
      clear hcell hall
      generalize nthF l k = p at *
      obtain ⟨x, y⟩ := p
      simp only at hc0 hc1 hf HY HN
      have HX : Hid (∀ w, Calls Tryd.prog 92 #[.string x] w fun e w' => e = .returned (.string (lowT x)) ∧ Below w.heap.size w w') := fun w => l2Lower_t x w hf.1
      clear hf
      generalize lowT x = u at *
      generalize hV : lowT nm = v at *
      go_wp2_with fail
      refine (HX.out _).mono ?_
      rintro e w1 ⟨rfl, hb1⟩
      have hbel1 := hbel.trans (hb1.mono hbel.size)
      clear hb1
      go_wp2_with fail
      refine (HN2.out _).mono ?_
      rintro e w2 ⟨rfl, hb2⟩
      have hbel2 := hbel1.trans (hb2.mono hbel1.size)
      clear hb2
      have hcy := hc1 w2 hbel2
      by_cases huv : u = v
      · subst huv
        have HM : Hid (_) := HY.out rfl
        clear HY HN
        go_wp2
        go_ret2
        exact ⟨by rw [HM.out]; rfl, hbel2⟩
      · have hne := texts_ne huv
        have HM : Hid (_) := HN.out huv
        clear HY HN
        go_wp2
        go_roundw
        case rel => exact ⟨k + 1, by omega, by go_num, HM.out, hbel2⟩
        case measure => simp [intOf]; omega
    · have hki : ¬ (k : Int) < (n : Int) := by omega
      have HM : Hid (fdOf l nm = none) := fdOf_none (fun i hi => hall i (by have := HL.out; omega))
      clear hall
      go_wp2
      go_ret2
      exact ⟨by rw [HM.out]; rfl, hbel⟩

/-- The code that FieldOf answers. -/
def foC (l : List FldP) (nm : ByteArray) : Int := if fdF l = 0 then (if (fdOf l nm).isSome then 0 else 4) else fdF l
/-- The text that FieldOf answers. -/
def foT (l : List FldP) (nm : ByteArray) : ByteArray := if fdF l = 0 then (fdOf l nm).getD ⟨#[]⟩ else ⟨#[]⟩
theorem fo_bad {l : List FldP} (nm : ByteArray) (h : fdF l ≠ 0) : foC l nm = fdF l ∧ foT l nm = ⟨#[]⟩ := ⟨if_neg h, if_neg h⟩
theorem fo_none {l : List FldP} {nm : ByteArray} (h : fdF l = 0) (h1 : fdOf l nm = none) : foC l nm = 4 ∧ foT l nm = ⟨#[]⟩ := by
  unfold foC foT; rw [if_pos h, if_pos h, h1]; exact ⟨rfl, rfl⟩
theorem fo_some {l : List FldP} {nm v : ByteArray} (h : fdF l = 0) (h1 : fdOf l nm = some v) : foC l nm = 0 ∧ foT l nm = v := by
  unfold foC foT; rw [if_pos h, if_pos h, h1]; exact ⟨rfl, rfl⟩

end Go.Proofs.YtpgjichcpnjeoaaDoor
