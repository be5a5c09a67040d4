/- FieldOf, the model's, at every slice of fields and every text: by a plain function · An answer with bytes of the call's own. -/
import Derived.Test.YtpgjichcpnjeoaaHdr
import Derived.Test.YtpgjichcpnjeoaaLow0
import Derived.Test.YtpgjichcpnjeoaaApp
namespace Go.Proofs.Ytpgjichcpnjeoaa
open Go.RowKit

/-- A text in small letters. -/
def lowT (s : ByteArray) : ByteArray := str ((bts s).map low)
theorem l2Lower_t (s : ByteArray) (w : World) (hs : s.size ≤ 1048576) : Calls Try.prog 61 #[.string s] w fun e w' => e = .returned (.string (lowT s)) ∧ Below w.heap.size w w' := by
  have h := l2Lower_any (bts s) _ w rfl (bts_isB s) (by rw [bts_len]; exact hs)
  rw [str_bts] at h; exact h
theorem texts_ne {x s : ByteArray} (h : x ≠ s) : (x.toList == s.toList) = false := by
  rw [beq_eq_false_iff_ne]
  intro he
  apply h
  have e : ∀ z : ByteArray, z.toList = (bts z).map UInt8.ofNat := fun z => by
    conv => lhs; rw [← str_bts z]
    rw [ByteArray.toList_eq]; simp [str]
  rw [e, e] at he
  rw [← str_bts x, ← str_bts s]
  unfold str
  rw [he]

/-- The value of the first field of a name. -/
def fdOf (l : List FldP) (nm : ByteArray) : Option ByteArray := match l with
  | [] => none
  | p :: r => if lowT p.1 = lowT nm then some p.2 else fdOf r nm
theorem fdOf_drop {nm : ByteArray} : ∀ {l : List FldP} {k : Nat}, k ≤ l.length → (∀ i, i < k → lowT (nthF l i).1 ≠ lowT nm) → fdOf l nm = fdOf (l.drop k) nm := by
  intro l k
  induction k generalizing l with
  | zero => intro _ _; simp
  | succ k ih =>
    intro h1 h2
    cases l with
    | nil => simp at h1
    | cons p r =>
      have h0 : lowT p.1 ≠ lowT nm := h2 0 (by omega)
      rw [fdOf, if_neg h0, List.drop_succ_cons]
      exact ih (by simpa using h1) (fun i hi => h2 (i + 1) (by omega))
theorem fdOf_some {l : List FldP} {nm : ByteArray} {k : Nat} (h1 : k < l.length) (h2 : ∀ i, i < k → lowT (nthF l i).1 ≠ lowT nm) (h3 : lowT (nthF l k).1 = lowT nm) : fdOf l nm = some (nthF l k).2 := by
  rw [fdOf_drop (by omega) h2, drop_consF l k h1, fdOf, if_pos h3]
theorem fdOf_none {l : List FldP} {nm : ByteArray} (h2 : ∀ i, i < l.length → lowT (nthF l i).1 ≠ lowT nm) : fdOf l nm = none := by
  rw [fdOf_drop (Nat.le_refl _) h2, List.drop_length]; rfl
/-- What the look for a name ends with. -/
def ofP (o : Option ByteArray) : Value := match o with
  | some v => .tuple #[.string v, .bool true]
  | none => .tuple #[.string ⟨#[]⟩, .bool false]

set_option maxHeartbeats 1600000 in
set_option maxRecDepth 100000 in
theorem l4Of_any (a : Option Addr) (n cap : Nat) (l : List FldP) (nm : ByteArray) (w : World) (hl : l.length = n) (hr : RdF w a l) (hn : n ≤ 1048576) (hfit : Fit l) (hnm : nm.size ≤ 1048576) :
    Calls Try.prog 38 #[.slice a n cap, .string nm] w fun e w' => e = .returned (ofP (fdOf l nm)) ∧ Below w.heap.size w w' := by
  have HL : Hid (l.length = n) := hl
  clear hl
  have HN2 : Hid (∀ w, Calls Try.prog 61 #[.string nm] w fun e w' => e = .returned (.string (lowT nm)) ∧ Below w.heap.size w w') := fun w => l2Lower_t nm w hnm
  go_enter Try.func38, Try.ntmps38
  go_wp2
  go_loopw [6] (fun v wr => ∃ k : Nat, k ≤ n ∧ v = .int .i64 k ∧ (∀ i, i < k → lowT (nthF l i).1 ≠ lowT nm) ∧ Below w.heap.size w wr) (fun v _ => n - (intOf v).toNat)
  case atStart => exact ⟨0, Nat.zero_le _, rfl, fun i hi => absurd hi (Nat.not_lt_zero _), Below.refl _ _⟩
  case round =>
    obtain ⟨k, hk, rfl, hall, hbel⟩ := hrel
    by_cases hkn : k < n
    · obtain ⟨b, off, rfl, hblt, hcell⟩ := hr.at_ (by have := HL.out; omega)
      have hc0 : wr.cell? ⟨b, off + k * 2, none⟩ = some (.string (nthF l k).1) := (hbel.cell (p := ⟨b, off + k * 2, none⟩) hblt).trans (hcell k (by have := HL.out; omega)).1
      have hc1 : ∀ wz, Below w.heap.size w wz → wz.cell? ⟨b, off + k * 2 + 1, none⟩ = some (.string (nthF l k).2) := fun wz hz => (hz.cell (p := ⟨b, off + k * 2 + 1, none⟩) hblt).trans (hcell k (by have := HL.out; omega)).2
      have hf := hfit (nthF l k) (by rw [nthF_get (by have := HL.out; omega)]; exact List.getElem_mem _)
      have hki : (k : Int) < (n : Int) := by omega
      have HY : Hid (lowT (nthF l k).1 = lowT nm → fdOf l nm = some (nthF l k).2) := fun h => fdOf_some (by have := HL.out; omega) hall h
      have HN : Hid (lowT (nthF l k).1 ≠ lowT nm → ∀ i, i < k + 1 → lowT (nthF l i).1 ≠ lowT nm) := fun h i hi => by
        by_cases he : i = k
        · rw [he]; exact h
        · exact hall i (by omega)
      clear hcell hall
      generalize nthF l k = p at *
      obtain ⟨x, y⟩ := p
      simp only at hc0 hc1 hf HY HN
      have HX : Hid (∀ w, Calls Try.prog 61 #[.string x] w fun e w' => e = .returned (.string (lowT x)) ∧ Below w.heap.size w w') := fun w => l2Lower_t x w hf.1
      clear hf
      generalize lowT x = u at *
      generalize hV : lowT nm = v at *
      go_wp2_with fail
      refine (HX.out _).mono ?_
      rintro e w1 ⟨rfl, hb1⟩
      have hbel1 := hbel.trans (hb1.mono hbel.size)
      clear hb1
      go_wp2_with fail
      refine (HN2.out _).mono ?_
      rintro e w2 ⟨rfl, hb2⟩
      have hbel2 := hbel1.trans (hb2.mono hbel1.size)
      clear hb2
      have hcy := hc1 w2 hbel2
      by_cases huv : u = v
      · subst huv
        have HM : Hid (_) := HY.out rfl
        clear HY HN
        go_wp2
        go_ret2
        exact ⟨by rw [HM.out]; rfl, hbel2⟩
      · have hne := texts_ne huv
        have HM : Hid (_) := HN.out huv
        clear HY HN
        go_wp2
        go_roundw
        case rel => exact ⟨k + 1, by omega, by go_num, HM.out, hbel2⟩
        case measure => simp [intOf]; omega
    · have hki : ¬ (k : Int) < (n : Int) := by omega
      have HM : Hid (fdOf l nm = none) := fdOf_none (fun i hi => hall i (by have := HL.out; omega))
      clear hall
      go_wp2
      go_ret2
      exact ⟨by rw [HM.out]; rfl, hbel⟩

/-- The code that FieldOf answers. -/
def foC (l : List FldP) (nm : ByteArray) : Int := if fdF l = 0 then (if (fdOf l nm).isSome then 0 else 4) else fdF l
/-- The text that FieldOf answers. -/
def foT (l : List FldP) (nm : ByteArray) : ByteArray := if fdF l = 0 then (fdOf l nm).getD ⟨#[]⟩ else ⟨#[]⟩
theorem fo_bad {l : List FldP} (nm : ByteArray) (h : fdF l ≠ 0) : foC l nm = fdF l ∧ foT l nm = ⟨#[]⟩ := ⟨if_neg h, if_neg h⟩
theorem fo_none {l : List FldP} {nm : ByteArray} (h : fdF l = 0) (h1 : fdOf l nm = none) : foC l nm = 4 ∧ foT l nm = ⟨#[]⟩ := by
  unfold foC foT; rw [if_pos h, if_pos h, h1]; exact ⟨rfl, rfl⟩
theorem fo_some {l : List FldP} {nm v : ByteArray} (h : fdF l = 0) (h1 : fdOf l nm = some v) : foC l nm = 0 ∧ foT l nm = v := by
  unfold foC foT; rw [if_pos h, if_pos h, h1]; exact ⟨rfl, rfl⟩

set_option maxHeartbeats 1600000 in
set_option maxRecDepth 100000 in
theorem specFieldOf_any (a : Option Addr) (n cap : Nat) (l : List FldP) (nm : ByteArray) (w : World) (hl : l.length = n) (hr : RdF w a l) (hn : n ≤ 1048576) (hfit : Fit l) (hnm : nm.size ≤ 1048576) :
    Calls Try.prog 15 #[.slice a n cap, .string nm] w fun e w' => e = .returned (.agg #[.int .i64 (foC l nm), .string (foT l nm)]) ∧ Below w.heap.size w w' := by
  have hb0 : Below w.heap.size w (w.alloc (.cells #[.int .i64 0, .string ⟨#[]⟩] 37)) := (Below.refl _ _).alloc (Nat.le_refl _) _
  have HF := l4Fault_any a n cap l _ hl (hr.below hb0) hn hfit
  have HO : Hid (∀ w', Below w.heap.size w w' → Calls Try.prog 38 #[.slice a n cap, .string nm] w' fun e w'' => e = .returned (ofP (fdOf l nm)) ∧ Below w'.heap.size w' w'') := fun w' hb => l4Of_any a n cap l nm w' hl (hr.below hb) hn hfit hnm
  have HB : Hid (fdF l ≠ 0 → foC l nm = fdF l ∧ foT l nm = ⟨#[]⟩) := fo_bad nm
  have HN : Hid (fdF l = 0 → fdOf l nm = none → foC l nm = 4 ∧ foT l nm = ⟨#[]⟩) := fo_none
  have HS : Hid (fdF l = 0 → ∀ v, fdOf l nm = some v → foC l nm = 0 ∧ foT l nm = v) := fun h v h1 => fo_some h h1
  clear hr hfit hl
  generalize fdF l = c at *
  generalize fdOf l nm = o at *
  generalize foC l nm = rc at *
  generalize foT l nm = rt at *
  go_enter Try.func15, Try.ntmps15
  go_wp2_with fail
  refine HF.mono ?_
  rintro e w1 ⟨rfl, hb1⟩
  have hbl : Below (w.heap.size + 1) (w.alloc (.cells #[.int .i64 0, .string ⟨#[]⟩] 37)) w1 := hb1.mono (by simp)
  clear HF hb1
  generalize hW : w.alloc (.cells #[.int .i64 0, .string ⟨#[]⟩] 37) = W at *
  have hbw := hb0.trans (hbl.mono (by omega))
  by_cases hc : c = 0
  · subst hc
    go_wp2_with fail
    refine (HO.out _ hbw).mono ?_
    rintro e w2 ⟨rfl, hb2⟩
    have hbl2 := hbl.trans (hb2.mono (by have := hbl.size; simp [← hW] at this; omega))
    have hbw2 := hb0.trans (hbl2.mono (by omega))
    obtain ⟨hcw, hcw1, hfw, hfw1⟩ := res_block hW hbl2
    have hsz := hbl2.size
    rw [← hW] at hsz
    simp at hsz
    clear hb2
    cases o with
    | none =>
      obtain ⟨rfl, rfl⟩ := HN.out trivial rfl
      clear HN HS HB HO
      obtain ⟨hk0, hk1⟩ := res_cells hcw hcw1 (.int .i64 4) (.string ⟨#[]⟩)
      unfold ofP
      go_wp2
      refine bodyPost_ret (v := .agg #[.int .i64 4, .string ⟨#[]⟩]) (by simp [results, Try.results15, go_sem, hk0, hk1]) rfl ?_
      exact ⟨rfl, (hbw2.setCell (by simp) _).setCell (by simp) _⟩
    | some v =>
      obtain ⟨rfl, rfl⟩ := HS.out trivial v rfl
      clear HN HS HB HO
      obtain ⟨hk0, hk1⟩ := res_cells hcw hcw1 (.int .i64 0) (.string rt)
      unfold ofP
      go_wp2
      refine bodyPost_ret (v := .agg #[.int .i64 0, .string rt]) (by simp [results, Try.results15, go_sem, hk0, hk1]) rfl ?_
      exact ⟨rfl, (hbw2.setCell (by simp) _).setCell (by simp) _⟩
  · obtain ⟨rfl, rfl⟩ := HB.out hc
    clear HN HS HB HO
    obtain ⟨hcw, hcw1, hfw, hfw1⟩ := res_block hW hbl
    obtain ⟨hk0, hk1⟩ := res_cells hcw hcw1 (.int .i64 rc) (.string ⟨#[]⟩)
    have hc' : (rc == 0) = false := by simp [hc]
    go_wp2
    refine bodyPost_ret (v := .agg #[.int .i64 rc, .string ⟨#[]⟩]) (by simp [results, Try.results15, go_sem, hk0, hk1]) rfl ?_
    exact ⟨rfl, (hbw.setCell (by simp) _).setCell (by simp) _⟩
end Go.Proofs.Ytpgjichcpnjeoaa

namespace Go.Proofs.Ytpgjichcpnjeoaa
open Go.RowKit

theorem Own.lower {w : World} {B C : Nat} {v : Value} {l : List Nat} (h : Own w B v l) (hC : C ≤ B) : Own w C v l := by
  refine ⟨h.1, ?_⟩
  rcases h.2 with h' | ⟨g, cap, cur, h1, h2, h3⟩
  · exact .inl h'
  · exact .inr ⟨g, cap, cur, h1, Nat.le_trans hC h2, h3⟩
theorem Own.kept {w : World} {B : Nat} {v : Value} {l : List Nat} (h : Own w B v l) (p : Addr) (hp : p.block < B) (u : Value) : Own (w.setCell p u) B v l := ownsRow_setCell_below h hp u

/-- An answer with bytes. -/
def BytEnd (r : Int × List Nat) (w : World) (e : Ending) (w' : World) : Prop := ∃ v, e = .returned (.agg #[.int .i64 r.1, v]) ∧ Own w' w.heap.size v r.2 ∧ Below w.heap.size w w'
theorem BytEnd.code {c : Int} {w w1 : World} (hbel : Below w.heap.size w w1) (x y : Value) : BytEnd (c, []) w (.returned (.agg #[.int .i64 c, .slice none 0 0])) ((w1.setCell ⟨w.heap.size, 0, none⟩ x).setCell ⟨w.heap.size, 1, none⟩ y) :=
  ⟨_, rfl, Own.nil _ _, (hbel.setCell (by simp) _).setCell (by simp) _⟩
theorem BytEnd.some {c : Int} {w w1 : World} {v : Value} {l : List Nat} (hbel : Below w.heap.size w w1) (hown : Own w1 (w.heap.size + 1) v l) (x y : Value) : BytEnd (c, l) w (.returned (.agg #[.int .i64 c, v])) ((w1.setCell ⟨w.heap.size, 0, none⟩ x).setCell ⟨w.heap.size, 1, none⟩ y) :=
  ⟨_, rfl, ((hown.kept _ (by simp) _).kept _ (by simp) _).lower (by omega), (hbel.setCell (by simp) _).setCell (by simp) _⟩
end Go.Proofs.Ytpgjichcpnjeoaa
