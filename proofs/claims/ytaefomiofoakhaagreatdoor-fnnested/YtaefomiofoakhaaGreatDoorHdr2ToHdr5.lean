/- FieldOf, the model's, at every slice of fields and every text: by a plain function · An answer with bytes of the call's own · PackHeader, the model's, at every slice of fields: by a plain function · The lines of a header, the model's: where a line ends, what a line is · A slice of fields of the call's own: a value that is written into it · A line of a header, the model's: by a plain function. -/
import Derived.Test.YtaefomiofoakhaaGreatDoorAppFToHdr
import Derived.Test.YtaefomiofoakhaaGreatDoorCvToLow0
import Derived.Test.YtaefomiofoakhaaGreatDoorAppToMemF
import Derived.Deep.RegionHeld3
import Derived.Laws.Rows
namespace Go.Proofs.YtaefomiofoakhaaGreatDoor
open Go.RowKit

/-- A text in small letters. -/
def lowT (s : ByteArray) : ByteArray := str ((bts s).map low)
theorem l2Lower_t (s : ByteArray) (w : World) (hs : s.size ≤ 1048576) : Calls Tryz.prog 62 #[.string s] w fun e w' => e = .returned (.string (lowT s)) ∧ Below w.heap.size w w' := by
  have h := l2Lower_any (bts s) _ w rfl (bts_isB s) (by rw [bts_len]; exact hs)
  rw [str_bts] at h; exact h
theorem texts_ne {x s : ByteArray} (h : x ≠ s) : (x.toList == s.toList) = false := by
  rw [beq_eq_false_iff_ne]
  intro he
  apply h
  have e : ∀ z : ByteArray, z.toList = (bts z).map UInt8.ofNat := fun z => by
    conv => lhs; rw [← str_bts z]
    rw [ByteArray.toList_eq]; simp [str]
  rw [e, e] at he
  rw [← str_bts x, ← str_bts s]
  unfold str
  rw [he]

/-- The value of the first field of a name. -/
def fdOf (l : List FldP) (nm : ByteArray) : Option ByteArray := match l with
  | [] => none
  | p :: r => if lowT p.1 = lowT nm then some p.2 else fdOf r nm
theorem fdOf_drop {nm : ByteArray} : ∀ {l : List FldP} {k : Nat}, k ≤ l.length → (∀ i, i < k → lowT (nthF l i).1 ≠ lowT nm) → fdOf l nm = fdOf (l.drop k) nm := by
  intro l k
  induction k generalizing l with
  | zero => intro _ _; simp
  | succ k ih =>
    intro h1 h2
    cases l with
    | nil => simp at h1
    | cons p r =>
      have h0 : lowT p.1 ≠ lowT nm := h2 0 (by omega)
      rw [fdOf, if_neg h0, List.drop_succ_cons]
      exact ih (by simpa using h1) (fun i hi => h2 (i + 1) (by omega))
theorem fdOf_some {l : List FldP} {nm : ByteArray} {k : Nat} (h1 : k < l.length) (h2 : ∀ i, i < k → lowT (nthF l i).1 ≠ lowT nm) (h3 : lowT (nthF l k).1 = lowT nm) : fdOf l nm = some (nthF l k).2 := by
  rw [fdOf_drop (by omega) h2, drop_consF l k h1, fdOf, if_pos h3]
theorem fdOf_none {l : List FldP} {nm : ByteArray} (h2 : ∀ i, i < l.length → lowT (nthF l i).1 ≠ lowT nm) : fdOf l nm = none := by
  rw [fdOf_drop (Nat.le_refl _) h2, List.drop_length]; rfl
/-- What the look for a name ends with. -/
def ofP (o : Option ByteArray) : Value := match o with
  | some v => .tuple #[.string v, .bool true]
  | none => .tuple #[.string ⟨#[]⟩, .bool false]

set_option maxHeartbeats 1600000 in
set_option maxRecDepth 100000 in
theorem l4Of_any (a : Option Addr) (n cap : Nat) (l : List FldP) (nm : ByteArray) (w : World) (hl : l.length = n) (hr : RdF w a l) (hn : n ≤ 1048576) (hfit : Fit l) (hnm : nm.size ≤ 1048576) :
    Calls Tryz.prog 75 #[.slice a n cap, .string nm] w fun e w' => e = .returned (ofP (fdOf l nm)) ∧ Below w.heap.size w w' := by
  have HL : Hid (l.length = n) := hl
  clear hl
  have HN2 : Hid (∀ w, Calls Tryz.prog 62 #[.string nm] w fun e w' => e = .returned (.string (lowT nm)) ∧ Below w.heap.size w w') := fun w => l2Lower_t nm w hnm
  go_enter Tryz.func75, Tryz.ntmps75
  go_wp2
  go_loopw [6] (fun v wr => ∃ k : Nat, k ≤ n ∧ v = .int .i64 k ∧ (∀ i, i < k → lowT (nthF l i).1 ≠ lowT nm) ∧ Below w.heap.size w wr) (fun v _ => n - (intOf v).toNat)
  case atStart => exact ⟨0, Nat.zero_le _, rfl, fun i hi => absurd hi (Nat.not_lt_zero _), Below.refl _ _⟩
  case round =>
    obtain ⟨k, hk, rfl, hall, hbel⟩ := hrel
    by_cases hkn : k < n
    · obtain ⟨b, off, rfl, hblt, hcell⟩ := hr.at_ (by have := HL.out; omega)
      have hc0 : wr.cell? ⟨b, off + k * 2, none⟩ = some (.string (nthF l k).1) := (hbel.cell (p := ⟨b, off + k * 2, none⟩) hblt).trans (hcell k (by have := HL.out; omega)).1
      have hc1 : ∀ wz, Below w.heap.size w wz → wz.cell? ⟨b, off + k * 2 + 1, none⟩ = some (.string (nthF l k).2) := fun wz hz => (hz.cell (p := ⟨b, off + k * 2 + 1, none⟩) hblt).trans (hcell k (by have := HL.out; omega)).2
      have hf := hfit (nthF l k) (by rw [nthF_get (by have := HL.out; omega)]; exact List.getElem_mem _)
      have hki : (k : Int) < (n : Int) := by omega
      have HY : Hid (lowT (nthF l k).1 = lowT nm → fdOf l nm = some (nthF l k).2) := fun h => fdOf_some (by have := HL.out; omega) hall h
      have HN : Hid (lowT (nthF l k).1 ≠ lowT nm → ∀ i, i < k + 1 → lowT (nthF l i).1 ≠ lowT nm) := fun h i hi => by
        by_cases he : i = k
        · rw [he]; exact h
        · exact hall i (by omega)
      clear hcell hall
      generalize nthF l k = p at *
      obtain ⟨x, y⟩ := p
      simp only at hc0 hc1 hf HY HN
      have HX : Hid (∀ w, Calls Tryz.prog 62 #[.string x] w fun e w' => e = .returned (.string (lowT x)) ∧ Below w.heap.size w w') := fun w => l2Lower_t x w hf.1
      clear hf
      generalize lowT x = u at *
      generalize hV : lowT nm = v at *
      go_wp2_with fail
      refine (HX.out _).mono ?_
      rintro e w1 ⟨rfl, hb1⟩
      have hbel1 := hbel.trans (hb1.mono hbel.size)
      clear hb1
      go_wp2_with fail
      refine (HN2.out _).mono ?_
      rintro e w2 ⟨rfl, hb2⟩
      have hbel2 := hbel1.trans (hb2.mono hbel1.size)
      clear hb2
      have hcy := hc1 w2 hbel2
      by_cases huv : u = v
      · subst huv
        have HM : Hid (_) := HY.out rfl
        clear HY HN
        go_wp2
        go_ret2
        exact ⟨by rw [HM.out]; rfl, hbel2⟩
      · have hne := texts_ne huv
        have HM : Hid (_) := HN.out huv
        clear HY HN
        go_wp2
        go_roundw
        case rel => exact ⟨k + 1, by omega, by go_num, HM.out, hbel2⟩
        case measure => simp [intOf]; omega
    · have hki : ¬ (k : Int) < (n : Int) := by omega
      have HM : Hid (fdOf l nm = none) := fdOf_none (fun i hi => hall i (by have := HL.out; omega))
      clear hall
      go_wp2
      go_ret2
      exact ⟨by rw [HM.out]; rfl, hbel⟩

/-- The code that FieldOf answers. -/
def foC (l : List FldP) (nm : ByteArray) : Int := if fdF l = 0 then (if (fdOf l nm).isSome then 0 else 4) else fdF l
/-- The text that FieldOf answers. -/
def foT (l : List FldP) (nm : ByteArray) : ByteArray := if fdF l = 0 then (fdOf l nm).getD ⟨#[]⟩ else ⟨#[]⟩
theorem fo_bad {l : List FldP} (nm : ByteArray) (h : fdF l ≠ 0) : foC l nm = fdF l ∧ foT l nm = ⟨#[]⟩ := ⟨if_neg h, if_neg h⟩
theorem fo_none {l : List FldP} {nm : ByteArray} (h : fdF l = 0) (h1 : fdOf l nm = none) : foC l nm = 4 ∧ foT l nm = ⟨#[]⟩ := by
  unfold foC foT; rw [if_pos h, if_pos h, h1]; exact ⟨rfl, rfl⟩
theorem fo_some {l : List FldP} {nm v : ByteArray} (h : fdF l = 0) (h1 : fdOf l nm = some v) : foC l nm = 0 ∧ foT l nm = v := by
  unfold foC foT; rw [if_pos h, if_pos h, h1]; exact ⟨rfl, rfl⟩

end Go.Proofs.YtaefomiofoakhaaGreatDoor

namespace Go.Proofs.YtaefomiofoakhaaGreatDoor
open Go.RowKit

theorem Own.lower {w : World} {B C : Nat} {v : Value} {l : List Nat} (h : Own w B v l) (hC : C ≤ B) : Own w C v l := by
  refine ⟨h.1, ?_⟩
  rcases h.2 with h' | ⟨g, cap, cur, h1, h2, h3⟩
  · exact .inl h'
  · exact .inr ⟨g, cap, cur, h1, Nat.le_trans hC h2, h3⟩
theorem Own.kept {w : World} {B : Nat} {v : Value} {l : List Nat} (h : Own w B v l) (p : Addr) (hp : p.block < B) (u : Value) : Own (w.setCell p u) B v l := ownsRow_setCell_below h hp u

/-- An answer with bytes. -/
def BytEnd (r : Int × List Nat) (w : World) (e : Ending) (w' : World) : Prop := ∃ v, e = .returned (.agg #[.int .i64 r.1, v]) ∧ Own w' w.heap.size v r.2 ∧ Below w.heap.size w w'
theorem BytEnd.code {c : Int} {w w1 : World} (hbel : Below w.heap.size w w1) (x y : Value) : BytEnd (c, []) w (.returned (.agg #[.int .i64 c, .slice none 0 0])) ((w1.setCell ⟨w.heap.size, 0, none⟩ x).setCell ⟨w.heap.size, 1, none⟩ y) :=
  ⟨_, rfl, Own.nil _ _, (hbel.setCell (by simp) _).setCell (by simp) _⟩
theorem BytEnd.some {c : Int} {w w1 : World} {v : Value} {l : List Nat} (hbel : Below w.heap.size w w1) (hown : Own w1 (w.heap.size + 1) v l) (x y : Value) : BytEnd (c, l) w (.returned (.agg #[.int .i64 c, v])) ((w1.setCell ⟨w.heap.size, 0, none⟩ x).setCell ⟨w.heap.size, 1, none⟩ y) :=
  ⟨_, rfl, ((hown.kept _ (by simp) _).kept _ (by simp) _).lower (by omega), (hbel.setCell (by simp) _).setCell (by simp) _⟩
end Go.Proofs.YtaefomiofoakhaaGreatDoor

namespace Go.Proofs.YtaefomiofoakhaaGreatDoor
open Go.RowKit

theorem str_app (a b : List Nat) : str (a ++ b) = str a ++ str b := by
  apply ByteArray.ext
  simp [str, ByteArray.data_append]
end Go.Proofs.YtaefomiofoakhaaGreatDoor

namespace Go.Proofs.YtaefomiofoakhaaGreatDoor
open Go.RowKit

/-- A byte that ends no line. -/
def noLf (c : Nat) : Bool := decide (c ≠ 10)
/-- Where a line ends. -/
def eoL (l : List Nat) (i : Nat) : Nat := i + ((l.drop i).takeWhile noLf).length
theorem eoL_step {l : List Nat} {i : Nat} (h : i < l.length) (hc : nth l i ≠ 10) : eoL l i = eoL l (i + 1) := by
  unfold eoL
  rw [drop_cons l i h, List.takeWhile_cons, if_pos (by simp [noLf, hc]), List.length_cons]; omega
theorem eoL_here {l : List Nat} {i : Nat} (h : i < l.length) (hc : nth l i = 10) : eoL l i = i := by
  unfold eoL
  rw [drop_cons l i h, List.takeWhile_cons, if_neg (by simp [noLf, hc])]; rfl
theorem eoL_end {l : List Nat} {i : Nat} (h : l.length ≤ i) : eoL l i = i := by
  unfold eoL
  rw [List.drop_eq_nil_of_le h]; rfl
theorem eoL_ge (l : List Nat) (i : Nat) : i ≤ eoL l i := by unfold eoL; omega
theorem eoL_le {l : List Nat} {i : Nat} (h : i ≤ l.length) : eoL l i ≤ l.length := by
  unfold eoL
  have := (List.takeWhile_sublist noLf (l := l.drop i)).length_le
  rw [List.length_drop] at this; omega

set_option maxHeartbeats 1600000 in
set_option maxRecDepth 100000 in
theorem l4End_any (a : Option Addr) (n cap : Nat) (l : List Nat) (i : Nat) (w : World) (hl : l.length = n) (hr : Rd w a l) (hB : IsB l) (hn : n ≤ 1048576) (hi : i ≤ n) :
    Calls Tryz.prog 77 #[.slice a n cap, .int .i64 (i : Int)] w fun e w' => e = .returned (.int .i64 (eoL l i : Int)) ∧ w = w' := by
  have HL : Hid (l.length = n) := hl
  clear hl
  go_enter Tryz.func77, Tryz.ntmps77
  go_wp2
  go_loop [1] (fun v => ∃ k : Nat, k ≤ n ∧ v = .int .i64 k ∧ eoL l i = eoL l k) (fun v => n - (intOf v).toNat)
  case atStart => exact ⟨i, hi, rfl, rfl⟩
  case round =>
    obtain ⟨k, hk, rfl, hall⟩ := hrel
    have HA : Hid (_) := hall
    clear hall
    by_cases hkn : k < n
    · have hki : (k : Int) < (n : Int) := by omega
      obtain ⟨b, off, rfl, hblt, hcell⟩ := hr.at_ (by have := HL.out; omega)
      have hc := hcell k (by have := HL.out; omega)
      have hx := nth_lt hB k
      by_cases h10 : nth l k = 10
      · have HM : Hid (eoL l i = k) := HA.out.trans (eoL_here (by have := HL.out; omega) h10)
        rw [h10] at hc
        clear hcell
        go_wp2
        go_ret
        exact ⟨by rw [HM.out]; rfl, rfl⟩
      · have HM : Hid (eoL l i = eoL l (k + 1)) := HA.out.trans (eoL_step (by have := HL.out; omega) h10)
        have h10' : ((nth l k : Int) == 10) = false := by simp; omega
        clear hcell
        generalize nth l k = x at *
        go_wp2
        go_round
        case rel => exact ⟨k + 1, by omega, by go_num, HM.out⟩
        case measure => simp [intOf]; omega
    · have hki : ¬ (k : Int) < (n : Int) := by omega
      have HM : Hid (eoL l i = k) := HA.out.trans (eoL_end (by have := HL.out; omega))
      go_wp2
      go_ret
      exact ⟨by rw [HM.out]; rfl, rfl⟩
end Go.Proofs.YtaefomiofoakhaaGreatDoor

namespace Go.Proofs.YtaefomiofoakhaaGreatDoor
open Go.RowKit

theorem fc_setV : ∀ (l : List FldP) (i : Nat) (y : ByteArray), i < l.length → (fc l).set (i * 2 + 1) (.string y) = fc (l.set i ((nthF l i).1, y))
  | [], _, _, h => by simp at h
  | p :: l, 0, y, _ => rfl
  | p :: l, i + 1, y, h => by
    have := fc_setV l i y (by simpa using h)
    rw [fc_cons, show (i + 1) * 2 + 1 = (i * 2 + 1) + 1 + 1 by omega, List.set_cons_succ, List.set_cons_succ, this, List.set_cons_succ, fc_cons]
    rfl
/-- The row of a slice of the call's own. -/
theorem OwnF.at_ {w : World} {B : Nat} {v : Value} {l : List FldP} (h : OwnF w B v l) (hp : 0 < l.length) : ∃ g cap, v = .slice (some ⟨g, 0, none⟩) l.length cap ∧ B ≤ g ∧ g < w.heap.size ∧
    (∀ i, i < l.length → w.cell? ⟨g, i * 2, none⟩ = some (.string (nthF l i).1) ∧ w.cell? ⟨g, i * 2 + 1, none⟩ = some (.string (nthF l i).2) ∧ w.frozen? ⟨g, i * 2 + 1, none⟩ = false) ∧
    ∀ i, i < l.length → ∀ y, OwnF (w.setCell ⟨g, i * 2 + 1, none⟩ (.string y)) B v (l.set i ((nthF l i).1, y)) := by
  rcases h.2 with ⟨h', h0⟩ | ⟨g, cap, cur, h1, h2, h3, h4, h5, h6, h7⟩
  · omega
  · subst h1
    have hg : g < w.heap.size := by
      rcases Nat.lt_or_ge g w.heap.size with hlt | hge
      · exact hlt
      · simp [Array.getElem?_eq_none hge] at h3
    have hcell : ∀ j, j < l.length * 2 → w.cell? ⟨g, j, none⟩ = (fc l)[j]? := fun j hj => by
      rw [← h7, List.getElem?_take, if_pos hj, Array.getElem?_toList]
      simp [World.cell?, h3]
    refine ⟨g, cap, rfl, h2, hg, fun i hi => ⟨?_, ?_, ?_⟩, fun i hi y => ⟨?_, .inr ⟨g, cap, cur.setIfInBounds (i * 2 + 1) (.string y), ?_, h2, heap_setCell_same w g _ cur _ _ h3, ?_, h5, ?_, ?_⟩⟩⟩
    · rw [hcell _ (by omega)]; exact (fc_get l i hi).1
    · rw [hcell _ (by omega)]; exact (fc_get l i hi).2
    · simp [World.frozen?, h3]
    · rw [fc_len]
    · rw [List.length_set]
    · rw [List.length_set]; exact h4
    · rw [Array.size_setIfInBounds]; exact h6
    · rw [List.length_set, ← fc_setV l i y hi, ← h7, Array.toList_setIfInBounds, List.take_set]
end Go.Proofs.YtaefomiofoakhaaGreatDoor

namespace Go.Proofs.YtaefomiofoakhaaGreatDoor
open Go.RowKit

/-- No colon. -/
def noCl (c : Nat) : Bool := decide (c ≠ 58)
/-- Where the first colon stands. -/
def clN (t : List Nat) : Nat := (t.takeWhile noCl).length
/-- Without one blank. -/
def oneOff (t : List Nat) : List Nat := if nth t 0 = 32 then t.drop 1 else t
/-- The last field, its value going on. -/
def goOn (l : List FldP) (t : List Nat) : List FldP := l.set (l.length - 1) ((nthF l (l.length - 1)).1, str (bts (nthF l (l.length - 1)).2 ++ t))
/-- The field that a line tells. -/
def fdL (t : List Nat) : FldP := (str (t.take (clN t)), str (oneOff (t.drop (clN t + 1))))
/-- What a line makes of the fields ahead. -/
def lnV (l : List FldP) (t : List Nat) : Option (List FldP) :=
  if nth t 0 = 32 ∨ nth t 0 = 9 then (if l.length = 0 then none else some (goOn l t)) else if clN t < t.length then some (l ++ [fdL t]) else none
theorem lnV_first {l : List FldP} {t : List Nat} (h : nth t 0 = 32 ∨ nth t 0 = 9) (h1 : l.length = 0) : lnV l t = none := by unfold lnV; rw [if_pos h, if_pos h1]
theorem lnV_on {l : List FldP} {t : List Nat} (h : nth t 0 = 32 ∨ nth t 0 = 9) (h1 : l.length ≠ 0) : lnV l t = some (goOn l t) := by unfold lnV; rw [if_pos h, if_neg h1]
theorem lnV_new {l : List FldP} {t : List Nat} (h : ¬ (nth t 0 = 32 ∨ nth t 0 = 9)) (h1 : clN t < t.length) : lnV l t = some (l ++ [fdL t]) := by unfold lnV; rw [if_neg h, if_pos h1]
theorem lnV_none {l : List FldP} {t : List Nat} (h : ¬ (nth t 0 = 32 ∨ nth t 0 = 9)) (h1 : ¬ clN t < t.length) : lnV l t = none := by unfold lnV; rw [if_neg h, if_neg h1]
/-- How a line's answer lies. -/
def LnEnd (o : Option (List FldP)) (w : World) (e : Ending) (w' : World) : Prop := Below w.heap.size w w' ∧
  match o with
  | some l' => ∃ v, e = .returned (.tuple #[v, .bool true]) ∧ OwnF w' w.heap.size v l'
  | none => e = .returned (.tuple #[.slice none 0 0, .bool false])
theorem OwnF.lit0 (w : World) (B : Nat) (hB : B ≤ w.heap.size) : OwnF (w.alloc (.cells #[] 122)) B (.slice (some ⟨w.heap.size, 0, none⟩) 0 0) [] := by
  have := World.ownsRow_lit (base := B) (e := 122) (size := 2) w #[] 0 hB (by decide) rfl
  exact this
theorem add_fields (x : ByteArray) (t : List Nat) (hx : x.size ≤ 1048576) (ht : t.length ≤ 1048576) : ∀ w, (Op.stringOp .add x (str t)).run Tryz.prog w = .ok (.string (str (bts x ++ t))) w := by
  intro w
  rw [str_app, str_bts]
  exact run_string_add_sum w _ _ (by rw [str_size]; omega)

set_option maxHeartbeats 1600000 in
set_option maxRecDepth 100000 in
theorem l4Line_on (b off n cap : Nat) (l : List FldP) (t : List Nat) (w : World) (hl : l.length = n + 1) (hr : RdF w (some ⟨b, off, none⟩) l) (hn : n ≤ 1048000) (hB : IsB t) (ht0 : 0 < t.length) (ht : t.length ≤ 1048576) (hfit : Fit l) (hx : nth t 0 = 32 ∨ nth t 0 = 9) :
    Calls Tryz.prog 95 #[.slice (some ⟨b, off, none⟩) (n + 1 : Nat) cap, .string (str t)] w fun e w' => LnEnd (some (goOn l t)) w e w' := by
  have hsz : (str t).size = t.length := str_size t
  have hsp : 0 < (str t).size := by omega
  have g0 := str_get hB (i := 0) hsp
  have HL : Hid (l.length = n + 1) := hl
  obtain ⟨b', off', e, hblt, hcell⟩ := hr.at_ (by omega)
  cases e
  have hf := hfit (nthF l n) (by rw [nthF_get (by omega)]; exact List.getElem_mem _)
  have hadd := add_fields (nthF l n).2 t hf.2 ht
  have HG : Hid (goOn l t = l.set n ((nthF l n).1, str (bts (nthF l n).2 ++ t))) := by
    show _ = _
    unfold goOn; rw [hl]; rfl
  have hnew : ∀ wx, Below w.heap.size w wx → ∀ j, j < n + 1 → wx.cell? ((⟨b, off, none⟩ : Addr).add (j * 2)) = some (.string (nthF l j).1) ∧ wx.cell? ((⟨b, off, none⟩ : Addr).add (j * 2 + 1)) = some (.string (nthF l j).2) := by
    intro wx hbx j hj
    rw [Go.WideShapes.add_plain, Go.WideShapes.add_plain]
    exact ⟨(hbx.cell (p := ⟨b, off + j * 2, none⟩) hblt).trans (hcell j (by omega)).1, (hbx.cell (p := ⟨b, off + (j * 2 + 1), none⟩) hblt).trans (hcell j (by omega)).2⟩
  have hb0 : Below w.heap.size w (w.alloc (.cells #[] 122)) := (Below.refl _ _).alloc (Nat.le_refl _) _
  have ho0 := OwnF.lit0 w w.heap.size (Nat.le_refl _)
  clear hcell hf hl
  rcases hx with hx | hx
  all_goals
    rw [hx] at g0
    clear hx
    go_enter Tryz.func95, Tryz.ntmps95
    go_wp2_with (at_builtin; refine wpList_appF rfl _ _ rfl w.heap.size _ [] rfl ho0 ⟨b, off, none⟩ (n + 1) cap l rfl HL.out (hnew _ hb0) (by simp; omega) (by simp) ?_; intro v' w2 hown' hb'; rw [List.nil_append] at hown'; obtain ⟨g, gc, ev, hg1, hg2, hgc, hset⟩ := hown'.at_ (by have := HL.out; omega); rw [HL.out] at ev; subst ev; obtain ⟨hc0, hc1, hc2⟩ := hgc n (by have := HL.out; omega))
    have hs2 := hset n (by have := HL.out; omega) (str (bts (nthF l n).2 ++ t))
    rw [← HG.out] at hs2
    go_ret2
    exact ⟨(hb0.trans hb').setCell hg1 _, _, rfl, hs2⟩

set_option maxHeartbeats 1600000 in
set_option maxRecDepth 100000 in
theorem l4Line_first (a : Option Addr) (cap : Nat) (t : List Nat) (w : World) (hB : IsB t) (ht0 : 0 < t.length) (hx : nth t 0 = 32 ∨ nth t 0 = 9) :
    Calls Tryz.prog 95 #[.slice a 0 cap, .string (str t)] w fun e w' => LnEnd none w e w' := by
  have hsz : (str t).size = t.length := str_size t
  have hsp : 0 < (str t).size := by omega
  have g0 := str_get hB (i := 0) hsp
  rcases hx with hx | hx
  all_goals
    rw [hx] at g0
    clear hx
    go_enter Tryz.func95, Tryz.ntmps95
    go_wp2
    go_ret2
    exact ⟨Below.refl _ _, rfl⟩
end Go.Proofs.YtaefomiofoakhaaGreatDoor
