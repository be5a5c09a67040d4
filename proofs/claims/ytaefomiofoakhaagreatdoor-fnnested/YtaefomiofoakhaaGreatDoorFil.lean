/- One part filled by its header, the program's: by a plain function. -/
import Derived.Test.YtaefomiofoakhaaGreatDoorFldToJmp
import Derived.Test.YtaefomiofoakhaaGreatDoorPhp
import Derived.Test.YtaefomiofoakhaaGreatDoorLnsToMemR
namespace Go.Proofs.YtaefomiofoakhaaGreatDoor
open Go.RowKit

/-- A part in a block of its own. -/
def PtAt (W : World) (P : Nat) (k c g f t u n : Int) : Prop := W.heap[P]? = some (.cells #[.int .i64 k, .int .i64 c, .int .i64 g, .int .i64 f, .int .i64 t, .int .i64 u, .int .i64 n] 30 (0, 0))
theorem PtAt.lt {W : World} {P : Nat} {k c g f t u n : Int} (h : PtAt W P k c g f t u n) : P < W.heap.size := (Array.getElem?_eq_some_iff.1 h).1
theorem PtAt.cells {W : World} {P : Nat} {k c g f t u n : Int} (h : PtAt W P k c g f t u n) : W.cell? ⟨P, 0, none⟩ = some (.int .i64 k) ∧ W.cell? ⟨P, 1, none⟩ = some (.int .i64 c) ∧ W.cell? ⟨P, 2, none⟩ = some (.int .i64 g) ∧ W.cell? ⟨P, 3, none⟩ = some (.int .i64 f) ∧ W.cell? ⟨P, 4, none⟩ = some (.int .i64 t) ∧ W.cell? ⟨P, 5, none⟩ = some (.int .i64 u) ∧ W.cell? ⟨P, 6, none⟩ = some (.int .i64 n) := by
  unfold PtAt at h
  simp [World.cell?, h]
theorem PtAt.frozen {W : World} {P : Nat} {k c g f t u n : Int} (h : PtAt W P k c g f t u n) (i : Nat) : W.frozen? ⟨P, i, none⟩ = false := by
  unfold PtAt at h
  simp [World.frozen?, h]
theorem PtAt.kept {W W' : World} {P : Nat} {k c g f t u n : Int} (h : PtAt W P k c g f t u n) (he : W'.heap[P]? = W.heap[P]?) : PtAt W' P k c g f t u n := he.trans h
theorem setCell_block {W : World} {P i : Nat} {arr : Array Value} {t : TypeId} (h : W.heap[P]? = some (.cells arr t (0, 0))) (v : Value) : (W.setCell ⟨P, i, none⟩ v).heap[P]? = some (.cells (arr.setIfInBounds i v) t (0, 0)) := by
  have hlt := (Array.getElem?_eq_some_iff.1 h).1
  simp [World.setCell, h, Array.getElem?_modify]
theorem PtAt.set0 {W : World} {P : Nat} {k c g f t u n : Int} (h : PtAt W P k c g f t u n) (x : Int) : PtAt (W.setCell ⟨P, 0, none⟩ (.int .i64 x)) P x c g f t u n := setCell_block h _
theorem PtAt.set1 {W : World} {P : Nat} {k c g f t u n : Int} (h : PtAt W P k c g f t u n) (x : Int) : PtAt (W.setCell ⟨P, 1, none⟩ (.int .i64 x)) P k x g f t u n := setCell_block h _
theorem PtAt.set2 {W : World} {P : Nat} {k c g f t u n : Int} (h : PtAt W P k c g f t u n) (x : Int) : PtAt (W.setCell ⟨P, 2, none⟩ (.int .i64 x)) P k c x f t u n := setCell_block h _
theorem PtAt.set3 {W : World} {P : Nat} {k c g f t u n : Int} (h : PtAt W P k c g f t u n) (x : Int) : PtAt (W.setCell ⟨P, 3, none⟩ (.int .i64 x)) P k c g x t u n := setCell_block h _
theorem PtAt.set4 {W : World} {P : Nat} {k c g f t u n : Int} (h : PtAt W P k c g f t u n) (x : Int) : PtAt (W.setCell ⟨P, 4, none⟩ (.int .i64 x)) P k c g f x u n := setCell_block h _
theorem PtAt.alloc {W : World} {P : Nat} {k c g f t u n : Int} (h : PtAt W P k c g f t u n) (o : Obj) : PtAt (W.alloc o) P k c g f t u n := h.kept (Below.heap_alloc W o P h.lt)
/-- What the bytes of a part tell: kind, charset, coding, how many bytes its header has, its mark. -/
def oneV (x : List Nat) : (Int × Int × Int) × Nat × List Nat := if (phV x).1 = 0 then (match fdOf (phV x).2.2 wct with
    | none => ((1, 1, cdV (phV x).2.2), (phV x).2.1, [])
    | some v => (((tyV (bts v)).1, (tyV (bts v)).2, cdV (phV x).2.2), (phV x).2.1, if (tyV (bts v)).1 = 2 then mkC (bts v) else []))
  else ((3, 0, 1), 0, [])
/-- How the filling of a part ends. -/
def FilEnd (w0 : World) (P : Nat) (r : (Int × Int × Int) × Nat × List Nat) (fr tt : Nat) (u nu : Int) (w : World) (e : Ending) (w' : World) : Prop :=
  e = .returned (.string (str r.2.2)) ∧ PtAt w' P r.1.1 r.1.2.1 r.1.2.2 ((fr + r.2.1 : Nat) : Int) (tt : Int) u nu ∧ w.grownBy w' (some P) ∧ Below w0.heap.size w0 w'

theorem gset {w w1 : World} {P i : Nat} {v : Value} (h : w.grownBy w1 (some P)) : w.grownBy (w1.setCell ⟨P, i, none⟩ v) (some P) :=
  ⟨h.os, h.tape, h.output, by simp; exact h.size, fun k hk hne => (Below.heap_setCell w1 ⟨P, i, none⟩ v k (fun e => hne (by rw [e]))).trans (h.block k hk hne)⟩
/-- The state of a filling: the part, and what else is as it was. -/
def FS (w0 w : World) (P : Nat) (W : World) (k c g f t u n : Int) : Prop := PtAt W P k c g f t u n ∧ w.grownBy W (some P) ∧ Below w0.heap.size w0 W ∧ w0.heap.size ≤ P ∧ P < w.heap.size
theorem FS.start {w0 w : World} {P : Nat} {k c g f t u n : Int} (hp : PtAt w P k c g f t u n) (hbw : Below w0.heap.size w0 w) (hP : w0.heap.size ≤ P) : FS w0 w P w k c g f t u n := ⟨hp, World.grownBy.refl _ _, hbw, hP, hp.lt⟩
theorem FS.put0 {w0 w W : World} {P : Nat} {k c g f t u n : Int} (h : FS w0 w P W k c g f t u n) (x : Int) : FS w0 w P (W.setCell ⟨P, 0, none⟩ (.int .i64 x)) x c g f t u n := ⟨h.1.set0 x, gset h.2.1, h.2.2.1.setCell (p := ⟨P, 0, none⟩) h.2.2.2.1 _, h.2.2.2⟩
theorem FS.put1 {w0 w W : World} {P : Nat} {k c g f t u n : Int} (h : FS w0 w P W k c g f t u n) (x : Int) : FS w0 w P (W.setCell ⟨P, 1, none⟩ (.int .i64 x)) k x g f t u n := ⟨h.1.set1 x, gset h.2.1, h.2.2.1.setCell (p := ⟨P, 1, none⟩) h.2.2.2.1 _, h.2.2.2⟩
theorem FS.put2 {w0 w W : World} {P : Nat} {k c g f t u n : Int} (h : FS w0 w P W k c g f t u n) (x : Int) : FS w0 w P (W.setCell ⟨P, 2, none⟩ (.int .i64 x)) k c x f t u n := ⟨h.1.set2 x, gset h.2.1, h.2.2.1.setCell (p := ⟨P, 2, none⟩) h.2.2.2.1 _, h.2.2.2⟩
theorem FS.put3 {w0 w W : World} {P : Nat} {k c g f t u n : Int} (h : FS w0 w P W k c g f t u n) (x : Int) : FS w0 w P (W.setCell ⟨P, 3, none⟩ (.int .i64 x)) k c g x t u n := ⟨h.1.set3 x, gset h.2.1, h.2.2.1.setCell (p := ⟨P, 3, none⟩) h.2.2.2.1 _, h.2.2.2⟩
theorem FS.put4 {w0 w W : World} {P : Nat} {k c g f t u n : Int} (h : FS w0 w P W k c g f t u n) (x : Int) : FS w0 w P (W.setCell ⟨P, 4, none⟩ (.int .i64 x)) k c g f x u n := ⟨h.1.set4 x, gset h.2.1, h.2.2.1.setCell (p := ⟨P, 4, none⟩) h.2.2.2.1 _, h.2.2.2⟩
theorem FS.drew {w0 w W : World} {P : Nat} {k c g f t u n : Int} (h : FS w0 w P W k c g f t u n) : FS w0 w P W.drew k c g f t u n := ⟨h.1, ⟨h.2.1.os, h.2.1.tape, h.2.1.output, h.2.1.size, h.2.1.block⟩, h.2.2.1.drew, h.2.2.2⟩
theorem FS.below {w0 w W W' : World} {P : Nat} {k c g f t u n : Int} (h : FS w0 w P W k c g f t u n) (hb : Below W.heap.size W W') : FS w0 w P W' k c g f t u n :=
  ⟨h.1.kept (hb.block P h.1.lt), ⟨hb.os.trans h.2.1.os, hb.tape.trans h.2.1.tape, hb.output.trans h.2.1.output, Nat.le_trans h.2.1.size hb.size, fun k hk hne => (hb.block k (Nat.lt_of_lt_of_le hk h.2.1.size)).trans (h.2.1.block k hk hne)⟩, h.2.2.1.trans (hb.mono h.2.2.1.size), h.2.2.2⟩
theorem FS.alloc {w0 w W : World} {P : Nat} {k c g f t u n : Int} (h : FS w0 w P W k c g f t u n) (o : Obj) : FS w0 w P (W.alloc o) k c g f t u n := h.below ((Below.refl _ _).alloc (Nat.le_refl _) _)

theorem FS.fin {w0 w W : World} {P : Nat} {r : (Int × Int × Int) × Nat × List Nat} {fr tt : Nat} {u nu : Int} (h : FS w0 w P W r.1.1 r.1.2.1 r.1.2.2 ((fr + r.2.1 : Nat) : Int) (tt : Int) u nu) : FilEnd w0 P r fr tt u nu w (.returned (.string (str r.2.2))) W := ⟨rfl, h.1, h.2.1, h.2.2.1⟩
theorem phF_all (d : List Nat) : (phV d).1 = 0 → fdF (phV d).2.2 = 0 ∧ (phV d).2.1 ≤ d.length ∧ FitK d.length (phV d).2.2 := by
  intro h
  unfold phV at h ⊢
  split at h
  · simp at h
  · rename_i h4
    rw [if_neg h4]
    split at h
    · simp at h
    · rename_i fs k e
      have hq := prH_fit (d.length + 1) 0 [] fs k (Nat.zero_le _) ⟨Nat.le_refl _, fun p hp => by cases hp⟩ e
      split at h
      · rename_i hf
        rw [if_pos hf]; exact ⟨hf, hq.2, hq.1⟩
      · simp at h
theorem oneV_bad {x : List Nat} (h : (phV x).1 ≠ 0) : oneV x = ((3, 0, 1), 0, []) := if_neg h
theorem oneV_none {x : List Nat} (h : (phV x).1 = 0) (h1 : fdOf (phV x).2.2 wct = none) : oneV x = ((1, 1, cdV (phV x).2.2), (phV x).2.1, []) := by
  unfold oneV; rw [if_pos h, h1]
theorem oneV_some {x : List Nat} {v : ByteArray} (h : (phV x).1 = 0) (h1 : fdOf (phV x).2.2 wct = some v) : oneV x = (((tyV (bts v)).1, (tyV (bts v)).2, cdV (phV x).2.2), (phV x).2.1, if (tyV (bts v)).1 = 2 then mkC (bts v) else []) := by
  unfold oneV; rw [if_pos h, h1]

/-- The state of a filling with the header's fields. -/
def FZ (w0 w : World) (P C Hb ha : Nat) (v : Value) (fs : List FldP) (W : World) (k c g f t u n : Int) : Prop := FS w0 w P W k c g f t u n ∧ W.heap[Hb]? = some (.cells #[.int .i64 0, .int .i64 (ha : Int), v] 82 (0, 0)) ∧ OwnF W C v fs ∧ P < C ∧ P ≠ Hb
theorem FZ.hdr {w0 w W : World} {P C Hb ha : Nat} {v : Value} {fs : List FldP} {k c g f t u n : Int} (h : FZ w0 w P C Hb ha v fs W k c g f t u n) : W.cell? ⟨Hb, 1, none⟩ = some (.int .i64 (ha : Int)) ∧ W.cell? ⟨Hb, 2, none⟩ = some v := by
  have h2 := h.2.1
  simp [World.cell?, h2]
theorem FZ.row {w0 w W : World} {P C Hb ha : Nat} {v : Value} {fs : List FldP} {k c g f t u n : Int} (h : FZ w0 w P C Hb ha v fs W k c g f t u n) {i : Nat} {x : Value} {k2 c2 g2 f2 t2 : Int} (hF : FS w0 w P (W.setCell ⟨P, i, none⟩ x) k2 c2 g2 f2 t2 u n) : FZ w0 w P C Hb ha v fs (W.setCell ⟨P, i, none⟩ x) k2 c2 g2 f2 t2 u n :=
  ⟨hF, (Below.heap_setCell W ⟨P, i, none⟩ x Hb (fun e => h.2.2.2.2 e.symm)).trans h.2.1, h.2.2.1.far (gset (World.grownBy.refl _ _)) (fun b hb e => by have := (World.ownsRow.lt h.2.2.1 b hb).1; have := h.2.2.2.1; cases e; omega), h.2.2.2⟩
theorem FZ.put0 {w0 w W : World} {P C Hb ha : Nat} {v : Value} {fs : List FldP} {k c g f t u n : Int} (h : FZ w0 w P C Hb ha v fs W k c g f t u n) (x : Int) : FZ w0 w P C Hb ha v fs (W.setCell ⟨P, 0, none⟩ (.int .i64 x)) x c g f t u n := h.row (h.1.put0 x)
theorem FZ.put1 {w0 w W : World} {P C Hb ha : Nat} {v : Value} {fs : List FldP} {k c g f t u n : Int} (h : FZ w0 w P C Hb ha v fs W k c g f t u n) (x : Int) : FZ w0 w P C Hb ha v fs (W.setCell ⟨P, 1, none⟩ (.int .i64 x)) k x g f t u n := h.row (h.1.put1 x)
theorem FZ.put2 {w0 w W : World} {P C Hb ha : Nat} {v : Value} {fs : List FldP} {k c g f t u n : Int} (h : FZ w0 w P C Hb ha v fs W k c g f t u n) (x : Int) : FZ w0 w P C Hb ha v fs (W.setCell ⟨P, 2, none⟩ (.int .i64 x)) k c x f t u n := h.row (h.1.put2 x)
theorem FZ.put3 {w0 w W : World} {P C Hb ha : Nat} {v : Value} {fs : List FldP} {k c g f t u n : Int} (h : FZ w0 w P C Hb ha v fs W k c g f t u n) (x : Int) : FZ w0 w P C Hb ha v fs (W.setCell ⟨P, 3, none⟩ (.int .i64 x)) k c g x t u n := h.row (h.1.put3 x)
theorem FZ.drew {w0 w W : World} {P C Hb ha : Nat} {v : Value} {fs : List FldP} {k c g f t u n : Int} (h : FZ w0 w P C Hb ha v fs W k c g f t u n) : FZ w0 w P C Hb ha v fs W.drew k c g f t u n := ⟨h.1.drew, h.2.1, h.2.2.1, h.2.2.2⟩
theorem FZ.below {w0 w W : World} {P C Hb ha : Nat} {v : Value} {fs : List FldP} {k c g f t u n : Int} {W' : World} (h : FZ w0 w P C Hb ha v fs W k c g f t u n) (hb : Below W.heap.size W W') : FZ w0 w P C Hb ha v fs W' k c g f t u n := ⟨h.1.below hb, (hb.block Hb (Array.getElem?_eq_some_iff.1 h.2.1).1).trans h.2.1, h.2.2.1.below hb (Nat.le_refl _), h.2.2.2⟩
theorem FZ.alloc {w0 w W : World} {P C Hb ha : Nat} {v : Value} {fs : List FldP} {k c g f t u n : Int} (h : FZ w0 w P C Hb ha v fs W k c g f t u n) (o : Obj) : FZ w0 w P C Hb ha v fs (W.alloc o) k c g f t u n := h.below ((Below.refl _ _).alloc (Nat.le_refl _) _)

set_option maxHeartbeats 3200000 in
set_option maxRecDepth 100000 in
theorem fillPart_any {cp : Nat} (b m : Nat) (d : List Nat) (w0 : World) (hr : Rd w0 (some ⟨b, 0, none⟩) d) (hT : TabC w0) (hB : IsB d) (hl : d.length = m) (hm : m ≤ 400) (P fr tt : Nat) (u nu : Int) (hft : fr ≤ tt) (htt : tt ≤ m) (w : World) (hbw : Below w0.heap.size w0 w) (hP : w0.heap.size ≤ P) (hp : PtAt w P 0 0 0 0 0 u nu) (hcp : m ≤ cp := by omega) :
    Calls Tryz.prog 29 #[.pointer (some ⟨P, 0, none⟩), .slice (some ⟨b, 0, none⟩) m cp, .agg #[.int .i64 (fr : Int), .int .i64 (tt : Int)]] w (FilEnd w0 P (oneV ((d.take tt).drop fr)) fr tt u nu w) := by
  have hPw := hp.lt
  obtain ⟨c0, c1, c2, c3, c4, c5, c6⟩ := hp.cells
  have f3 := hp.frozen 3
  have f4 := hp.frozen 4
  have hne : P ≠ w.heap.size := by omega
  have hi1 : (fr : Int) ≤ (tt : Int) := by omega
  have hi2 : (tt : Int) ≤ (m : Int) := by omega
  have hi3 : (0 : Int) ≤ (fr : Int) := by omega
  have hxl : ((d.take tt).drop fr).length = tt - fr := by rw [List.length_drop, List.length_take]; omega
  have hBx : IsB ((d.take tt).drop fr) := isB_drop (isB_take hB _) _
  have HPa : Hid (∀ W, Below w0.heap.size w0 W → Calls Tryz.prog 46 #[.slice (some ⟨b, fr, none⟩) (tt - fr) (cp - fr)] W fun e w' => HdrEnd (phV ((d.take tt).drop fr)) W e w') := fun W hW => parseHeader_any _ _ _ _ W hxl (by
      have h := (rd_takeH (hr.below hW) tt).drop fr
      rw [Nat.zero_add] at h; exact h) hBx (by omega) (.inr ⟨_, _, rfl⟩)
  have HPb : Hid (cp = fr → ∀ W, Below w0.heap.size w0 W → Calls Tryz.prog 46 #[.slice (some ⟨b, 0, none⟩) (tt - fr) 0] W fun e w' => HdrEnd (phV ((d.take tt).drop fr)) W e w') := fun hmf W hW => parseHeader_any _ _ _ _ W hxl (by
      have e0 : (d.take tt).drop fr = [] := List.length_eq_zero_iff.1 (by rw [hxl]; omega)
      rw [e0]; exact .inl rfl) hBx (by omega) (.inr ⟨_, _, rfl⟩)
  have HOK : Hid ((phV ((d.take tt).drop fr)).1 = 0 → fdF (phV ((d.take tt).drop fr)).2.2 = 0 ∧ (phV ((d.take tt).drop fr)).2.1 ≤ 400 ∧ FitK 400 (phV ((d.take tt).drop fr)).2.2) := fun h => by
    obtain ⟨h1, h2, h3⟩ := phF_all _ h
    rw [hxl] at h2 h3
    exact ⟨h1, by omega, h3.mono (by omega)⟩
  have HO1 : Hid ((phV ((d.take tt).drop fr)).1 ≠ 0 → oneV ((d.take tt).drop fr) = ((3, 0, 1), 0, [])) := oneV_bad
  have HO2 : Hid ((phV ((d.take tt).drop fr)).1 = 0 → fdOf (phV ((d.take tt).drop fr)).2.2 wct = none → oneV ((d.take tt).drop fr) = ((1, 1, cdV (phV ((d.take tt).drop fr)).2.2), (phV ((d.take tt).drop fr)).2.1, [])) := oneV_none
  have HO3 : Hid ((phV ((d.take tt).drop fr)).1 = 0 → ∀ v, fdOf (phV ((d.take tt).drop fr)).2.2 wct = some v → oneV ((d.take tt).drop fr) = (((tyV (bts v)).1, (tyV (bts v)).2, cdV (phV ((d.take tt).drop fr)).2.2), (phV ((d.take tt).drop fr)).2.1, if (tyV (bts v)).1 = 2 then mkC (bts v) else [])) := fun h v h1 => oneV_some h h1
  generalize oneV ((d.take tt).drop fr) = ro at *
  generalize phV ((d.take tt).drop fr) = ph at *
  obtain ⟨hc, ha, fs⟩ := ph
  clear hxl hBx hB hl
  go_enter Tryz.func29, Tryz.ntmps29
  go_wp2_with fail
  refine wp_region_held_drew (S := (fun w' => w'.cell? ⟨w.heap.size, 0, none⟩ = some (.int .i64 (fr : Int)) ∧ w'.cell? ⟨w.heap.size, 1, none⟩ = some (.int .i64 (tt : Int)))) (by kernel_rfl) ?hS1 (fun hHeld => ?_)
  case hS1 => exact ⟨by simp, by simp⟩
  refine wpAnyH_take (i := 0) (v := ?_) rfl (by kernel_rfl) (by kernel_rfl) (by kernel_rfl) (fun _ _ _ h => h) (Or.inl ⟨by rfl, ?hy2⟩) (by assumption) ?ty2
  case hy2 => (intro w hSw; (try dsimp only at hSw); obtain ⟨hS0, hS1⟩ := hSw; go_simp; all_goals with_reducible rfl)
  simp only [Act.put, List.getElem_toArray, List.getElem_cons_zero, List.setIfInBounds_toArray, List.set_cons_zero, List.set_cons_succ]
  refine wpAnyH_take (i := 1) (v := ?_) rfl (by kernel_rfl) (by kernel_rfl) (by kernel_rfl) (fun _ _ _ h => h) (Or.inl ⟨by rfl, ?hy3⟩) (by assumption) ?ty3
  case hy3 => (intro w hSw; (try dsimp only at hSw); obtain ⟨hS0, hS1⟩ := hSw; go_simp; all_goals with_reducible rfl)
  simp only [Act.put, List.getElem_toArray, List.getElem_cons_zero, List.getElem_cons_succ, List.setIfInBounds_toArray, List.set_cons_zero, List.set_cons_succ]
  refine wpAnyH_take (i := 2) (v := ?_) rfl (by kernel_rfl) (by kernel_rfl) (by kernel_rfl) (fun _ _ _ h => h) (Or.inl ⟨by rfl, ?hy4⟩) (by assumption) ?ty4
  case hy4 => (intro w hSw; (try dsimp only at hSw); obtain ⟨hS0, hS1⟩ := hSw; go_simp; all_goals with_reducible rfl)
  simp only [Act.put, List.getElem_toArray, List.getElem_cons_zero, List.getElem_cons_succ, List.setIfInBounds_toArray, List.set_cons_zero, List.set_cons_succ]
  refine wpAnyH_take (i := 3) (v := ?_) rfl (by kernel_rfl) (by kernel_rfl) (by kernel_rfl) (fun _ _ _ h => h) (Or.inl ⟨by rfl, ?hy5⟩) (by assumption) ?ty5
  case hy5 => (intro w hSw; (try dsimp only at hSw); obtain ⟨hS0, hS1⟩ := hSw; go_simp; all_goals with_reducible rfl)
  simp only [Act.put, List.getElem_toArray, List.getElem_cons_zero, List.getElem_cons_succ, List.setIfInBounds_toArray, List.set_cons_zero, List.set_cons_succ]
  refine wpAnyH_take (i := 4) (v := ?_) rfl (by kernel_rfl) (by kernel_rfl) (by kernel_rfl) (fun _ _ _ h => h) (Or.inl ⟨by rfl, ?hy6⟩) (by assumption) ?ty6
  case hy6 => (intro w hSw; (try dsimp only at hSw); obtain ⟨hS0, hS1⟩ := hSw; go_simp; all_goals with_reducible rfl)
  simp only [Act.put, List.getElem_toArray, List.getElem_cons_zero, List.getElem_cons_succ, List.setIfInBounds_toArray, List.set_cons_zero, List.set_cons_succ]
  refine wpAnyH_take (i := 5) (v := ?_) rfl (by kernel_rfl) (by kernel_rfl) (by kernel_rfl) (fun _ _ _ h => h) (Or.inl ⟨by rfl, ?hy7⟩) (by assumption) ?ty7
  case hy7 => (intro w hSw; (try dsimp only at hSw); obtain ⟨hS0, hS1⟩ := hSw; go_simp; all_goals with_reducible rfl)
  simp only [Act.put, List.getElem_toArray, List.getElem_cons_zero, List.getElem_cons_succ, List.setIfInBounds_toArray, List.set_cons_zero, List.set_cons_succ]
  refine wpAnyH_take (i := 6) (v := ?_) rfl (by kernel_rfl) (by kernel_rfl) (by kernel_rfl) (fun _ _ _ h => h) (Or.inl ⟨by rfl, ?hy8⟩) (by assumption) ?ty8
  case hy8 => (intro w hSw; (try dsimp only at hSw); obtain ⟨hS0, hS1⟩ := hSw; go_simp; all_goals with_reducible rfl)
  simp only [Act.put, List.getElem_toArray, List.getElem_cons_zero, List.getElem_cons_succ, List.setIfInBounds_toArray, List.set_cons_zero, List.set_cons_succ]
  refine wpAnyH_take (i := 7) (v := ?_) rfl (by kernel_rfl) (by kernel_rfl) (by kernel_rfl) (fun _ _ _ h => h) (Or.inl ⟨by rfl, ?hy9⟩) (by assumption) ?ty9
  case hy9 => (intro w hSw; (try dsimp only at hSw); obtain ⟨hS0, hS1⟩ := hSw; go_simp; all_goals with_reducible rfl)
  simp only [Act.put, List.getElem_toArray, List.getElem_cons_zero, List.getElem_cons_succ, List.setIfInBounds_toArray, List.set_cons_zero, List.set_cons_succ]
  refine wpAnyH_ready (rs := [8]) (by kernel_rfl) (by simp) ?_
  refine AllReadyH.cons rfl (fun K hK => ?_) AllReadyH.nil
  go_simp
  refine hK.out _ _ ?sp1 (fun hHeld => ?_)
  clear hK K
  case sp1 => exact ⟨by go_simp, by go_simp⟩
  refine wpAnyH_take (i := 9) (v := ?_) rfl (by kernel_rfl) (by kernel_rfl) (by kernel_rfl) (fun _ _ _ h => h) (Or.inl ⟨by rfl, ?hy10⟩) (by assumption) ?ty10
  case hy10 => (intro w hSw; (try dsimp only at hSw); obtain ⟨hS0, hS1⟩ := hSw; go_simp; all_goals with_reducible rfl)
  simp only [Act.put, List.getElem_toArray, List.getElem_cons_zero, List.getElem_cons_succ, List.setIfInBounds_toArray, List.set_cons_zero, List.set_cons_succ]
  refine wpAnyH_take (i := 10) (v := ?_) rfl (by kernel_rfl) (by kernel_rfl) (by kernel_rfl) (fun _ _ _ h => h) (Or.inl ⟨by rfl, ?hy11⟩) (by assumption) ?ty11
  case hy11 => (intro w hSw; (try dsimp only at hSw); obtain ⟨hS0, hS1⟩ := hSw; go_simp; all_goals with_reducible rfl)
  simp only [Act.put, List.getElem_toArray, List.getElem_cons_zero, List.getElem_cons_succ, List.setIfInBounds_toArray, List.set_cons_zero, List.set_cons_succ]
  refine wpAnyH_ready (rs := [11]) (by kernel_rfl) (by simp) ?_
  refine AllReadyH.cons rfl (fun K hK => ?_) AllReadyH.nil
  go_simp
  refine hK.out _ _ ?sp2 (fun hHeld => ?_)
  clear hK K
  case sp2 => exact ⟨by go_simp, by go_simp⟩
  refine wpAnyH_done (by kernel_rfl) ?_ _
  have s0 : (((w.setCell ⟨P, 3, none⟩ (.int .i64 (fr : Int))).setCell ⟨P, 4, none⟩ (.int .i64 (tt : Int))).alloc (.cells #[.int .i64 (fr : Int), .int .i64 (tt : Int)] 48)).drew.cell? ⟨w.heap.size, 0, none⟩ = some (.int .i64 (fr : Int)) := by go_simp
  have s1 : (((w.setCell ⟨P, 3, none⟩ (.int .i64 (fr : Int))).setCell ⟨P, 4, none⟩ (.int .i64 (tt : Int))).alloc (.cells #[.int .i64 (fr : Int), .int .i64 (tt : Int)] 48)).drew.cell? ⟨w.heap.size, 1, none⟩ = some (.int .i64 (tt : Int)) := by go_simp
  have hz1 : (((w.setCell ⟨P, 3, none⟩ (.int .i64 (fr : Int))).setCell ⟨P, 4, none⟩ (.int .i64 (tt : Int))).alloc (.cells #[.int .i64 (fr : Int), .int .i64 (tt : Int)] 48)).drew.heap.size = w.heap.size + 1 := by simp
  have F1 : FS w0 w P (((w.setCell ⟨P, 3, none⟩ (.int .i64 (fr : Int))).setCell ⟨P, 4, none⟩ (.int .i64 (tt : Int))).alloc (.cells #[.int .i64 (fr : Int), .int .i64 (tt : Int)] 48)).drew 0 0 0 (fr : Int) (tt : Int) u nu := ((((FS.start hp hbw hP).put3 _).put4 _).alloc _).drew
  generalize (((w.setCell ⟨P, 3, none⟩ (.int .i64 (fr : Int))).setCell ⟨P, 4, none⟩ (.int .i64 (tt : Int))).alloc (.cells #[.int .i64 (fr : Int), .int .i64 (tt : Int)] 48)).drew = W1 at *
  clear hHeld c0 c1 c2 c3 c4 c5 c6 f3 f4 hne
  go_wp2_with fail
  case inr =>
    refine (HPa.out _ F1.2.2.1).mono ?_
    rintro e w1 ⟨v, rfl, hown, hb1⟩
    clear HPa HPb
    obtain ⟨av, cv, rfl, hcv, -⟩ := hown.form
    dsimp only at hown hcv ⊢
    have F2 := F1.below hb1
    have hPw1 := F2.1.lt
    by_cases hc0 : hc = 0
    · obtain rfl := hc0
      obtain ⟨hfd, hha, hfk⟩ := HOK.out rfl
      clear HO1 HOK
      have f3 := F2.1.frozen 3
      obtain ⟨c0, c1, c2, c3, c4, c5, c6⟩ := F2.1.cells
      have hsz : w.heap.size + 1 ≤ w1.heap.size := by have := hb1.size; omega
      have hwr : Hid ((fr : Int) + (ha : Int) = ((fr + ha : Nat) : Int)) := by show _ = _; omega
      go_wp2_with fail
      refine wp_region_held_drew (S := (fun w' => w'.cell? ⟨w1.heap.size, 1, none⟩ = some (.int .i64 (ha : Int)) ∧ True)) (by kernel_rfl) ?hS12 (fun hHeld => ?_)
      case hS12 => exact ⟨by go_simp, trivial⟩
      refine wpAnyH_take (i := 0) (v := ?_) rfl (by kernel_rfl) (by kernel_rfl) (by kernel_rfl) (fun _ _ _ h => h) (Or.inl ⟨by rfl, ?hy13⟩) (by assumption) ?ty13
      case hy13 => (intro w hSw; (try dsimp only at hSw); obtain ⟨hS0, hS1⟩ := hSw; go_simp; all_goals with_reducible rfl)
      simp only [Act.put, List.getElem_toArray, List.getElem_cons_zero, List.setIfInBounds_toArray, List.set_cons_zero, List.set_cons_succ]
      refine wpAnyH_take (i := 1) (v := ?_) rfl (by kernel_rfl) (by kernel_rfl) (by kernel_rfl) (fun _ _ _ h => h) (Or.inl ⟨by rfl, ?hy14⟩) (by assumption) ?ty14
      case hy14 => (intro w hSw; (try dsimp only at hSw); obtain ⟨hS0, hS1⟩ := hSw; go_simp; all_goals with_reducible rfl)
      simp only [Act.put, List.getElem_toArray, List.getElem_cons_zero, List.getElem_cons_succ, List.setIfInBounds_toArray, List.set_cons_zero, List.set_cons_succ]
      refine wpAnyH_take (i := 2) (v := ?_) rfl (by kernel_rfl) (by kernel_rfl) (by kernel_rfl) (fun _ _ _ h => h) (Or.inl ⟨by rfl, ?hy15⟩) (by assumption) ?ty15
      case hy15 => (intro w hSw; (try dsimp only at hSw); obtain ⟨hS0, hS1⟩ := hSw; go_simp; all_goals with_reducible rfl)
      simp only [Act.put, List.getElem_toArray, List.getElem_cons_zero, List.getElem_cons_succ, List.setIfInBounds_toArray, List.set_cons_zero, List.set_cons_succ]
      refine wpAnyH_take (i := 4) (v := ?_) rfl (by kernel_rfl) (by kernel_rfl) (by kernel_rfl) (fun _ _ _ h => h) (Or.inl ⟨by rfl, ?hy16⟩) (by assumption) ?ty16
      case hy16 => (intro w hSw; (try dsimp only at hSw); obtain ⟨hS0, hS1⟩ := hSw; go_simp; all_goals with_reducible rfl)
      simp only [Act.put, List.getElem_toArray, List.getElem_cons_zero, List.getElem_cons_succ, List.setIfInBounds_toArray, List.set_cons_zero, List.set_cons_succ]
      refine wpAnyH_take (i := 5) (v := ?_) rfl (by kernel_rfl) (by kernel_rfl) (by kernel_rfl) (fun _ _ _ h => h) (Or.inl ⟨by rfl, ?hy17⟩) (by assumption) ?ty17
      case hy17 => (intro w hSw; (try dsimp only at hSw); obtain ⟨hS0, hS1⟩ := hSw; go_simp; all_goals with_reducible rfl)
      simp only [Act.put, List.getElem_toArray, List.getElem_cons_zero, List.getElem_cons_succ, List.setIfInBounds_toArray, List.set_cons_zero, List.set_cons_succ]
      refine wpAnyH_ready (rs := [3]) (by kernel_rfl) (by simp) ?_
      refine AllReadyH.cons rfl (fun K hK => ?_) AllReadyH.nil
      go_simp
      refine hK.out _ _ ⟨by go_simp, trivial⟩ (fun hHeld => ?_)
      clear hK K
      refine wpAnyH_take (i := 6) (v := .int .i64 ((fr : Int) + (ha : Int))) rfl (by kernel_rfl) (by kernel_rfl) (by kernel_rfl) (fun _ _ _ h => h) (Or.inl ⟨by rfl, ?hy18⟩) (by assumption) ?ty18
      case hy18 => (intro w hSw; (try dsimp only at hSw); obtain ⟨hS0, hS1⟩ := hSw; go_simp; all_goals rw [Go.IntWalk.i64_left, Go.IntWalk.wrap64_in _ (by omega)])
      simp only [Act.put, List.getElem_toArray, List.getElem_cons_zero, List.getElem_cons_succ, List.setIfInBounds_toArray, List.set_cons_zero, List.set_cons_succ]
      refine wpAnyH_take (i := 7) (v := ?_) rfl (by kernel_rfl) (by kernel_rfl) (by kernel_rfl) (fun _ _ _ h => h) (Or.inl ⟨by rfl, ?hy19⟩) (by assumption) ?ty19
      case hy19 => (intro w hSw; (try dsimp only at hSw); obtain ⟨hS0, hS1⟩ := hSw; go_simp; all_goals with_reducible rfl)
      simp only [Act.put, List.getElem_toArray, List.getElem_cons_zero, List.getElem_cons_succ, List.setIfInBounds_toArray, List.set_cons_zero, List.set_cons_succ]
      refine wpAnyH_take (i := 8) (v := ?_) rfl (by kernel_rfl) (by kernel_rfl) (by kernel_rfl) (fun _ _ _ h => h) (Or.inl ⟨by rfl, ?hy20⟩) (by assumption) ?ty20
      case hy20 => (intro w hSw; (try dsimp only at hSw); obtain ⟨hS0, hS1⟩ := hSw; go_simp; all_goals with_reducible rfl)
      simp only [Act.put, List.getElem_toArray, List.getElem_cons_zero, List.getElem_cons_succ, List.setIfInBounds_toArray, List.set_cons_zero, List.set_cons_succ]
      refine wpAnyH_ready (rs := [9]) (by kernel_rfl) (by simp) ?_
      refine AllReadyH.cons rfl (fun K hK => ?_) AllReadyH.nil
      go_simp
      refine hK.out _ _ ⟨by go_simp, trivial⟩ (fun hHeld => ?_)
      clear hK K
      refine wpAnyH_done (by kernel_rfl) ?_ _
      have hwn : w1.grownBy (w1.setCell ⟨P, 3, none⟩ (.int .i64 ((fr : Int) + (ha : Int)))) (some P) := gset (World.grownBy.refl _ _)
      have hPC : P < W1.heap.size := F1.1.lt
      have Z3 : FZ w0 w P W1.heap.size w1.heap.size ha (.slice av fs.length cv) fs ((w1.setCell ⟨P, 3, none⟩ (.int .i64 ((fr : Int) + (ha : Int)))).alloc (.cells #[.int .i64 0, .int .i64 (ha : Int), .slice av fs.length cv] 82)).drew 0 0 0 ((fr : Int) + (ha : Int)) (tt : Int) u nu := FZ.drew ⟨(F2.put3 _).alloc _, by have h := heap_alloc_new (w1.setCell ⟨P, 3, none⟩ (.int .i64 ((fr : Int) + (ha : Int)))) (.cells #[.int .i64 0, .int .i64 (ha : Int), .slice av fs.length cv] 82); rw [World.size_setCell] at h; exact h, (hown.far hwn (fun b hb e => by have := (World.ownsRow.lt hown b hb).1; cases e; omega)).alloc _, hPC, by omega⟩
      have hz3 : ((w1.setCell ⟨P, 3, none⟩ (.int .i64 ((fr : Int) + (ha : Int)))).alloc (.cells #[.int .i64 0, .int .i64 (ha : Int), .slice av fs.length cv] 82)).drew.heap.size = w1.heap.size + 1 := by simp
      generalize ((w1.setCell ⟨P, 3, none⟩ (.int .i64 ((fr : Int) + (ha : Int)))).alloc (.cells #[.int .i64 0, .int .i64 (ha : Int), .slice av fs.length cv] 82)).drew = W3 at *
      clear hHeld c0 c1 c2 c3 c4 c5 c6 f3 F2 s0 s1 hwn hown
      obtain ⟨h1, h2⟩ := Z3.hdr
      have hfit : Fit fs := hfk.fit (by omega)
      have hnf : fs.length ≤ 1048576 := by have := hfk.1; omega
      have HC := codingOf_any av fs.length cv fs W3 rfl Z3.2.2.1.rd.2 hnf hfit hfd
      have HFO : Hid (∀ W, RdF W av fs → Calls Tryz.prog 48 #[.slice av fs.length cv, .string ⟨#[67, 111, 110, 116, 101, 110, 116, 45, 84, 121, 112, 101]⟩] W fun e w' => e = .returned (.agg #[.int .i64 (foC fs wCt), .string (foT fs wCt)]) ∧ Below W.heap.size W w') := fun W h => fieldOf_any av fs.length cv fs wCt W rfl h hnf hfit (by decide)
      have HN : Hid (fdOf fs wct = none → foC fs wCt = 4 ∧ foT fs wCt = ⟨#[]⟩) := fun h => fo_none hfd (by rw [fdOf_ct]; exact h)
      have HS : Hid (∀ v, fdOf fs wct = some v → (foC fs wCt = 0 ∧ foT fs wCt = v) ∧ v.size ≤ 1048576) := fun v h => ⟨fo_some hfd (by rw [fdOf_ct]; exact h), fdOf_fit hfit h⟩
      generalize foC fs wCt = fc at *
      generalize foT fs wCt = ft at *
      generalize cdV fs = cd at *
      generalize fdOf fs wct = fo at *
      go_wp2_with fail
      refine HC.mono ?_
      rintro e w4 ⟨rfl, hb4⟩
      have Z4 := Z3.below hb4
      clear HC
      obtain ⟨g1, g2⟩ := Z4.hdr
      have f2 := Z4.1.1.frozen 2
      obtain ⟨c0, c1, c2, c3, c4, c5, c6⟩ := Z4.1.1.cells
      have hP4 := Z4.1.1.lt
      have hH4 : w1.heap.size < w4.heap.size := (Array.getElem?_eq_some_iff.1 Z4.2.1).1
      have Z4b := Z4.put2 cd
      obtain ⟨g1b, g2b⟩ := Z4b.hdr
      go_wp2_with fail
      refine (HFO.out _ Z4b.2.2.1.rd.2).mono ?_
      rintro e w5 ⟨rfl, hb5⟩
      have Z5 := Z4b.below hb5
      clear HFO Z3 Z4 Z4b c0 c1 c2 c3 c4 c5 c6 f2 g1 g2 g1b g2b h1 h2 hb4
      have hP5 := Z5.1.1.lt
      have f0 := Z5.1.1.frozen 0
      have f1 := Z5.1.1.frozen 1
      obtain ⟨c0, c1, c2, c3, c4, c5, c6⟩ := Z5.1.1.cells
      cases fo with
      | none =>
        obtain ⟨rfl, rfl⟩ := HN.out rfl
        have HO : Hid (ro = _) := HO2.out (by first | rfl | trivial) rfl
        clear HN HS HO2 HO3
        go_wp2
        go_ret
        rw [HO.out]
        exact FS.fin (r := ((1, 1, cd), ha, [])) (((Z5.1.put0 1).put1 1).alloc _)
      | some v =>
        obtain ⟨⟨rfl, rfl⟩, hvs⟩ := HS.out v rfl
        have HO : Hid (ro = _) := HO3.out (by first | rfl | trivial) ft rfl
        have HTy : Hid (∀ W, TabC W → Calls Tryz.prog 11 #[.string ft] W fun e w' => e = .returned (ptV (tyV (bts ft))) ∧ Below W.heap.size W w') := fun W h => by
          have h1 := typeOf_any (bts ft) W (bts_isB ft) (by rw [bts_len]; exact hvs) h
          rw [str_bts] at h1; exact h1
        have HMk : Hid (∀ W, Calls Tryz.prog 49 #[.string ft] W fun e w' => e = .returned (.string (str (mkC (bts ft)))) ∧ Below W.heap.size W w') := fun W => by
          have h1 := markOf_any (bts ft) W (bts_isB ft) (by rw [bts_len]; exact hvs)
          rw [str_bts] at h1; exact h1
        clear HN HS HO2 HO3
        generalize tyV (bts ft) = ty at *
        generalize mkC (bts ft) = mk at *
        obtain ⟨kk, ch⟩ := ty
        have Z5a := Z5.alloc (.cells #[.int .i64 0, .string ft] 86)
        go_wp2_with fail
        refine (HTy.out _ (hT.below Z5a.1.2.2.1)).mono ?_
        rintro e w6 ⟨rfl, hb6⟩
        have Z6 := Z5a.below hb6
        have t1 : w6.cell? ⟨w5.heap.size, 1, none⟩ = some (.string ft) := (hb6.cell (p := ⟨w5.heap.size, 1, none⟩) (by simp)).trans (by simp)
        have hT6 : w5.heap.size < w6.heap.size := by have := hb6.size; simp at this; omega
        clear HTy Z5 Z5a c0 c1 c2 c3 c4 c5 c6 f0 f1 hb6
        simp only [ptV]
        have hP6 := Z6.1.1.lt
        have f0 := Z6.1.1.frozen 0
        have f1 := Z6.1.1.frozen 1
        obtain ⟨c0, c1, c2, c3, c4, c5, c6⟩ := Z6.1.1.cells
        have hPT : P ≠ w5.heap.size := by omega
        go_wp2_with fail
        refine wp_region_held_drew (S := (fun w' => w'.cell? ⟨w6.heap.size, 0, none⟩ = some (.int .i64 kk) ∧ w'.cell? ⟨w6.heap.size, 1, none⟩ = some (.int .i64 ch))) (by kernel_rfl) ?hS21 (fun hHeld => ?_)
        case hS21 => exact ⟨by go_simp, by go_simp⟩
        refine wpAnyH_take (i := 0) (v := ?_) rfl (by kernel_rfl) (by kernel_rfl) (by kernel_rfl) (fun _ _ _ h => h) (Or.inl ⟨by rfl, ?hy22⟩) (by assumption) ?ty22
        case hy22 => (intro w hSw; (try dsimp only at hSw); obtain ⟨hS0, hS1⟩ := hSw; go_simp; all_goals with_reducible rfl)
        simp only [Act.put, List.getElem_toArray, List.getElem_cons_zero, List.setIfInBounds_toArray, List.set_cons_zero, List.set_cons_succ]
        refine wpAnyH_take (i := 1) (v := ?_) rfl (by kernel_rfl) (by kernel_rfl) (by kernel_rfl) (fun _ _ _ h => h) (Or.inl ⟨by rfl, ?hy23⟩) (by assumption) ?ty23
        case hy23 => (intro w hSw; (try dsimp only at hSw); obtain ⟨hS0, hS1⟩ := hSw; go_simp; all_goals with_reducible rfl)
        simp only [Act.put, List.getElem_toArray, List.getElem_cons_zero, List.getElem_cons_succ, List.setIfInBounds_toArray, List.set_cons_zero, List.set_cons_succ]
        refine wpAnyH_take (i := 2) (v := ?_) rfl (by kernel_rfl) (by kernel_rfl) (by kernel_rfl) (fun _ _ _ h => h) (Or.inl ⟨by rfl, ?hy24⟩) (by assumption) ?ty24
        case hy24 => (intro w hSw; (try dsimp only at hSw); obtain ⟨hS0, hS1⟩ := hSw; go_simp; all_goals with_reducible rfl)
        simp only [Act.put, List.getElem_toArray, List.getElem_cons_zero, List.getElem_cons_succ, List.setIfInBounds_toArray, List.set_cons_zero, List.set_cons_succ]
        refine wpAnyH_take (i := 3) (v := ?_) rfl (by kernel_rfl) (by kernel_rfl) (by kernel_rfl) (fun _ _ _ h => h) (Or.inl ⟨by rfl, ?hy25⟩) (by assumption) ?ty25
        case hy25 => (intro w hSw; (try dsimp only at hSw); obtain ⟨hS0, hS1⟩ := hSw; go_simp; all_goals with_reducible rfl)
        simp only [Act.put, List.getElem_toArray, List.getElem_cons_zero, List.getElem_cons_succ, List.setIfInBounds_toArray, List.set_cons_zero, List.set_cons_succ]
        refine wpAnyH_take (i := 4) (v := ?_) rfl (by kernel_rfl) (by kernel_rfl) (by kernel_rfl) (fun _ _ _ h => h) (Or.inl ⟨by rfl, ?hy26⟩) (by assumption) ?ty26
        case hy26 => (intro w hSw; (try dsimp only at hSw); obtain ⟨hS0, hS1⟩ := hSw; go_simp; all_goals with_reducible rfl)
        simp only [Act.put, List.getElem_toArray, List.getElem_cons_zero, List.getElem_cons_succ, List.setIfInBounds_toArray, List.set_cons_zero, List.set_cons_succ]
        refine wpAnyH_take (i := 5) (v := ?_) rfl (by kernel_rfl) (by kernel_rfl) (by kernel_rfl) (fun _ _ _ h => h) (Or.inl ⟨by rfl, ?hy27⟩) (by assumption) ?ty27
        case hy27 => (intro w hSw; (try dsimp only at hSw); obtain ⟨hS0, hS1⟩ := hSw; go_simp; all_goals with_reducible rfl)
        simp only [Act.put, List.getElem_toArray, List.getElem_cons_zero, List.getElem_cons_succ, List.setIfInBounds_toArray, List.set_cons_zero, List.set_cons_succ]
        refine wpAnyH_take (i := 6) (v := ?_) rfl (by kernel_rfl) (by kernel_rfl) (by kernel_rfl) (fun _ _ _ h => h) (Or.inl ⟨by rfl, ?hy28⟩) (by assumption) ?ty28
        case hy28 => (intro w hSw; (try dsimp only at hSw); obtain ⟨hS0, hS1⟩ := hSw; go_simp; all_goals with_reducible rfl)
        simp only [Act.put, List.getElem_toArray, List.getElem_cons_zero, List.getElem_cons_succ, List.setIfInBounds_toArray, List.set_cons_zero, List.set_cons_succ]
        refine wpAnyH_take (i := 7) (v := ?_) rfl (by kernel_rfl) (by kernel_rfl) (by kernel_rfl) (fun _ _ _ h => h) (Or.inl ⟨by rfl, ?hy29⟩) (by assumption) ?ty29
        case hy29 => (intro w hSw; (try dsimp only at hSw); obtain ⟨hS0, hS1⟩ := hSw; go_simp; all_goals with_reducible rfl)
        simp only [Act.put, List.getElem_toArray, List.getElem_cons_zero, List.getElem_cons_succ, List.setIfInBounds_toArray, List.set_cons_zero, List.set_cons_succ]
        refine wpAnyH_ready (rs := [8]) (by kernel_rfl) (by simp) ?_
        refine AllReadyH.cons rfl (fun K hK => ?_) AllReadyH.nil
        go_simp
        refine hK.out _ _ ⟨by go_simp, by go_simp⟩ (fun hHeld => ?_)
        clear hK K
        refine wpAnyH_take (i := 9) (v := ?_) rfl (by kernel_rfl) (by kernel_rfl) (by kernel_rfl) (fun _ _ _ h => h) (Or.inl ⟨by rfl, ?hy30⟩) (by assumption) ?ty30
        case hy30 => (intro w hSw; (try dsimp only at hSw); obtain ⟨hS0, hS1⟩ := hSw; go_simp; all_goals with_reducible rfl)
        simp only [Act.put, List.getElem_toArray, List.getElem_cons_zero, List.getElem_cons_succ, List.setIfInBounds_toArray, List.set_cons_zero, List.set_cons_succ]
        refine wpAnyH_take (i := 10) (v := ?_) rfl (by kernel_rfl) (by kernel_rfl) (by kernel_rfl) (fun _ _ _ h => h) (Or.inl ⟨by rfl, ?hy31⟩) (by assumption) ?ty31
        case hy31 => (intro w hSw; (try dsimp only at hSw); obtain ⟨hS0, hS1⟩ := hSw; go_simp; all_goals with_reducible rfl)
        simp only [Act.put, List.getElem_toArray, List.getElem_cons_zero, List.getElem_cons_succ, List.setIfInBounds_toArray, List.set_cons_zero, List.set_cons_succ]
        refine wpAnyH_ready (rs := [11]) (by kernel_rfl) (by simp) ?_
        refine AllReadyH.cons rfl (fun K hK => ?_) AllReadyH.nil
        go_simp
        refine hK.out _ _ ⟨by go_simp, by go_simp⟩ (fun hHeld => ?_)
        clear hK K
        refine wpAnyH_done (by kernel_rfl) ?_ _
        have F7 : FS w0 w P (((w6.setCell ⟨P, 0, none⟩ (.int .i64 kk)).setCell ⟨P, 1, none⟩ (.int .i64 ch)).alloc (.cells #[.int .i64 kk, .int .i64 ch, .int .i64 0, .int .i64 0, .int .i64 0, .int .i64 0, .int .i64 0] 30)).drew kk ch cd ((fr : Int) + (ha : Int)) (tt : Int) u nu := (((Z6.1.put0 kk).put1 ch).alloc _).drew
        have t7 : (((w6.setCell ⟨P, 0, none⟩ (.int .i64 kk)).setCell ⟨P, 1, none⟩ (.int .i64 ch)).alloc (.cells #[.int .i64 kk, .int .i64 ch, .int .i64 0, .int .i64 0, .int .i64 0, .int .i64 0, .int .i64 0] 30)).drew.cell? ⟨w5.heap.size, 1, none⟩ = some (.string ft) := by go_simp
        generalize (((w6.setCell ⟨P, 0, none⟩ (.int .i64 kk)).setCell ⟨P, 1, none⟩ (.int .i64 ch)).alloc (.cells #[.int .i64 kk, .int .i64 ch, .int .i64 0, .int .i64 0, .int .i64 0, .int .i64 0, .int .i64 0] 30)).drew = W7 at *
        clear hHeld c0 c1 c2 c3 c4 c5 c6 f0 f1 t1 Z6
        obtain ⟨c0, c1, c2, c3, c4, c5, c6⟩ := F7.1.cells
        by_cases hk : kk = 2
        · obtain rfl := hk
          go_wp2_with fail
          refine (HMk.out _).mono ?_
          rintro e w8 ⟨rfl, hb8⟩
          go_wp2
          go_ret
          rw [HO.out]
          exact FS.fin (r := ((2, ch, cd), ha, mk)) (F7.below hb8)
        · have hk' : (kk == 2) = false := beq_eq_false_iff_ne.2 hk
          have HI : Hid ((if kk = 2 then mk else []) = []) := if_neg hk
          go_wp2
          go_ret
          rw [HO.out, HI.out]
          exact FS.fin (r := ((kk, ch, cd), ha, [])) F7
    · obtain rfl := HO1.out hc0
      clear HO1 HO2 HO3 HOK
      have hc0' : (hc == 0) = false := beq_eq_false_iff_ne.2 hc0
      have f0 := F2.1.frozen 0
      have f2 := F2.1.frozen 2
      obtain ⟨c0, c1, c2, c3, c4, c5, c6⟩ := F2.1.cells
      go_wp2
      go_ret
      exact FS.fin (r := ((3, 0, 1), 0, [])) (((F2.put0 3).put2 1).alloc _)
  case inl =>
    refine (HPb.out (by omega) _ F1.2.2.1).mono ?_
    rintro e w1 ⟨v, rfl, hown, hb1⟩
    clear HPa HPb
    obtain ⟨av, cv, rfl, hcv, -⟩ := hown.form
    dsimp only at hown hcv ⊢
    have F2 := F1.below hb1
    have hPw1 := F2.1.lt
    by_cases hc0 : hc = 0
    · obtain rfl := hc0
      obtain ⟨hfd, hha, hfk⟩ := HOK.out rfl
      clear HO1 HOK
      have f3 := F2.1.frozen 3
      obtain ⟨c0, c1, c2, c3, c4, c5, c6⟩ := F2.1.cells
      have hsz : w.heap.size + 1 ≤ w1.heap.size := by have := hb1.size; omega
      have hwr : Hid ((fr : Int) + (ha : Int) = ((fr + ha : Nat) : Int)) := by show _ = _; omega
      go_wp2_with fail
      refine wp_region_held_drew (S := (fun w' => w'.cell? ⟨w1.heap.size, 1, none⟩ = some (.int .i64 (ha : Int)) ∧ True)) (by kernel_rfl) ?hS32 (fun hHeld => ?_)
      case hS32 => exact ⟨by go_simp, trivial⟩
      refine wpAnyH_take (i := 0) (v := ?_) rfl (by kernel_rfl) (by kernel_rfl) (by kernel_rfl) (fun _ _ _ h => h) (Or.inl ⟨by rfl, ?hy33⟩) (by assumption) ?ty33
      case hy33 => (intro w hSw; (try dsimp only at hSw); obtain ⟨hS0, hS1⟩ := hSw; go_simp; all_goals with_reducible rfl)
      simp only [Act.put, List.getElem_toArray, List.getElem_cons_zero, List.setIfInBounds_toArray, List.set_cons_zero, List.set_cons_succ]
      refine wpAnyH_take (i := 1) (v := ?_) rfl (by kernel_rfl) (by kernel_rfl) (by kernel_rfl) (fun _ _ _ h => h) (Or.inl ⟨by rfl, ?hy34⟩) (by assumption) ?ty34
      case hy34 => (intro w hSw; (try dsimp only at hSw); obtain ⟨hS0, hS1⟩ := hSw; go_simp; all_goals with_reducible rfl)
      simp only [Act.put, List.getElem_toArray, List.getElem_cons_zero, List.getElem_cons_succ, List.setIfInBounds_toArray, List.set_cons_zero, List.set_cons_succ]
      refine wpAnyH_take (i := 2) (v := ?_) rfl (by kernel_rfl) (by kernel_rfl) (by kernel_rfl) (fun _ _ _ h => h) (Or.inl ⟨by rfl, ?hy35⟩) (by assumption) ?ty35
      case hy35 => (intro w hSw; (try dsimp only at hSw); obtain ⟨hS0, hS1⟩ := hSw; go_simp; all_goals with_reducible rfl)
      simp only [Act.put, List.getElem_toArray, List.getElem_cons_zero, List.getElem_cons_succ, List.setIfInBounds_toArray, List.set_cons_zero, List.set_cons_succ]
      refine wpAnyH_take (i := 4) (v := ?_) rfl (by kernel_rfl) (by kernel_rfl) (by kernel_rfl) (fun _ _ _ h => h) (Or.inl ⟨by rfl, ?hy36⟩) (by assumption) ?ty36
      case hy36 => (intro w hSw; (try dsimp only at hSw); obtain ⟨hS0, hS1⟩ := hSw; go_simp; all_goals with_reducible rfl)
      simp only [Act.put, List.getElem_toArray, List.getElem_cons_zero, List.getElem_cons_succ, List.setIfInBounds_toArray, List.set_cons_zero, List.set_cons_succ]
      refine wpAnyH_take (i := 5) (v := ?_) rfl (by kernel_rfl) (by kernel_rfl) (by kernel_rfl) (fun _ _ _ h => h) (Or.inl ⟨by rfl, ?hy37⟩) (by assumption) ?ty37
      case hy37 => (intro w hSw; (try dsimp only at hSw); obtain ⟨hS0, hS1⟩ := hSw; go_simp; all_goals with_reducible rfl)
      simp only [Act.put, List.getElem_toArray, List.getElem_cons_zero, List.getElem_cons_succ, List.setIfInBounds_toArray, List.set_cons_zero, List.set_cons_succ]
      refine wpAnyH_ready (rs := [3]) (by kernel_rfl) (by simp) ?_
      refine AllReadyH.cons rfl (fun K hK => ?_) AllReadyH.nil
      go_simp
      refine hK.out _ _ ⟨by go_simp, trivial⟩ (fun hHeld => ?_)
      clear hK K
      refine wpAnyH_take (i := 6) (v := .int .i64 ((fr : Int) + (ha : Int))) rfl (by kernel_rfl) (by kernel_rfl) (by kernel_rfl) (fun _ _ _ h => h) (Or.inl ⟨by rfl, ?hy38⟩) (by assumption) ?ty38
      case hy38 => (intro w hSw; (try dsimp only at hSw); obtain ⟨hS0, hS1⟩ := hSw; go_simp; all_goals rw [Go.IntWalk.i64_left, Go.IntWalk.wrap64_in _ (by omega)])
      simp only [Act.put, List.getElem_toArray, List.getElem_cons_zero, List.getElem_cons_succ, List.setIfInBounds_toArray, List.set_cons_zero, List.set_cons_succ]
      refine wpAnyH_take (i := 7) (v := ?_) rfl (by kernel_rfl) (by kernel_rfl) (by kernel_rfl) (fun _ _ _ h => h) (Or.inl ⟨by rfl, ?hy39⟩) (by assumption) ?ty39
      case hy39 => (intro w hSw; (try dsimp only at hSw); obtain ⟨hS0, hS1⟩ := hSw; go_simp; all_goals with_reducible rfl)
      simp only [Act.put, List.getElem_toArray, List.getElem_cons_zero, List.getElem_cons_succ, List.setIfInBounds_toArray, List.set_cons_zero, List.set_cons_succ]
      refine wpAnyH_take (i := 8) (v := ?_) rfl (by kernel_rfl) (by kernel_rfl) (by kernel_rfl) (fun _ _ _ h => h) (Or.inl ⟨by rfl, ?hy40⟩) (by assumption) ?ty40
      case hy40 => (intro w hSw; (try dsimp only at hSw); obtain ⟨hS0, hS1⟩ := hSw; go_simp; all_goals with_reducible rfl)
      simp only [Act.put, List.getElem_toArray, List.getElem_cons_zero, List.getElem_cons_succ, List.setIfInBounds_toArray, List.set_cons_zero, List.set_cons_succ]
      refine wpAnyH_ready (rs := [9]) (by kernel_rfl) (by simp) ?_
      refine AllReadyH.cons rfl (fun K hK => ?_) AllReadyH.nil
      go_simp
      refine hK.out _ _ ⟨by go_simp, trivial⟩ (fun hHeld => ?_)
      clear hK K
      refine wpAnyH_done (by kernel_rfl) ?_ _
      have hwn : w1.grownBy (w1.setCell ⟨P, 3, none⟩ (.int .i64 ((fr : Int) + (ha : Int)))) (some P) := gset (World.grownBy.refl _ _)
      have hPC : P < W1.heap.size := F1.1.lt
      have Z3 : FZ w0 w P W1.heap.size w1.heap.size ha (.slice av fs.length cv) fs ((w1.setCell ⟨P, 3, none⟩ (.int .i64 ((fr : Int) + (ha : Int)))).alloc (.cells #[.int .i64 0, .int .i64 (ha : Int), .slice av fs.length cv] 82)).drew 0 0 0 ((fr : Int) + (ha : Int)) (tt : Int) u nu := FZ.drew ⟨(F2.put3 _).alloc _, by have h := heap_alloc_new (w1.setCell ⟨P, 3, none⟩ (.int .i64 ((fr : Int) + (ha : Int)))) (.cells #[.int .i64 0, .int .i64 (ha : Int), .slice av fs.length cv] 82); rw [World.size_setCell] at h; exact h, (hown.far hwn (fun b hb e => by have := (World.ownsRow.lt hown b hb).1; cases e; omega)).alloc _, hPC, by omega⟩
      have hz3 : ((w1.setCell ⟨P, 3, none⟩ (.int .i64 ((fr : Int) + (ha : Int)))).alloc (.cells #[.int .i64 0, .int .i64 (ha : Int), .slice av fs.length cv] 82)).drew.heap.size = w1.heap.size + 1 := by simp
      generalize ((w1.setCell ⟨P, 3, none⟩ (.int .i64 ((fr : Int) + (ha : Int)))).alloc (.cells #[.int .i64 0, .int .i64 (ha : Int), .slice av fs.length cv] 82)).drew = W3 at *
      clear hHeld c0 c1 c2 c3 c4 c5 c6 f3 F2 s0 s1 hwn hown
      obtain ⟨h1, h2⟩ := Z3.hdr
      have hfit : Fit fs := hfk.fit (by omega)
      have hnf : fs.length ≤ 1048576 := by have := hfk.1; omega
      have HC := codingOf_any av fs.length cv fs W3 rfl Z3.2.2.1.rd.2 hnf hfit hfd
      have HFO : Hid (∀ W, RdF W av fs → Calls Tryz.prog 48 #[.slice av fs.length cv, .string ⟨#[67, 111, 110, 116, 101, 110, 116, 45, 84, 121, 112, 101]⟩] W fun e w' => e = .returned (.agg #[.int .i64 (foC fs wCt), .string (foT fs wCt)]) ∧ Below W.heap.size W w') := fun W h => fieldOf_any av fs.length cv fs wCt W rfl h hnf hfit (by decide)
      have HN : Hid (fdOf fs wct = none → foC fs wCt = 4 ∧ foT fs wCt = ⟨#[]⟩) := fun h => fo_none hfd (by rw [fdOf_ct]; exact h)
      have HS : Hid (∀ v, fdOf fs wct = some v → (foC fs wCt = 0 ∧ foT fs wCt = v) ∧ v.size ≤ 1048576) := fun v h => ⟨fo_some hfd (by rw [fdOf_ct]; exact h), fdOf_fit hfit h⟩
      generalize foC fs wCt = fc at *
      generalize foT fs wCt = ft at *
      generalize cdV fs = cd at *
      generalize fdOf fs wct = fo at *
      go_wp2_with fail
      refine HC.mono ?_
      rintro e w4 ⟨rfl, hb4⟩
      have Z4 := Z3.below hb4
      clear HC
      obtain ⟨g1, g2⟩ := Z4.hdr
      have f2 := Z4.1.1.frozen 2
      obtain ⟨c0, c1, c2, c3, c4, c5, c6⟩ := Z4.1.1.cells
      have hP4 := Z4.1.1.lt
      have hH4 : w1.heap.size < w4.heap.size := (Array.getElem?_eq_some_iff.1 Z4.2.1).1
      have Z4b := Z4.put2 cd
      obtain ⟨g1b, g2b⟩ := Z4b.hdr
      go_wp2_with fail
      refine (HFO.out _ Z4b.2.2.1.rd.2).mono ?_
      rintro e w5 ⟨rfl, hb5⟩
      have Z5 := Z4b.below hb5
      clear HFO Z3 Z4 Z4b c0 c1 c2 c3 c4 c5 c6 f2 g1 g2 g1b g2b h1 h2 hb4
      have hP5 := Z5.1.1.lt
      have f0 := Z5.1.1.frozen 0
      have f1 := Z5.1.1.frozen 1
      obtain ⟨c0, c1, c2, c3, c4, c5, c6⟩ := Z5.1.1.cells
      cases fo with
      | none =>
        obtain ⟨rfl, rfl⟩ := HN.out rfl
        have HO : Hid (ro = _) := HO2.out (by first | rfl | trivial) rfl
        clear HN HS HO2 HO3
        go_wp2
        go_ret
        rw [HO.out]
        exact FS.fin (r := ((1, 1, cd), ha, [])) (((Z5.1.put0 1).put1 1).alloc _)
      | some v =>
        obtain ⟨⟨rfl, rfl⟩, hvs⟩ := HS.out v rfl
        have HO : Hid (ro = _) := HO3.out (by first | rfl | trivial) ft rfl
        have HTy : Hid (∀ W, TabC W → Calls Tryz.prog 11 #[.string ft] W fun e w' => e = .returned (ptV (tyV (bts ft))) ∧ Below W.heap.size W w') := fun W h => by
          have h1 := typeOf_any (bts ft) W (bts_isB ft) (by rw [bts_len]; exact hvs) h
          rw [str_bts] at h1; exact h1
        have HMk : Hid (∀ W, Calls Tryz.prog 49 #[.string ft] W fun e w' => e = .returned (.string (str (mkC (bts ft)))) ∧ Below W.heap.size W w') := fun W => by
          have h1 := markOf_any (bts ft) W (bts_isB ft) (by rw [bts_len]; exact hvs)
          rw [str_bts] at h1; exact h1
        clear HN HS HO2 HO3
        generalize tyV (bts ft) = ty at *
        generalize mkC (bts ft) = mk at *
        obtain ⟨kk, ch⟩ := ty
        have Z5a := Z5.alloc (.cells #[.int .i64 0, .string ft] 86)
        go_wp2_with fail
        refine (HTy.out _ (hT.below Z5a.1.2.2.1)).mono ?_
        rintro e w6 ⟨rfl, hb6⟩
        have Z6 := Z5a.below hb6
        have t1 : w6.cell? ⟨w5.heap.size, 1, none⟩ = some (.string ft) := (hb6.cell (p := ⟨w5.heap.size, 1, none⟩) (by simp)).trans (by simp)
        have hT6 : w5.heap.size < w6.heap.size := by have := hb6.size; simp at this; omega
        clear HTy Z5 Z5a c0 c1 c2 c3 c4 c5 c6 f0 f1 hb6
        simp only [ptV]
        have hP6 := Z6.1.1.lt
        have f0 := Z6.1.1.frozen 0
        have f1 := Z6.1.1.frozen 1
        obtain ⟨c0, c1, c2, c3, c4, c5, c6⟩ := Z6.1.1.cells
        have hPT : P ≠ w5.heap.size := by omega
        go_wp2_with fail
        refine wp_region_held_drew (S := (fun w' => w'.cell? ⟨w6.heap.size, 0, none⟩ = some (.int .i64 kk) ∧ w'.cell? ⟨w6.heap.size, 1, none⟩ = some (.int .i64 ch))) (by kernel_rfl) ?hS41 (fun hHeld => ?_)
        case hS41 => exact ⟨by go_simp, by go_simp⟩
        refine wpAnyH_take (i := 0) (v := ?_) rfl (by kernel_rfl) (by kernel_rfl) (by kernel_rfl) (fun _ _ _ h => h) (Or.inl ⟨by rfl, ?hy42⟩) (by assumption) ?ty42
        case hy42 => (intro w hSw; (try dsimp only at hSw); obtain ⟨hS0, hS1⟩ := hSw; go_simp; all_goals with_reducible rfl)
        simp only [Act.put, List.getElem_toArray, List.getElem_cons_zero, List.setIfInBounds_toArray, List.set_cons_zero, List.set_cons_succ]
        refine wpAnyH_take (i := 1) (v := ?_) rfl (by kernel_rfl) (by kernel_rfl) (by kernel_rfl) (fun _ _ _ h => h) (Or.inl ⟨by rfl, ?hy43⟩) (by assumption) ?ty43
        case hy43 => (intro w hSw; (try dsimp only at hSw); obtain ⟨hS0, hS1⟩ := hSw; go_simp; all_goals with_reducible rfl)
        simp only [Act.put, List.getElem_toArray, List.getElem_cons_zero, List.getElem_cons_succ, List.setIfInBounds_toArray, List.set_cons_zero, List.set_cons_succ]
        refine wpAnyH_take (i := 2) (v := ?_) rfl (by kernel_rfl) (by kernel_rfl) (by kernel_rfl) (fun _ _ _ h => h) (Or.inl ⟨by rfl, ?hy44⟩) (by assumption) ?ty44
        case hy44 => (intro w hSw; (try dsimp only at hSw); obtain ⟨hS0, hS1⟩ := hSw; go_simp; all_goals with_reducible rfl)
        simp only [Act.put, List.getElem_toArray, List.getElem_cons_zero, List.getElem_cons_succ, List.setIfInBounds_toArray, List.set_cons_zero, List.set_cons_succ]
        refine wpAnyH_take (i := 3) (v := ?_) rfl (by kernel_rfl) (by kernel_rfl) (by kernel_rfl) (fun _ _ _ h => h) (Or.inl ⟨by rfl, ?hy45⟩) (by assumption) ?ty45
        case hy45 => (intro w hSw; (try dsimp only at hSw); obtain ⟨hS0, hS1⟩ := hSw; go_simp; all_goals with_reducible rfl)
        simp only [Act.put, List.getElem_toArray, List.getElem_cons_zero, List.getElem_cons_succ, List.setIfInBounds_toArray, List.set_cons_zero, List.set_cons_succ]
        refine wpAnyH_take (i := 4) (v := ?_) rfl (by kernel_rfl) (by kernel_rfl) (by kernel_rfl) (fun _ _ _ h => h) (Or.inl ⟨by rfl, ?hy46⟩) (by assumption) ?ty46
        case hy46 => (intro w hSw; (try dsimp only at hSw); obtain ⟨hS0, hS1⟩ := hSw; go_simp; all_goals with_reducible rfl)
        simp only [Act.put, List.getElem_toArray, List.getElem_cons_zero, List.getElem_cons_succ, List.setIfInBounds_toArray, List.set_cons_zero, List.set_cons_succ]
        refine wpAnyH_take (i := 5) (v := ?_) rfl (by kernel_rfl) (by kernel_rfl) (by kernel_rfl) (fun _ _ _ h => h) (Or.inl ⟨by rfl, ?hy47⟩) (by assumption) ?ty47
        case hy47 => (intro w hSw; (try dsimp only at hSw); obtain ⟨hS0, hS1⟩ := hSw; go_simp; all_goals with_reducible rfl)
        simp only [Act.put, List.getElem_toArray, List.getElem_cons_zero, List.getElem_cons_succ, List.setIfInBounds_toArray, List.set_cons_zero, List.set_cons_succ]
        refine wpAnyH_take (i := 6) (v := ?_) rfl (by kernel_rfl) (by kernel_rfl) (by kernel_rfl) (fun _ _ _ h => h) (Or.inl ⟨by rfl, ?hy48⟩) (by assumption) ?ty48
        case hy48 => (intro w hSw; (try dsimp only at hSw); obtain ⟨hS0, hS1⟩ := hSw; go_simp; all_goals with_reducible rfl)
        simp only [Act.put, List.getElem_toArray, List.getElem_cons_zero, List.getElem_cons_succ, List.setIfInBounds_toArray, List.set_cons_zero, List.set_cons_succ]
        refine wpAnyH_take (i := 7) (v := ?_) rfl (by kernel_rfl) (by kernel_rfl) (by kernel_rfl) (fun _ _ _ h => h) (Or.inl ⟨by rfl, ?hy49⟩) (by assumption) ?ty49
        case hy49 => (intro w hSw; (try dsimp only at hSw); obtain ⟨hS0, hS1⟩ := hSw; go_simp; all_goals with_reducible rfl)
        simp only [Act.put, List.getElem_toArray, List.getElem_cons_zero, List.getElem_cons_succ, List.setIfInBounds_toArray, List.set_cons_zero, List.set_cons_succ]
        refine wpAnyH_ready (rs := [8]) (by kernel_rfl) (by simp) ?_
        refine AllReadyH.cons rfl (fun K hK => ?_) AllReadyH.nil
        go_simp
        refine hK.out _ _ ⟨by go_simp, by go_simp⟩ (fun hHeld => ?_)
        clear hK K
        refine wpAnyH_take (i := 9) (v := ?_) rfl (by kernel_rfl) (by kernel_rfl) (by kernel_rfl) (fun _ _ _ h => h) (Or.inl ⟨by rfl, ?hy50⟩) (by assumption) ?ty50
        case hy50 => (intro w hSw; (try dsimp only at hSw); obtain ⟨hS0, hS1⟩ := hSw; go_simp; all_goals with_reducible rfl)
        simp only [Act.put, List.getElem_toArray, List.getElem_cons_zero, List.getElem_cons_succ, List.setIfInBounds_toArray, List.set_cons_zero, List.set_cons_succ]
        refine wpAnyH_take (i := 10) (v := ?_) rfl (by kernel_rfl) (by kernel_rfl) (by kernel_rfl) (fun _ _ _ h => h) (Or.inl ⟨by rfl, ?hy51⟩) (by assumption) ?ty51
        case hy51 => (intro w hSw; (try dsimp only at hSw); obtain ⟨hS0, hS1⟩ := hSw; go_simp; all_goals with_reducible rfl)
        simp only [Act.put, List.getElem_toArray, List.getElem_cons_zero, List.getElem_cons_succ, List.setIfInBounds_toArray, List.set_cons_zero, List.set_cons_succ]
        refine wpAnyH_ready (rs := [11]) (by kernel_rfl) (by simp) ?_
        refine AllReadyH.cons rfl (fun K hK => ?_) AllReadyH.nil
        go_simp
        refine hK.out _ _ ⟨by go_simp, by go_simp⟩ (fun hHeld => ?_)
        clear hK K
        refine wpAnyH_done (by kernel_rfl) ?_ _
        have F7 : FS w0 w P (((w6.setCell ⟨P, 0, none⟩ (.int .i64 kk)).setCell ⟨P, 1, none⟩ (.int .i64 ch)).alloc (.cells #[.int .i64 kk, .int .i64 ch, .int .i64 0, .int .i64 0, .int .i64 0, .int .i64 0, .int .i64 0] 30)).drew kk ch cd ((fr : Int) + (ha : Int)) (tt : Int) u nu := (((Z6.1.put0 kk).put1 ch).alloc _).drew
        have t7 : (((w6.setCell ⟨P, 0, none⟩ (.int .i64 kk)).setCell ⟨P, 1, none⟩ (.int .i64 ch)).alloc (.cells #[.int .i64 kk, .int .i64 ch, .int .i64 0, .int .i64 0, .int .i64 0, .int .i64 0, .int .i64 0] 30)).drew.cell? ⟨w5.heap.size, 1, none⟩ = some (.string ft) := by go_simp
        generalize (((w6.setCell ⟨P, 0, none⟩ (.int .i64 kk)).setCell ⟨P, 1, none⟩ (.int .i64 ch)).alloc (.cells #[.int .i64 kk, .int .i64 ch, .int .i64 0, .int .i64 0, .int .i64 0, .int .i64 0, .int .i64 0] 30)).drew = W7 at *
        clear hHeld c0 c1 c2 c3 c4 c5 c6 f0 f1 t1 Z6
        obtain ⟨c0, c1, c2, c3, c4, c5, c6⟩ := F7.1.cells
        by_cases hk : kk = 2
        · obtain rfl := hk
          go_wp2_with fail
          refine (HMk.out _).mono ?_
          rintro e w8 ⟨rfl, hb8⟩
          go_wp2
          go_ret
          rw [HO.out]
          exact FS.fin (r := ((2, ch, cd), ha, mk)) (F7.below hb8)
        · have hk' : (kk == 2) = false := beq_eq_false_iff_ne.2 hk
          have HI : Hid ((if kk = 2 then mk else []) = []) := if_neg hk
          go_wp2
          go_ret
          rw [HO.out, HI.out]
          exact FS.fin (r := ((kk, ch, cd), ha, [])) F7
    · obtain rfl := HO1.out hc0
      clear HO1 HO2 HO3 HOK
      have hc0' : (hc == 0) = false := beq_eq_false_iff_ne.2 hc0
      have f0 := F2.1.frozen 0
      have f2 := F2.1.frozen 2
      obtain ⟨c0, c1, c2, c3, c4, c5, c6⟩ := F2.1.cells
      go_wp2
      go_ret
      exact FS.fin (r := ((3, 0, 1), 0, [])) (((F2.put0 3).put2 1).alloc _)
end Go.Proofs.YtaefomiofoakhaaGreatDoor
