/- Ops: a copy by the law's helper may be written; marks of an op, of bytes; no conditions beyond those that each fact names · The fault of an op that lies somewhere in a row: the model's; no conditions beyond those that each fact names · Slices of ops: a copy by the law's helper may be written; marks of ops; no conditions beyond those that each fact names · The ops that the law turns: where they lie, that they may be written, and that their bytes are owned. -/
import Derived.Test.YtejbbnpgghpgaaaGreatDoorOfmToOsb
import Derived.Test.YtejbbnpgghpgaaaGreatDoorAlaToMrk
import Derived.Test.YtejbbnpgghpgaaaGreatDoorLhdToLst
import Derived.Test.YtejbbnpgghpgaaaGreatDoorOfv
import Derived.Test.YtejbbnpgghpgaaaGreatDoorOss
import Derived.Test.YtejbbnpgghpgaaaGreatDoorLtcToLto
namespace Go.Proofs.YtejbbnpgghpgaaaGreatDoor
open Go.RowKit
set_option linter.unusedVariables false
def WrQ (lo : Nat) (w : World) (s : SlQ) : Prop := s.2.1 = 0 ∨ ∃ g, s.1 = some ⟨g, 0, none⟩ ∧ lo ≤ g ∧ g < w.heap.size ∧ ∀ i, i < s.2.1 → (w.cell? ⟨g, i, none⟩).isSome = true ∧ w.frozen? ⟨g, i, none⟩ = false
theorem isSome_set (w : World) (p q : Addr) (v : Value) (h : (w.cell? q).isSome = true) : ((w.setCell p v).cell? q).isSome = true := by
  by_cases e : p = q
  · subst e
    obtain ⟨u, hu⟩ := Option.isSome_iff_exists.1 h
    rw [World.cell?_setCell_same _ _ _ hu]; rfl
  · rw [World.cell?_setCell_other _ _ _ _ e]; exact h
theorem WrQ.set {lo : Nat} {w : World} {s : SlQ} (h : WrQ lo w s) (p : Addr) (v : Value) : WrQ lo (w.setCell p v) s := by
  rcases h with h | ⟨g, h1, h2, h3, h4⟩
  · exact .inl h
  · exact .inr ⟨g, h1, h2, by simpa using h3, fun i hi => ⟨isSome_set _ _ _ _ (h4 i hi).1, by rw [World.frozen?_setCell]; exact (h4 i hi).2⟩⟩
theorem WrQ.below {lo : Nat} {w w' : World} {s : SlQ} (h : WrQ lo w s) (hb : Below w.heap.size w w') : WrQ lo w' s := by
  rcases h with h | ⟨g, h1, h2, h3, h4⟩
  · exact .inl h
  · exact .inr ⟨g, h1, h2, Nat.lt_of_lt_of_le h3 hb.size, fun i hi => ⟨by rw [hb.cell (p := ⟨g, i, none⟩) h3]; exact (h4 i hi).1, (hb.frozen (p := ⟨g, i, none⟩) h3).trans (h4 i hi).2⟩⟩
theorem WrQ.low {lo lo' : Nat} {w : World} {s : SlQ} (h : WrQ lo w s) (hl : lo' ≤ lo) : WrQ lo' w s := by
  rcases h with h | ⟨g, h1, h2, h3, h4⟩
  · exact .inl h
  · exact .inr ⟨g, h1, Nat.le_trans hl h2, h3, h4⟩
theorem WrQ.own {w : World} {B e n : Nat} {cap : Nat} {g : Nat} {l : List Value} (h : w.ownsRow B e 1 (.slice (some ⟨g, 0, none⟩) n cap) n l) (hB : B ≤ g) : WrQ B w (some ⟨g, 0, none⟩, n, cap) := by
  rcases h.2 with ⟨_, h0⟩ | ⟨g', cap', cur, e', hB', hg, hc1, hc2, hcs, htake⟩
  · exact .inl h0
  · injection e' with e1 e2 e3
    cases e1
    have hlt : g < w.heap.size := by
      rcases Nat.lt_or_ge g w.heap.size with hlt | hge
      · exact hlt
      · simp [Array.getElem?_eq_none hge] at hg
    refine .inr ⟨g, rfl, hB, hlt, fun i hi => ?_⟩
    have hi' : i < n := hi
    have hsz : i < cur.size := by omega
    constructor
    · simp [World.cell?, hg, hsz]
    · simp [World.frozen?, hg]
def MkJ (lo hi : Nat) (w w' : World) : Prop := Below lo w w' ∧ (∀ p : Addr, hi ≤ p.block → w'.cell? p = w.cell? p) ∧ (∀ p : Addr, (w.cell? p).isSome = true → (w'.cell? p).isSome = true) ∧ ∀ p : Addr, w'.frozen? p = w.frozen? p
theorem MkJ.refl (lo hi : Nat) (w : World) : MkJ lo hi w w := ⟨Below.refl _ _, fun _ _ => rfl, fun _ h => h, fun _ => rfl⟩
theorem MkJ.trans {lo hi : Nat} {w w' w'' : World} (h : MkJ lo hi w w') (h' : MkJ lo hi w' w'') : MkJ lo hi w w'' := ⟨h.1.trans h'.1, fun p hp => (h'.2.1 p hp).trans (h.2.1 p hp), fun p hp => h'.2.2.1 p (h.2.2.1 p hp), fun p => (h'.2.2.2 p).trans (h.2.2.2 p)⟩
theorem MkJ.set {lo hi : Nat} {w w' : World} (h : MkJ lo hi w w') {g j : Nat} (x : Value) (h1 : lo ≤ g) (h2 : g < hi) : MkJ lo hi w (w'.setCell ⟨g, j, none⟩ x) := by
  refine h.trans ⟨(Below.refl _ _).setCell h1 _, fun p hp => World.cell?_setCell_other _ _ _ _ (fun e => by subst e; exact absurd h2 (Nat.not_lt.2 hp)), fun p hp => ?_, fun p => World.frozen?_setCell _ _ _ _⟩
  by_cases e : (⟨g, j, none⟩ : Addr) = p
  · subst e
    obtain ⟨u, hu⟩ := Option.isSome_iff_exists.1 hp
    rw [World.cell?_setCell_same _ _ _ hu]; rfl
  · rw [World.cell?_setCell_other _ _ _ _ e]; exact hp
theorem WrQ.mk {lo B H : Nat} {w w' : World} {s : SlQ} (h : WrQ lo w s) (hm : MkJ B H w w') : WrQ lo w' s := by
  rcases h with h | ⟨g, h1, h2, h3, h4⟩
  · exact .inl h
  · exact .inr ⟨g, h1, h2, Nat.lt_of_lt_of_le h3 hm.1.size, fun i hi => ⟨hm.2.2.1 _ (h4 i hi).1, (hm.2.2.2 _).trans (h4 i hi).2⟩⟩
def WrH (lo hi : Nat) (w : World) (s : SlQ) : Prop := s.2.1 = 0 ∨ ∃ g, s.1 = some ⟨g, 0, none⟩ ∧ lo ≤ g ∧ g < hi ∧ g < w.heap.size ∧ ∀ i, i < s.2.1 → (w.cell? ⟨g, i, none⟩).isSome = true ∧ w.frozen? ⟨g, i, none⟩ = false
theorem WrQ.hi {lo : Nat} {w : World} {s : SlQ} (h : WrQ lo w s) : WrH lo w.heap.size w s := by
  rcases h with h | ⟨g, h1, h2, h3, h4⟩
  · exact .inl h
  · exact .inr ⟨g, h1, h2, h3, h3, h4⟩
theorem WrH.below {lo hi : Nat} {w w' : World} {s : SlQ} (h : WrH lo hi w s) (hb : Below w.heap.size w w') : WrH lo hi w' s := by
  rcases h with h | ⟨g, h1, h2, h2', h3, h4⟩
  · exact .inl h
  · exact .inr ⟨g, h1, h2, h2', Nat.lt_of_lt_of_le h3 hb.size, fun i hi => ⟨by rw [hb.cell (p := ⟨g, i, none⟩) h3]; exact (h4 i hi).1, (hb.frozen (p := ⟨g, i, none⟩) h3).trans (h4 i hi).2⟩⟩
theorem WrH.at_ {lo hi : Nat} {w : World} {s : SlQ} (h : WrH lo hi w s) (hl : lo < hi) : ∃ g, (s.2.1 = 0 ∨ s.1 = some ⟨g, 0, none⟩) ∧ lo ≤ g ∧ g < hi ∧ ∀ i, i < s.2.1 → (w.cell? ⟨g, i, none⟩).isSome = true ∧ w.frozen? ⟨g, i, none⟩ = false := by
  rcases h with h | ⟨g, h1, h2, h2', h3, h4⟩
  · exact ⟨lo, .inl h, Nat.le_refl _, hl, fun i hi => by omega⟩
  · exact ⟨g, .inr h1, h2, h2', h4⟩
def MkQ (lo hi : Nat) (w w' : World) : Prop := Below lo w w' ∧ (∀ p : Addr, hi ≤ p.block → p.block < w.heap.size → w'.cell? p = w.cell? p) ∧ (∀ p : Addr, p.block < w.heap.size → (w.cell? p).isSome = true → (w'.cell? p).isSome = true) ∧ ∀ p : Addr, p.block < w.heap.size → w'.frozen? p = w.frozen? p
end Go.Proofs.YtejbbnpgghpgaaaGreatDoor
namespace Go.Proofs.YtejbbnpgghpgaaaGreatDoor
open Go.RowKit
def Qp (w : World) (g off : Nat) (q : Oc) : Prop := w.cell? ⟨g, off, none⟩ = some q.c0 ∧ w.cell? ⟨g, off + 1, none⟩ = some q.c1 ∧ w.cell? ⟨g, off + 2, none⟩ = some q.c2 ∧ w.cell? ⟨g, off + 3, none⟩ = some q.c3 ∧ w.cell? ⟨g, off + 4, none⟩ = some q.c4 ∧ w.cell? ⟨g, off + 5, none⟩ = some q.c5 ∧ w.cell? ⟨g, off + 6, none⟩ = some q.c6 ∧ w.cell? ⟨g, off + 7, none⟩ = some q.c7
theorem Qp.below {C : Nat} {w w' : World} {g off : Nat} {q : Oc} (h : Qp w g off q) (hb : Below C w w') (hg : g < C) : Qp w' g off q := by
  obtain ⟨h0, h1, h2, h3, h4, h5, h6, h7⟩ := h
  exact ⟨(hb.cell (p := ⟨g, off, none⟩) hg).trans h0, (hb.cell (p := ⟨g, off + 1, none⟩) hg).trans h1, (hb.cell (p := ⟨g, off + 2, none⟩) hg).trans h2, (hb.cell (p := ⟨g, off + 3, none⟩) hg).trans h3, (hb.cell (p := ⟨g, off + 4, none⟩) hg).trans h4, (hb.cell (p := ⟨g, off + 5, none⟩) hg).trans h5, (hb.cell (p := ⟨g, off + 6, none⟩) hg).trans h6, (hb.cell (p := ⟨g, off + 7, none⟩) hg).trans h7⟩
theorem Qp.lt {w : World} {g off : Nat} {q : Oc} (h : Qp w g off q) : g < w.heap.size := World.block_lt_of_cell? w ⟨g, off, none⟩ h.1
end Go.Proofs.YtejbbnpgghpgaaaGreatDoor
namespace Go.Proofs.YtejbbnpgghpgaaaGreatDoor
open Go.RowKit
set_option linter.unusedVariables false
def OsW (lo : Nat) (w : World) (b : Nat) (l : List OpR) : Prop := ∀ i, i < l.length → ∃ p : SlO, Qp w b (i * 8) (opQ (nthO l i) p) ∧ IsOp lo w p (nthO l i) ∧ WrQ lo w p.1 ∧ WrQ lo w p.2
theorem OsW.below {lo b : Nat} {w w' : World} {l : List OpR} (h : OsW lo w b l) (hb : Below w.heap.size w w') : OsW lo w' b l := fun i hi => by
  obtain ⟨p, h1, h2, h3, h4⟩ := h i hi
  exact ⟨p, h1.below hb h1.lt, h2.below hb, h3.below hb, h4.below hb⟩
theorem OsW.os {lo b n : Nat} {w : World} {l : List OpR} (h : OsW lo w b l) (hl : l.length = n) (hn : n ≤ 1048576) (hlo : b ≤ lo) : IsOs b w (some ⟨b, 0, none⟩, n, n) l := by
  refine ⟨hl, Nat.le_refl _, by dsimp only; unfold maxLen; omega, ?_⟩
  rcases Nat.eq_zero_or_pos l.length with h0 | h0
  · exact .inl (List.length_eq_zero_iff.1 h0)
  · obtain ⟨p0, hq0, -⟩ := h 0 h0
    refine .inr ⟨b, 0, rfl, Nat.le_refl _, hq0.lt, fun i hi => ?_⟩
    obtain ⟨p, ⟨c0, c1, c2, c3, c4, c5, c6, c7⟩, h2, -⟩ := h i hi
    rw [Nat.zero_add]
    exact ⟨p, ⟨c0, c1, c2, c3, c4, c5, c6, c7⟩, h2.low hlo⟩
def OsH (lo hi : Nat) (w : World) (b : Nat) (l : List OpR) : Prop := ∀ i, i < l.length → ∃ p : SlO, Qp w b (i * 8) (opQ (nthO l i) p) ∧ (p.1.2.1 = (nthO l i).u.length ∧ p.2.2.1 = (nthO l i).b.length) ∧ WrH lo hi w p.1 ∧ WrH lo hi w p.2
theorem OsW.hi {lo b : Nat} {w : World} {l : List OpR} (h : OsW lo w b l) : OsH lo w.heap.size w b l := fun i hi => by
  obtain ⟨p, h1, h2, h3, h4⟩ := h i hi
  exact ⟨p, h1, ⟨h2.1.1.symm, h2.2.1.symm⟩, h3.hi, h4.hi⟩
theorem OsH.below {lo hi b : Nat} {w w' : World} {l : List OpR} (h : OsH lo hi w b l) (hb : Below w.heap.size w w') : OsH lo hi w' b l := fun i hi => by
  obtain ⟨p, h1, h2, h3, h4⟩ := h i hi
  exact ⟨p, h1.below hb h1.lt, h2, h3.below hb, h4.below hb⟩
theorem MkQ.refl (lo hi : Nat) (w : World) : MkQ lo hi w w := ⟨Below.refl _ _, fun _ _ _ => rfl, fun _ _ h => h, fun _ _ => rfl⟩
theorem MkQ.set {lo hi b i : Nat} {w x : World} (h : MkQ lo hi w x) (v : Value) (h1 : lo ≤ b) (h2 : b < hi) : MkQ lo hi w (x.setCell ⟨b, i, none⟩ v) :=
  ⟨h.1.setCell (p := ⟨b, i, none⟩) h1 v, fun p h3 h4 => (World.cell?_setCell_other _ _ _ _ (fun e => by subst e; exact absurd h2 (Nat.not_lt.2 h3))).trans (h.2.1 p h3 h4), fun p h3 h4 => isSome_set _ _ _ _ (h.2.2.1 p h3 h4), fun p h3 => (World.frozen?_setCell _ _ _ _).trans (h.2.2.2 p h3)⟩
theorem MkQ.grow {lo hi : Nat} {w x y : World} (h : MkQ lo hi w x) (hb : Below x.heap.size x y) (hlo : lo ≤ w.heap.size) : MkQ lo hi w y := by
  have hz := h.1.size
  exact ⟨h.1.trans (hb.mono (by omega)), fun p h1 h2 => (hb.cell (by omega)).trans (h.2.1 p h1 h2), fun p h1 h2 => by rw [hb.cell (show p.block < x.heap.size by omega)]; exact h.2.2.1 p h1 h2, fun p h1 => (hb.frozen (show p.block < x.heap.size by omega)).trans (h.2.2.2 p h1)⟩
theorem strJ_plus (a b : List Nat) : str a ++ str b = str (a ++ b) := by
  apply ByteArray.ext
  rw [ByteArray.data_append]
  simp [str]
set_option maxHeartbeats 800000 in
set_option maxRecDepth 100000 in
theorem markText_ex (k : Nat) (w : World) (h1 : 1 ≤ k) (hk : k ≤ 35184372088832) : Calls Tryz.prog 75 #[.int .i64 (k : Int)] w fun e w' => ∃ t : ByteArray, e = .returned (.string t) ∧ Below w.heap.size w w' := by
  have c1 : ¬ (k : Int) ≤ 0 := by omega
  go_enter Tryz.func75, Tryz.ntmps75
  go_wp2
  go_loopw [0, 3] (fun q v wr => ∃ (j : Nat) (out : List Nat), j + out.length ≤ k ∧ q = .int .i64 j ∧ v = .string (str out) ∧ Below w.heap.size w wr) (fun q _ _ => (intOf q).toNat)
  case atStart => exact ⟨k, [], Nat.le_refl _, rfl, rfl, Below.refl _ _⟩
  case round =>
    obtain ⟨j, out, hj, rfl, rfl, hbel⟩ := hrel
    have hos : (str out).size = out.length := str_size out
    have hob : out.length ≤ 35184372088832 := by omega
    by_cases hj0 : j = 0
    · subst hj0
      generalize hL : out.length = L at *
      clear hL
      generalize str out = so at *
      go_wp2
      go_ret
      exact ⟨_, rfl, hbel⟩
    · have hjp : (0 : Int) < (j : Int) := by omega
      obtain ⟨r, hr⟩ : ∃ r, r = j % 10 := ⟨_, rfl⟩
      obtain ⟨p, hp⟩ : ∃ p, p = j / 10 := ⟨_, rfl⟩
      have hr10 : r < 10 := by omega
      have hpj : p < j := by omega
      have hst := fun (c : Nat) => run_str (w := wr.alloc (.cells #[.int .u8 ((48 + r : Nat) : Int)] 5)) (a := some ⟨wr.heap.size, 0, none⟩) (n := 1) (cap := c) (l := [48 + r]) rfl (.inr ⟨wr.heap.size, 0, rfl, by simp, fun i hi => by
        have : i = 0 := by simp at hi; omega
        subst this; simp [nth]⟩)
      rw [show ((48 + r : Nat) : Int) = 48 + (r : Int) by omega] at hst
      have e1 : (j : Int) % 10 = (r : Int) := by omega
      have e2 : (j : Int) / 10 = (p : Int) := by omega
      have HP : Hid (str [48 + r] ++ str out = str ((48 + r) :: out)) := strJ_plus [48 + r] out
      have hsr : (str [48 + r]).size = 1 := str_size _
      have HL : Hid (p + ((48 + r) :: out).length ≤ k) := by
        show _ ≤ _
        rw [List.length_cons]; omega
      have hb2 : Below w.heap.size w (wr.alloc (.cells #[.int .u8 (48 + (r : Int))] 5)) := hbel.alloc hbel.size _
      clear hr hp
      go_wp2
      go_roundw
      case rel => exact ⟨p, (48 + r) :: out, HL.out, rfl, by rw [HP.out], hb2⟩
      case measure => simp [intOf]; omega
end Go.Proofs.YtejbbnpgghpgaaaGreatDoor
namespace Go.Proofs.YtejbbnpgghpgaaaGreatDoor
open Go.RowKit List
set_option linter.unusedVariables false
def Wz (lo : Nat) (w : World) (p : SlO) (o : OpR) : Prop := WrQ lo w p.1 ∧ WrQ lo w p.2 ∧ (∀ x, p.1.1 = some x → x.block < w.heap.size) ∧ OwB w p.2 o.b ∧ ∀ g ∈ blkS p.2, lo ≤ g
theorem Wz.below {lo : Nat} {w w' : World} {p : SlO} {o : OpR} (h : Wz lo w p o) (hb : Below w.heap.size w w') : Wz lo w' p o := ⟨h.1.below hb, h.2.1.below hb, fun x hx => Nat.lt_of_lt_of_le (h.2.2.1 x hx) hb.size, h.2.2.2.1.below hb (Nat.le_refl _), h.2.2.2.2⟩
theorem Wz.low {lo lo' : Nat} {w : World} {p : SlO} {o : OpR} (h : Wz lo w p o) (hl : lo' ≤ lo) : Wz lo' w p o := ⟨h.1.low hl, h.2.1.low hl, h.2.2.1, h.2.2.2.1, fun g hg => Nat.le_trans hl (h.2.2.2.2 g hg)⟩
theorem Wz.set {lo : Nat} {w : World} {p : SlO} {o : OpR} (h : Wz lo w p o) (k j : Nat) (u : Value) (hk : k < lo) : Wz lo (w.setCell ⟨k, j, none⟩ u) p o :=
  ⟨h.1.set _ _, h.2.1.set _ _, fun x hx => by rw [World.size_setCell]; exact h.2.2.1 x hx, h.2.2.2.1.keep fun g hg => Below.heap_setCell _ _ _ _ (show g ≠ k by have := h.2.2.2.2 g hg; omega), h.2.2.2.2⟩
theorem wrq_row {w : World} {s : SlQ} {n e lo : Nat} {l : List Value} (h : w.ownsRow 0 e 1 (slW s) n l) (hb : ∀ g ∈ blkS s, lo ≤ g) : WrQ lo w s := by
  obtain ⟨a0, n0, c0⟩ := s
  obtain ⟨⟨a', n', c'⟩, es, h1, h2, h3, h4⟩ := row_form h
  dsimp only [slW] at es h1 h2 h3 h4
  cases es
  rcases h4 with ⟨ea, e0⟩ | ⟨g, ea⟩
  · left
    show n0 = 0
    omega
  · subst ea
    subst h1
    have q := WrQ.own h (Nat.zero_le _)
    rcases q with q | ⟨g', e', -, q2, q3⟩
    · exact .inl q
    · have e2 : g = g' := by cases e'; rfl
      subst e2
      exact .inr ⟨g, e', hb g (by rw [mem_blkS]; rfl), q2, q3⟩
theorem toOp_wz (o : OpR) (p : SlO) {lo : Nat} (w : World) (hs : IsOp lo w p o) (hf : FtO o) :
    Calls Tryz.prog 16 #[opX o p] w fun e w' => ∃ p', e = .returned (opX o p') ∧ IsOp w.heap.size w' p' o ∧ Wz w.heap.size w' p' o ∧ w.heap.size < w'.heap.size ∧ Below w.heap.size w w' := by
  refine (toOp_og o p w hs hf).mono ?_
  rintro e w' ⟨p', he, hI, hZ, hB, hg, -, hb, hlt⟩
  refine ⟨p', he, hI, ⟨wrq_row hZ (fun g h => hg g (List.mem_append_left _ h)), wrq_row hB.1 (fun g h => hg g (List.mem_append_right _ h)), ?_, hB, fun g h => hg g (List.mem_append_right _ h)⟩, ?_, hb⟩
  · intro x hx
    obtain ⟨⟨a', n', c'⟩, es, h1, h2, h3, h4⟩ := row_form hZ
    have e1 : p'.1.1 = a' := by injection es
    rcases h4 with ⟨ea, e0⟩ | ⟨g, ea⟩
    · rw [e1, show a' = none from ea] at hx; cases hx
    · rw [e1, show a' = some ⟨g, 0, none⟩ from ea] at hx
      cases hx
      exact hZ.lt g (by rw [mem_blkS]; rw [show slW p'.1 = .slice (some ⟨g, 0, none⟩) p'.1.2.1 p'.1.2.2 by rw [← show a' = some ⟨g, 0, none⟩ from ea, ← e1]]; rfl)
  · exact hlt
def OsZ (lo : Nat) (w : World) (b : Nat) (l : List OpR) : Prop := ∀ i, i < l.length → ∃ p : SlO, Qp w b (i * 8) (opQ (nthO l i) p) ∧ IsOp lo w p (nthO l i) ∧ Wz lo w p (nthO l i)
theorem OsZ.w {lo b : Nat} {w : World} {l : List OpR} (h : OsZ lo w b l) : OsW lo w b l := fun i hi => by
  obtain ⟨p, h1, h2, h3⟩ := h i hi
  exact ⟨p, h1, h2, h3.1, h3.2.1⟩
theorem OsZ.oz {lo b n : Nat} {w : World} {l : List OpR} (h : OsZ lo w b l) (hl : l.length = n) (hn : n ≤ 1048576) (hf : FtOs l) : IsOz lo w (some ⟨b, 0, none⟩, n, n) l := by
  refine ⟨hl, Nat.le_refl _, by dsimp only; unfold maxLen; omega, ?_⟩
  rcases Nat.eq_zero_or_pos l.length with h0 | h0
  · exact .inl (List.length_eq_zero_iff.1 h0)
  · obtain ⟨p0, hq0, -⟩ := h 0 h0
    refine .inr ⟨b, 0, rfl, hq0.lt, fun i hi => ?_⟩
    obtain ⟨p, ⟨c0, c1, c2, c3, c4, c5, c6, c7⟩, h2, h3⟩ := h i hi
    rw [Nat.zero_add]
    exact ⟨p, ⟨c0, c1, c2, c3, c4, c5, c6, c7⟩, h2, h3.2.2.1, h3.2.2.2.1, (hf.2 i hi).1, (hf.2 i hi).2.1⟩
set_option maxHeartbeats 1600000 in
set_option maxRecDepth 100000 in
theorem toOpS_wz (s : SlQ) (l : List OpR) {lo : Nat} (w : World) (hs : IsOs lo w s l) (hf : FtOs l) :
    Calls Tryz.prog 27 #[slW s] w fun e w' => e = .returned (.slice (some ⟨w.heap.size, 0, none⟩) s.2.1 s.2.1) ∧ OsZ (w.heap.size + 1) w' w.heap.size l ∧ (∀ i, w'.frozen? ⟨w.heap.size, i, none⟩ = false) ∧ (w.heap.size < w'.heap.size ∧ (0 < s.2.1 → w.heap.size + 1 < w'.heap.size)) ∧ Below w.heap.size w w' := by
  obtain ⟨a, n, cap⟩ := s
  obtain ⟨hl, hnc, hcm, hr⟩ := hs
  obtain ⟨hn, hft⟩ := hf
  dsimp only [slW] at *
  obtain ⟨i0, hi, hz0, hz1, hz2⟩ := info_parts infoOp
  go_enter Tryz.func27, Tryz.ntmps27
  go_wp2_with (at_make; refine wpList_make_full _ rfl _ _ 50 rfl w.heap.size 38 i0 (.agg #[.int .i64 0, .string ByteArray.empty, .string ByteArray.empty, .slice none 0 0, .int .i64 0, .int .i64 0, .int .i64 0, .slice none 0 0]) 8 Tryz.underlying50 hi hz0 hz1 .i64 .i64 _ _ n rfl rfl rfl rfl (by rw [hz2]; omega) (by unfold maxLen; omega) (Nat.le_refl _) ?_; intro w0 hown0 hgrow0)
  have hown0' : w0.ownsRow w.heap.size 38 8 (.slice (some ⟨w.heap.size, 0, none⟩) n n) n (oc (halfO zOp [] n)) := by
    rw [halfO_zero, ← made_octs]
    exact hown0
  have hbel0 : Below w.heap.size w w0 := (Below.refl _ _).grown hgrow0 (Nat.le_refl _) (by intro k hk; cases hk)
  clear hgrow0 hown0
  go_loopw [4] (fun i wr => ∃ (k : Nat) (ql : List Oc), k ≤ n ∧ i = .int .i64 k ∧ ql.length = k ∧ wr.ownsRow w.heap.size 38 8 (.slice (some ⟨w.heap.size, 0, none⟩) n n) n (oc (halfO zOp ql n)) ∧ (∀ j, j < k → ∃ p, nthOc ql j = opQ (nthO l j) p ∧ IsOp (w.heap.size + 1) wr p (nthO l j) ∧ Wz (w.heap.size + 1) wr p (nthO l j)) ∧ Below w.heap.size w wr ∧ (0 < k → w.heap.size + 1 < wr.heap.size))
    (fun i _ => n - (intOf i).toNat)
  case atStart => exact ⟨0, [], Nat.zero_le _, rfl, rfl, hown0', fun j hj => absurd hj (Nat.not_lt_zero _), hbel0, fun h => absurd h (Nat.lt_irrefl _)⟩
  case round =>
    obtain ⟨k, ql, hk, rfl, hqk, hown, hall, hbel, hgz⟩ := hrel
    clear hown0' hbel0
    by_cases hkn : k < n
    · obtain ⟨b, off, rfl, -, hblt, hcell⟩ := (hr.below hbel).at_ (by omega)
      obtain ⟨p, ⟨hc0, hc1, hc2, hc3, hc4, hc5, hc6, hc7⟩, hI⟩ := hcell k (by omega)
      have hgl : w.heap.size < wr.heap.size := (hown.lt w.heap.size rfl).2
      have HC := toOp_wz (nthO l k) p wr hI (hft k (by omega))
      have hki : (k : Int) < (n : Int) := by omega
      have HL : Hid (∀ (w' : World) (p' : SlO) (_ : Near (w.heap.size + 1) wr w') (_ : ∀ p o, Wz (w.heap.size + 1) wr p o → Wz (w.heap.size + 1) w' p o) (_ : IsOp (w.heap.size + 1) w' p' (nthO l k) ∧ Wz (w.heap.size + 1) w' p' (nthO l k)), ∀ j, j < k + 1 → ∃ p, nthOc (ql ++ [opQ (nthO l k) p']) j = opQ (nthO l j) p ∧ IsOp (w.heap.size + 1) w' p (nthO l j) ∧ Wz (w.heap.size + 1) w' p (nthO l j)) := fun w' p' hN hKW hI' j hj => by
        rcases Nat.lt_or_ge j k with h' | h'
        · obtain ⟨s, e, hI''⟩ := hall j h'
          refine ⟨s, ?_, hI''.1.near hN, hKW _ _ hI''.2⟩
          rw [← e]; unfold nthOc; rw [List.getD_eq_getElem?_getD, List.getD_eq_getElem?_getD, List.getElem?_append_left (by omega)]
        · obtain rfl : j = k := by omega
          refine ⟨p', ?_, hI'⟩
          unfold nthOc; rw [List.getD_eq_getElem?_getD, List.getElem?_append_right (by omega), hqk, Nat.sub_self]; rfl
      have HFS : Hid (∀ p', oc ((halfO zOp ql n).set k (opQ (nthO l k) p')) = oc (halfO zOp (ql ++ [opQ (nthO l k) p']) n)) := fun p' => by
        rw [← hqk, halfO_set zOp ql n _ (by omega)]
      clear hcell hall hI
      generalize nthO l k = o at *
      obtain ⟨ok0, ox0, ot0, ou0, om0, of0, od0, ob0⟩ := o
      dsimp only at hc0 hc1 hc2 hc3 hc4 hc5 hc6 hc7 HL
      go_wp2_with fail
      refine HC.mono ?_
      rintro e w1 ⟨p', rfl, hI1, hV1, hzl, hb1⟩
      have HZL : Hid (w.heap.size + 1 < w1.heap.size) := by show _ < _; omega
      clear hgz
      have hown1 := ownO_below hown hb1 (Nat.le_refl _)
      have hbel1 : Below w.heap.size w w1 := hbel.trans (hb1.mono hbel.size)
      have hhl : (halfO zOp ql n).length = n := halfO_len _ _ _ (by omega)
      obtain ⟨-, g0, g1, g2, g3, g4, g5, g6, g7⟩ := ownO_cells hown1 k (by omega)
      have z0 := hown1.frozenAt (k * 8)
      have z1 := hown1.frozenAt (k * 8 + 1)
      have z2 := hown1.frozenAt (k * 8 + 2)
      have z3 := hown1.frozenAt (k * 8 + 3)
      have z4 := hown1.frozenAt (k * 8 + 4)
      have z5 := hown1.frozenAt (k * 8 + 5)
      have z6 := hown1.frozenAt (k * 8 + 6)
      have z7 := hown1.frozenAt (k * 8 + 7)
      obtain ⟨hst0, -⟩ := hown1.stored (k * 8) (.int .i64 ok0)
      obtain ⟨hst1, -⟩ := hst0.stored (k * 8 + 1) (.string ox0)
      obtain ⟨hst2, -⟩ := hst1.stored (k * 8 + 2) (.string ot0)
      obtain ⟨hst3, -⟩ := hst2.stored (k * 8 + 3) (slW p'.1)
      obtain ⟨hst4, -⟩ := hst3.stored (k * 8 + 4) (.int .i64 om0)
      obtain ⟨hst5, -⟩ := hst4.stored (k * 8 + 5) (.int .i64 of0)
      obtain ⟨hst6, -⟩ := hst5.stored (k * 8 + 6) (.int .i64 od0)
      obtain ⟨hst7, -⟩ := hst6.stored (k * 8 + 7) (slW p'.2)
      rw [oc_set (halfO zOp ql n) k (opQ ⟨ok0, ox0, ot0, ou0, om0, of0, od0, ob0⟩ p') (by omega), HFS.out p'] at hst7
      have HN : Hid (Near (w.heap.size + 1) wr ((((((((w1.setCell ⟨w.heap.size, k * 8, none⟩ (.int .i64 ok0)).setCell ⟨w.heap.size, k * 8 + 1, none⟩ (.string ox0)).setCell ⟨w.heap.size, k * 8 + 2, none⟩ (.string ot0)).setCell ⟨w.heap.size, k * 8 + 3, none⟩ (slW p'.1)).setCell ⟨w.heap.size, k * 8 + 4, none⟩ (.int .i64 om0)).setCell ⟨w.heap.size, k * 8 + 5, none⟩ (.int .i64 of0)).setCell ⟨w.heap.size, k * 8 + 6, none⟩ (.int .i64 od0)).setCell ⟨w.heap.size, k * 8 + 7, none⟩ (slW p'.2)) ∧ Near (w.heap.size + 1) w1 ((((((((w1.setCell ⟨w.heap.size, k * 8, none⟩ (.int .i64 ok0)).setCell ⟨w.heap.size, k * 8 + 1, none⟩ (.string ox0)).setCell ⟨w.heap.size, k * 8 + 2, none⟩ (.string ot0)).setCell ⟨w.heap.size, k * 8 + 3, none⟩ (slW p'.1)).setCell ⟨w.heap.size, k * 8 + 4, none⟩ (.int .i64 om0)).setCell ⟨w.heap.size, k * 8 + 5, none⟩ (.int .i64 of0)).setCell ⟨w.heap.size, k * 8 + 6, none⟩ (.int .i64 od0)).setCell ⟨w.heap.size, k * 8 + 7, none⟩ (slW p'.2))) := by
        have h4 := ((((((((Near.set (w := w1) (g := w.heap.size) (j := k * 8) (lo := w.heap.size + 1) (.int .i64 ok0) (by omega)).trans (Near.set (g := w.heap.size) (j := k * 8 + 1) (.string ox0) (by omega))).trans (Near.set (g := w.heap.size) (j := k * 8 + 2) (.string ot0) (by omega))).trans (Near.set (g := w.heap.size) (j := k * 8 + 3) (slW p'.1) (by omega))).trans (Near.set (g := w.heap.size) (j := k * 8 + 4) (.int .i64 om0) (by omega))).trans (Near.set (g := w.heap.size) (j := k * 8 + 5) (.int .i64 of0) (by omega))).trans (Near.set (g := w.heap.size) (j := k * 8 + 6) (.int .i64 od0) (by omega))).trans (Near.set (g := w.heap.size) (j := k * 8 + 7) (slW p'.2) (by omega)))
        exact ⟨(Near.of_below hb1).trans h4, h4⟩
      have HX : Hid (_) := HL.out _ p' HN.out.1 (fun p o hs => ((((((((hs.below hb1).set _ _ _ (by omega)).set _ _ _ (by omega)).set _ _ _ (by omega)).set _ _ _ (by omega)).set _ _ _ (by omega)).set _ _ _ (by omega)).set _ _ _ (by omega)).set _ _ _ (by omega)) ⟨(hI1.near (HN.out.2.mono (by omega))).low (by omega), ((((((((hV1.low (by omega)).set _ _ _ (by omega)).set _ _ _ (by omega)).set _ _ _ (by omega)).set _ _ _ (by omega)).set _ _ _ (by omega)).set _ _ _ (by omega)).set _ _ _ (by omega)).set _ _ _ (by omega)⟩
      have HB2 : Hid (Below w.heap.size w ((((((((w1.setCell ⟨w.heap.size, k * 8, none⟩ (.int .i64 ok0)).setCell ⟨w.heap.size, k * 8 + 1, none⟩ (.string ox0)).setCell ⟨w.heap.size, k * 8 + 2, none⟩ (.string ot0)).setCell ⟨w.heap.size, k * 8 + 3, none⟩ (slW p'.1)).setCell ⟨w.heap.size, k * 8 + 4, none⟩ (.int .i64 om0)).setCell ⟨w.heap.size, k * 8 + 5, none⟩ (.int .i64 of0)).setCell ⟨w.heap.size, k * 8 + 6, none⟩ (.int .i64 od0)).setCell ⟨w.heap.size, k * 8 + 7, none⟩ (slW p'.2))) := ((((((((hbel1.setCell (by simp) _).setCell (by simp) _).setCell (by simp) _).setCell (by simp) _).setCell (by simp) _).setCell (by simp) _).setCell (by simp) _).setCell (by simp) _)
      have HO2 : Hid (_) := hst7
      generalize (nthOc (halfO zOp ql n) k) = y at *
      obtain ⟨y0, y1, y2, y3, y4, y5, y6, y7⟩ := y
      dsimp only at g0 g1 g2 g3 g4 g5 g6 g7
      clear hst0 hst1 hst2 hst3 hst4 hst5 hst6 hst7 hown1 hown hb1 HFS hbel HL HN HC hI1 hV1
      go_wp2
      go_roundw
      case rel => exact ⟨k + 1, _, by omega, by go_num, by simp [hqk], HO2.out, HX.out, HB2.out, fun _ => by simpa using HZL.out⟩
      case measure => simp [intOf]; omega
    · have hkk : k = n := by omega
      subst hkk
      have hki : ¬ (k : Int) < (k : Int) := by omega
      have HO : Hid (OsZ (w.heap.size + 1) wr w.heap.size l) := fun i hi => by
        obtain ⟨s, e, hI⟩ := hall i (by omega)
        rw [← hqk, halfO_all] at hown
        obtain ⟨-, g0, g1, g2, g3, g4, g5, g6, g7⟩ := ownO_cells (cap := ql.length) hown i (by omega)
        rw [e] at g0 g1 g2 g3 g4 g5 g6 g7
        exact ⟨s, ⟨g0, g1, g2, g3, g4, g5, g6, g7⟩, hI⟩
      have hlt := (hown.lt w.heap.size rfl).2
      have HFZ : Hid (∀ i, wr.frozen? ⟨w.heap.size, i, none⟩ = false) := fun i => hown.frozenAt i
      clear hown hall
      go_wp2
      go_ret
      exact ⟨rfl, HO.out, HFZ.out, ⟨hlt, hgz⟩, hbel⟩
end Go.Proofs.YtejbbnpgghpgaaaGreatDoor
