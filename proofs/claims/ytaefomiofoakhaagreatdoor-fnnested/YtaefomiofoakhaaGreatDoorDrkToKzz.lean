/- Draws that leave all but their source as it was; no conditions beyond those that each fact names · A slice of bytes that may be written and grows by appends, whether it was made of a text or is a row of the call's own; no conditions beyond those that each fact names · Words on memory: blocks that begin with a byte, or with a number, stay where rows of another kind grow; what was drawn lies at the beginning of its block; no program in it. -/
import Derived.Test.YtaefomiofoakhaaGreatDoorDrw2ToDrl
import Derived.Test.YtaefomiofoakhaaGreatDoorCvToLow0
import Derived.Test.YtaefomiofoakhaaGreatDoorAppToMemF
import Derived.ArgAppend
import Derived.Deep.MidRow
import Derived.Test.YtaefomiofoakhaaGreatDoorMqrToDrw
namespace Go.Proofs.YtaefomiofoakhaaGreatDoor
open Go.RowKit

/-- Of what there was, all blocks but b stay. -/
def Kb (b : Nat) (w w' : World) : Prop := w.grownBy w' (some b)
theorem Kb.refl (b : Nat) (w : World) : Kb b w w := ⟨rfl, rfl, rfl, Nat.le_refl _, fun _ _ _ => rfl⟩
theorem Kb.below' {b : Nat} {w w1 w2 : World} (h : Kb b w w1) (hb : Below w.heap.size w1 w2) : Kb b w w2 := ⟨hb.os.trans h.os, hb.tape.trans h.tape, hb.output.trans h.output, Nat.le_trans h.size hb.size, fun k hk hne => (hb.block k hk).trans (h.block k hk hne)⟩
theorem Kb.below {b : Nat} {w w1 w2 : World} (h : Kb b w w1) (hb : Below w1.heap.size w1 w2) : Kb b w w2 := h.below' (hb.mono h.size)
theorem Kb.grown {b : Nat} {w w1 w2 : World} (h : Kb b w w1) (hg : w1.grownBy w2 (some b)) : Kb b w w2 :=
  ⟨hg.os.trans h.os, hg.tape.trans h.tape, hg.output.trans h.output, Nat.le_trans h.size hg.size, fun k hk hne => (hg.block k (Nat.lt_of_lt_of_le hk h.size) hne).trans (h.block k hk hne)⟩
theorem Kb.trans {b : Nat} {w w1 w2 : World} (h : Kb b w w1) (h' : Kb b w1 w2) : Kb b w w2 := h.grown h'

set_option maxHeartbeats 1600000 in
set_option maxRecDepth 100000 in
theorem l1Some_kb (B b M n : Nat) (w : World) (hs : Src w B b M) (hM : M + 2 * n ≤ 99000) (hn : n ≤ 100) :
    Calls Tryz.prog 64 #[.pointer (some ⟨b, 0, none⟩), .int .i64 (n : Int)] w fun e w' =>
      ∃ (v : Value) (out : List Nat), e = .returned v ∧ Own w' w.heap.size v out ∧ IsB out ∧ out.length = n ∧ Src w' B b (M + 2 * n) ∧ Below b w w' ∧ Kb b w w' := by
  obtain ⟨hBb, hbw, _⟩ := id hs
  go_enter Tryz.func64, Tryz.ntmps64
  go_wp2
  have hown0 : Own (w.alloc (.cells #[] 5)) w.heap.size (.slice (some ⟨w.heap.size, 0, none⟩) 0 0) [] := Own.lit w _ (Nat.le_refl _) #[] [] rfl (by decide)
  have hbel0 : Below b w (w.alloc (.cells #[] 5)) := (Below.refl _ _).alloc (by omega) _
  have hs0 : Src (w.alloc (.cells #[] 5)) B b M := hs.below ((Below.refl _ _).alloc (by omega) _)
  have hkb0 : Kb b w (w.alloc (.cells #[] 5)) := (Kb.refl b w).below ((Below.refl _ _).alloc (Nat.le_refl _) _)
  go_loopw [1, 5] (fun j v wr => ∃ (i : Nat) (out : List Nat), i ≤ n ∧ j = .int .i64 ((n - i : Nat) : Int) ∧ Own wr w.heap.size v out ∧ IsB out ∧ out.length = i ∧ Src wr B b (M + 2 * i) ∧ Below b w wr ∧ Kb b w wr)
    (fun j _ _ => (intOf j).toNat)
  case atStart => exact ⟨0, [], by omega, rfl, hown0, fun x hx => by simp at hx, rfl, hs0, hbel0, hkb0⟩
  case round =>
    obtain ⟨i, out, hi, rfl, hown, hBo, hol, hsr, hbel, hkb⟩ := hrel
    clear hown0 hbel0 hkb0 hs0 hs
    have hz := hbel.size
    by_cases hin : i < n
    · have hj : (0 : Int) < ((n - i : Nat) : Int) := by omega
      obtain ⟨_, hbr, _⟩ := id hsr
      go_wp2_with fail
      refine (l1Next_any B b (M + 2 * i) 256 _ hsr (by omega) (by omega) (by omega)).mono ?_
      rintro e w1 ⟨r, rfl, r0, r1, _, hs1, hg1⟩
      have ho1 := hown.keptG hg1 (by omega)
      have hb1 : Below b w w1 := hbel.trans ((Below.refl _ _).grown hg1 (by omega) (by intro k hk; simp at hk; omega))
      have hz1 := hg1.size
      have hkb1 := hkb.grown hg1
      have hs1' : Src (w1.alloc (.cells #[.int .i64 r, .int .i64 97, .int .i64 32, .int .i64 10, .int .i64 61, .int .i64 122] 2)) B b (M + 2 * i + 1) := hs1.below ((Below.refl _ _).alloc (by omega) _)
      have hr256 : r < 256 := r1 (by omega)
      go_wp2_with fail
      refine (l1Pick_any B b (M + 2 * i + 1) _ 6 6 [r, 97, 32, 10, 61, 122] _ hs1' (by omega) rfl (by omega) (by omega) (nums_new rfl) (by omega)).mono ?_
      rintro e w2 ⟨x, rfl, hx, hs2, hg2⟩
      have hx' : 0 ≤ x ∧ x < 256 := by
        simp only [List.mem_cons, List.not_mem_nil, or_false] at hx
        omega
      obtain ⟨y, rfl⟩ := Int.eq_ofNat_of_zero_le hx'.1
      have hy : y < 256 := by omega
      have ho2 := (ho1.alloc (.cells #[.int .i64 r, .int .i64 97, .int .i64 32, .int .i64 10, .int .i64 61, .int .i64 122] 2)).keptG hg2 (by omega)
      have hb2 : Below b w w2 := (hb1.alloc (by omega) _).trans ((Below.refl _ _).grown hg2 (by simp; omega) (by intro k hk; simp at hk; omega))
      have hz2 : w1.heap.size + 1 ≤ w2.heap.size := by have := hg2.size; simpa using this
      have hkb2 := (hkb1.below ((Below.refl _ _).alloc (Nat.le_refl _) _)).grown hg2
      have HKB2 : Hid (Kb b w w2) := hkb2
      clear hkb hkb1 hkb2
      have HS2 : Hid (Src w2 B b (M + 2 * i + 1 + 1)) := hs2
      clear hs1 hs1' hg1 hg2 ho1 hx hsr hown hs2 r1
      go_wp2_with (at_builtin; refine wpList_app_new rfl _ _ rfl w.heap.size _ out rfl ho2 1 1 [y] rfl rfl rfl (by omega) (by omega) ?_; intro v' w3 hown' hb')
      have hs3 : Hid (Src w3 B b (M + 2 * (i + 1))) := Src.below (w := w2) HS2.out (hb'.mono (by omega))
      go_wp2
      go_roundw
      case rel => exact ⟨i + 1, out ++ [y], by omega, by go_num, hown', fun z hz => by rcases List.mem_append.1 hz with h | h; exact hBo z h; simp at h; omega, by simp; omega, hs3.out, hb2.trans (hb'.mono (by omega)), HKB2.out.below' hb'⟩
      case measure => simp [intOf]; omega
    · have hii : i = n := by omega
      have hj : ¬ (0 : Int) < ((n - i : Nat) : Int) := by omega
      subst hii
      go_wp2
      go_ret
      exact ⟨_, rfl, out, hown, hBo, hol, hsr, hbel, hkb⟩
end Go.Proofs.YtaefomiofoakhaaGreatDoor

namespace Go.Proofs.YtaefomiofoakhaaGreatDoor
open Go.RowKit

/-- The slice v holds l, at a block of B or behind it, and may be written up to its room. -/
def Gr (w : World) (B : Nat) (v : Value) (l : List Nat) : Prop := ∃ g cap, v = .slice (some ⟨g, 0, none⟩) l.length cap ∧ B ≤ g ∧ cap ≤ maxLen ∧ Cv w g l.length cap l
theorem Gr.rd {w : World} {B : Nat} {v : Value} {l : List Nat} (h : Gr w B v l) : ∃ g cap, v = .slice (some ⟨g, 0, none⟩) l.length cap ∧ Rd w (some ⟨g, 0, none⟩) l ∧ l.length ≤ cap := by
  obtain ⟨g, cap, e, _, _, hc⟩ := h
  exact ⟨g, cap, e, hc.rd, hc.2.1⟩
theorem Gr.below {w w' : World} {B C : Nat} {v : Value} {l : List Nat} (h : Gr w B v l) (hb : Below C w w') (hC : w.heap.size ≤ C) : Gr w' B v l := by
  obtain ⟨g, cap, e, h1, h2, hc⟩ := h
  exact ⟨g, cap, e, h1, h2, hc.below hb (Nat.lt_of_lt_of_le hc.2.2.1 hC)⟩
theorem Gr.alloc {w : World} {B : Nat} {v : Value} {l : List Nat} (h : Gr w B v l) (o : Obj) : Gr (w.alloc o) B v l := h.below ((Below.refl _ _).alloc (Nat.le_refl _) o) (Nat.le_refl _)
theorem Gr.drew {w : World} {B : Nat} {v : Value} {l : List Nat} (h : Gr w B v l) : Gr w.drew B v l := h.below (Below.refl _ _).drew (Nat.le_refl _)
theorem Gr.low {w : World} {B C : Nat} {v : Value} {l : List Nat} (h : Gr w B v l) (hC : C ≤ B) : Gr w C v l := by
  obtain ⟨g, cap, e, h1, h2, hc⟩ := h
  exact ⟨g, cap, e, by omega, h2, hc⟩
theorem Gr.conv (w : World) (l : List Nat) (hB : IsB l) (B cap : Nat) (hBw : B ≤ w.heap.size) (h : l.length ≤ cap) (hm : cap ≤ maxLen) : Gr (w.alloc (.cells (bytesRow (str l) cap) 5 ((bytesRow (str l) cap).size, (bytesRow (str l) cap).size + 1))) B (.slice (some ⟨w.heap.size, 0, none⟩) l.length cap) l :=
  ⟨w.heap.size, cap, rfl, hBw, hm, Cv.conv w l hB cap h⟩
/-- A row of the call's own may be written up to its room. -/
theorem Gr.own {w : World} {B : Nat} {v : Value} {l : List Nat} (h : Own w B v l) (hp : 0 < l.length) : Gr w B v l := by
  obtain ⟨a, cap, hv, h1, h2⟩ := h.form
  subst hv
  obtain ⟨hlen, hrd⟩ := h.rd
  rcases h.2 with ⟨h', h0⟩ | ⟨g, cap', cur, e, hB, hh, hc1, hc2, hcs, -⟩
  · omega
  · injection e with e1 _ e2
    subst e1 e2
    have hlt : g < w.heap.size := (Array.getElem?_eq_some_iff.1 hh).1
    refine ⟨g, cap, rfl, hB, h2, rfl, h1, hlt, ?_, ?_⟩
    · obtain ⟨b', off', e', -, hc⟩ := hrd.at_ hp
      cases e'
      intro i hi
      have := hc i hi
      rw [Nat.zero_add] at this
      exact this
    · intro i hi
      have hs : cur.size = cap := by simpa using hcs
      refine ⟨?_, ?_⟩
      · simp [World.cell?, hh, hs, hi]
      · simp [World.frozen?, hh]
end Go.Proofs.YtaefomiofoakhaaGreatDoor

namespace Go.Proofs.YtaefomiofoakhaaGreatDoor
open Go.RowKit

def isU8 (v : Value) : Prop := ∃ x, v = .int .u8 x
/-- From the block lo on the blocks that begin with such a value stay. -/
def Kz (lo : Nat) (T : Value → Prop) (w w' : World) : Prop := w.heap.size ≤ w'.heap.size ∧ ∀ k, lo ≤ k → (∃ u, w.cell? ⟨k, 0, none⟩ = some u ∧ T u) → ∀ i, w'.cell? ⟨k, i, none⟩ = w.cell? ⟨k, i, none⟩
theorem Kz.refl (lo : Nat) (T : Value → Prop) (w : World) : Kz lo T w w := ⟨Nat.le_refl _, fun _ _ _ _ => rfl⟩
theorem Kz.trans {lo : Nat} {T : Value → Prop} {w w1 w2 : World} (h : Kz lo T w w1) (h' : Kz lo T w1 w2) : Kz lo T w w2 :=
  ⟨Nat.le_trans h.1 h'.1, fun k hk hu i => by
    have e := h.2 k hk hu
    obtain ⟨u, hu1, hu2⟩ := hu
    exact (h'.2 k hk ⟨u, (e 0).trans hu1, hu2⟩ i).trans (e i)⟩
theorem Kz.below {lo : Nat} (T : Value → Prop) {w w' : World} (h : Below w.heap.size w w') : Kz lo T w w' :=
  ⟨h.size, fun k _ ⟨_, hu, _⟩ i => h.cell (p := ⟨k, i, none⟩) (World.block_lt_of_cell? w ⟨k, 0, none⟩ hu)⟩
theorem Kz.alloc {lo : Nat} (T : Value → Prop) (w : World) (o : Obj) : Kz lo T w (w.alloc o) := Kz.below T ((Below.refl _ _).alloc (Nat.le_refl _) _)
theorem Kz.set {lo : Nat} (T : Value → Prop) {w : World} {R j : Nat} (v : Value) (hR : R < lo) : Kz lo T w (w.setCell ⟨R, j, none⟩ v) :=
  ⟨by simp, fun k hk _ i => World.cell?_setCell_other _ _ _ _ (fun e => by cases e; omega)⟩
/-- A row grows whose block begins with another kind of value, or with none. -/
theorem Kz.grown {lo : Nat} {T : Value → Prop} {w w' : World} {r : Option Nat} (h : w.grownBy w' r) (hr : ∀ g u, r = some g → w.cell? ⟨g, 0, none⟩ = some u → ¬ T u) : Kz lo T w w' :=
  ⟨h.size, fun k _ ⟨u, hu, hT⟩ i => h.cell_far ⟨k, i, none⟩ (World.block_lt_of_cell? w ⟨k, 0, none⟩ hu) (fun e => hr k u e.symm hu hT)⟩
theorem Kz.kb {lo b : Nat} {T : Value → Prop} {w w' : World} (h : Kb b w w') (hb : b < lo) : Kz lo T w w' :=
  ⟨h.size, fun k hk ⟨_, hu, _⟩ i => World.grownBy.cell_far h ⟨k, i, none⟩ (World.block_lt_of_cell? w ⟨k, 0, none⟩ hu) (fun e => by injection e with e; dsimp only at e; omega)⟩
/-- BYTES THAT WERE DRAWN: they lie at the beginning of a block from lo on. -/
def D0 (lo : Nat) (w : World) (s : SlQ) (d : List Nat) : Prop := d.length = s.2.1 ∧ s.2.1 ≤ s.2.2 ∧ s.2.2 ≤ maxLen ∧ IsB d ∧ ((∃ g, s.1 = some ⟨g, 0, none⟩) ∧ ∀ x, s.1 = some x → lo ≤ x.block) ∧ (d = [] ∨ ∃ g, s.1 = some ⟨g, 0, none⟩ ∧ g < w.heap.size ∧ ∀ i, i < d.length → w.cell? ⟨g, i, none⟩ = some (.int .u8 (nth d i : Int)))
theorem D0.kz {lo : Nat} {w w' : World} {s : SlQ} {d : List Nat} (h : D0 lo w s d) (hk : Kz lo isU8 w w') : D0 lo w' s d := by
  obtain ⟨h1, h2, h3, h4, h5, h6⟩ := h
  refine ⟨h1, h2, h3, h4, h5, ?_⟩
  rcases h6 with h6 | ⟨g, e, hg, hc⟩
  · exact .inl h6
  · rcases Nat.eq_zero_or_pos d.length with hz | hp
    · exact .inl (List.length_eq_zero_iff.1 hz)
    · exact .inr ⟨g, e, Nat.lt_of_lt_of_le hg hk.1, fun i hi => (hk.2 g (h5.2 _ e) ⟨_, hc 0 hp, _, rfl⟩ i).trans (hc i hi)⟩
theorem D0.low {lo lo' : Nat} {w : World} {s : SlQ} {d : List Nat} (h : D0 lo w s d) (hl : lo' ≤ lo) : D0 lo' w s d := ⟨h.1, h.2.1, h.2.2.1, h.2.2.2.1, ⟨h.2.2.2.2.1.1, fun x hx => Nat.le_trans hl (h.2.2.2.2.1.2 x hx)⟩, h.2.2.2.2.2⟩
theorem D0.sl {lo : Nat} {w : World} {s : SlQ} {d : List Nat} (h : D0 lo w s d) : IsSl lo w s d := by
  obtain ⟨h1, h2, h3, h4, h5, h6⟩ := h
  refine ⟨h1, h2, h3, h4, ?_, h5.2⟩
  rcases h6 with h6 | ⟨g, e, hg, hc⟩
  · exact .inl h6
  · exact .inr ⟨g, 0, e, hg, fun i hi => by rw [Nat.zero_add]; exact hc i hi⟩
end Go.Proofs.YtaefomiofoakhaaGreatDoor
