/- Draws that leave all but their source as it was; no conditions beyond those that each fact names · A slice of bytes that may be written and grows by appends, whether it was made of a text or is a row of the call's own; no conditions beyond those that each fact names · Words on memory: blocks that begin with a byte, or with a number, stay where rows of another kind grow; what was drawn lies at the beginning of its block; no program in it · An append to a slice that grows, of a slice, of nothing, or of a text; no conditions beyond those that each fact names. -/
import Derived.Test.YtooifkdbpghcfaaGreatDoorDrwToDrl4
import Derived.Test.YtooifkdbpghcfaaGreatDoorFdpToLow0
import Derived.Test.YtooifkdbpghcfaaGreatDoorMemToApp
import Derived.ArgAppend
import Derived.Deep.MidRow
import Derived.Test.YtooifkdbpghcfaaGreatDoorChnToMqr
import Derived.Deep.AppendSrc
namespace Go.Proofs.YtooifkdbpghcfaaGreatDoor
open Go.RowKit

/-- Of what there was, all blocks but b stay. -/
def Kb (b : Nat) (w w' : World) : Prop := w.grownBy w' (some b)
theorem Kb.refl (b : Nat) (w : World) : Kb b w w := ⟨rfl, rfl, rfl, Nat.le_refl _, fun _ _ _ => rfl⟩
theorem Kb.below' {b : Nat} {w w1 w2 : World} (h : Kb b w w1) (hb : Below w.heap.size w1 w2) : Kb b w w2 := ⟨hb.os.trans h.os, hb.tape.trans h.tape, hb.output.trans h.output, Nat.le_trans h.size hb.size, fun k hk hne => (hb.block k hk).trans (h.block k hk hne)⟩
theorem Kb.below {b : Nat} {w w1 w2 : World} (h : Kb b w w1) (hb : Below w1.heap.size w1 w2) : Kb b w w2 := h.below' (hb.mono h.size)
theorem Kb.grown {b : Nat} {w w1 w2 : World} (h : Kb b w w1) (hg : w1.grownBy w2 (some b)) : Kb b w w2 :=
  ⟨hg.os.trans h.os, hg.tape.trans h.tape, hg.output.trans h.output, Nat.le_trans h.size hg.size, fun k hk hne => (hg.block k (Nat.lt_of_lt_of_le hk h.size) hne).trans (h.block k hk hne)⟩
theorem Kb.trans {b : Nat} {w w1 w2 : World} (h : Kb b w w1) (h' : Kb b w1 w2) : Kb b w w2 := h.grown h'

set_option maxHeartbeats 1600000 in
set_option maxRecDepth 100000 in
theorem l1Some_kb (B b M n : Nat) (w : World) (hs : Src w B b M) (hM : M + 2 * n ≤ 99000) (hn : n ≤ 100) :
    Calls Tryz.prog 57 #[.pointer (some ⟨b, 0, none⟩), .int .i64 (n : Int)] w fun e w' =>
      ∃ (v : Value) (out : List Nat), e = .returned v ∧ Own w' w.heap.size v out ∧ IsB out ∧ out.length = n ∧ Src w' B b (M + 2 * n) ∧ Below b w w' ∧ Kb b w w' := by
  obtain ⟨hBb, hbw, _⟩ := id hs
  go_enter Tryz.func57, Tryz.ntmps57
  go_wp2
  have hown0 : Own (w.alloc (.cells #[] 5)) w.heap.size (.slice (some ⟨w.heap.size, 0, none⟩) 0 0) [] := Own.lit w _ (Nat.le_refl _) #[] [] rfl (by decide)
  have hbel0 : Below b w (w.alloc (.cells #[] 5)) := (Below.refl _ _).alloc (by omega) _
  have hs0 : Src (w.alloc (.cells #[] 5)) B b M := hs.below ((Below.refl _ _).alloc (by omega) _)
  have hkb0 : Kb b w (w.alloc (.cells #[] 5)) := (Kb.refl b w).below ((Below.refl _ _).alloc (Nat.le_refl _) _)
  go_loopw [1, 5] (fun j v wr => ∃ (i : Nat) (out : List Nat), i ≤ n ∧ j = .int .i64 ((n - i : Nat) : Int) ∧ Own wr w.heap.size v out ∧ IsB out ∧ out.length = i ∧ Src wr B b (M + 2 * i) ∧ Below b w wr ∧ Kb b w wr)
    (fun j _ _ => (intOf j).toNat)
  case atStart => exact ⟨0, [], by omega, rfl, hown0, fun x hx => by simp at hx, rfl, hs0, hbel0, hkb0⟩
  case round =>
    obtain ⟨i, out, hi, rfl, hown, hBo, hol, hsr, hbel, hkb⟩ := hrel
    clear hown0 hbel0 hkb0 hs0 hs
    have hz := hbel.size
    by_cases hin : i < n
    · have hj : (0 : Int) < ((n - i : Nat) : Int) := by omega
      obtain ⟨_, hbr, _⟩ := id hsr
      go_wp2_with fail
      refine (l1Next_any B b (M + 2 * i) 256 _ hsr (by omega) (by omega) (by omega)).mono ?_
      rintro e w1 ⟨r, rfl, r0, r1, _, hs1, hg1⟩
      have ho1 := hown.keptG hg1 (by omega)
      have hb1 : Below b w w1 := hbel.trans ((Below.refl _ _).grown hg1 (by omega) (by intro k hk; simp at hk; omega))
      have hz1 := hg1.size
      have hkb1 := hkb.grown hg1
      have hs1' : Src (w1.alloc (.cells #[.int .i64 r, .int .i64 97, .int .i64 32, .int .i64 10, .int .i64 61, .int .i64 122] 2)) B b (M + 2 * i + 1) := hs1.below ((Below.refl _ _).alloc (by omega) _)
      have hr256 : r < 256 := r1 (by omega)
      go_wp2_with fail
      refine (l1Pick_any B b (M + 2 * i + 1) _ 6 6 [r, 97, 32, 10, 61, 122] _ hs1' (by omega) rfl (by omega) (by omega) (nums_new rfl) (by omega)).mono ?_
      rintro e w2 ⟨x, rfl, hx, hs2, hg2⟩
      have hx' : 0 ≤ x ∧ x < 256 := by
        simp only [List.mem_cons, List.not_mem_nil, or_false] at hx
        omega
      obtain ⟨y, rfl⟩ := Int.eq_ofNat_of_zero_le hx'.1
      have hy : y < 256 := by omega
      have ho2 := (ho1.alloc (.cells #[.int .i64 r, .int .i64 97, .int .i64 32, .int .i64 10, .int .i64 61, .int .i64 122] 2)).keptG hg2 (by omega)
      have hb2 : Below b w w2 := (hb1.alloc (by omega) _).trans ((Below.refl _ _).grown hg2 (by simp; omega) (by intro k hk; simp at hk; omega))
      have hz2 : w1.heap.size + 1 ≤ w2.heap.size := by have := hg2.size; simpa using this
      have hkb2 := (hkb1.below ((Below.refl _ _).alloc (Nat.le_refl _) _)).grown hg2
      have HKB2 : Hid (Kb b w w2) := hkb2
      clear hkb hkb1 hkb2
      have HS2 : Hid (Src w2 B b (M + 2 * i + 1 + 1)) := hs2
      clear hs1 hs1' hg1 hg2 ho1 hx hsr hown hs2 r1
      go_wp2_with (at_builtin; refine wpList_app_new rfl _ _ rfl w.heap.size _ out rfl ho2 1 1 [y] rfl rfl rfl (by omega) (by omega) ?_; intro v' w3 hown' hb')
      have hs3 : Hid (Src w3 B b (M + 2 * (i + 1))) := Src.below (w := w2) HS2.out (hb'.mono (by omega))
      go_wp2
      go_roundw
      case rel => exact ⟨i + 1, out ++ [y], by omega, by go_num, hown', fun z hz => by rcases List.mem_append.1 hz with h | h; exact hBo z h; simp at h; omega, by simp; omega, hs3.out, hb2.trans (hb'.mono (by omega)), HKB2.out.below' hb'⟩
      case measure => simp [intOf]; omega
    · have hii : i = n := by omega
      have hj : ¬ (0 : Int) < ((n - i : Nat) : Int) := by omega
      subst hii
      go_wp2
      go_ret
      exact ⟨_, rfl, out, hown, hBo, hol, hsr, hbel, hkb⟩
end Go.Proofs.YtooifkdbpghcfaaGreatDoor

namespace Go.Proofs.YtooifkdbpghcfaaGreatDoor
open Go.RowKit

/-- The slice v holds l, at a block of B or behind it, and may be written up to its room. -/
def Gr (w : World) (B : Nat) (v : Value) (l : List Nat) : Prop := ∃ g cap, v = .slice (some ⟨g, 0, none⟩) l.length cap ∧ B ≤ g ∧ cap ≤ maxLen ∧ Cv w g l.length cap l
theorem Gr.rd {w : World} {B : Nat} {v : Value} {l : List Nat} (h : Gr w B v l) : ∃ g cap, v = .slice (some ⟨g, 0, none⟩) l.length cap ∧ Rd w (some ⟨g, 0, none⟩) l ∧ l.length ≤ cap := by
  obtain ⟨g, cap, e, _, _, hc⟩ := h
  exact ⟨g, cap, e, hc.rd, hc.2.1⟩
theorem Gr.below {w w' : World} {B C : Nat} {v : Value} {l : List Nat} (h : Gr w B v l) (hb : Below C w w') (hC : w.heap.size ≤ C) : Gr w' B v l := by
  obtain ⟨g, cap, e, h1, h2, hc⟩ := h
  exact ⟨g, cap, e, h1, h2, hc.below hb (Nat.lt_of_lt_of_le hc.2.2.1 hC)⟩
theorem Gr.alloc {w : World} {B : Nat} {v : Value} {l : List Nat} (h : Gr w B v l) (o : Obj) : Gr (w.alloc o) B v l := h.below ((Below.refl _ _).alloc (Nat.le_refl _) o) (Nat.le_refl _)
theorem Gr.drew {w : World} {B : Nat} {v : Value} {l : List Nat} (h : Gr w B v l) : Gr w.drew B v l := h.below (Below.refl _ _).drew (Nat.le_refl _)
theorem Gr.low {w : World} {B C : Nat} {v : Value} {l : List Nat} (h : Gr w B v l) (hC : C ≤ B) : Gr w C v l := by
  obtain ⟨g, cap, e, h1, h2, hc⟩ := h
  exact ⟨g, cap, e, by omega, h2, hc⟩
theorem Gr.conv (w : World) (l : List Nat) (hB : IsB l) (B cap : Nat) (hBw : B ≤ w.heap.size) (h : l.length ≤ cap) (hm : cap ≤ maxLen) : Gr (w.alloc (.cells (bytesRow (str l) cap) 5 ((bytesRow (str l) cap).size, (bytesRow (str l) cap).size + 1))) B (.slice (some ⟨w.heap.size, 0, none⟩) l.length cap) l :=
  ⟨w.heap.size, cap, rfl, hBw, hm, Cv.conv w l hB cap h⟩
/-- A row of the call's own may be written up to its room. -/
theorem Gr.own {w : World} {B : Nat} {v : Value} {l : List Nat} (h : Own w B v l) (hp : 0 < l.length) : Gr w B v l := by
  obtain ⟨a, cap, hv, h1, h2⟩ := h.form
  subst hv
  obtain ⟨hlen, hrd⟩ := h.rd
  rcases h.2 with ⟨h', h0⟩ | ⟨g, cap', cur, e, hB, hh, hc1, hc2, hcs, -⟩
  · omega
  · injection e with e1 _ e2
    subst e1 e2
    have hlt : g < w.heap.size := (Array.getElem?_eq_some_iff.1 hh).1
    refine ⟨g, cap, rfl, hB, h2, rfl, h1, hlt, ?_, ?_⟩
    · obtain ⟨b', off', e', -, hc⟩ := hrd.at_ hp
      cases e'
      intro i hi
      have := hc i hi
      rw [Nat.zero_add] at this
      exact this
    · intro i hi
      have hs : cur.size = cap := by simpa using hcs
      refine ⟨?_, ?_⟩
      · simp [World.cell?, hh, hs, hi]
      · simp [World.frozen?, hh]
end Go.Proofs.YtooifkdbpghcfaaGreatDoor

namespace Go.Proofs.YtooifkdbpghcfaaGreatDoor
open Go.RowKit

def isU8 (v : Value) : Prop := ∃ x, v = .int .u8 x
/-- From the block lo on the blocks that begin with such a value stay. -/
def Kz (lo : Nat) (T : Value → Prop) (w w' : World) : Prop := w.heap.size ≤ w'.heap.size ∧ ∀ k, lo ≤ k → (∃ u, w.cell? ⟨k, 0, none⟩ = some u ∧ T u) → ∀ i, w'.cell? ⟨k, i, none⟩ = w.cell? ⟨k, i, none⟩
theorem Kz.refl (lo : Nat) (T : Value → Prop) (w : World) : Kz lo T w w := ⟨Nat.le_refl _, fun _ _ _ _ => rfl⟩
theorem Kz.trans {lo : Nat} {T : Value → Prop} {w w1 w2 : World} (h : Kz lo T w w1) (h' : Kz lo T w1 w2) : Kz lo T w w2 :=
  ⟨Nat.le_trans h.1 h'.1, fun k hk hu i => by
    have e := h.2 k hk hu
    obtain ⟨u, hu1, hu2⟩ := hu
    exact (h'.2 k hk ⟨u, (e 0).trans hu1, hu2⟩ i).trans (e i)⟩
theorem Kz.below {lo : Nat} (T : Value → Prop) {w w' : World} (h : Below w.heap.size w w') : Kz lo T w w' :=
  ⟨h.size, fun k _ ⟨_, hu, _⟩ i => h.cell (p := ⟨k, i, none⟩) (World.block_lt_of_cell? w ⟨k, 0, none⟩ hu)⟩
theorem Kz.alloc {lo : Nat} (T : Value → Prop) (w : World) (o : Obj) : Kz lo T w (w.alloc o) := Kz.below T ((Below.refl _ _).alloc (Nat.le_refl _) _)
theorem Kz.set {lo : Nat} (T : Value → Prop) {w : World} {R j : Nat} (v : Value) (hR : R < lo) : Kz lo T w (w.setCell ⟨R, j, none⟩ v) :=
  ⟨by simp, fun k hk _ i => World.cell?_setCell_other _ _ _ _ (fun e => by cases e; omega)⟩
/-- A row grows whose block begins with another kind of value, or with none. -/
theorem Kz.grown {lo : Nat} {T : Value → Prop} {w w' : World} {r : Option Nat} (h : w.grownBy w' r) (hr : ∀ g u, r = some g → w.cell? ⟨g, 0, none⟩ = some u → ¬ T u) : Kz lo T w w' :=
  ⟨h.size, fun k _ ⟨u, hu, hT⟩ i => h.cell_far ⟨k, i, none⟩ (World.block_lt_of_cell? w ⟨k, 0, none⟩ hu) (fun e => hr k u e.symm hu hT)⟩
theorem Kz.kb {lo b : Nat} {T : Value → Prop} {w w' : World} (h : Kb b w w') (hb : b < lo) : Kz lo T w w' :=
  ⟨h.size, fun k hk ⟨_, hu, _⟩ i => World.grownBy.cell_far h ⟨k, i, none⟩ (World.block_lt_of_cell? w ⟨k, 0, none⟩ hu) (fun e => by injection e with e; dsimp only at e; omega)⟩
/-- BYTES THAT WERE DRAWN: they lie at the beginning of a block from lo on. -/
def D0 (lo : Nat) (w : World) (s : SlQ) (d : List Nat) : Prop := d.length = s.2.1 ∧ s.2.1 ≤ s.2.2 ∧ s.2.2 ≤ maxLen ∧ IsB d ∧ ((∃ g, s.1 = some ⟨g, 0, none⟩) ∧ ∀ x, s.1 = some x → lo ≤ x.block) ∧ (d = [] ∨ ∃ g, s.1 = some ⟨g, 0, none⟩ ∧ g < w.heap.size ∧ ∀ i, i < d.length → w.cell? ⟨g, i, none⟩ = some (.int .u8 (nth d i : Int)))
theorem D0.kz {lo : Nat} {w w' : World} {s : SlQ} {d : List Nat} (h : D0 lo w s d) (hk : Kz lo isU8 w w') : D0 lo w' s d := by
  obtain ⟨h1, h2, h3, h4, h5, h6⟩ := h
  refine ⟨h1, h2, h3, h4, h5, ?_⟩
  rcases h6 with h6 | ⟨g, e, hg, hc⟩
  · exact .inl h6
  · rcases Nat.eq_zero_or_pos d.length with hz | hp
    · exact .inl (List.length_eq_zero_iff.1 hz)
    · exact .inr ⟨g, e, Nat.lt_of_lt_of_le hg hk.1, fun i hi => (hk.2 g (h5.2 _ e) ⟨_, hc 0 hp, _, rfl⟩ i).trans (hc i hi)⟩
theorem D0.low {lo lo' : Nat} {w : World} {s : SlQ} {d : List Nat} (h : D0 lo w s d) (hl : lo' ≤ lo) : D0 lo' w s d := ⟨h.1, h.2.1, h.2.2.1, h.2.2.2.1, ⟨h.2.2.2.2.1.1, fun x hx => Nat.le_trans hl (h.2.2.2.2.1.2 x hx)⟩, h.2.2.2.2.2⟩
theorem D0.sl {lo : Nat} {w : World} {s : SlQ} {d : List Nat} (h : D0 lo w s d) : IsSl lo w s d := by
  obtain ⟨h1, h2, h3, h4, h5, h6⟩ := h
  refine ⟨h1, h2, h3, h4, ?_, h5.2⟩
  rcases h6 with h6 | ⟨g, e, hg, hc⟩
  · exact .inl h6
  · exact .inr ⟨g, 0, e, hg, fun i hi => by rw [Nat.zero_add]; exact hc i hi⟩
end Go.Proofs.YtooifkdbpghcfaaGreatDoor

namespace Go.Proofs.YtooifkdbpghcfaaGreatDoor
open Go.RowKit

/-- Rows in other blocks than the slice's own stay, and its new block is none of them. -/
def Kp (w w1 : World) (v v' : Value) : Prop := (∀ (b off : Nat) (d : List Nat), b < w.heap.size → v.ownBlock ≠ some b → Rd w (some ⟨b, off, none⟩) d → Rd w1 (some ⟨b, off, none⟩) d) ∧ ∀ k, k < w.heap.size → v.ownBlock ≠ some k → v'.ownBlock ≠ some k
theorem run_app_grK {w : World} {B : Nat} {v : Value} {l : List Nat} (hv : Gr w B v l) (tx ty : TypeId) (x : Value) (n : Nat) (new : List Nat) (hsrc : Go.Src Tryz.prog 1 tx x n (bc new) w) (hm : new.length = n) (hsz : l.length + n ≤ 1073741824) (hB : B ≤ w.heap.size) :
    ∃ v' w1, (Builtin.append_ #[22, tx] ty #[v, x]).run Tryz.prog w = .ok v' w1 ∧ Gr w1 B v' (l ++ new) ∧ Below B w w1 ∧ Kp w w1 v v' := by
  obtain ⟨i, hi, hz, hsize, hby⟩ := info_parts infoB
  obtain ⟨g, cap, e, hBg, hcm, hl, hn, hlt, hc, hf⟩ := hv
  subst e
  by_cases hr : l.length + n ≤ cap
  · have hrun := run_append_room_src (P := Tryz.prog) (w := w) 22 tx ty 5 i Tryz.underlying22 hi g 0 l.length cap x n (bc new) (by rw [hsize]; exact hsrc) hr (fun j hj => by rw [bc_len] at hj; rw [hsize]; exact (hf _ (by omega)).1) (fun j hj => by rw [bc_len] at hj; rw [hsize]; exact (hf _ (by omega)).2)
    rw [hsize] at hrun
    have hin := World.cell?_setCells_in g (bc new) (0 + l.length * 1) w (fun j hj => by rw [bc_len] at hj; exact (hf _ (by omega)).1)
    have hcell : ∀ i, i < l.length → (w.setCells g (0 + l.length * 1) (bc new)).cell? ⟨g, i, none⟩ = some (.int .u8 (nth (l ++ new) i : Int)) := fun i h1 => by
      rw [World.cell?_setCells_out g (bc new) (0 + l.length * 1) w ⟨g, i, none⟩ (fun _ _ => .inl (by simp; omega)), hc i h1, nth_get (by omega), nth_get (by rw [List.length_append]; omega), List.getElem_append_left (by omega)]
    have hcell2 : ∀ i, l.length ≤ i → i < (l ++ new).length → (w.setCells g (0 + l.length * 1) (bc new)).cell? ⟨g, i, none⟩ = some (.int .u8 (nth (l ++ new) i : Int)) := fun i h1 hi => by
      rw [List.length_append] at hi
      have := hin (i - l.length) (by rw [bc_len]; omega)
      rw [show 0 + l.length * 1 + (i - l.length) = i by omega] at this
      rw [this, nth_get (by rw [List.length_append]; omega), List.getElem_append_right (by omega)]
      simp [bc]
    refine ⟨_, _, hrun, ⟨g, cap, ?_, hBg, hcm, rfl, by rw [List.length_append]; omega, Nat.lt_of_lt_of_le hlt (below_setCells g _ _ _).size, fun i hi => ?_, fun i hi => ⟨?_, ?_⟩⟩, (below_setCells g _ _ _).mono hBg, ?_⟩
    · rw [List.length_append, hm]
    · rcases Nat.lt_or_ge i l.length with h1 | h1
      · exact hcell i h1
      · exact hcell2 i h1 hi
    · exact World.isSome_setCells g (bc new) _ w _ (hf i hi).1
    · exact (World.frozen?_setCells g _ _ _ _).trans (hf i hi).2
    · refine ⟨fun b off d hb hne hrd => ?_, fun k _ hne => hne⟩
      have hbg : b ≠ g := fun h => hne (by rw [h]; rfl)
      rcases hrd with h | ⟨b', off', e, hlt', hc'⟩
      · exact .inl h
      · cases e
        exact .inr ⟨b, off, rfl, Nat.lt_of_lt_of_le hlt' (below_setCells g _ _ _).size, fun i hi => (World.cell?_setCells_out g (bc new) (0 + l.length * 1) w ⟨b, off + i, none⟩ (fun h _ => absurd h hbg)).trans (hc' i hi)⟩
  · have hold : (Builtin.firstCells i.size l.length (.slice (some ⟨g, 0, none⟩) l.length cap)).run Tryz.prog w.drew = .ok (bc l).toArray w.drew := by
      refine run_firstCells_some w.drew i.size l.length ⟨g, 0, none⟩ l.length cap (bc l) (by rw [bc_len, hsize]; omega) (fun j u hj => ?_)
      have hjl : j < l.length := by
        rcases Nat.lt_or_ge j l.length with h | h
        · exact h
        · rw [List.getElem?_eq_none (by rw [bc_len]; exact h)] at hj; cases hj
      rw [bc_get hjl] at hj
      cases hj
      rw [Addr.add_lit, Nat.zero_add]
      exact hc j (by omega)
    have hrun := run_append_grow_src (P := Tryz.prog) (w := w) 22 tx ty 5 i (.int .u8 0) Tryz.underlying22 hi hz (some ⟨g, 0, none⟩) l.length cap (bc l) hold x n (bc new) (by rw [hsize]; exact hsrc) (by omega) (by omega) (growslice_fits (by omega) (by rw [hby]; omega))
    have hown : Own (w.drew.alloc (.cells (((bc l) ++ (bc new)).toArray ++ Builtin.zeroCells (Value.int .u8 0).cells (grownCap w (l.length + n) cap 5 - (l.length + n))) 5)) w.heap.size (.slice (some ⟨w.heap.size, 0, none⟩) (l.length + n) (grownCap w (l.length + n) cap 5)) (l ++ new) := by
      unfold Own
      rw [bc_app, List.length_append, hm]
      have hlen : (bc l ++ bc new).length = (l.length + n) * 1 := by rw [List.length_append, bc_len, bc_len, hm]; omega
      refine ⟨hlen, .inr ⟨w.heap.size, _, _, rfl, Nat.le_refl _, heap_alloc_new w.drew _, grownCap_ge w (l.length + n) cap 5, grownCap_le_maxLen w (l.length + n) cap 5 (by unfold maxLen; omega), ?_, ?_⟩⟩
      · have := grownCap_ge w (l.length + n) cap 5
        simp only [Array.size_append, List.size_toArray, size_zeroCells, hlen]
        show (l.length + n) * 1 + (grownCap w (l.length + n) cap 5 - (l.length + n)) * 1 = _
        omega
      · simp only [Array.toList_append]
        rw [← hlen]
        exact List.take_left
    refine ⟨_, _, hrun, (Gr.own hown (by rw [List.length_append]; omega)).low hB, ?_⟩
    refine ⟨((Below.refl _ _).drew).alloc hB _, fun b off d hb _ hrd => hrd.below (((Below.refl _ _).drew).alloc (Nat.le_refl _) _), fun k hk _ h => ?_⟩
    simp [Value.ownBlock] at h
    omega
theorem run_app_gr {w : World} {B : Nat} {v : Value} {l : List Nat} (hv : Gr w B v l) (tx ty : TypeId) (x : Value) (n : Nat) (new : List Nat) (hsrc : Go.Src Tryz.prog 1 tx x n (bc new) w) (hm : new.length = n) (hsz : l.length + n ≤ 1073741824) (hB : B ≤ w.heap.size) :
    ∃ v' w1, (Builtin.append_ #[22, tx] ty #[v, x]).run Tryz.prog w = .ok v' w1 ∧ Gr w1 B v' (l ++ new) ∧ Below B w w1 := by
  obtain ⟨v', w1, h1, h2, h3, -⟩ := run_app_grK hv tx ty x n new hsrc hm hsz hB
  exact ⟨v', w1, h1, h2, h3⟩

/-- AN APPEND OUTSIDE A REGION THAT DRAWS. -/
theorem wpList_app_grx {w : World} {ops : Array Oper} {rest : List Oper} {o : Oper} {a : Act} {Q : Exit → Act → World → Prop} (hgd : o.guard = none) (s x : Operand) (tx : TypeId)
    (ho : o.op = .call { callee := .builtin .append, args := #[s, x], argTypes := #[22, tx] })
    (B : Nat) (v : Value) (l : List Nat) (hs : a.eval s = v) (hv : Gr w B v l) (xv : Value) (n : Nat) (new : List Nat) (hx : a.eval x = xv) (hsrc : Go.Src Tryz.prog 1 tx xv n (bc new) w) (hm : new.length = n) (hsz : l.length + n ≤ 1073741824) (hB : B ≤ w.heap.size)
    (h : ∀ v' w1, Gr w1 B v' (l ++ new) → Below B w w1 → wpList Tryz.prog ops Q rest (a.put o.dst v') w1) : wpList Tryz.prog ops Q (o :: rest) a w := by
  refine wpList_plain hgd fun K hK => ?_
  obtain ⟨v', w1, hrun, h1, h2⟩ := run_app_gr hv tx o.type xv n new hsrc hm hsz hB
  unfold Oper.wp
  simp [execOp, ho, resolve, invoke, builtin, hs, hx, hrun, Result.andThen]
  exact hK _ _ (h v' w1 h1 h2)
/-- AN APPEND AT A STEP OF A REGION THAT DRAWS ITS ORDER. -/
theorem step_app_grx {w : World} {ops : Array Oper} {o : Oper} {a : Act} {K : Act → World → Prop} {Q : Exit → Act → World → Prop} {E : Prop} (hgd : o.guard = none) (s x : Operand) (tx : TypeId)
    (ho : o.op = .call { callee := .builtin .append, args := #[s, x], argTypes := #[22, tx] })
    (B : Nat) (v : Value) (l : List Nat) (hs : a.eval s = v) (hv : Gr w B v l) (xv : Value) (n : Nat) (new : List Nat) (hx : a.eval x = xv) (hsrc : Go.Src Tryz.prog 1 tx xv n (bc new) w) (hm : new.length = n) (hsz : l.length + n ≤ 1073741824) (hB : B ≤ w.heap.size)
    (h : ∀ v' w1, Gr w1 B v' (l ++ new) → Below B w w1 → Kp w w1 v v' → K (a.put o.dst v') w1) : if Region.wanted o (yielded ops a.tmps) = true then Oper.wp Tryz.prog o a w K Q else E := by
  have hw : Region.wanted o (yielded ops a.tmps) = true := by simp [Region.wanted, hgd]
  rw [if_pos hw]
  obtain ⟨v', w1, hrun, h1, h2, h3⟩ := run_app_grK hv tx o.type xv n new hsrc hm hsz hB
  unfold Oper.wp
  simp [execOp, ho, resolve, invoke, builtin, hs, hx, hrun, Result.andThen]
  exact h v' w1 h1 h2 h3
theorem src_slice {w : World} {a : Option Addr} {n cap : Nat} {l : List Nat} (hl : l.length = n) (hr : Rd w a l) (hn : a = none → n = 0) : Go.Src Tryz.prog 1 22 (.slice a n cap) n (bc l) w := by
  cases a with
  | none =>
    obtain rfl : n = 0 := hn rfl
    obtain rfl : l = [] := List.length_eq_zero_iff.1 hl
    exact Src.ofNil w Tryz.underlying22 cap
  | some ad =>
    refine Src.ofSlice w Tryz.underlying22 ad n cap (bc l) (by rw [bc_len]; omega) (fun j u hj => ?_) (bc_one l)
    have hjl : j < l.length := by
      rcases Nat.lt_or_ge j l.length with h | h
      · exact h
      · rw [List.getElem?_eq_none (by rw [bc_len]; exact h)] at hj; cases hj
    rw [bc_get hjl] at hj
    cases hj
    obtain ⟨b, off, e, -, hc⟩ := hr.at_ (by omega)
    cases e
    rw [Go.WideShapes.add_plain]
    exact hc j hjl
end Go.Proofs.YtooifkdbpghcfaaGreatDoor
