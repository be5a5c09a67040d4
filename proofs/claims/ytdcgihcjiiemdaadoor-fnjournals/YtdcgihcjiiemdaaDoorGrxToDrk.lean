/- An append to a slice that grows, of a slice, of nothing, or of a text; no conditions beyond those that each fact names · Draws that leave all but their source as it was; no conditions beyond those that each fact names. -/
import Derived.Test.YtdcgihcjiiemdaaDoorDrlToGrw
import Derived.Deep.AppendSrc
import Derived.Test.YtdcgihcjiiemdaaDoorDrw2ToAppI
namespace Go.Proofs.YtdcgihcjiiemdaaDoor
open Go.RowKit
def Kp (w w1 : World) (v v' : Value) : Prop := (∀ (b off : Nat) (d : List Nat), b < w.heap.size → v.ownBlock ≠ some b → Rd w (some ⟨b, off, none⟩) d → Rd w1 (some ⟨b, off, none⟩) d) ∧ ∀ k, k < w.heap.size → v.ownBlock ≠ some k → v'.ownBlock ≠ some k
theorem run_app_grK {w : World} {B : Nat} {v : Value} {l : List Nat} (hv : Gr w B v l) (tx ty : TypeId) (x : Value) (n : Nat) (new : List Nat) (hsrc : Go.Src Tryd.prog 1 tx x n (bc new) w) (hm : new.length = n) (hsz : l.length + n ≤ 1073741824) (hB : B ≤ w.heap.size) :
  ∃ v' w1, (Builtin.append_ #[22, tx] ty #[v, x]).run Tryd.prog w = .ok v' w1 ∧ Gr w1 B v' (l ++ new) ∧ Below B w w1 ∧ Kp w w1 v v' := by
 obtain ⟨i, hi, hz, hsize, hby⟩ := info_parts infoB
 obtain ⟨g, cap, e, hBg, hcm, hl, hn, hlt, hc, hf⟩ := hv
 subst e
 by_cases hr : l.length + n ≤ cap
 ·have hrun := run_append_room_src (P := Tryd.prog) (w := w) 22 tx ty 5 i Tryd.underlying22 hi g 0 l.length cap x n (bc new) (by rw [hsize]; exact hsrc) hr (fun j hj => by rw [bc_len] at hj; rw [hsize]; exact (hf _ (by omega)).1) (fun j hj => by rw [bc_len] at hj; rw [hsize]; exact (hf _ (by omega)).2)
  rw [hsize] at hrun
  have hin := World.cell?_setCells_in g (bc new) (0 + l.length * 1) w (fun j hj => by rw [bc_len] at hj; exact (hf _ (by omega)).1)
  have hcell : ∀ i, i < l.length → (w.setCells g (0 + l.length * 1) (bc new)).cell? ⟨g, i, none⟩ = some (.int .u8 (nth (l ++ new) i : Int)) := fun i h1 => by
   rw [World.cell?_setCells_out g (bc new) (0 + l.length * 1) w ⟨g, i, none⟩ (fun _ _ => .inl (by simp; omega)), hc i h1, nth_get (by omega), nth_get (by rw [List.length_append]; omega), List.getElem_append_left (by omega)]
  have hcell2 : ∀ i, l.length ≤ i → i < (l ++ new).length → (w.setCells g (0 + l.length * 1) (bc new)).cell? ⟨g, i, none⟩ = some (.int .u8 (nth (l ++ new) i : Int)) := fun i h1 hi => by
   rw [List.length_append] at hi
   have := hin (i - l.length) (by rw [bc_len]; omega)
   rw [show 0 + l.length * 1 + (i - l.length) = i by omega] at this
   rw [this, nth_get (by rw [List.length_append]; omega), List.getElem_append_right (by omega)]
   simp [bc]
  refine ⟨_, _, hrun, ⟨g, cap, ?_, hBg, hcm, rfl, by rw [List.length_append]; omega, Nat.lt_of_lt_of_le hlt (below_setCells g _ _ _).size, fun i hi => ?_, fun i hi => ⟨?_, ?_⟩⟩, (below_setCells g _ _ _).mono hBg, ?_⟩
  ·rw [List.length_append, hm]
  ·rcases Nat.lt_or_ge i l.length with h1 | h1
   ·exact hcell i h1
   ·exact hcell2 i h1 hi
  ·exact World.isSome_setCells g (bc new) _ w _ (hf i hi).1
  ·exact (World.frozen?_setCells g _ _ _ _).trans (hf i hi).2
  ·refine ⟨fun b off d hb hne hrd => ?_, fun k _ hne => hne⟩
   have hbg : b ≠ g := fun h => hne (by rw [h]; rfl)
   rcases hrd with h | ⟨b', off', e, hlt', hc'⟩
   ·exact .inl h
   ·cases e
    exact .inr ⟨b, off, rfl, Nat.lt_of_lt_of_le hlt' (below_setCells g _ _ _).size, fun i hi => (World.cell?_setCells_out g (bc new) (0 + l.length * 1) w ⟨b, off + i, none⟩ (fun h _ => absurd h hbg)).trans (hc' i hi)⟩
 ·have hold : (Builtin.firstCells i.size l.length (.slice (some ⟨g, 0, none⟩) l.length cap)).run Tryd.prog w.drew = .ok (bc l).toArray w.drew := by
   refine run_firstCells_some w.drew i.size l.length ⟨g, 0, none⟩ l.length cap (bc l) (by rw [bc_len, hsize]; omega) (fun j u hj => ?_)
   have hjl : j < l.length := by
    rcases Nat.lt_or_ge j l.length with h | h
    ·exact h
    ·rw [List.getElem?_eq_none (by rw [bc_len]; exact h)] at hj; cases hj
   rw [bc_get hjl] at hj
   cases hj
   rw [Addr.add_lit, Nat.zero_add]
   exact hc j (by omega)
  have hrun := run_append_grow_src (P := Tryd.prog) (w := w) 22 tx ty 5 i (.int .u8 0) Tryd.underlying22 hi hz (some ⟨g, 0, none⟩) l.length cap (bc l) hold x n (bc new) (by rw [hsize]; exact hsrc) (by omega) (by omega) (growslice_fits (by omega) (by rw [hby]; omega))
  have hown : Own (w.drew.alloc (.cells (((bc l) ++ (bc new)).toArray ++ Builtin.zeroCells (Value.int .u8 0).cells (grownCap w (l.length + n) cap 5 - (l.length + n))) 5)) w.heap.size (.slice (some ⟨w.heap.size, 0, none⟩) (l.length + n) (grownCap w (l.length + n) cap 5)) (l ++ new) := by
   unfold Own
   rw [bc_app, List.length_append, hm]
   have hlen : (bc l ++ bc new).length = (l.length + n) * 1 := by rw [List.length_append, bc_len, bc_len, hm]; omega
   refine ⟨hlen, .inr ⟨w.heap.size, _, _, rfl, Nat.le_refl _, heap_alloc_new w.drew _, grownCap_ge w (l.length + n) cap 5, grownCap_le_maxLen w (l.length + n) cap 5 (by unfold maxLen; omega), ?_, ?_⟩⟩
   ·have := grownCap_ge w (l.length + n) cap 5
    simp only [Array.size_append, List.size_toArray, size_zeroCells, hlen]
    show (l.length + n) * 1 + (grownCap w (l.length + n) cap 5 - (l.length + n)) * 1 = _
    omega
   ·simp only [Array.toList_append]
    rw [← hlen]
    exact List.take_left
  refine ⟨_, _, hrun, (Gr.own hown (by rw [List.length_append]; omega)).low hB, ?_⟩
  refine ⟨((Below.refl _ _).drew).alloc hB _, fun b off d hb _ hrd => hrd.below (((Below.refl _ _).drew).alloc (Nat.le_refl _) _), fun k hk _ h => ?_⟩
  simp [Value.ownBlock] at h
  omega
theorem run_app_gr {w : World} {B : Nat} {v : Value} {l : List Nat} (hv : Gr w B v l) (tx ty : TypeId) (x : Value) (n : Nat) (new : List Nat) (hsrc : Go.Src Tryd.prog 1 tx x n (bc new) w) (hm : new.length = n) (hsz : l.length + n ≤ 1073741824) (hB : B ≤ w.heap.size) :
  ∃ v' w1, (Builtin.append_ #[22, tx] ty #[v, x]).run Tryd.prog w = .ok v' w1 ∧ Gr w1 B v' (l ++ new) ∧ Below B w w1 := by
 obtain ⟨v', w1, h1, h2, h3, -⟩ := run_app_grK hv tx ty x n new hsrc hm hsz hB
 exact ⟨v', w1, h1, h2, h3⟩
theorem wpList_app_grx {w : World} {ops : Array Oper} {rest : List Oper} {o : Oper} {a : Act} {Q : Exit → Act → World → Prop} (hgd : o.guard = none) (s x : Operand) (tx : TypeId)
  (ho : o.op = .call { callee := .builtin .append, args := #[s, x], argTypes := #[22, tx] })
  (B : Nat) (v : Value) (l : List Nat) (hs : a.eval s = v) (hv : Gr w B v l) (xv : Value) (n : Nat) (new : List Nat) (hx : a.eval x = xv) (hsrc : Go.Src Tryd.prog 1 tx xv n (bc new) w) (hm : new.length = n) (hsz : l.length + n ≤ 1073741824) (hB : B ≤ w.heap.size)
  (h : ∀ v' w1, Gr w1 B v' (l ++ new) → Below B w w1 → wpList Tryd.prog ops Q rest (a.put o.dst v') w1) : wpList Tryd.prog ops Q (o :: rest) a w := by
 refine wpList_plain hgd fun K hK => ?_
 obtain ⟨v', w1, hrun, h1, h2⟩ := run_app_gr hv tx o.type xv n new hsrc hm hsz hB
 unfold Oper.wp
 simp [execOp, ho, resolve, invoke, builtin, hs, hx, hrun, Result.andThen]
 exact hK _ _ (h v' w1 h1 h2)
theorem step_app_grx {w : World} {ops : Array Oper} {o : Oper} {a : Act} {K : Act → World → Prop} {Q : Exit → Act → World → Prop} {E : Prop} (hgd : o.guard = none) (s x : Operand) (tx : TypeId)
  (ho : o.op = .call { callee := .builtin .append, args := #[s, x], argTypes := #[22, tx] })
  (B : Nat) (v : Value) (l : List Nat) (hs : a.eval s = v) (hv : Gr w B v l) (xv : Value) (n : Nat) (new : List Nat) (hx : a.eval x = xv) (hsrc : Go.Src Tryd.prog 1 tx xv n (bc new) w) (hm : new.length = n) (hsz : l.length + n ≤ 1073741824) (hB : B ≤ w.heap.size)
  (h : ∀ v' w1, Gr w1 B v' (l ++ new) → Below B w w1 → Kp w w1 v v' → K (a.put o.dst v') w1) : if Region.wanted o (yielded ops a.tmps) = true then Oper.wp Tryd.prog o a w K Q else E := by
 have hw : Region.wanted o (yielded ops a.tmps) = true := by simp [Region.wanted, hgd]
 rw [if_pos hw]
 obtain ⟨v', w1, hrun, h1, h2, h3⟩ := run_app_grK hv tx o.type xv n new hsrc hm hsz hB
 unfold Oper.wp
 simp [execOp, ho, resolve, invoke, builtin, hs, hx, hrun, Result.andThen]
 exact h v' w1 h1 h2 h3
theorem src_text {w : World} (l : List Nat) (hB : IsB l) : Go.Src Tryd.prog 1 9 (.string (str l)) l.length (bc l) w := by
 have h := Src.ofString (P := Tryd.prog) (w := w) Tryd.underlying9 (str l)
 have e : byteCells (str l) = bc l := by
  unfold byteCells bc str
  simp only [List.map_map]
  refine List.map_congr_left (fun b hb => ?_)
  have := hB b hb
  simp [Nat.mod_eq_of_lt this]
 rw [e, str_size] at h
 exact h
theorem src_slice {w : World} {a : Option Addr} {n cap : Nat} {l : List Nat} (hl : l.length = n) (hr : Rd w a l) (hn : a = none → n = 0) : Go.Src Tryd.prog 1 22 (.slice a n cap) n (bc l) w := by
 cases a with
 | none =>
  obtain rfl : n = 0 := hn rfl
  obtain rfl : l = [] := List.length_eq_zero_iff.1 hl
  exact Src.ofNil w Tryd.underlying22 cap
 | some ad =>
  refine Src.ofSlice w Tryd.underlying22 ad n cap (bc l) (by rw [bc_len]; omega) (fun j u hj => ?_) (bc_one l)
  have hjl : j < l.length := by
   rcases Nat.lt_or_ge j l.length with h | h
   ·exact h
   ·rw [List.getElem?_eq_none (by rw [bc_len]; exact h)] at hj; cases hj
  rw [bc_get hjl] at hj
  cases hj
  obtain ⟨b, off, e, -, hc⟩ := hr.at_ (by omega)
  cases e
  rw [Go.WideShapes.add_plain]
  exact hc j hjl
end Go.Proofs.YtdcgihcjiiemdaaDoor
namespace Go.Proofs.YtdcgihcjiiemdaaDoor
open Go.RowKit
def Kb (b : Nat) (w w' : World) : Prop := w.grownBy w' (some b)
theorem Kb.refl (b : Nat) (w : World) : Kb b w w := ⟨rfl, rfl, rfl, Nat.le_refl _, fun _ _ _ => rfl⟩
theorem Kb.below' {b : Nat} {w w1 w2 : World} (h : Kb b w w1) (hb : Below w.heap.size w1 w2) : Kb b w w2 := ⟨hb.os.trans h.os, hb.tape.trans h.tape, hb.output.trans h.output, Nat.le_trans h.size hb.size, fun k hk hne => (hb.block k hk).trans (h.block k hk hne)⟩
theorem Kb.below {b : Nat} {w w1 w2 : World} (h : Kb b w w1) (hb : Below w1.heap.size w1 w2) : Kb b w w2 := h.below' (hb.mono h.size)
theorem Kb.grown {b : Nat} {w w1 w2 : World} (h : Kb b w w1) (hg : w1.grownBy w2 (some b)) : Kb b w w2 :=
 ⟨hg.os.trans h.os, hg.tape.trans h.tape, hg.output.trans h.output, Nat.le_trans h.size hg.size, fun k hk hne => (hg.block k (Nat.lt_of_lt_of_le hk h.size) hne).trans (h.block k hk hne)⟩
theorem Kb.trans {b : Nat} {w w1 w2 : World} (h : Kb b w w1) (h' : Kb b w1 w2) : Kb b w w2 := h.grown h'
set_option maxHeartbeats 1600000 in
set_option maxRecDepth 100000 in
theorem l1Some_kb (B b M n : Nat) (w : World) (hs : Src w B b M) (hM : M + 2 * n ≤ 99000) (hn : n ≤ 100) :
  Calls Tryd.prog 24 #[.pointer (some ⟨b, 0, none⟩), .int .i64 (n : Int)] w fun e w' =>
   ∃ (v : Value) (out : List Nat), e = .returned v ∧ Own w' w.heap.size v out ∧ IsB out ∧ out.length = n ∧ Src w' B b (M + 2 * n) ∧ Below b w w' ∧ Kb b w w' := by
 obtain ⟨hBb, hbw, _⟩ := id hs
 go_enter Tryd.func24, Tryd.ntmps24
 go_wp2
 have hown0 : Own (w.alloc (.cells #[] 5)) w.heap.size (.slice (some ⟨w.heap.size, 0, none⟩) 0 0) [] := Own.lit w _ (Nat.le_refl _) #[] [] rfl (by decide)
 have hbel0 : Below b w (w.alloc (.cells #[] 5)) := (Below.refl _ _).alloc (by omega) _
 have hs0 : Src (w.alloc (.cells #[] 5)) B b M := hs.below ((Below.refl _ _).alloc (by omega) _)
 have hkb0 : Kb b w (w.alloc (.cells #[] 5)) := (Kb.refl b w).below ((Below.refl _ _).alloc (Nat.le_refl _) _)
 go_loopw [1, 5] (fun j v wr => ∃ (i : Nat) (out : List Nat), i ≤ n ∧ j = .int .i64 ((n - i : Nat) : Int) ∧ Own wr w.heap.size v out ∧ IsB out ∧ out.length = i ∧ Src wr B b (M + 2 * i) ∧ Below b w wr ∧ Kb b w wr)
  (fun j _ _ => (intOf j).toNat)
 case atStart => exact ⟨0, [], by omega, rfl, hown0, fun x hx => by simp at hx, rfl, hs0, hbel0, hkb0⟩
 case round =>
  obtain ⟨i, out, hi, rfl, hown, hBo, hol, hsr, hbel, hkb⟩ := hrel
  clear hown0 hbel0 hkb0 hs0 hs
  have hz := hbel.size
  by_cases hin : i < n
  ·have hj : (0 : Int) < ((n - i : Nat) : Int) := by omega
   obtain ⟨_, hbr, _⟩ := id hsr
   go_wp2_with fail
   refine (l1Next_any B b (M + 2 * i) 256 _ hsr (by omega) (by omega) (by omega)).mono ?_
   rintro e w1 ⟨r, rfl, r0, r1, _, hs1, hg1⟩
   have ho1 := hown.keptG hg1 (by omega)
   have hb1 : Below b w w1 := hbel.trans ((Below.refl _ _).grown hg1 (by omega) (by intro k hk; simp at hk; omega))
   have hz1 := hg1.size
   have hkb1 := hkb.grown hg1
   have hs1' : Src (w1.alloc (.cells #[.int .i64 r, .int .i64 97, .int .i64 32, .int .i64 10, .int .i64 61, .int .i64 122] 2)) B b (M + 2 * i + 1) := hs1.below ((Below.refl _ _).alloc (by omega) _)
   have hr256 : r < 256 := r1 (by omega)
   go_wp2_with fail
   refine (l1Pick_any B b (M + 2 * i + 1) _ 6 6 [r, 97, 32, 10, 61, 122] _ hs1' (by omega) rfl (by omega) (by omega) (nums_new rfl) (by omega)).mono ?_
   rintro e w2 ⟨x, rfl, hx, hs2, hg2⟩
   have hx' : 0 ≤ x ∧ x < 256 := by
    simp only [List.mem_cons, List.not_mem_nil, or_false] at hx
    omega
   obtain ⟨y, rfl⟩ := Int.eq_ofNat_of_zero_le hx'.1
   have hy : y < 256 := by omega
   have ho2 := (ho1.alloc (.cells #[.int .i64 r, .int .i64 97, .int .i64 32, .int .i64 10, .int .i64 61, .int .i64 122] 2)).keptG hg2 (by omega)
   have hb2 : Below b w w2 := (hb1.alloc (by omega) _).trans ((Below.refl _ _).grown hg2 (by simp; omega) (by intro k hk; simp at hk; omega))
   have hz2 : w1.heap.size + 1 ≤ w2.heap.size := by have := hg2.size; simpa using this
   have hkb2 := (hkb1.below ((Below.refl _ _).alloc (Nat.le_refl _) _)).grown hg2
   have HKB2 : Hid (Kb b w w2) := hkb2
   clear hkb hkb1 hkb2
   have HS2 : Hid (Src w2 B b (M + 2 * i + 1 + 1)) := hs2
   clear hs1 hs1' hg1 hg2 ho1 hx hsr hown hs2 r1
   go_wp2_with (at_builtin; refine wpList_app_new rfl _ _ rfl w.heap.size _ out rfl ho2 1 1 [y] rfl rfl rfl (by omega) (by omega) ?_; intro v' w3 hown' hb')
   have hs3 : Hid (Src w3 B b (M + 2 * (i + 1))) := Src.below (w := w2) HS2.out (hb'.mono (by omega))
   go_wp2
   go_roundw
   case rel => exact ⟨i + 1, out ++ [y], by omega, by go_num, hown', fun z hz => by rcases List.mem_append.1 hz with h | h; exact hBo z h; simp at h; omega, by simp; omega, hs3.out, hb2.trans (hb'.mono (by omega)), HKB2.out.below' hb'⟩
   case measure => simp [intOf]; omega
  ·have hii : i = n := by omega
   have hj : ¬ (0 : Int) < ((n - i : Nat) : Int) := by omega
   subst hii
   go_wp2
   go_ret
   exact ⟨_, rfl, out, hown, hBo, hol, hsr, hbel, hkb⟩
end Go.Proofs.YtdcgihcjiiemdaaDoor
