/- The parts of a message, by plain functions: which ranges a body has, which parts · Words on memory: where a slice of pointers is read, what a row of the call's own holds, an append; no conditions beyond those that each fact names · The state of a reading of parts: the reader, the row of its pointers, each part in its block; what else stays. -/
import Derived.Test.YtooifkdbpghcfaaGreatDoorIns
import Derived.Test.YtooifkdbpghcfaaGreatDoorFil
import Derived.Test.YtooifkdbpghcfaaGreatDoorMemToApp
namespace Go.Proofs.YtooifkdbpghcfaaGreatDoor
open Go.RowKit

theorem lnsF_in {d : List Nat} : ∀ (f k : Nat) (x : Line), x ∈ lnsF d f k → ∃ i q : Nat, x.2.1 = (i : Int) ∧ x.2.2 = (q : Int) ∧ i ≤ q ∧ q ≤ d.length
  | 0, k, x, h => by simp [lnsF] at h
  | f + 1, k, x, h => by
    by_cases hk : k < d.length
    · rw [lnsF_yes hk] at h
      rcases List.mem_cons.1 h with rfl | h
      · obtain ⟨h1, h2⟩ := nxL_gt hk
        exact ⟨k, nxL d k, rfl, rfl, by omega, h2⟩
      · exact lnsF_in f _ x h
    · rw [lnsF_no hk] at h; simp at h
theorem upE_mem {en : ByteArray} {x : Line} : ∀ {xs : List Line}, x ∈ upE en xs → x ∈ xs
  | [], h => by simp [upE] at h
  | y :: r, h => by
    rw [upE] at h
    split at h
    · rw [List.mem_singleton] at h; rw [h]; simp
    · rcases List.mem_cons.1 h with rfl | h
      · simp
      · exact List.mem_cons_of_mem _ (upE_mem h)
/-- A range within some bytes. -/
def InL (L : Nat) (s : RngP) : Prop := ∃ i q : Nat, s = ((i : Int), (q : Int)) ∧ i ≤ q ∧ q ≤ L
theorem clsL_in {L : Nat} {acc : List RngP} {x : Line} (hL : L ≤ 1048576) (ha : ∀ s ∈ acc, InL L s) (hx : ∃ i q : Nat, x.2.1 = (i : Int) ∧ x.2.2 = (q : Int) ∧ i ≤ q ∧ q ≤ L) : ∀ s ∈ clsL acc x, InL L s := by
  intro s hs
  unfold clsL at hs
  rcases List.mem_or_eq_of_mem_set hs with h | rfl
  · exact ha s h
  · obtain ⟨i, q, h1, h2, h3, h4⟩ := hx
    rcases Nat.lt_or_ge 0 acc.length with hp | hp
    · have hm : nthR acc (acc.length - 1) ∈ acc := by
        unfold nthR
        rw [List.getD_eq_getElem?_getD, List.getElem?_eq_getElem (by omega)]
        exact List.getElem_mem _
      obtain ⟨a, b, e, h5, h6⟩ := ha _ hm
      rw [e, h1, Go.IntWalk.wrap64_in _ (by omega)]
      refine ⟨a, if a ≤ i - 1 then i - 1 else a, ?_, by split <;> omega, by split <;> omega⟩
      simp only [Prod.mk.injEq, true_and]
      rw [Int.max_def]
      split <;> split <;> omega
    · have h0 : acc = [] := List.length_eq_zero_iff.1 (by omega)
      rw [h0] at hs
      simp at hs
theorem fold_in {bg en : ByteArray} {L : Nat} (hL : L ≤ 1048576) : ∀ (xs : List Line) (acc : List RngP), (∀ x ∈ xs, ∃ i q : Nat, x.2.1 = (i : Int) ∧ x.2.2 = (q : Int) ∧ i ≤ q ∧ q ≤ L) → (∀ s ∈ acc, InL L s) → ∀ s ∈ xs.foldl (stpL bg en (L : Int)) acc, InL L s
  | [], _, _, ha => ha
  | x :: r, acc, hx, ha => by
    rw [List.foldl_cons]
    refine fold_in hL r _ (fun y hy => hx y (List.mem_cons_of_mem _ hy)) ?_
    have h0 := hx x (by simp)
    unfold stpL
    split
    · exact clsL_in hL ha h0
    · split
      · intro s hs
        rcases List.mem_append.1 hs with h | h
        · exact clsL_in hL ha h0 s h
        · rw [List.mem_singleton] at h
          obtain ⟨i, q, h1, h2, h3, h4⟩ := h0
          exact ⟨q, L, by rw [h, h2], h4, Nat.le_refl _⟩
      · exact ha
/-- Each range lies within the body. -/
theorem spL_in (bg en : ByteArray) (d : List Nat) (hL : d.length ≤ 1048576) : ∀ s ∈ spL bg en (d.length : Int) (lns d), InL d.length s :=
  fold_in hL _ _ (fun x hx => lnsF_in _ _ x (upE_mem hx)) (fun s hs => by simp at hs)

/-- A part: kind, charset, coding; from, to; up, number. -/
abbrev PtP := (Int × Int × Int) × (Int × Int) × (Int × Int)
/-- '--' ahead of a mark. -/
def bgM (mk : List Nat) : ByteArray := ⟨#[45, 45]⟩ ++ str mk
/-- The same, and '--' behind it. -/
def enM (mk : List Nat) : ByteArray := bgM mk ++ ⟨#[45, 45]⟩
/-- The parts of ranges, one behind the other. -/
def adL (F : Nat → Nat → Int → Int → List PtP → List PtP) (b : Nat) (here : Int) : List RngP → Nat → List PtP → List PtP
  | [], _, acc => acc
  | s :: r, i, acc => adL F b here r (i + 1) (F (s.1.toNat + b) (s.2.toNat + b) here ((i + 1 : Nat) : Int) acc)
/-- The bytes of a part. -/
def cutN (d : List Nat) (fr tt : Nat) : List Nat := (d.take tt).drop fr
/-- A part by its bytes. -/
def ptN (d : List Nat) (fr tt : Nat) (u nu : Int) : PtP := ((oneV (cutN d fr tt)).1, (((fr + (oneV (cutN d fr tt)).2.1 : Nat) : Int), (tt : Int)), (u, nu))
/-- A part and all that is in it, behind others; at most eight. -/
def adV (d : List Nat) : Nat → Nat → Nat → Int → Int → List PtP → List PtP
  | 0, fr, tt, u, nu, acc => if acc.length = 8 then acc else acc ++ [ptN d fr tt u nu]
  | D + 1, fr, tt, u, nu, acc => if acc.length = 8 then acc else if (oneV (cutN d fr tt)).2.2 = [] then acc ++ [ptN d fr tt u nu] else
      adL (adV d D) (fr + (oneV (cutN d fr tt)).2.1) (acc.length : Int) (spL (bgM (oneV (cutN d fr tt)).2.2) (enM (oneV (cutN d fr tt)).2.2) ((cutN d (fr + (oneV (cutN d fr tt)).2.1) tt).length : Int) (lns (cutN d (fr + (oneV (cutN d fr tt)).2.1) tt))) 0 (acc ++ [ptN d fr tt u nu])
theorem adV_full {d : List Nat} {D fr tt : Nat} {u nu : Int} {acc : List PtP} (h : acc.length = 8) : adV d D fr tt u nu acc = acc := by
  cases D with
  | zero => exact if_pos h
  | succ D => exact if_pos h
theorem adV_zero {d : List Nat} {fr tt : Nat} {u nu : Int} {acc : List PtP} (h : acc.length ≠ 8) : adV d 0 fr tt u nu acc = acc ++ [ptN d fr tt u nu] := if_neg h
theorem adV_leaf {d : List Nat} {D fr tt : Nat} {u nu : Int} {acc : List PtP} (h : acc.length ≠ 8) (h1 : (oneV (cutN d fr tt)).2.2 = []) : adV d D fr tt u nu acc = acc ++ [ptN d fr tt u nu] := by
  cases D with
  | zero => exact if_neg h
  | succ D => exact (if_neg h).trans (if_pos h1)
theorem adV_in {d : List Nat} {D fr tt : Nat} {u nu : Int} {acc : List PtP} (h : acc.length ≠ 8) (h1 : (oneV (cutN d fr tt)).2.2 ≠ []) : adV d (D + 1) fr tt u nu acc = adL (adV d D) (fr + (oneV (cutN d fr tt)).2.1) (acc.length : Int) (spL (bgM (oneV (cutN d fr tt)).2.2) (enM (oneV (cutN d fr tt)).2.2) ((cutN d (fr + (oneV (cutN d fr tt)).2.1) tt).length : Int) (lns (cutN d (fr + (oneV (cutN d fr tt)).2.1) tt))) 0 (acc ++ [ptN d fr tt u nu]) := (if_neg h).trans (if_neg h1)
theorem adL_step {F : Nat → Nat → Int → Int → List PtP → List PtP} {b : Nat} {here : Int} {l : List RngP} {k : Nat} {acc : List PtP} (h : k < l.length) : adL F b here (l.drop k) k acc = adL F b here (l.drop (k + 1)) (k + 1) (F ((nthR l k).1.toNat + b) ((nthR l k).2.toNat + b) here ((k + 1 : Nat) : Int) acc) := by
  have e : l.drop k = nthR l k :: l.drop (k + 1) := by
    rw [List.drop_eq_getElem_cons h]
    unfold nthR
    rw [List.getD_eq_getElem?_getD, List.getElem?_eq_getElem h]; rfl
  rw [e]; rfl
theorem adL_end {F : Nat → Nat → Int → Int → List PtP → List PtP} {b : Nat} {here : Int} {l : List RngP} {k : Nat} {acc : List PtP} (h : l.length ≤ k) : adL F b here (l.drop k) k acc = acc := by
  rw [List.drop_eq_nil_of_le h]; rfl
theorem oneV_at (x : List Nat) : (oneV x).2.1 ≤ x.length := by
  unfold oneV
  split
  · rename_i h
    have := (phF_all x h).2.1
    split <;> exact this
  · exact Nat.zero_le _
theorem mkC_len (t : List Nat) : (mkC t).length ≤ 20 := by
  unfold mkC
  split
  · simp
  · split
    · assumption
    · simp
theorem oneV_mark (x : List Nat) : (oneV x).2.2.length ≤ 20 := by
  unfold oneV
  split
  · split
    · simp
    · dsimp only; split
      · exact mkC_len _
      · simp
  · simp
end Go.Proofs.YtooifkdbpghcfaaGreatDoor

namespace Go.Proofs.YtooifkdbpghcfaaGreatDoor
open Go.RowKit

/-- The i-th number of a list (0 behind its end). -/
def nthZq (l : List Nat) (i : Nat) : Nat := l.getD i 0
/-- Numbers as cells. -/
def qcZ (l : List Nat) : List Value := l.map fun (b : Nat) => Value.pointer (some ⟨b, 0, none⟩)

theorem nthZq_get {l : List Nat} {i : Nat} (h : i < l.length) : nthZq l i = l[i] := by
  unfold nthZq; rw [List.getD_eq_getElem?_getD, List.getElem?_eq_getElem h]; rfl

theorem qcZ_len (l : List Nat) : (qcZ l).length = l.length := by simp [qcZ]
theorem qcZ_one (l : List Nat) : ∀ u ∈ qcZ l, u.oneCell' = true := by
  intro u hu
  simp only [qcZ, List.mem_map] at hu
  obtain ⟨b, _, rfl⟩ := hu
  rfl
theorem qcZ_app (a b : List Nat) : qcZ (a ++ b) = qcZ a ++ qcZ b := by simp [qcZ]
theorem qcZ_get {l : List Nat} {i : Nat} (h : i < l.length) : (qcZ l)[i]? = some (.pointer (some ⟨nthZq l i, 0, none⟩)) := by
  rw [nthZq_get h]; simp [qcZ, h]

theorem nthZq_drop (l : List Nat) (k i : Nat) : nthZq (l.drop k) i = nthZq l (k + i) := by
  simp [nthZq, List.getD_eq_getElem?_getD, List.getElem?_drop]
/-- WHERE A SLICE OF BYTES IS READ: at its address stand the bytes l. -/
def RdQ (w : World) (a : Option Addr) (l : List Nat) : Prop :=
  l = [] ∨ ∃ b off, a = some ⟨b, off, none⟩ ∧ b < w.heap.size ∧ ∀ i, i < l.length → w.cell? ⟨b, off + i, none⟩ = some (.pointer (some ⟨nthZq l i, 0, none⟩))

theorem RdQ.below {w w' : World} {a : Option Addr} {l : List Nat} (h : RdQ w a l) (hb : Below w.heap.size w w') : RdQ w' a l := by
  rcases h with h | ⟨b, off, e, hlt, hc⟩
  · exact .inl h
  · exact .inr ⟨b, off, e, Nat.lt_of_lt_of_le hlt hb.size, fun i hi => (hb.cell (p := ⟨b, off + i, none⟩) hlt).trans (hc i hi)⟩
/-- Where there is an element there is an address. -/
theorem RdQ.at_ {w : World} {a : Option Addr} {l : List Nat} (h : RdQ w a l) (hp : 0 < l.length) :
    ∃ b off, a = some ⟨b, off, none⟩ ∧ b < w.heap.size ∧ ∀ i, i < l.length → w.cell? ⟨b, off + i, none⟩ = some (.pointer (some ⟨nthZq l i, 0, none⟩)) := by
  rcases h with h | h
  · rw [h] at hp; simp at hp
  · exact h
theorem RdQ.drop {w : World} {b off : Nat} {l : List Nat} (h : RdQ w (some ⟨b, off, none⟩) l) (k : Nat) : RdQ w (some ⟨b, off + k, none⟩) (l.drop k) := by
  rcases h with h | ⟨b', off', e, hlt, hc⟩
  · left; simp [h]
  · obtain ⟨rfl, rfl⟩ : b = b' ∧ off = off' := by simpa using e
    right
    refine ⟨b, off + k, rfl, hlt, fun i hi => ?_⟩
    rw [List.length_drop] at hi
    rw [nthZq_drop, Nat.add_assoc]
    exact hc (k + i) (by omega)


/-- A row of the call's own, read. -/
theorem RdQ.own {w : World} {base e n cap : Nat} {a : Option Addr} {l : List Nat} (h : w.ownsRow base e 1 (.slice a n cap) n (qcZ l)) : RdQ w a l := by
  have hl : l.length = n := by simpa [qcZ_len] using h.1
  rcases h.2 with ⟨_, h0⟩ | ⟨g, cap', cur, h', _, hg, _, _, _, htake⟩
  · left; exact List.length_eq_zero_iff.1 (by omega)
  · simp only [Value.slice.injEq] at h'
    obtain ⟨rfl, _, rfl⟩ := h'
    right
    refine ⟨g, 0, rfl, ?_, fun i hi => ?_⟩
    · rcases Nat.lt_or_ge g w.heap.size with hlt | hge
      · exact hlt
      · simp [Array.getElem?_eq_none hge] at hg
    · rw [cell_of_row w g (0 + i) cur e (0, 0) hg, ← qcZ_get hi, ← htake, List.getElem?_take, if_pos (by omega)]
      simp


theorem infoQ : (Tryz.prog.info? 63).map (fun i => (i.zero, i.size, i.bytes)) = some (some (.pointer none), 1, 8) := by kernel_rfl
/-- THE SLICE v IS THE CALL's OWN AND HOLDS THE BYTES l. -/
def OwnQ (w : World) (B : Nat) (v : Value) (l : List Nat) : Prop := w.ownsRow B 63 1 v l.length (qcZ l)

theorem OwnQ.nil (w : World) (B : Nat) : OwnQ w B (.slice none 0 0) [] := World.ownsRow_nil _ _ _ _
theorem OwnQ.lit (w : World) (B : Nat) (hB : B ≤ w.heap.size) (cs : Array Value) (l : List Nat) (h : cs.toList = qcZ l) (hl : l.length ≤ maxLen) : OwnQ (w.alloc (.cells cs 63)) B (.slice (some ⟨w.heap.size, 0, none⟩) l.length l.length) l := by
  have := World.ownsRow_lit (base := B) (e := 63) (size := 1) w cs l.length hB hl (by rw [← Array.length_toList, h, qcZ_len]; omega)
  rw [h] at this
  exact this
theorem OwnQ.alloc {w : World} {B : Nat} {v : Value} {l : List Nat} (h : OwnQ w B v l) (o : Obj) : OwnQ (w.alloc o) B v l := World.ownsRow.alloc h o
theorem OwnQ.drew {w : World} {B : Nat} {v : Value} {l : List Nat} (h : OwnQ w B v l) : OwnQ w.drew B v l := h
theorem OwnQ.below {w w' : World} {B C : Nat} {v : Value} {l : List Nat} (h : OwnQ w B v l) (hb : Below C w w') (hC : w.heap.size ≤ C) : OwnQ w' B v l := by
  refine ⟨h.1, ?_⟩
  rcases h.2 with h' | ⟨g, cap, cur, h1, h2, h3, h4⟩
  · exact .inl h'
  · refine .inr ⟨g, cap, cur, h1, h2, ?_, h4⟩
    have hg : g < w.heap.size := by
      rcases Nat.lt_or_ge g w.heap.size with hlt | hge
      · exact hlt
      · simp [Array.getElem?_eq_none hge] at h3
    rw [hb.block g (by omega)]; exact h3
theorem OwnQ.form {w : World} {B : Nat} {v : Value} {l : List Nat} (h : OwnQ w B v l) : ∃ a cap, v = .slice a l.length cap ∧ l.length ≤ cap ∧ cap ≤ maxLen := by
  rcases h.2 with ⟨h', h0⟩ | ⟨g, cap, cur, h', _, _, h4, h5, _⟩
  · exact ⟨none, 0, by rw [h', h0], by omega, by decide⟩
  · exact ⟨_, cap, h', h4, h5⟩
theorem OwnQ.rd {w : World} {B n cap : Nat} {a : Option Addr} {l : List Nat} (h : OwnQ w B (.slice a n cap) l) : l.length = n ∧ RdQ w a l := by
  have hf : l.length = n := by
    obtain ⟨a', c', e, _⟩ := h.form
    simp at e; omega
  subst hf
  exact ⟨rfl, RdQ.own h⟩

/-- AN APPEND: what stands at the second slice's address is there behind what was. -/
theorem wpList_appQ {w : World} {ops : Array Oper} {rest : List Oper} {o : Oper} {a : Act} {Q : Exit → Act → World → Prop} (hgd : o.guard = none) (s x : Operand)
    (ho : o.op = .call { callee := .builtin .append, args := #[s, x], argTypes := #[80, 80] })
    (B : Nat) (v : Value) (l : List Nat) (hs : a.eval s = v) (hown : OwnQ w B v l) (ad : Addr) (m c : Nat) (new : List Nat) (hx : a.eval x = .slice (some ad) m c) (hm : new.length = m)
    (hnew : ∀ j, j < m → w.cell? (ad.add j) = some (.pointer (some ⟨nthZq new j, 0, none⟩))) (hsz : l.length + m ≤ 1073741824) (hB : B ≤ w.heap.size)
    (h : ∀ v' w1, OwnQ w1 B v' (l ++ new) → w.grownBy w1 v.ownBlock → wpList Tryz.prog ops Q rest (a.put o.dst v') w1) : wpList Tryz.prog ops Q (o :: rest) a w := by
  obtain ⟨i0, hi, hz0, hz1, hz2⟩ := info_parts infoQ
  refine wpList_append_own w hgd s x 80 ho B 63 i0 (.pointer none) 1 8 Tryz.underlying80 hi hz0 hz1 hz2 rfl (by decide) v l.length (qcZ l) hs hown ad m c (qcZ new) hx (by rw [qcZ_len, hm]; omega) ?_ (qcZ_one new) (by unfold maxLen; omega) (by omega) hB ?_
  · intro j u hj
    have hjl : j < new.length := by
      rcases Nat.lt_or_ge j new.length with hlt | hge
      · exact hlt
      · rw [List.getElem?_eq_none (by rw [qcZ_len]; exact hge)] at hj; cases hj
    rw [qcZ_get hjl] at hj
    cases hj
    exact hnew j (by omega)
  · intro v' w1 hown' hgr _
    refine h v' w1 ?_ hgr
    unfold OwnQ
    rw [qcZ_app, List.length_append, hm]
    exact hown'

/-- The cells of a block that was laid just ahead, behind a draw too. -/
theorem new_cellsQ {wr : World} {cs : Array Value} {new : List Nat} (hcs : cs.toList = qcZ new) (m : Nat) (hm : new.length = m) :
    ∀ j, j < m → (wr.alloc (.cells cs 63)).cell? ((⟨wr.heap.size, 0, none⟩ : Addr).add j) = some (.pointer (some ⟨nthZq new j, 0, none⟩)) := by
  intro j hj
  have e : (⟨wr.heap.size, 0, none⟩ : Addr).add j = ⟨wr.heap.size, j, none⟩ := by rw [Go.WideShapes.add_plain, Nat.zero_add]
  rw [e, World.cell?_alloc_mark, ← Array.getElem?_toList, hcs]
  exact qcZ_get (by omega)
end Go.Proofs.YtooifkdbpghcfaaGreatDoor

namespace Go.Proofs.YtooifkdbpghcfaaGreatDoor
open Go.RowKit

/-- A part in its block, by its values. -/
def PtV (W : World) (P : Nat) (x : PtP) : Prop := PtAt W P x.1.1 x.1.2.1 x.1.2.2 x.2.1.1 x.2.1.2 x.2.2.1 x.2.2.2
/-- A reader in its block. -/
def RdrAt (W : World) (R b m cp : Nat) (v : Value) : Prop := W.heap[R]? = some (.cells #[.slice (some ⟨b, 0, none⟩) m cp, v] 82 (0, 0))
theorem RdrAt.lt {W : World} {R b m cp : Nat} {v : Value} (h : RdrAt W R b m cp v) : R < W.heap.size := (Array.getElem?_eq_some_iff.1 h).1
theorem RdrAt.cells {W : World} {R b m cp : Nat} {v : Value} (h : RdrAt W R b m cp v) : W.cell? ⟨R, 0, none⟩ = some (.slice (some ⟨b, 0, none⟩) m cp) ∧ W.cell? ⟨R, 1, none⟩ = some v := by
  unfold RdrAt at h
  simp [World.cell?, h]
theorem RdrAt.frozen {W : World} {R b m cp : Nat} {v : Value} (h : RdrAt W R b m cp v) (i : Nat) : W.frozen? ⟨R, i, none⟩ = false := by
  unfold RdrAt at h
  simp [World.frozen?, h]
theorem RdrAt.set {W : World} {R b m cp : Nat} {v : Value} (h : RdrAt W R b m cp v) (v' : Value) : RdrAt (W.setCell ⟨R, 1, none⟩ v') R b m cp v' := setCell_block h _
/-- A block that is no row of pointers. -/
def NoQ (W : World) (k : Nat) : Prop := ∀ c fz, W.heap[k]? ≠ some (.cells c 63 fz)
theorem NoQ.part {W : World} {P : Nat} {k c g f t u n : Int} (h : PtAt W P k c g f t u n) : NoQ W P := fun c fz e => by unfold PtAt at h; rw [h] at e; simp at e
theorem NoQ.rdr {W : World} {R b m cp : Nat} {v : Value} (h : RdrAt W R b m cp v) : NoQ W R := fun c fz e => by unfold RdrAt at h; rw [h] at e; simp at e
theorem NoQ.row {W : World} {k C : Nat} {v : Value} {l : List Nat} (h : NoQ W k) (ho : OwnQ W C v l) : some k ≠ v.ownBlock := by
  intro e
  rcases ho.2 with ⟨h', _⟩ | ⟨g, cap, cur, h', _, h3, _⟩
  · rw [h'] at e; cases e
  · rw [h'] at e
    cases e
    exact h _ _ h3
/-- What stays: all blocks but the reader, one part, and rows of pointers. -/
def Fr (W W' : World) (R P : Nat) : Prop := W.heap.size ≤ W'.heap.size ∧ ∀ k, k < W.heap.size → k ≠ R → k ≠ P → NoQ W k → W'.heap[k]? = W.heap[k]?
theorem Fr.refl (W : World) (R P : Nat) : Fr W W R P := ⟨Nat.le_refl _, fun _ _ _ _ _ => rfl⟩
theorem Fr.trans {W W1 W2 : World} {R P : Nat} (h : Fr W W1 R P) (k : Fr W1 W2 R P) : Fr W W2 R P := ⟨Nat.le_trans h.1 k.1, fun q hq h1 h2 h3 => by
  have e := h.2 q hq h1 h2 h3
  exact (k.2 q (Nat.lt_of_lt_of_le hq h.1) h1 h2 (fun c fz => by rw [e]; exact h3 c fz)).trans e⟩
theorem Fr.inner {W W1 W2 : World} {R P P' : Nat} (h : Fr W W1 R P) (k : Fr W1 W2 R P') (hP : W.heap.size ≤ P') : Fr W W2 R P := ⟨Nat.le_trans h.1 k.1, fun q hq h1 h2 h3 => by
  have e := h.2 q hq h1 h2 h3
  exact (k.2 q (Nat.lt_of_lt_of_le hq h.1) h1 (by omega) (fun c fz => by rw [e]; exact h3 c fz)).trans e⟩
theorem Fr.below {W W1 W2 : World} {R P : Nat} (h : Fr W W1 R P) (k : Below W1.heap.size W1 W2) : Fr W W2 R P := h.trans ⟨k.size, fun q hq _ _ _ => k.block q hq⟩
theorem Fr.grown {W W1 W2 : World} {R P : Nat} {row : Option Nat} (h : Fr W W1 R P) (k : W1.grownBy W2 row) (hr : ∀ q, row = some q → q = R ∨ q = P ∨ ¬ NoQ W1 q) : Fr W W2 R P := h.trans ⟨k.size, fun q hq h1 h2 h3 => k.block q hq (fun e => by
  rcases hr q e.symm with h4 | h4 | h4
  · exact h1 h4
  · exact h2 h4
  · exact h4 h3)⟩
theorem row_isQ {W : World} {C : Nat} {v : Value} {l : List Nat} (ho : OwnQ W C v l) {q : Nat} (h : v.ownBlock = some q) : ¬ NoQ W q := fun hn => hn.row ho h.symm
/-- The state of a reading. -/
def RSt (w0 W : World) (R b m cp : Nat) (v : Value) (l : List (Nat × PtP)) : Prop := Below w0.heap.size w0 W ∧ w0.heap.size ≤ R ∧ RdrAt W R b m cp v ∧ OwnQ W w0.heap.size v (l.map (·.1)) ∧ ∀ p ∈ l, w0.heap.size ≤ p.1 ∧ PtV W p.1 p.2
theorem RSt.below {w0 W W' : World} {R b m cp : Nat} {v : Value} {l : List (Nat × PtP)} (h : RSt w0 W R b m cp v l) (hb : Below W.heap.size W W') : RSt w0 W' R b m cp v l :=
  ⟨h.1.trans (hb.mono h.1.size), h.2.1, (hb.block R h.2.2.1.lt).trans h.2.2.1, h.2.2.2.1.below hb (Nat.le_refl _), fun p hp => ⟨(h.2.2.2.2 p hp).1, (h.2.2.2.2 p hp).2.kept (hb.block p.1 (h.2.2.2.2 p hp).2.lt)⟩⟩
theorem RSt.alloc {w0 W : World} {R b m cp : Nat} {v : Value} {l : List (Nat × PtP)} (h : RSt w0 W R b m cp v l) (o : Obj) : RSt w0 (W.alloc o) R b m cp v l := h.below ((Below.refl _ _).alloc (Nat.le_refl _) _)
theorem RSt.drew {w0 W : World} {R b m cp : Nat} {v : Value} {l : List (Nat × PtP)} (h : RSt w0 W R b m cp v l) : RSt w0 W.drew R b m cp v l := ⟨h.1.drew, h.2⟩
/-- Behind an append of a part that is in none of them. -/
theorem RSt.appended {w0 W W1 : World} {R b m cp P : Nat} {v v' : Value} {l : List (Nat × PtP)} {x : PtP} (h : RSt w0 W R b m cp v l) (hp : PtV W P x) (hP : w0.heap.size ≤ P) (hg : W.grownBy W1 v.ownBlock) (ho : OwnQ W1 w0.heap.size v' (l.map (·.1) ++ [P])) : RSt w0 (W1.setCell ⟨R, 1, none⟩ v') R b m cp v' (l ++ [(P, x)]) := by
  have hb1 : Below w0.heap.size w0 W1 := h.1.grown hg h.1.size (fun k hk => (World.ownsRow.lt h.2.2.2.1 k hk).1)
  have hR1 : RdrAt W1 R b m cp v := (hg.block R h.2.2.1.lt ((NoQ.rdr h.2.2.1).row h.2.2.2.1)).trans h.2.2.1
  have hkeep : ∀ q y, PtV W q y → PtV (W1.setCell ⟨R, 1, none⟩ v') q y := fun q y hq => by
    have e1 := hg.block q hq.lt ((NoQ.part hq).row h.2.2.2.1)
    have hne : q ≠ R := fun e => by
      have h1 := h.2.2.1
      unfold RdrAt at h1
      unfold PtV PtAt at hq
      rw [e, h1] at hq; simp at hq
    exact hq.kept ((Below.heap_setCell W1 ⟨R, 1, none⟩ v' q hne).trans e1)
  refine ⟨hb1.setCell (p := ⟨R, 1, none⟩) h.2.1 _, h.2.1, hR1.set v', ?_, ?_⟩
  · have hgs : W1.grownBy (W1.setCell ⟨R, 1, none⟩ v') (some R) := gset (World.grownBy.refl _ _)
    have hne : ∀ q, v'.ownBlock = some q → some q ≠ some R := fun q hq e => by
      cases e
      exact (NoQ.rdr hR1).row ho hq.symm
    have := ho
    unfold OwnQ at this ⊢
    rw [List.map_append]
    refine ⟨this.1, ?_⟩
    rcases this.2 with h' | ⟨g, cap, cur, h1, h2, h3, h4⟩
    · exact .inl h'
    · refine .inr ⟨g, cap, cur, h1, h2, ?_, h4⟩
      rw [Below.heap_setCell W1 ⟨R, 1, none⟩ v' g (fun e => hne g (by rw [h1]; rfl) (by rw [e]))]; exact h3
  · intro p hp2
    rcases List.mem_append.1 hp2 with hp2 | hp2
    · exact ⟨(h.2.2.2.2 p hp2).1, hkeep _ _ (h.2.2.2.2 p hp2).2⟩
    · rw [List.mem_singleton] at hp2
      subst hp2
      exact ⟨hP, hkeep _ _ hp⟩
/-- Behind the filling of the last part. -/
theorem RSt.filled {w0 W W1 : World} {R b m cp P : Nat} {v : Value} {l : List (Nat × PtP)} {x y : PtP} (h : RSt w0 W R b m cp v (l ++ [(P, x)])) (hl : ∀ p ∈ l, p.1 ≠ P) (hb : Below w0.heap.size w0 W1) (hg : W.grownBy W1 (some P)) (hp : PtV W1 P y) : RSt w0 W1 R b m cp v (l ++ [(P, y)]) := by
  have hx := h.2.2.2.2 (P, x) (by simp)
  have hRP : R ≠ P := fun e => by
    have h1 := h.2.2.1
    have h2 := hx.2
    unfold RdrAt at h1
    unfold PtV PtAt at h2
    rw [e] at h1
    rw [h1] at h2; simp at h2
  refine ⟨hb, h.2.1, (hg.block R h.2.2.1.lt (fun e => hRP (by cases e; rfl))).trans h.2.2.1, ?_, ?_⟩
  · have ho := h.2.2.2.1
    have hn : some P ≠ v.ownBlock := (NoQ.part hx.2).row ho
    have e : (l ++ [(P, y)]).map (·.1) = (l ++ [(P, x)]).map (·.1) := by simp
    unfold OwnQ at ho ⊢
    rw [e]
    refine ⟨ho.1, ?_⟩
    rcases ho.2 with h' | ⟨g, cap, cur, h1, h2, h3, h4⟩
    · exact .inl h'
    · have hgl : g < W.heap.size := (Array.getElem?_eq_some_iff.1 h3).1
      refine .inr ⟨g, cap, cur, h1, h2, ?_, h4⟩
      rw [hg.block g hgl (fun e => hn (by rw [← e, h1]; rfl))]; exact h3
  · intro p hp2
    rcases List.mem_append.1 hp2 with hp2 | hp2
    · have h1 := h.2.2.2.2 p (by simp [hp2])
      exact ⟨h1.1, h1.2.kept (hg.block p.1 h1.2.lt (fun e => hl p hp2 (by cases e; rfl)))⟩
    · rw [List.mem_singleton] at hp2
      subst hp2
      exact ⟨hx.1, hp⟩
theorem upE_len (en : ByteArray) : ∀ xs : List Line, (upE en xs).length ≤ xs.length
  | [] => Nat.le_refl _
  | x :: r => by
    rw [upE]
    split
    · simp
    · simp only [List.length_cons]; have := upE_len en r; omega
theorem spL_len (bg en : ByteArray) (L : Int) (xs : List Line) : (spL bg en L xs).length ≤ xs.length := by
  have h1 := fold_len bg en L (upE en xs) []
  have h2 := upE_len en xs
  unfold spL
  simp only [List.length_nil] at h1; omega
theorem OwnR.blk {w w' : World} {B : Nat} {v : Value} {l : List RngP} (h : OwnR w B v l) (he : ∀ g, v.ownBlock = some g → w'.heap[g]? = w.heap[g]?) : OwnR w' B v l := by
  unfold OwnR at h ⊢
  refine ⟨h.1, ?_⟩
  rcases h.2 with h' | ⟨g, cap, cur, h1, h2, h3, h4⟩
  · exact .inl h'
  · exact .inr ⟨g, cap, cur, h1, h2, (he g (by rw [h1]; rfl)).trans h3, h4⟩
theorem OwnR.apart {w : World} {B R b m cp : Nat} {v u : Value} {l : List RngP} (h : OwnR w B v l) (hR : RdrAt w R b m cp u) {g : Nat} (hg : v.ownBlock = some g) : g < w.heap.size ∧ g ≠ R ∧ NoQ w g := by
  unfold OwnR at h
  rcases h.2 with ⟨h', _⟩ | ⟨g', cap, cur, h1, h2, h3, h4⟩
  · rw [h'] at hg; cases hg
  · rw [h1] at hg
    cases hg
    refine ⟨(Array.getElem?_eq_some_iff.1 h3).1, fun e => ?_, fun c fz e => ?_⟩
    · subst e
      unfold RdrAt at hR
      rw [hR] at h3; simp at h3
    · rw [h3] at e; simp at e
theorem part_apart {w : World} {R b m cp P : Nat} {v : Value} {k c g f t u n : Int} (hp : PtAt w P k c g f t u n) (hR : RdrAt w R b m cp v) : P ≠ R := fun e => by
  subst e
  unfold RdrAt at hR
  unfold PtAt at hp
  rw [hR] at hp; simp at hp
theorem adL_le {F : Nat → Nat → Int → Int → List PtP → List PtP} {b : Nat} {here : Int} (hF : ∀ x y h n acc, acc.length ≤ 8 → (F x y h n acc).length ≤ 8) : ∀ (l : List RngP) (i : Nat) (acc : List PtP), acc.length ≤ 8 → (adL F b here l i acc).length ≤ 8
  | [], _, _, h => h
  | _ :: r, i, _, h => adL_le hF r (i + 1) _ (hF _ _ _ _ _ h)
theorem adV_le (d : List Nat) : ∀ (D fr tt : Nat) (u nu : Int) (acc : List PtP), acc.length ≤ 8 → (adV d D fr tt u nu acc).length ≤ 8
  | 0, fr, tt, u, nu, acc, h => by
    by_cases h8 : acc.length = 8
    · rw [adV_full h8]; exact h
    · rw [adV_zero h8, List.length_append]; simp; omega
  | D + 1, fr, tt, u, nu, acc, h => by
    by_cases h8 : acc.length = 8
    · rw [adV_full h8]; exact h
    · by_cases hm : (oneV (cutN d fr tt)).2.2 = []
      · rw [adV_leaf h8 hm, List.length_append]; simp; omega
      · rw [adV_in h8 hm]
        exact adL_le (fun x y hh n acc h => adV_le d D x y hh n acc h) _ _ _ (by rw [List.length_append]; simp; omega)
/-- How a reading ends. -/
def RdEnd (w0 : World) (R b m cp P : Nat) (r : List PtP) (W : World) (e : Ending) (W' : World) : Prop := ∃ v' l', e = .returned (.tuple #[]) ∧ RSt w0 W' R b m cp v' l' ∧ l'.map (·.2) = r ∧ Fr W W' R P
end Go.Proofs.YtooifkdbpghcfaaGreatDoor
