/- The parts of a message, by plain functions: which ranges a body has, which parts · Words on memory: where a slice of parts (seven numbers each) is read, what a row of the call's own holds, an append; no conditions beyond those that each fact names · Words on memory, with no program in them: where a slice of whole numbers is read, what a row of the call's own holds; no conditions beyond those that each fact names · Each helper of the laws over slices of whole numbers does what its text says: it copies one, and holds two against each other; slices of at most 1048576 numbers. -/
import Derived.Test.YtaefomiofoakhaaGreatDoorIns
import Derived.Test.YtaefomiofoakhaaGreatDoorFil
import Derived.Test.YtaefomiofoakhaaGreatDoorJfzToInf
import Derived.Test.YtaefomiofoakhaaGreatDoorProg
import Derived.BigQuiet
import Derived.Deep.QuietTactic
import Derived.KernelRfl
namespace Go.Proofs.YtaefomiofoakhaaGreatDoor
open Go.RowKit

theorem lnsF_in {d : List Nat} : ∀ (f k : Nat) (x : Line), x ∈ lnsF d f k → ∃ i q : Nat, x.2.1 = (i : Int) ∧ x.2.2 = (q : Int) ∧ i ≤ q ∧ q ≤ d.length
  | 0, k, x, h => by simp [lnsF] at h
  | f + 1, k, x, h => by
    by_cases hk : k < d.length
    · rw [lnsF_yes hk] at h
      rcases List.mem_cons.1 h with rfl | h
      · obtain ⟨h1, h2⟩ := nxL_gt hk
        exact ⟨k, nxL d k, rfl, rfl, by omega, h2⟩
      · exact lnsF_in f _ x h
    · rw [lnsF_no hk] at h; simp at h
theorem upE_mem {en : ByteArray} {x : Line} : ∀ {xs : List Line}, x ∈ upE en xs → x ∈ xs
  | [], h => by simp [upE] at h
  | y :: r, h => by
    rw [upE] at h
    split at h
    · rw [List.mem_singleton] at h; rw [h]; simp
    · rcases List.mem_cons.1 h with rfl | h
      · simp
      · exact List.mem_cons_of_mem _ (upE_mem h)
/-- A range within some bytes. -/
def InL (L : Nat) (s : RngP) : Prop := ∃ i q : Nat, s = ((i : Int), (q : Int)) ∧ i ≤ q ∧ q ≤ L
theorem clsL_in {L : Nat} {acc : List RngP} {x : Line} (hL : L ≤ 1048576) (ha : ∀ s ∈ acc, InL L s) (hx : ∃ i q : Nat, x.2.1 = (i : Int) ∧ x.2.2 = (q : Int) ∧ i ≤ q ∧ q ≤ L) : ∀ s ∈ clsL acc x, InL L s := by
  intro s hs
  unfold clsL at hs
  rcases List.mem_or_eq_of_mem_set hs with h | rfl
  · exact ha s h
  · obtain ⟨i, q, h1, h2, h3, h4⟩ := hx
    rcases Nat.lt_or_ge 0 acc.length with hp | hp
    · have hm : nthR acc (acc.length - 1) ∈ acc := by
        unfold nthR
        rw [List.getD_eq_getElem?_getD, List.getElem?_eq_getElem (by omega)]
        exact List.getElem_mem _
      obtain ⟨a, b, e, h5, h6⟩ := ha _ hm
      rw [e, h1, Go.IntWalk.wrap64_in _ (by omega)]
      refine ⟨a, if a ≤ i - 1 then i - 1 else a, ?_, by split <;> omega, by split <;> omega⟩
      simp only [Prod.mk.injEq, true_and]
      rw [Int.max_def]
      split <;> split <;> omega
    · have h0 : acc = [] := List.length_eq_zero_iff.1 (by omega)
      rw [h0] at hs
      simp at hs
theorem fold_in {bg en : ByteArray} {L : Nat} (hL : L ≤ 1048576) : ∀ (xs : List Line) (acc : List RngP), (∀ x ∈ xs, ∃ i q : Nat, x.2.1 = (i : Int) ∧ x.2.2 = (q : Int) ∧ i ≤ q ∧ q ≤ L) → (∀ s ∈ acc, InL L s) → ∀ s ∈ xs.foldl (stpL bg en (L : Int)) acc, InL L s
  | [], _, _, ha => ha
  | x :: r, acc, hx, ha => by
    rw [List.foldl_cons]
    refine fold_in hL r _ (fun y hy => hx y (List.mem_cons_of_mem _ hy)) ?_
    have h0 := hx x (by simp)
    unfold stpL
    split
    · exact clsL_in hL ha h0
    · split
      · intro s hs
        rcases List.mem_append.1 hs with h | h
        · exact clsL_in hL ha h0 s h
        · rw [List.mem_singleton] at h
          obtain ⟨i, q, h1, h2, h3, h4⟩ := h0
          exact ⟨q, L, by rw [h, h2], h4, Nat.le_refl _⟩
      · exact ha
/-- Each range lies within the body. -/
theorem spL_in (bg en : ByteArray) (d : List Nat) (hL : d.length ≤ 1048576) : ∀ s ∈ spL bg en (d.length : Int) (lns d), InL d.length s :=
  fold_in hL _ _ (fun x hx => lnsF_in _ _ x (upE_mem hx)) (fun s hs => by simp at hs)

/-- A part: kind, charset, coding; from, to; up, number. -/
abbrev PtP := (Int × Int × Int) × (Int × Int) × (Int × Int)
/-- '--' ahead of a mark. -/
def bgM (mk : List Nat) : ByteArray := ⟨#[45, 45]⟩ ++ str mk
/-- The same, and '--' behind it. -/
def enM (mk : List Nat) : ByteArray := bgM mk ++ ⟨#[45, 45]⟩
/-- The parts of ranges, one behind the other. -/
def adL (F : Nat → Nat → Int → Int → List PtP → List PtP) (b : Nat) (here : Int) : List RngP → Nat → List PtP → List PtP
  | [], _, acc => acc
  | s :: r, i, acc => adL F b here r (i + 1) (F (s.1.toNat + b) (s.2.toNat + b) here ((i + 1 : Nat) : Int) acc)
/-- The bytes of a part. -/
def cutN (d : List Nat) (fr tt : Nat) : List Nat := (d.take tt).drop fr
/-- A part by its bytes. -/
def ptN (d : List Nat) (fr tt : Nat) (u nu : Int) : PtP := ((oneV (cutN d fr tt)).1, (((fr + (oneV (cutN d fr tt)).2.1 : Nat) : Int), (tt : Int)), (u, nu))
/-- A part and all that is in it, behind others; at most eight. -/
def adV (d : List Nat) : Nat → Nat → Nat → Int → Int → List PtP → List PtP
  | 0, fr, tt, u, nu, acc => if acc.length = 8 then acc else acc ++ [ptN d fr tt u nu]
  | D + 1, fr, tt, u, nu, acc => if acc.length = 8 then acc else if (oneV (cutN d fr tt)).2.2 = [] then acc ++ [ptN d fr tt u nu] else
      adL (adV d D) (fr + (oneV (cutN d fr tt)).2.1) (acc.length : Int) (spL (bgM (oneV (cutN d fr tt)).2.2) (enM (oneV (cutN d fr tt)).2.2) ((cutN d (fr + (oneV (cutN d fr tt)).2.1) tt).length : Int) (lns (cutN d (fr + (oneV (cutN d fr tt)).2.1) tt))) 0 (acc ++ [ptN d fr tt u nu])
theorem adV_full {d : List Nat} {D fr tt : Nat} {u nu : Int} {acc : List PtP} (h : acc.length = 8) : adV d D fr tt u nu acc = acc := by
  cases D with
  | zero => exact if_pos h
  | succ D => exact if_pos h
theorem adV_zero {d : List Nat} {fr tt : Nat} {u nu : Int} {acc : List PtP} (h : acc.length ≠ 8) : adV d 0 fr tt u nu acc = acc ++ [ptN d fr tt u nu] := if_neg h
theorem adV_leaf {d : List Nat} {D fr tt : Nat} {u nu : Int} {acc : List PtP} (h : acc.length ≠ 8) (h1 : (oneV (cutN d fr tt)).2.2 = []) : adV d D fr tt u nu acc = acc ++ [ptN d fr tt u nu] := by
  cases D with
  | zero => exact if_neg h
  | succ D => exact (if_neg h).trans (if_pos h1)
theorem adV_in {d : List Nat} {D fr tt : Nat} {u nu : Int} {acc : List PtP} (h : acc.length ≠ 8) (h1 : (oneV (cutN d fr tt)).2.2 ≠ []) : adV d (D + 1) fr tt u nu acc = adL (adV d D) (fr + (oneV (cutN d fr tt)).2.1) (acc.length : Int) (spL (bgM (oneV (cutN d fr tt)).2.2) (enM (oneV (cutN d fr tt)).2.2) ((cutN d (fr + (oneV (cutN d fr tt)).2.1) tt).length : Int) (lns (cutN d (fr + (oneV (cutN d fr tt)).2.1) tt))) 0 (acc ++ [ptN d fr tt u nu]) := (if_neg h).trans (if_neg h1)
theorem adL_step {F : Nat → Nat → Int → Int → List PtP → List PtP} {b : Nat} {here : Int} {l : List RngP} {k : Nat} {acc : List PtP} (h : k < l.length) : adL F b here (l.drop k) k acc = adL F b here (l.drop (k + 1)) (k + 1) (F ((nthR l k).1.toNat + b) ((nthR l k).2.toNat + b) here ((k + 1 : Nat) : Int) acc) := by
  have e : l.drop k = nthR l k :: l.drop (k + 1) := by
    rw [List.drop_eq_getElem_cons h]
    unfold nthR
    rw [List.getD_eq_getElem?_getD, List.getElem?_eq_getElem h]; rfl
  rw [e]; rfl
theorem adL_end {F : Nat → Nat → Int → Int → List PtP → List PtP} {b : Nat} {here : Int} {l : List RngP} {k : Nat} {acc : List PtP} (h : l.length ≤ k) : adL F b here (l.drop k) k acc = acc := by
  rw [List.drop_eq_nil_of_le h]; rfl
theorem oneV_at (x : List Nat) : (oneV x).2.1 ≤ x.length := by
  unfold oneV
  split
  · rename_i h
    have := (phF_all x h).2.1
    split <;> exact this
  · exact Nat.zero_le _
theorem mkC_len (t : List Nat) : (mkC t).length ≤ 20 := by
  unfold mkC
  split
  · simp
  · split
    · assumption
    · simp
theorem oneV_mark (x : List Nat) : (oneV x).2.2.length ≤ 20 := by
  unfold oneV
  split
  · split
    · simp
    · dsimp only; split
      · exact mkC_len _
      · simp
  · simp
end Go.Proofs.YtaefomiofoakhaaGreatDoor

namespace Go.Proofs.YtaefomiofoakhaaGreatDoor
open Go.RowKit

/-- A part as cells. -/
def pcl (x : PtP) : List Value := [.int .i64 x.1.1, .int .i64 x.1.2.1, .int .i64 x.1.2.2, .int .i64 x.2.1.1, .int .i64 x.2.1.2, .int .i64 x.2.2.1, .int .i64 x.2.2.2]
/-- Parts as cells. -/
def pc (l : List PtP) : List Value := l.flatMap pcl
theorem pc_cons (x : PtP) (l : List PtP) : pc (x :: l) = pcl x ++ pc l := rfl
theorem pc_len : ∀ l : List PtP, (pc l).length = l.length * 7
  | [] => rfl
  | x :: l => by rw [pc_cons, List.length_append, pc_len l, List.length_cons]; simp [pcl]; omega
theorem pc_app (a b : List PtP) : pc (a ++ b) = pc a ++ pc b := by simp [pc]
theorem pc_one (l : List PtP) : ∀ u ∈ pc l, u.oneCell' = true := by
  intro u hu
  simp only [pc, pcl, List.mem_flatMap, List.mem_cons, List.not_mem_nil, or_false] at hu
  obtain ⟨p, _, h⟩ := hu
  rcases h with rfl | rfl | rfl | rfl | rfl | rfl | rfl <;> rfl
def zeroP : Value := .agg #[.int .i64 0, .int .i64 0, .int .i64 0, .int .i64 0, .int .i64 0, .int .i64 0, .int .i64 0]
theorem infoP : (Tryz.prog.info? 30).map (fun i => (i.zero, i.size, i.bytes)) = some (some zeroP, 7, 56) := by kernel_rfl
/-- THE SLICE v IS THE CALL's OWN AND HOLDS THE PARTS l. -/
def OwnP (w : World) (B : Nat) (v : Value) (l : List PtP) : Prop := w.ownsRow B 30 7 v l.length (pc l)
theorem OwnP.nil (w : World) (B : Nat) : OwnP w B (.slice none 0 0) [] := World.ownsRow_nil _ _ _ _
theorem OwnP.alloc {w : World} {B : Nat} {v : Value} {l : List PtP} (h : OwnP w B v l) (o : Obj) : OwnP (w.alloc o) B v l := World.ownsRow.alloc h o
theorem OwnP.below {w w' : World} {B C : Nat} {v : Value} {l : List PtP} (h : OwnP w B v l) (hb : Below C w w') (hC : w.heap.size ≤ C) : OwnP w' B v l := by
  refine ⟨h.1, ?_⟩
  rcases h.2 with h' | ⟨g, cap, cur, h1, h2, h3, h4⟩
  · exact .inl h'
  · refine .inr ⟨g, cap, cur, h1, h2, ?_, h4⟩
    have hg : g < w.heap.size := (Array.getElem?_eq_some_iff.1 h3).1
    rw [hb.block g (by omega)]; exact h3
theorem OwnP.form {w : World} {B : Nat} {v : Value} {l : List PtP} (h : OwnP w B v l) : ∃ a cap, v = .slice a l.length cap ∧ l.length ≤ cap ∧ cap ≤ maxLen := by
  rcases h.2 with ⟨h', h0⟩ | ⟨g, cap, cur, h', _, _, h4, h5, _⟩
  · exact ⟨none, 0, by rw [h', h0], by omega, by decide⟩
  · exact ⟨_, cap, h', h4, h5⟩
theorem OwnP.low {w : World} {B C : Nat} {v : Value} {l : List PtP} (h : OwnP w B v l) (hC : C ≤ B) : OwnP w C v l := by
  refine ⟨h.1, ?_⟩
  rcases h.2 with h' | ⟨g, cap, cur, h1, h2, h3, h4⟩
  · exact .inl h'
  · exact .inr ⟨g, cap, cur, h1, by omega, h3, h4⟩
theorem OwnP.kept {w : World} {B : Nat} {v : Value} {l : List PtP} (h : OwnP w B v l) (p : Addr) (hp : p.block < B) (u : Value) : OwnP (w.setCell p u) B v l := ownsRow_setCell_below h hp u
/-- AN APPEND OF ONE PART THAT WAS LAID JUST AHEAD. -/
theorem wpList_appP {w : World} {ops : Array Oper} {rest : List Oper} {o : Oper} {a : Act} {Q : Exit → Act → World → Prop} (hgd : o.guard = none) (s x : Operand)
    (ho : o.op = .call { callee := .builtin .append, args := #[s, x], argTypes := #[25, 25] })
    (B : Nat) (v : Value) (l : List PtP) (hs : a.eval s = v) (hown : OwnP w B v l) (ad : Addr) (y : PtP) (hx : a.eval x = .slice (some ad) 1 1)
    (hnew : ∀ j u, (pcl y)[j]? = some u → w.cell? (ad.add j) = some u) (hsz : l.length + 1 ≤ 1048576) (hB : B ≤ w.heap.size)
    (h : ∀ v' w1, OwnP w1 B v' (l ++ [y]) → Below B w w1 → wpList Tryz.prog ops Q rest (a.put o.dst v') w1) : wpList Tryz.prog ops Q (o :: rest) a w := by
  obtain ⟨i0, hi, hz0, hz1, hz2⟩ := info_parts infoP
  refine wpList_append_own w hgd s x 25 ho B 30 i0 zeroP 7 56 Tryz.underlying25 hi hz0 hz1 hz2 rfl (by decide) v l.length (pc l) hs hown ad 1 1 (pc [y]) hx (by rw [pc_len]; rfl) ?_ (pc_one [y]) (by unfold maxLen; omega) (by omega) hB ?_
  · intro j u hj
    have e : pc [y] = pcl y := by simp [pc]
    rw [e] at hj
    exact hnew j u hj
  · intro v' w1 hown' hgr _
    refine h v' w1 ?_ ((Below.refl _ _).grown hgr hB (fun k hk => (hown.lt k hk).1))
    unfold OwnP
    rw [pc_app, List.length_append]
    exact hown'
theorem new_oneP {wr : World} {s : Nat} (e : wr.heap.size = s) (y : PtP) : ∀ j u, (pcl y)[j]? = some u → (wr.alloc (.cells #[.int .i64 y.1.1, .int .i64 y.1.2.1, .int .i64 y.1.2.2, .int .i64 y.2.1.1, .int .i64 y.2.1.2, .int .i64 y.2.2.1, .int .i64 y.2.2.2] 30)).cell? ((⟨s, 0, none⟩ : Addr).add j) = some u := by
  subst e
  intro j u hj
  have e : (⟨wr.heap.size, 0, none⟩ : Addr).add j = ⟨wr.heap.size, j, none⟩ := by rw [Go.WideShapes.add_plain, Nat.zero_add]
  rw [e, World.cell?_alloc_mark, ← Array.getElem?_toList]
  exact hj
end Go.Proofs.YtaefomiofoakhaaGreatDoor

namespace Go.Proofs.YtaefomiofoakhaaGreatDoor
open Go.RowKit

/-- The i-th number of a list (0 behind its end). -/
def nthI (l : List Int) (i : Nat) : Int := l.getD i 0
/-- Numbers as cells. -/
def ic (l : List Int) : List Value := l.map fun (b : Int) => Value.int .i64 b

theorem nthI_get {l : List Int} {i : Nat} (h : i < l.length) : nthI l i = l[i] := by
  unfold nthI; rw [List.getD_eq_getElem?_getD, List.getElem?_eq_getElem h]; rfl

theorem ic_len (l : List Int) : (ic l).length = l.length := by simp [ic]
theorem ic_one (l : List Int) : ∀ u ∈ ic l, u.oneCell' = true := by
  intro u hu
  simp only [ic, List.mem_map] at hu
  obtain ⟨b, _, rfl⟩ := hu
  rfl
theorem ic_app (a b : List Int) : ic (a ++ b) = ic a ++ ic b := by simp [ic]
theorem ic_get {l : List Int} {i : Nat} (h : i < l.length) : (ic l)[i]? = some (.int .i64 (nthI l i)) := by
  rw [nthI_get h]; simp [ic, h]

theorem nthI_drop (l : List Int) (k i : Nat) : nthI (l.drop k) i = nthI l (k + i) := by
  simp [nthI, List.getD_eq_getElem?_getD, List.getElem?_drop]
theorem take_snocI (l : List Int) (k : Nat) (h : k < l.length) : l.take (k + 1) = l.take k ++ [nthI l k] := by
  rw [List.take_succ_eq_append_getElem h, nthI_get h]
theorem drop_consI (l : List Int) (k : Nat) (h : k < l.length) : l.drop k = nthI l k :: l.drop (k + 1) := by
  rw [nthI_get h]; exact List.drop_eq_getElem_cons h


/-- WHERE A SLICE OF BYTES IS READ: at its address stand the bytes l. -/
def RdI (w : World) (a : Option Addr) (l : List Int) : Prop :=
  l = [] ∨ ∃ b off, a = some ⟨b, off, none⟩ ∧ b < w.heap.size ∧ ∀ i, i < l.length → w.cell? ⟨b, off + i, none⟩ = some (.int .i64 (nthI l i))

theorem RdI.below {w w' : World} {a : Option Addr} {l : List Int} (h : RdI w a l) (hb : Below w.heap.size w w') : RdI w' a l := by
  rcases h with h | ⟨b, off, e, hlt, hc⟩
  · exact .inl h
  · exact .inr ⟨b, off, e, Nat.lt_of_lt_of_le hlt hb.size, fun i hi => (hb.cell (p := ⟨b, off + i, none⟩) hlt).trans (hc i hi)⟩
/-- Where there is an element there is an address. -/
theorem RdI.at_ {w : World} {a : Option Addr} {l : List Int} (h : RdI w a l) (hp : 0 < l.length) :
    ∃ b off, a = some ⟨b, off, none⟩ ∧ b < w.heap.size ∧ ∀ i, i < l.length → w.cell? ⟨b, off + i, none⟩ = some (.int .i64 (nthI l i)) := by
  rcases h with h | h
  · rw [h] at hp; simp at hp
  · exact h
theorem RdI.drop {w : World} {b off : Nat} {l : List Int} (h : RdI w (some ⟨b, off, none⟩) l) (k : Nat) : RdI w (some ⟨b, off + k, none⟩) (l.drop k) := by
  rcases h with h | ⟨b', off', e, hlt, hc⟩
  · left; simp [h]
  · obtain ⟨rfl, rfl⟩ : b = b' ∧ off = off' := by simpa using e
    right
    refine ⟨b, off + k, rfl, hlt, fun i hi => ?_⟩
    rw [List.length_drop] at hi
    rw [nthI_drop, Nat.add_assoc]
    exact hc (k + i) (by omega)


/-- A row of the call's own, read. -/
theorem RdI.own {w : World} {base e n cap : Nat} {a : Option Addr} {l : List Int} (h : w.ownsRow base e 1 (.slice a n cap) n (ic l)) : RdI w a l := by
  have hl : l.length = n := by simpa [ic_len] using h.1
  rcases h.2 with ⟨_, h0⟩ | ⟨g, cap', cur, h', _, hg, _, _, _, htake⟩
  · left; exact List.length_eq_zero_iff.1 (by omega)
  · simp only [Value.slice.injEq] at h'
    obtain ⟨rfl, _, rfl⟩ := h'
    right
    refine ⟨g, 0, rfl, ?_, fun i hi => ?_⟩
    · rcases Nat.lt_or_ge g w.heap.size with hlt | hge
      · exact hlt
      · simp [Array.getElem?_eq_none hge] at hg
    · rw [cell_of_row w g (0 + i) cur e (0, 0) hg, ← ic_get hi, ← htake, List.getElem?_take, if_pos (by omega)]
      simp


end Go.Proofs.YtaefomiofoakhaaGreatDoor

namespace Go.Proofs.YtaefomiofoakhaaGreatDoor
open Go.RowKit

theorem infoBI : (Tryz.prog.info? 2).map (fun i => (i.zero, i.size, i.bytes)) = some (some (.int .i64 0), 1, 8) := by kernel_rfl

end Go.Proofs.YtaefomiofoakhaaGreatDoor
