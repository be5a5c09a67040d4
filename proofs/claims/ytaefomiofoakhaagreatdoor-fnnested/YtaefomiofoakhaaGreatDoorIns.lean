/- The bytes of each part in a body, by its lines with the mark, the program's. -/
import Derived.Test.YtaefomiofoakhaaGreatDoorLnsToMemR
import Derived.Test.YtaefomiofoakhaaGreatDoorHdr2ToHdr5
namespace Go.Proofs.YtaefomiofoakhaaGreatDoor
open Go.RowKit Go.Shelf
attribute [local go_sem] Oper.semAt_some

/-- A region without a deferred call goes within a round as without one. -/
theorem wpOpsIn_round {F : Fence} {n : Nat} {P : Program} {ops : Array Oper} {Q : Exit → Act → World → Prop} (l : Nat) (hd : ∀ o ∈ ops.toList, ∀ c, o.op ≠ .defer c) : ∀ (order : List Nat) (a : Act) (w : World), F.round = none → wpOpsIn F n P ops Q order a w → wpOpsIn (F.inRound l) n P ops Q order a w
  | [], _, _, _, h => h
  | i :: rest, a, w, hro, h => by
    unfold wpOpsIn at h ⊢
    cases ho : ops[i]? with
    | none => rw [ho] at h; exact wpOpsIn_round l hd rest a w hro h
    | some o =>
      rw [ho] at h
      have hm : o ∈ ops.toList := by
        have h2 : ops.toList[i]? = some o := by rw [Array.getElem?_toList]; exact ho
        exact List.mem_of_getElem? h2
      simp only at h ⊢
      split
      · rename_i hw
        rw [if_pos hw] at h
        obtain ⟨h1, h2⟩ := h
        refine ⟨h1, ?_⟩
        have e1 : Oper.semAt (F.inRound l).round a.eval o = execOp a.eval o := Oper.semAt_some l _ _ (hd o hm)
        have e2 : Oper.semAt F.round a.eval o = execOp a.eval o := by rw [hro]; rfl
        rw [e1]
        rw [e2] at h2
        generalize (execOp a.eval o).run P w = r at h2
        have hn : ∀ a' w', wpOpsIn F n P ops Q rest a' w' → wpOpsIn (F.inRound l) n P ops Q rest a' w' := fun a' w' h => wpOpsIn_round l hd rest a' w' hro h
        cases r with
        | ok x w' =>
          cases x with
          | value v => exact hn _ _ h2
          | skip => exact hn _ _ h2
          | defer d => exact hn _ _ h2
          | enter f args =>
            refine ⟨h2.1, CallsIn.mono (show CallsIn F (n - 1) P f args w' _ from h2.2) (fun e w'' he => ?_)⟩
            cases e with
            | returned v => exact hn _ _ he
            | panicked c => exact he
            | outgrown => exact he
          | row r args => exact ⟨h2.1, RowsIn.mono (show RowsIn F (n - 1) P r args w' _ from h2.2) (fun v w'' he => hn _ _ he)⟩
          | round l2 f tm asg bd =>
            refine ⟨h2.1, RoundIn.mono (show RoundIn F (n - 1) P l2 f tm asg bd w' _ from h2.2) (fun e w'' he => ?_)⟩
            cases e with
            | returned v => exact hn _ _ he
            | panicked c => exact he
            | outgrown => exact he
          | _ => exact h2
        | halt x w' => cases x <;> exact h2
      · rename_i hw
        rw [if_neg hw] at h
        exact ⟨h.1, wpOpsIn_round l hd rest _ w hro h.2⟩
theorem wpIn_region_anyR {F : Fence} {n : Nat} {P : Program} {ops : Array Oper} {Q : Exit → Act → World → Prop} {id : Nat} {a : Act} {w : World} (l : Nat) (hro : F.round = none) (hm : P.follows .mixedOrders = true) (hd : ∀ o ∈ ops.toList, ∀ c, o.op ≠ .defer c)
    (h : wpAnyIn F n P .any ops Q ops.size (Array.replicate ops.size false) a { w with drawn := w.drawn + 1 }) : (Code.region id ops true).wpIn (F.inRound l) n P Q a w :=
  wpIn_region_draw fun t => by
    simp only [Region.schedule, hm, Bool.true_or, if_true]
    exact wpOpsIn_round l hd _ _ _ hro (wpAnyIn_sound ops.size t _ a _ h)
/-- The last range ends ahead of a line. -/
def clsL (acc : List RngP) (x : Line) : List RngP := acc.set (acc.length - 1) ((nthR acc (acc.length - 1)).1, max (nthR acc (acc.length - 1)).1 (wrap64 (x.2.1 - 1)))
/-- What a line makes of the ranges ahead. -/
def stpL (bg en : ByteArray) (L : Int) (acc : List RngP) (x : Line) : List RngP := if x.1 = en then clsL acc x else if x.1 = bg then clsL acc x ++ [(x.2.2, L)] else acc
/-- The lines up to the one that ends them. -/
def upE (en : ByteArray) : List Line → List Line
  | [] => []
  | x :: r => if x.1 = en then [x] else x :: upE en r
theorem upE_none {en : ByteArray} : ∀ {xs : List Line}, (∀ y ∈ xs, y.1 ≠ en) → upE en xs = xs
  | [], _ => rfl
  | x :: r, h => by rw [upE, if_neg (h x (by simp)), upE_none (fun y hy => h y (by simp [hy]))]
theorem upE_pre {en : ByteArray} {x : Line} {r : List Line} (hx : x.1 = en) : ∀ {p : List Line}, (∀ y ∈ p, y.1 ≠ en) → upE en (p ++ x :: r) = p ++ [x]
  | [], _ => by rw [List.nil_append, upE, if_pos hx]; rfl
  | y :: p, h => by rw [List.cons_append, upE, if_neg (h y (by simp)), upE_pre hx (fun z hz => h z (by simp [hz]))]; rfl
/-- The ranges that lines tell. -/
def spL (bg en : ByteArray) (L : Int) (xs : List Line) : List RngP := (upE en xs).foldl (stpL bg en L) []
theorem clsL_nil (x : Line) : clsL [] x = [] := rfl
theorem clsL_len (acc : List RngP) (x : Line) : (clsL acc x).length = acc.length := by unfold clsL; rw [List.length_set]
theorem stpL_len (bg en : ByteArray) (L : Int) (acc : List RngP) (x : Line) : (stpL bg en L acc x).length ≤ acc.length + 1 := by
  unfold stpL
  split
  · rw [clsL_len]; omega
  · split
    · rw [List.length_append, clsL_len]; simp
    · omega
theorem fold_len (bg en : ByteArray) (L : Int) : ∀ (xs : List Line) (acc : List RngP), (xs.foldl (stpL bg en L) acc).length ≤ acc.length + xs.length
  | [], acc => by simp
  | x :: r, acc => by
    rw [List.foldl_cons, List.length_cons]
    have h1 := fold_len bg en L r (stpL bg en L acc x)
    have h2 := stpL_len bg en L acc x
    omega
theorem lns_len (d : List Nat) : (lns d).length ≤ d.length := by
  have key : ∀ f k, (lnsF d f k).length ≤ f := by
    intro f
    induction f with
    | zero => intro k; simp [lnsF]
    | succ f ih =>
      intro k
      by_cases hk : k < d.length
      · rw [lnsF_yes hk, List.length_cons]; have := ih (nxL d k); omega
      · rw [lnsF_no hk]; simp
  exact key _ _
theorem LnAt.keptR {W W' : World} {B : Nat} {x : Line} {row : Option Nat} (h : LnAt W B x) (hg : W.grownBy W' row) (hne : some B ≠ row) : LnAt W' B x := by
  unfold LnAt
  rw [hg.block B h.lt hne]; exact h

theorem rc_setV : ∀ (l : List RngP) (i : Nat) (y : Int), i < l.length → (rc l).set (i * 2 + 1) (.int .i64 y) = rc (l.set i ((nthR l i).1, y))
  | [], i, y, h => by simp at h
  | p :: l, 0, y, h => by simp [rc, nthR]
  | p :: l, i + 1, y, h => by
    have ih := rc_setV l i y (by simpa using h)
    have e : nthR (p :: l) (i + 1) = nthR l i := by simp [nthR]
    have e2 : (p :: l).set (i + 1) ((nthR l i).1, y) = p :: l.set i ((nthR l i).1, y) := rfl
    rw [rc_cons, e, e2, rc_cons, show (i + 1) * 2 + 1 = (i * 2 + 1) + 1 + 1 by omega, List.set_cons_succ, List.set_cons_succ, ih]
theorem boxAfter {W w1 : World} {B B' : Nat} {t e : TypeId} {v u : Value} {tmp : Obj} {base size k : Nat} {xs : List Value} (h : Boxed W B t u) (hte : t ≠ e) (hrow : W.ownsRow base e size v k xs) (hgrow : (W.alloc tmp).grownBy w1 v.ownBlock) (hne : B ≠ B') (v' : Value) : Boxed (w1.setCell ⟨B', 0, none⟩ v') B t u :=
  ((h.alloc tmp).kept hgrow (h.not_row hte hrow)).other hne v'
theorem rc_snoc (l : List RngP) (x y : Int) : rc (l ++ [(x, y)]) = rc l ++ [.int .i64 x, .int .i64 y] := by rw [rc_app]; rfl
theorem new_two (W : World) (x y : Value) (t : TypeId) : ∀ j u, [x, y][j]? = some u → (W.alloc (.cells #[x, y] t)).cell? ((⟨W.heap.size, 0, none⟩ : Addr).add j) = some u := by
  intro j u hj
  have e : (⟨W.heap.size, 0, none⟩ : Addr).add j = ⟨W.heap.size, j, none⟩ := by rw [Go.WideShapes.add_plain, Nat.zero_add]
  rw [e, World.cell?_alloc_mark, ← Array.getElem?_toList]
  exact hj

theorem new_twoS {W : World} {s : Nat} (e : W.heap.size = s) (x y : Value) (t : TypeId) : ∀ j u, [x, y][j]? = some u → (W.alloc (.cells #[x, y] t)).cell? ((⟨s, 0, none⟩ : Addr).add j) = some u := by
  subst e
  exact new_two W x y t

set_option maxRecDepth 100000 in
set_option maxHeartbeats 8000000 in
theorem innerSpans_any (a : Option Addr) (m cap : Nat) (d : List Nat) (mk bg en : ByteArray) (w : World) (hl : d.length = m) (hr : Rd w a d) (hB : IsB d) (hm : m ≤ 400) (hcap : m ≤ cap) (ha : 0 < m → ∃ b off, a = some ⟨b, off, none⟩) (hmk : mk.size ≤ 1000) (hbg : ⟨#[45, 45]⟩ ++ mk = bg) (hen : bg ++ ⟨#[45, 45]⟩ = en) :
    Calls Tryz.prog 30 #[.slice a m cap, .string mk] w fun e w' => ∃ v, e = .returned v ∧ OwnR w' w.heap.size v (spL bg en (m : Int) (lns d)) ∧ Below w.heap.size w w' := by
  refine (callsIn_wide (n := 4)).1 ?_
  obtain ⟨i0, hi, hz0, hz1, hz2⟩ := info_parts infoR
  refine callsIn_of_wp_marks Tryz.func30 rfl trivial ?_ rfl
  simp only [Tryz.ntmps30, List.size_toArray, List.length_cons, List.length_nil, Nat.reduceAdd, Nat.reduceSub, Array.replicate_succ, Array.replicate_zero, List.push_toArray, List.append_toArray, List.nil_append, List.cons_append]
  have hcat1 : ¬ 9223372036854775807 < 2 + mk.size := by omega
  have hcat2 : ¬ 9223372036854775807 < 2 + mk.size + 2 := by omega
  have hbs : bg.size = 2 + mk.size := by rw [← hbg, ByteArray.size_append]; rfl
  have hcat3 : ¬ 9223372036854775807 < bg.size + 2 := by omega
  have hbe : bg ≠ en := fun e => by
    have := congrArg ByteArray.size e
    rw [← hen, ByteArray.size_append] at this
    have h2 : (⟨#[45, 45]⟩ : ByteArray).size = 2 := rfl
    omega
  have hlns := lns_len d
  gi_wp2_with (first | (gi_at_call 50; refine (callsIn_wide.2 (linesOf_any a m cap _)).mono ?_; rintro e w' ⟨rfl, rfl⟩) | (refine ⟨trivial, ?_⟩; gi_at_call 50; refine (callsIn_wide.2 (linesOf_any a m cap _)).mono ?_; rintro e w' ⟨rfl, rfl⟩))
  obtain ⟨W0, hW0⟩ : ∃ W0, ((((w.alloc (.cells #[.slice a m cap] 22)).alloc (.cells #[.string bg] 9)).alloc (.cells #[.string en] 9)).alloc (.cells #[.slice none 0 0] 66)).alloc (.cells #[.slice a m cap] 22) = W0 := ⟨_, rfl⟩
  have hz : W0.heap.size = w.heap.size + 1 + 1 + 1 + 1 + 1 := by rw [← hW0]; simp
  have hB0 : Below w.heap.size w W0 := by rw [← hW0]; exact (((((Below.refl _ w).alloc (Nat.le_refl _) _).alloc (by simp) _).alloc (by simp; omega) _).alloc (by simp; omega) _).alloc (by simp; omega) _
  have b0 : Boxed W0 w.heap.size 22 (.slice a m cap) := by rw [← hW0]; exact ((((Boxed.new w _ _).alloc _).alloc _).alloc _).alloc _
  have b1 : Boxed W0 (w.heap.size + 1) 9 (.string bg) := by
    have h := Boxed.new (w.alloc (.cells #[.slice a m cap] 22)) 9 (.string bg)
    rw [World.size_alloc] at h
    rw [← hW0]; exact ((h.alloc _).alloc _).alloc _
  have b2 : Boxed W0 (w.heap.size + 1 + 1) 9 (.string en) := by
    have h := Boxed.new ((w.alloc (.cells #[.slice a m cap] 22)).alloc (.cells #[.string bg] 9)) 9 (.string en)
    rw [World.size_alloc, World.size_alloc] at h
    rw [← hW0]; exact (h.alloc _).alloc _
  have b3 : Boxed W0 (w.heap.size + 1 + 1 + 1) 66 (.slice none 0 0) := by
    have h := Boxed.new (((w.alloc (.cells #[.slice a m cap] 22)).alloc (.cells #[.string bg] 9)).alloc (.cells #[.string en] 9)) 66 (.slice none 0 0)
    rw [World.size_alloc, World.size_alloc, World.size_alloc] at h
    rw [← hW0]; exact h.alloc _
  have b4 : Boxed W0 (w.heap.size + 1 + 1 + 1 + 1) 22 (.slice a m cap) := by
    have h := Boxed.new ((((w.alloc (.cells #[.slice a m cap] 22)).alloc (.cells #[.string bg] 9)).alloc (.cells #[.string en] 9)).alloc (.cells #[.slice none 0 0] 66)) 22 (.slice a m cap)
    rw [World.size_alloc, World.size_alloc, World.size_alloc, World.size_alloc] at h
    rw [← hW0]; exact h
  have hr0 : Rd W0 a d := hr.below hB0
  rw [hW0]
  clear hW0
  have hKc : ∀ W W', (Below w.heap.size W W' ∧ W'.heap[w.heap.size + 1 + 1 + 1 + 1]? = W.heap[w.heap.size + 1 + 1 + 1 + 1]?) → W'.cell? ⟨w.heap.size + 1 + 1 + 1 + 1, 0, none⟩ = W.cell? ⟨w.heap.size + 1 + 1 + 1 + 1, 0, none⟩ := fun W W' h => World.cell?_of_block h.2
  have hKr : ∀ W W', (Below w.heap.size W W' ∧ W'.heap[w.heap.size + 1 + 1 + 1 + 1]? = W.heap[w.heap.size + 1 + 1 + 1 + 1]?) → Rd W a d → Rd W' a d := by
    intro W W' h hrd
    rcases hr with h0 | ⟨b, off, rfl, hb, -⟩
    · exact .inl h0
    · exact rd_belowL h.1 hrd (fun b' o' e => by cases e; omega)
  refine wpIn_rangeFunc_ownH rfl (by omega) (gf := 72) (lb := #[.pointer (some ⟨w.heap.size + 1 + 1 + 1 + 1, 0, none⟩)]) rfl trivial (enters_of Tryz.func72 (by kernel_rfl) rfl)
    (lines_stops 3 (w.heap.size + 1 + 1 + 1 + 1) m cap (by omega) a d (fun W W' => Below w.heap.size W W' ∧ W'.heap[w.heap.size + 1 + 1 + 1 + 1]? = W.heap[w.heap.size + 1 + 1 + 1 + 1]?) W0 hKc hKr b4.cell (by omega) ha hl hr0 hB (by omega) hcap)
    (fun h1 h2 => ⟨h1.1.trans h2.1, h2.2.trans h1.2⟩) (fun W l o o' hl' h hc hw => ⟨belowK_b (w := W0) (by omega) W l o o' hl' h hc hw, World.putObj_heap_other (by omega)⟩) (Below.refl _ _) (fun _ => rfl)
    (fun pre W => ((∃ v, Boxed W (w.heap.size + 1 + 1 + 1) 66 v ∧ W.ownsRow w.heap.size 48 2 v (pre.foldl (stpL bg en (m : Int)) []).length (rc (pre.foldl (stpL bg en (m : Int)) [])) ∧ ∀ y ∈ pre, y.1 ≠ en) ∧ (Boxed W w.heap.size 22 (.slice a m cap) ∧ Boxed W (w.heap.size + 1) 9 (.string bg) ∧ Boxed W (w.heap.size + 1 + 1) 9 (.string en) ∧ Boxed W (w.heap.size + 1 + 1 + 1 + 1) 22 (.slice a m cap) ∧ w.heap.size + 1 + 1 + 1 + 1 + 1 ≤ W.heap.size)) ∧ Below w.heap.size w W)
    (fun c pre W => ((∃ v, Boxed W (w.heap.size + 1 + 1 + 1) 66 v ∧ W.ownsRow w.heap.size 48 2 v (pre.foldl (stpL bg en (m : Int)) []).length (rc (pre.foldl (stpL bg en (m : Int)) [])) ∧ ∃ p y, pre = p ++ [y] ∧ y.1 = en ∧ ∀ z ∈ p, z.1 ≠ en) ∧ c = .exit 0) ∧ Below w.heap.size w W)
    (OwnFrom.and (OwnFrom.and (Own.from (holdsRow_own w.heap.size (w.heap.size + 1 + 1 + 1) 66 48 2 (fun (pre : List Line) => (pre.foldl (stpL bg en (m : Int)) []).length) (fun (pre : List Line) => rc (pre.foldl (stpL bg en (m : Int)) [])) (fun (pre : List Line) _ => ∀ y ∈ pre, y.1 ≠ en)) _)
      (fun s A B row hs hg hr => ⟨boxed_own _ _ (fun (_ : List Line) => Value.slice a m cap) s A B row hs.1 hg (fun r e => (hr r e).2), boxed_own _ _ (fun (_ : List Line) => Value.string bg) s A B row hs.2.1 hg (fun r e => (hr r e).2), boxed_own _ _ (fun (_ : List Line) => Value.string en) s A B row hs.2.2.1 hg (fun r e => (hr r e).2), boxed_own _ _ (fun (_ : List Line) => Value.slice a m cap) s A B row hs.2.2.2.1 hg (fun r e => (hr r e).2), Nat.le_trans hs.2.2.2.2 hg.size⟩)) (ownFrom_below (Nat.le_refl _) (by omega)))
    (fun c => OwnFrom.and (OwnFrom.and (Own.from (holdsRow_own w.heap.size (w.heap.size + 1 + 1 + 1) 66 48 2 (fun (pre : List Line) => (pre.foldl (stpL bg en (m : Int)) []).length) (fun (pre : List Line) => rc (pre.foldl (stpL bg en (m : Int)) [])) (fun (pre : List Line) _ => ∃ p y, pre = p ++ [y] ∧ y.1 = en ∧ ∀ z ∈ p, z.1 ≠ en)) _) (fun s A B row hs hg hr => hs)) (ownFrom_below (Nat.le_refl _) (by omega)))
    ⟨⟨⟨_, b3, World.ownsRow_nil _ _ _ _, by simp⟩, b0, b1, b2, b4, by omega⟩, hB0⟩
    (fun x a' W => ∃ Bx, w.heap.size + 1 + 1 + 1 + 1 < Bx ∧ LnAt W Bx x ∧ a' = { tmps := #[.slice a m cap, .string mk, .pointer (some ⟨w.heap.size, 0, none⟩), undef, .slice none 0 0, .pointer (some ⟨w.heap.size + 1, 0, none⟩), .pointer (some ⟨w.heap.size + 1 + 1, 0, none⟩), .pointer (some ⟨w.heap.size + 1 + 1 + 1, 0, none⟩), .pointer (some ⟨Bx, 0, none⟩), undef, .string mk, .string bg, .string bg, .string en, .slice a m cap, .func (.func 72) #[] #[.pointer (some ⟨w.heap.size + 1 + 1 + 1 + 1, 0, none⟩)], .agg #[.string x.1, .int .i64 x.2.1, .int .i64 x.2.2], undef, undef, undef, undef, undef, undef, undef, undef, undef, undef, undef, undef, undef, undef, undef, undef, undef, undef, undef, undef, undef, undef, undef, undef, undef, undef, undef, undef, undef, undef, undef, undef, undef, undef, undef, undef, undef, undef, undef, undef, undef, undef], defers := [] })
    (fun x a' _ X Y row hs hg hr => by obtain ⟨Bx, h1, h2, h3⟩ := hs; exact ⟨Bx, h1, h2.kept hg (fun r e => (hr r e).2), h3⟩)
    ?assign ?body ?done ?stop
  case assign =>
    rintro l pre x W K ⟨⟨⟨v, hv, hrow, hp⟩, c0, c1, c2, c4, hsz⟩, hB1⟩ hK
    dsimp only [encL]
    gi_wp2
    exact hK _ _ ((KeepsOthers.alloc _ _).from _) ⟨(Below.refl _ W).alloc hB1.size _, Below.heap_alloc W _ _ (by omega)⟩ ⟨⟨⟨v, hv.alloc _, hrow.alloc _, hp⟩, c0.alloc _, c1.alloc _, c2.alloc _, c4.alloc _, by simp; omega⟩, hB1.alloc hB1.size _⟩ ⟨W.heap.size, by omega, heap_alloc_new W _, rfl⟩
  case body =>
    rintro l pre x a' W hl' ⟨r, hrl⟩ ⟨⟨⟨v, hv, hrow, hp⟩, c0, c1, c2, c4, hsz⟩, hB1⟩ ⟨Bx, hBx, hLn, rfl⟩ hlt
    obtain ⟨l0, l1, l2⟩ := hLn.cells
    have k0 := c0.cell
    have k1 := c1.cell
    have k2 := c2.cell
    have hac := fold_len bg en (m : Int) pre []
    simp only [List.length_nil, Nat.zero_add] at hac
    have HF : Hid ((pre ++ [x]).foldl (stpL bg en (m : Int)) [] = stpL bg en (m : Int) (pre.foldl (stpL bg en (m : Int)) []) x) := by show _ = _; rw [List.foldl_append]; rfl
    generalize pre.foldl (stpL bg en (m : Int)) [] = acc at *
    have hmx : Tryz.prog.follows .mixedOrders = true := by kernel_rfl
    by_cases hxe : x.1 = en
    · have HS : Hid (stpL bg en (m : Int) acc x = clsL acc x) := if_pos hxe
      have e1 : (en.toList == bg.toList) = false := texts_ne (fun e => hbe e.symm)
      by_cases hz : acc.length = 0
      · rw [hxe] at l0
        have ha0 : acc = [] := List.eq_nil_of_length_eq_zero hz
        subst ha0
        obtain ⟨av, cv, rfl, -, -⟩ := OwnR.form hrow
        have hc := hv.cell
        gi_wp2
        exact ⟨KeepsFrom.refl _ _, ⟨⟨_, hv, by rw [HF.out, HS.out]; exact hrow, pre, x, rfl, hxe, hp⟩, rfl⟩, hB1⟩
      · skip
        obtain ⟨k, hk⟩ : ∃ k, acc.length = k + 1 := ⟨acc.length - 1, by omega⟩
        have hrow2 := hrow
        rw [hk] at hrow2
        obtain ⟨g, cv, rfl⟩ := ownsRow_succ hrow2
        have hgw : w.heap.size ≤ g := (World.ownsRow.lt hrow2 g rfl).1
        have hc := hv.cell
        obtain ⟨r1, r2⟩ := rc_get acc k (by omega)
        have hcf : W.cell? ⟨g, k * 2, none⟩ = some (.int .i64 (nthR acc k).1) := by rw [hrow2.cellAt (k * 2) (by omega)]; exact r1
        have hct : W.cell? ⟨g, k * 2 + 1, none⟩ = some (.int .i64 (nthR acc k).2) := by rw [hrow2.cellAt (k * 2 + 1) (by omega)]; exact r2
        have hft := hrow2.frozenAt (k * 2 + 1)
        obtain ⟨hst, hgr⟩ := hrow2.stored (k * 2 + 1) (.int .i64 (max (nthR acc k).1 (wrap64 (x.2.1 - 1))))
        rw [rc_setV acc k _ (by omega)] at hst
        have hst : (W.setCell ⟨g, k * 2 + 1, none⟩ (.int .i64 (max (nthR acc k).1 (wrap64 (x.2.1 - 1))))).drew.ownsRow w.heap.size 48 2 (.slice (some ⟨g, 0, none⟩) (k + 1) cv) (k + 1) _ := hst
        have HC : Hid (clsL acc x = acc.set k ((nthR acc k).1, max (nthR acc k).1 (wrap64 (x.2.1 - 1)))) := by show _ = _; unfold clsL; rw [hk]; rfl
        have hki : (k : Int) < (k : Int) + 1 := by omega
        have hv3 : Boxed (W.setCell ⟨g, k * 2 + 1, none⟩ (.int .i64 (max (nthR acc k).1 (wrap64 (x.2.1 - 1))))).drew (w.heap.size + 1 + 1 + 1) 66 (.slice (some ⟨g, 0, none⟩) (k + 1) cv) := by have h := hv.kept hgr (by have := hv.not_row (by decide) hrow2; exact this); exact h
        have c03 : Boxed (W.setCell ⟨g, k * 2 + 1, none⟩ (.int .i64 (max (nthR acc k).1 (wrap64 (x.2.1 - 1))))).drew w.heap.size 22 (.slice a m cap) := by have h := c0.kept hgr (by have := c0.not_row (by decide) hrow2; exact this); exact h
        have c13 : Boxed (W.setCell ⟨g, k * 2 + 1, none⟩ (.int .i64 (max (nthR acc k).1 (wrap64 (x.2.1 - 1))))).drew (w.heap.size + 1) 9 (.string bg) := by have h := c1.kept hgr (by have := c1.not_row (by decide) hrow2; exact this); exact h
        have c23 : Boxed (W.setCell ⟨g, k * 2 + 1, none⟩ (.int .i64 (max (nthR acc k).1 (wrap64 (x.2.1 - 1))))).drew (w.heap.size + 1 + 1) 9 (.string en) := by have h := c2.kept hgr (by have := c2.not_row (by decide) hrow2; exact this); exact h
        have c43 : Boxed (W.setCell ⟨g, k * 2 + 1, none⟩ (.int .i64 (max (nthR acc k).1 (wrap64 (x.2.1 - 1))))).drew (w.heap.size + 1 + 1 + 1 + 1) 22 (.slice a m cap) := by have h := c4.kept hgr (by have := c4.not_row (by decide) hrow2; exact this); exact h
        have hBd : Below w.heap.size W (W.setCell ⟨g, k * 2 + 1, none⟩ (.int .i64 (max (nthR acc k).1 (wrap64 (x.2.1 - 1))))).drew := ((Below.refl _ W).setCell (p := ⟨g, k * 2 + 1, none⟩) hgw _).drew
        have hKd : KeepsOthers W (W.setCell ⟨g, k * 2 + 1, none⟩ (.int .i64 (max (nthR acc k).1 (wrap64 (x.2.1 - 1))))).drew := (KeepsOthers.setCell _ _ _).trans (KeepsOthers.drew _)
        have hLn2 := hLn.keptR hgr (by
          intro e
          have hgb : some Bx = some g := e
          cases hgb
          have h1 := hLn
          unfold LnAt at h1
          have h2 := hrow2.cellAt 0 (by omega)
          rcases hrow2.2 with ⟨h3, _⟩ | ⟨g2, cap2, cur2, h3, _, h4, _⟩
          · cases h3
          · cases h3
            rw [h1] at h4
            simp at h4)
        have hLn3 : LnAt (W.setCell ⟨g, k * 2 + 1, none⟩ (.int .i64 (max (nthR acc k).1 (wrap64 (x.2.1 - 1))))).drew Bx x := hLn2
        obtain ⟨l03, l13, l23⟩ := hLn3.cells
        have k03 := c03.cell
        have k13 := c13.cell
        have k23 := c23.cell
        have hc3 := hv3.cell
        have hlen3 : (acc.set k ((nthR acc k).1, max (nthR acc k).1 (wrap64 (x.2.1 - 1)))).length = k + 1 := by rw [List.length_set]; exact hk
        generalize (nthR acc k).1 = fr at *
        generalize (nthR acc k).2 = tt2 at *
        rw [hxe] at l0 l03
        gi_wp2
        refine wpIn_region_anyR (F := Fence.wide) l rfl hmx (by intro o ho c hc; simp only [List.mem_cons, List.not_mem_nil, or_false] at ho; rcases ho with rfl | rfl | rfl | rfl | rfl | rfl | rfl | rfl | rfl | rfl | rfl | rfl <;> cases hc) ?_
        refine wpAnyIn_take (i := 0) (v := ?_) rfl rfl (by kernel_rfl) (by kernel_rfl) (by kernel_rfl) (fun _ _ _ h => h) ⟨Or.inl ⟨by rfl, ?jy501⟩, fun _ => rfl⟩ ?kz501
        case jy501 => (intro w; go_simp; all_goals with_reducible rfl)
        simp only [Act.put, List.getElem_toArray, List.getElem_cons_zero, List.setIfInBounds_toArray, List.set_cons_zero, List.set_cons_succ]
        refine wpAnyIn_take (i := 1) (v := ?_) rfl rfl (by kernel_rfl) (by kernel_rfl) (by kernel_rfl) (fun _ _ _ h => h) ⟨Or.inl ⟨by rfl, ?jy502⟩, fun _ => rfl⟩ ?kz502
        case jy502 => (intro w; go_simp; all_goals with_reducible rfl)
        simp only [Act.put, List.getElem_toArray, List.getElem_cons_zero, List.getElem_cons_succ, List.setIfInBounds_toArray, List.set_cons_zero, List.set_cons_succ]
        refine wpAnyIn_take (i := 2) (v := ?_) rfl rfl (by kernel_rfl) (by kernel_rfl) (by kernel_rfl) (fun _ _ _ h => h) ⟨Or.inl ⟨by rfl, ?jy503⟩, fun _ => rfl⟩ ?kz503
        case jy503 => (intro w; go_simp; all_goals with_reducible rfl)
        simp only [Act.put, List.getElem_toArray, List.getElem_cons_zero, List.getElem_cons_succ, List.setIfInBounds_toArray, List.set_cons_zero, List.set_cons_succ]
        refine wpAnyIn_take (i := 3) (v := ?_) rfl rfl (by kernel_rfl) (by kernel_rfl) (by kernel_rfl) (fun _ _ _ h => h) ⟨Or.inl ⟨by rfl, ?jy504⟩, fun _ => rfl⟩ ?kz504
        case jy504 => (intro w; go_simp; all_goals with_reducible rfl)
        simp only [Act.put, List.getElem_toArray, List.getElem_cons_zero, List.getElem_cons_succ, List.setIfInBounds_toArray, List.set_cons_zero, List.set_cons_succ]
        refine wpAnyIn_take (i := 5) (v := ?_) rfl rfl (by kernel_rfl) (by kernel_rfl) (by kernel_rfl) (fun _ _ _ h => h) ⟨Or.inl ⟨by rfl, ?jy505⟩, fun _ => rfl⟩ ?kz505
        case jy505 => (intro w; go_simp; all_goals with_reducible rfl)
        simp only [Act.put, List.getElem_toArray, List.getElem_cons_zero, List.getElem_cons_succ, List.setIfInBounds_toArray, List.set_cons_zero, List.set_cons_succ]
        refine wpAnyIn_ready (rs := [4, 6]) (by kernel_rfl) (by simp) ?_
        refine AllReadyIn.cons rfl (fun K hK => ?_) (AllReadyIn.cons rfl (fun K hK => ?_) AllReadyIn.nil)
        · go_simp
          refine hK _ _ ?_
          clear hK K
          refine wpAnyIn_ready (rs := [6]) (by kernel_rfl) (by simp) ?_
          refine AllReadyIn.cons rfl (fun K hK => ?_) AllReadyIn.nil
          go_simp
          refine hK _ _ ?_
          clear hK K
          refine wpAnyIn_take (i := 7) (v := .int .i64 (wrap64 (x.2.1 - 1))) rfl rfl (by kernel_rfl) (by kernel_rfl) (by kernel_rfl) (fun _ _ _ h => h) ⟨Or.inl ⟨by rfl, ?jy506⟩, fun _ => rfl⟩ ?kz506
          case jy506 => (intro w; go_simp; all_goals first | rfl | exact Go.IntWalk.i64_left _)
          simp only [Act.put, List.getElem_toArray, List.getElem_cons_zero, List.getElem_cons_succ, List.setIfInBounds_toArray, List.set_cons_zero, List.set_cons_succ]
          refine wpAnyIn_take (i := 8) (v := .int .i64 (max fr (wrap64 (x.2.1 - 1)))) rfl rfl (by kernel_rfl) (by kernel_rfl) (by kernel_rfl) (fun _ _ _ h => h) ⟨Or.inl ⟨by rfl, ?jy507⟩, fun _ => rfl⟩ ?kz507
          case jy507 => (intro w; go_simp; all_goals first | rfl | exact Go.IntWalk.i64_left _)
          simp only [Act.put, List.getElem_toArray, List.getElem_cons_zero, List.getElem_cons_succ, List.setIfInBounds_toArray, List.set_cons_zero, List.set_cons_succ]
          refine wpAnyIn_take (i := 9) (v := ?_) rfl rfl (by kernel_rfl) (by kernel_rfl) (by kernel_rfl) (fun _ _ _ h => h) ⟨Or.inl ⟨by rfl, ?jy508⟩, fun _ => rfl⟩ ?kz508
          case jy508 => (intro w; go_simp; all_goals with_reducible rfl)
          simp only [Act.put, List.getElem_toArray, List.getElem_cons_zero, List.getElem_cons_succ, List.setIfInBounds_toArray, List.set_cons_zero, List.set_cons_succ]
          refine wpAnyIn_take (i := 10) (v := ?_) rfl rfl (by kernel_rfl) (by kernel_rfl) (by kernel_rfl) (fun _ _ _ h => h) ⟨Or.inl ⟨by rfl, ?jy509⟩, fun _ => rfl⟩ ?kz509
          case jy509 => (intro w; go_simp; all_goals with_reducible rfl)
          simp only [Act.put, List.getElem_toArray, List.getElem_cons_zero, List.getElem_cons_succ, List.setIfInBounds_toArray, List.set_cons_zero, List.set_cons_succ]
          refine wpAnyIn_ready (rs := [11]) (by kernel_rfl) (by simp) ?_
          refine AllReadyIn.cons rfl (fun K hK => ?_) AllReadyIn.nil
          go_simp
          refine hK _ _ ?_
          clear hK K
          refine wpAnyIn_done (by kernel_rfl) ?_ _
          gi_wp2
          exact ⟨hKd.from _, ⟨⟨_, hv3, by rw [HF.out, HS.out, HC.out, hlen3]; exact hst, pre, x, rfl, hxe, hp⟩, rfl⟩, hB1.trans hBd⟩
        · go_simp
          refine hK _ _ ?_
          clear hK K
          refine wpAnyIn_take (i := 7) (v := .int .i64 (wrap64 (x.2.1 - 1))) rfl rfl (by kernel_rfl) (by kernel_rfl) (by kernel_rfl) (fun _ _ _ h => h) ⟨Or.inl ⟨by rfl, ?jy510⟩, fun _ => rfl⟩ ?kz510
          case jy510 => (intro w; go_simp; all_goals first | rfl | exact Go.IntWalk.i64_left _)
          simp only [Act.put, List.getElem_toArray, List.getElem_cons_zero, List.getElem_cons_succ, List.setIfInBounds_toArray, List.set_cons_zero, List.set_cons_succ]
          refine wpAnyIn_ready (rs := [4]) (by kernel_rfl) (by simp) ?_
          refine AllReadyIn.cons rfl (fun K hK => ?_) AllReadyIn.nil
          go_simp
          refine hK _ _ ?_
          clear hK K
          refine wpAnyIn_take (i := 8) (v := .int .i64 (max fr (wrap64 (x.2.1 - 1)))) rfl rfl (by kernel_rfl) (by kernel_rfl) (by kernel_rfl) (fun _ _ _ h => h) ⟨Or.inl ⟨by rfl, ?jy511⟩, fun _ => rfl⟩ ?kz511
          case jy511 => (intro w; go_simp; all_goals first | rfl | exact Go.IntWalk.i64_left _)
          simp only [Act.put, List.getElem_toArray, List.getElem_cons_zero, List.getElem_cons_succ, List.setIfInBounds_toArray, List.set_cons_zero, List.set_cons_succ]
          refine wpAnyIn_take (i := 9) (v := ?_) rfl rfl (by kernel_rfl) (by kernel_rfl) (by kernel_rfl) (fun _ _ _ h => h) ⟨Or.inl ⟨by rfl, ?jy512⟩, fun _ => rfl⟩ ?kz512
          case jy512 => (intro w; go_simp; all_goals with_reducible rfl)
          simp only [Act.put, List.getElem_toArray, List.getElem_cons_zero, List.getElem_cons_succ, List.setIfInBounds_toArray, List.set_cons_zero, List.set_cons_succ]
          refine wpAnyIn_take (i := 10) (v := ?_) rfl rfl (by kernel_rfl) (by kernel_rfl) (by kernel_rfl) (fun _ _ _ h => h) ⟨Or.inl ⟨by rfl, ?jy513⟩, fun _ => rfl⟩ ?kz513
          case jy513 => (intro w; go_simp; all_goals with_reducible rfl)
          simp only [Act.put, List.getElem_toArray, List.getElem_cons_zero, List.getElem_cons_succ, List.setIfInBounds_toArray, List.set_cons_zero, List.set_cons_succ]
          refine wpAnyIn_ready (rs := [11]) (by kernel_rfl) (by simp) ?_
          refine AllReadyIn.cons rfl (fun K hK => ?_) AllReadyIn.nil
          go_simp
          refine hK _ _ ?_
          clear hK K
          refine wpAnyIn_done (by kernel_rfl) ?_ _
          gi_wp2
          exact ⟨hKd.from _, ⟨⟨_, hv3, by rw [HF.out, HS.out, HC.out, hlen3]; exact hst, pre, x, rfl, hxe, hp⟩, rfl⟩, hB1.trans hBd⟩
    · by_cases hxb : x.1 = bg
      · have HS : Hid (stpL bg en (m : Int) acc x = clsL acc x ++ [(x.2.2, (m : Int))]) := by show _ = _; unfold stpL; rw [if_neg hxe, if_pos hxb]
        have e1 : (bg.toList == en.toList) = false := texts_ne hbe
        have hpx : ∀ y ∈ pre ++ [x], y.1 ≠ en := fun y hy => (List.mem_append.1 hy).elim (hp y) (fun h => by simp at h; rw [h]; exact hxe)
        by_cases hz : acc.length = 0
        · rw [hxb] at l0
          have ha0 : acc = [] := List.eq_nil_of_length_eq_zero hz
          subst ha0
          obtain ⟨av, cv, rfl, -, -⟩ := OwnR.form hrow
          have hc := hv.cell
          gi_wp2_with (gi_at_builtin; refine wpListIn_append_own _ rfl _ _ 66 rfl w.heap.size 48 i0 zeroR 2 16 Tryz.underlying66 hi hz0 hz1 hz2 rfl (by decide) _ _ _ rfl (hrow.alloc _) ⟨W.heap.size, 0, none⟩ 1 1 [.int .i64 x.2.2, .int .i64 (m : Int)] rfl rfl (new_two _ _ _ _) (by simp [Value.oneCell']) (by unfold maxLen; omega) (by omega) (by simp; omega) ?_; intro v' w1 hown' hgrow _; obtain ⟨g', cap', rfl⟩ := ownsRow_succ hown'; obtain ⟨hv1, hv2, hr2, hk2, hb2⟩ := hv.appended (by decide) hrow (by have := hB1.size; simp; try omega) (by omega) hown' hgrow; have hc1 := hv1.cell; have hf1 := hv1.frozen)
          have n0 := boxAfter (B' := w.heap.size + 1 + 1 + 1) c0 (by decide) hrow hgrow (by omega) (.slice (some ⟨g', 0, none⟩) (0 + 1) cap')
          have n1 := boxAfter (B' := w.heap.size + 1 + 1 + 1) c1 (by decide) hrow hgrow (by omega) (.slice (some ⟨g', 0, none⟩) (0 + 1) cap')
          have n2 := boxAfter (B' := w.heap.size + 1 + 1 + 1) c2 (by decide) hrow hgrow (by omega) (.slice (some ⟨g', 0, none⟩) (0 + 1) cap')
          have n4 := boxAfter (B' := w.heap.size + 1 + 1 + 1) c4 (by decide) hrow hgrow (by omega) (.slice (some ⟨g', 0, none⟩) (0 + 1) cap')
          exact ⟨hk2.from _, ⟨hb2, n4.trans c4.symm⟩, ⟨⟨_, hv2, by rw [HF.out, HS.out, clsL_nil, rc_snoc]; exact hr2, hpx⟩, n0, n1, n2, n4, Nat.le_trans hsz hb2.size⟩, hB1.trans hb2⟩
        · skip
          obtain ⟨k, hk⟩ : ∃ k, acc.length = k + 1 := ⟨acc.length - 1, by omega⟩
          have hrow2 := hrow
          rw [hk] at hrow2
          obtain ⟨g, cv, rfl⟩ := ownsRow_succ hrow2
          have hgw : w.heap.size ≤ g := (World.ownsRow.lt hrow2 g rfl).1
          have hc := hv.cell
          obtain ⟨r1, r2⟩ := rc_get acc k (by omega)
          have hcf : W.cell? ⟨g, k * 2, none⟩ = some (.int .i64 (nthR acc k).1) := by rw [hrow2.cellAt (k * 2) (by omega)]; exact r1
          have hct : W.cell? ⟨g, k * 2 + 1, none⟩ = some (.int .i64 (nthR acc k).2) := by rw [hrow2.cellAt (k * 2 + 1) (by omega)]; exact r2
          have hft := hrow2.frozenAt (k * 2 + 1)
          obtain ⟨hst, hgr⟩ := hrow2.stored (k * 2 + 1) (.int .i64 (max (nthR acc k).1 (wrap64 (x.2.1 - 1))))
          rw [rc_setV acc k _ (by omega)] at hst
          have hst : (W.setCell ⟨g, k * 2 + 1, none⟩ (.int .i64 (max (nthR acc k).1 (wrap64 (x.2.1 - 1))))).drew.ownsRow w.heap.size 48 2 (.slice (some ⟨g, 0, none⟩) (k + 1) cv) (k + 1) _ := hst
          have HC : Hid (clsL acc x = acc.set k ((nthR acc k).1, max (nthR acc k).1 (wrap64 (x.2.1 - 1)))) := by show _ = _; unfold clsL; rw [hk]; rfl
          have hki : (k : Int) < (k : Int) + 1 := by omega
          have hv3 : Boxed (W.setCell ⟨g, k * 2 + 1, none⟩ (.int .i64 (max (nthR acc k).1 (wrap64 (x.2.1 - 1))))).drew (w.heap.size + 1 + 1 + 1) 66 (.slice (some ⟨g, 0, none⟩) (k + 1) cv) := by have h := hv.kept hgr (by have := hv.not_row (by decide) hrow2; exact this); exact h
          have c03 : Boxed (W.setCell ⟨g, k * 2 + 1, none⟩ (.int .i64 (max (nthR acc k).1 (wrap64 (x.2.1 - 1))))).drew w.heap.size 22 (.slice a m cap) := by have h := c0.kept hgr (by have := c0.not_row (by decide) hrow2; exact this); exact h
          have c13 : Boxed (W.setCell ⟨g, k * 2 + 1, none⟩ (.int .i64 (max (nthR acc k).1 (wrap64 (x.2.1 - 1))))).drew (w.heap.size + 1) 9 (.string bg) := by have h := c1.kept hgr (by have := c1.not_row (by decide) hrow2; exact this); exact h
          have c23 : Boxed (W.setCell ⟨g, k * 2 + 1, none⟩ (.int .i64 (max (nthR acc k).1 (wrap64 (x.2.1 - 1))))).drew (w.heap.size + 1 + 1) 9 (.string en) := by have h := c2.kept hgr (by have := c2.not_row (by decide) hrow2; exact this); exact h
          have c43 : Boxed (W.setCell ⟨g, k * 2 + 1, none⟩ (.int .i64 (max (nthR acc k).1 (wrap64 (x.2.1 - 1))))).drew (w.heap.size + 1 + 1 + 1 + 1) 22 (.slice a m cap) := by have h := c4.kept hgr (by have := c4.not_row (by decide) hrow2; exact this); exact h
          have hBd : Below w.heap.size W (W.setCell ⟨g, k * 2 + 1, none⟩ (.int .i64 (max (nthR acc k).1 (wrap64 (x.2.1 - 1))))).drew := ((Below.refl _ W).setCell (p := ⟨g, k * 2 + 1, none⟩) hgw _).drew
          have hKd : KeepsOthers W (W.setCell ⟨g, k * 2 + 1, none⟩ (.int .i64 (max (nthR acc k).1 (wrap64 (x.2.1 - 1))))).drew := (KeepsOthers.setCell _ _ _).trans (KeepsOthers.drew _)
          have hLn2 := hLn.keptR hgr (by
            intro e
            have hgb : some Bx = some g := e
            cases hgb
            have h1 := hLn
            unfold LnAt at h1
            have h2 := hrow2.cellAt 0 (by omega)
            rcases hrow2.2 with ⟨h3, _⟩ | ⟨g2, cap2, cur2, h3, _, h4, _⟩
            · cases h3
            · cases h3
              rw [h1] at h4
              simp at h4)
          have hLn3 : LnAt (W.setCell ⟨g, k * 2 + 1, none⟩ (.int .i64 (max (nthR acc k).1 (wrap64 (x.2.1 - 1))))).drew Bx x := hLn2
          obtain ⟨l03, l13, l23⟩ := hLn3.cells
          have k03 := c03.cell
          have k13 := c13.cell
          have k23 := c23.cell
          have hc3 := hv3.cell
          have hlen3 : (acc.set k ((nthR acc k).1, max (nthR acc k).1 (wrap64 (x.2.1 - 1)))).length = k + 1 := by rw [List.length_set]; exact hk
          generalize (nthR acc k).1 = fr at *
          generalize (nthR acc k).2 = tt2 at *
          rw [hxb] at l0 l03
          gi_wp2
          refine wpIn_region_anyR (F := Fence.wide) l rfl hmx (by intro o ho c hc; simp only [List.mem_cons, List.not_mem_nil, or_false] at ho; rcases ho with rfl | rfl | rfl | rfl | rfl | rfl | rfl | rfl | rfl | rfl | rfl | rfl <;> cases hc) ?_
          refine wpAnyIn_take (i := 0) (v := ?_) rfl rfl (by kernel_rfl) (by kernel_rfl) (by kernel_rfl) (fun _ _ _ h => h) ⟨Or.inl ⟨by rfl, ?jy1⟩, fun _ => rfl⟩ ?kz1
          case jy1 => (intro w; go_simp; all_goals with_reducible rfl)
          simp only [Act.put, List.getElem_toArray, List.getElem_cons_zero, List.setIfInBounds_toArray, List.set_cons_zero, List.set_cons_succ]
          refine wpAnyIn_take (i := 1) (v := ?_) rfl rfl (by kernel_rfl) (by kernel_rfl) (by kernel_rfl) (fun _ _ _ h => h) ⟨Or.inl ⟨by rfl, ?jy2⟩, fun _ => rfl⟩ ?kz2
          case jy2 => (intro w; go_simp; all_goals with_reducible rfl)
          simp only [Act.put, List.getElem_toArray, List.getElem_cons_zero, List.getElem_cons_succ, List.setIfInBounds_toArray, List.set_cons_zero, List.set_cons_succ]
          refine wpAnyIn_take (i := 2) (v := ?_) rfl rfl (by kernel_rfl) (by kernel_rfl) (by kernel_rfl) (fun _ _ _ h => h) ⟨Or.inl ⟨by rfl, ?jy3⟩, fun _ => rfl⟩ ?kz3
          case jy3 => (intro w; go_simp; all_goals with_reducible rfl)
          simp only [Act.put, List.getElem_toArray, List.getElem_cons_zero, List.getElem_cons_succ, List.setIfInBounds_toArray, List.set_cons_zero, List.set_cons_succ]
          refine wpAnyIn_take (i := 3) (v := ?_) rfl rfl (by kernel_rfl) (by kernel_rfl) (by kernel_rfl) (fun _ _ _ h => h) ⟨Or.inl ⟨by rfl, ?jy4⟩, fun _ => rfl⟩ ?kz4
          case jy4 => (intro w; go_simp; all_goals with_reducible rfl)
          simp only [Act.put, List.getElem_toArray, List.getElem_cons_zero, List.getElem_cons_succ, List.setIfInBounds_toArray, List.set_cons_zero, List.set_cons_succ]
          refine wpAnyIn_take (i := 5) (v := ?_) rfl rfl (by kernel_rfl) (by kernel_rfl) (by kernel_rfl) (fun _ _ _ h => h) ⟨Or.inl ⟨by rfl, ?jy5⟩, fun _ => rfl⟩ ?kz5
          case jy5 => (intro w; go_simp; all_goals with_reducible rfl)
          simp only [Act.put, List.getElem_toArray, List.getElem_cons_zero, List.getElem_cons_succ, List.setIfInBounds_toArray, List.set_cons_zero, List.set_cons_succ]
          refine wpAnyIn_ready (rs := [4, 6]) (by kernel_rfl) (by simp) ?_
          refine AllReadyIn.cons rfl (fun K hK => ?_) (AllReadyIn.cons rfl (fun K hK => ?_) AllReadyIn.nil)
          · go_simp
            refine hK _ _ ?_
            clear hK K
            refine wpAnyIn_ready (rs := [6]) (by kernel_rfl) (by simp) ?_
            refine AllReadyIn.cons rfl (fun K hK => ?_) AllReadyIn.nil
            go_simp
            refine hK _ _ ?_
            clear hK K
            refine wpAnyIn_take (i := 7) (v := .int .i64 (wrap64 (x.2.1 - 1))) rfl rfl (by kernel_rfl) (by kernel_rfl) (by kernel_rfl) (fun _ _ _ h => h) ⟨Or.inl ⟨by rfl, ?jy6⟩, fun _ => rfl⟩ ?kz6
            case jy6 => (intro w; go_simp; all_goals first | rfl | exact Go.IntWalk.i64_left _)
            simp only [Act.put, List.getElem_toArray, List.getElem_cons_zero, List.getElem_cons_succ, List.setIfInBounds_toArray, List.set_cons_zero, List.set_cons_succ]
            refine wpAnyIn_take (i := 8) (v := .int .i64 (max fr (wrap64 (x.2.1 - 1)))) rfl rfl (by kernel_rfl) (by kernel_rfl) (by kernel_rfl) (fun _ _ _ h => h) ⟨Or.inl ⟨by rfl, ?jy7⟩, fun _ => rfl⟩ ?kz7
            case jy7 => (intro w; go_simp; all_goals first | rfl | exact Go.IntWalk.i64_left _)
            simp only [Act.put, List.getElem_toArray, List.getElem_cons_zero, List.getElem_cons_succ, List.setIfInBounds_toArray, List.set_cons_zero, List.set_cons_succ]
            refine wpAnyIn_take (i := 9) (v := ?_) rfl rfl (by kernel_rfl) (by kernel_rfl) (by kernel_rfl) (fun _ _ _ h => h) ⟨Or.inl ⟨by rfl, ?jy8⟩, fun _ => rfl⟩ ?kz8
            case jy8 => (intro w; go_simp; all_goals with_reducible rfl)
            simp only [Act.put, List.getElem_toArray, List.getElem_cons_zero, List.getElem_cons_succ, List.setIfInBounds_toArray, List.set_cons_zero, List.set_cons_succ]
            refine wpAnyIn_take (i := 10) (v := ?_) rfl rfl (by kernel_rfl) (by kernel_rfl) (by kernel_rfl) (fun _ _ _ h => h) ⟨Or.inl ⟨by rfl, ?jy9⟩, fun _ => rfl⟩ ?kz9
            case jy9 => (intro w; go_simp; all_goals with_reducible rfl)
            simp only [Act.put, List.getElem_toArray, List.getElem_cons_zero, List.getElem_cons_succ, List.setIfInBounds_toArray, List.set_cons_zero, List.set_cons_succ]
            refine wpAnyIn_ready (rs := [11]) (by kernel_rfl) (by simp) ?_
            refine AllReadyIn.cons rfl (fun K hK => ?_) AllReadyIn.nil
            go_simp
            refine hK _ _ ?_
            clear hK K
            refine wpAnyIn_done (by kernel_rfl) ?_ _
            gi_wp2_with (gi_at_builtin; refine wpListIn_append_own _ rfl _ _ 66 rfl w.heap.size 48 i0 zeroR 2 16 Tryz.underlying66 hi hz0 hz1 hz2 rfl (by decide) _ _ _ rfl (hst.alloc _) ⟨W.heap.size, 0, none⟩ 1 1 [.int .i64 x.2.2, .int .i64 (m : Int)] rfl rfl (new_twoS (by simp) _ _ _) (by simp [Value.oneCell']) (by unfold maxLen; omega) (by omega) (by simp; omega) ?_; intro v' w1 hown' hgrow _; obtain ⟨g', cap', rfl⟩ := ownsRow_succ hown'; obtain ⟨hv1, hv2, hr2, hk2, hb2⟩ := hv3.appended (by decide) hst (by have := hB1.size; simp; try omega) (by omega) hown' hgrow; have hc1 := hv1.cell; have hf1 := hv1.frozen)
            have n0 := boxAfter (B' := w.heap.size + 1 + 1 + 1) c03 (by decide) hst hgrow (by omega) (.slice (some ⟨g', 0, none⟩) (k + 1 + 1) cap')
            have n1 := boxAfter (B' := w.heap.size + 1 + 1 + 1) c13 (by decide) hst hgrow (by omega) (.slice (some ⟨g', 0, none⟩) (k + 1 + 1) cap')
            have n2 := boxAfter (B' := w.heap.size + 1 + 1 + 1) c23 (by decide) hst hgrow (by omega) (.slice (some ⟨g', 0, none⟩) (k + 1 + 1) cap')
            have n4 := boxAfter (B' := w.heap.size + 1 + 1 + 1) c43 (by decide) hst hgrow (by omega) (.slice (some ⟨g', 0, none⟩) (k + 1 + 1) cap')
            exact ⟨(hKd.trans hk2).from _, ⟨hBd.trans hb2, n4.trans c4.symm⟩, ⟨⟨_, hv2, by rw [HF.out, HS.out, HC.out, rc_snoc, List.length_append, hlen3]; exact hr2, hpx⟩, n0, n1, n2, n4, Nat.le_trans hsz (hBd.trans hb2).size⟩, hB1.trans (hBd.trans hb2)⟩
          · go_simp
            refine hK _ _ ?_
            clear hK K
            refine wpAnyIn_take (i := 7) (v := .int .i64 (wrap64 (x.2.1 - 1))) rfl rfl (by kernel_rfl) (by kernel_rfl) (by kernel_rfl) (fun _ _ _ h => h) ⟨Or.inl ⟨by rfl, ?jy10⟩, fun _ => rfl⟩ ?kz10
            case jy10 => (intro w; go_simp; all_goals first | rfl | exact Go.IntWalk.i64_left _)
            simp only [Act.put, List.getElem_toArray, List.getElem_cons_zero, List.getElem_cons_succ, List.setIfInBounds_toArray, List.set_cons_zero, List.set_cons_succ]
            refine wpAnyIn_ready (rs := [4]) (by kernel_rfl) (by simp) ?_
            refine AllReadyIn.cons rfl (fun K hK => ?_) AllReadyIn.nil
            go_simp
            refine hK _ _ ?_
            clear hK K
            refine wpAnyIn_take (i := 8) (v := .int .i64 (max fr (wrap64 (x.2.1 - 1)))) rfl rfl (by kernel_rfl) (by kernel_rfl) (by kernel_rfl) (fun _ _ _ h => h) ⟨Or.inl ⟨by rfl, ?jy11⟩, fun _ => rfl⟩ ?kz11
            case jy11 => (intro w; go_simp; all_goals first | rfl | exact Go.IntWalk.i64_left _)
            simp only [Act.put, List.getElem_toArray, List.getElem_cons_zero, List.getElem_cons_succ, List.setIfInBounds_toArray, List.set_cons_zero, List.set_cons_succ]
            refine wpAnyIn_take (i := 9) (v := ?_) rfl rfl (by kernel_rfl) (by kernel_rfl) (by kernel_rfl) (fun _ _ _ h => h) ⟨Or.inl ⟨by rfl, ?jy12⟩, fun _ => rfl⟩ ?kz12
            case jy12 => (intro w; go_simp; all_goals with_reducible rfl)
            simp only [Act.put, List.getElem_toArray, List.getElem_cons_zero, List.getElem_cons_succ, List.setIfInBounds_toArray, List.set_cons_zero, List.set_cons_succ]
            refine wpAnyIn_take (i := 10) (v := ?_) rfl rfl (by kernel_rfl) (by kernel_rfl) (by kernel_rfl) (fun _ _ _ h => h) ⟨Or.inl ⟨by rfl, ?jy13⟩, fun _ => rfl⟩ ?kz13
            case jy13 => (intro w; go_simp; all_goals with_reducible rfl)
            simp only [Act.put, List.getElem_toArray, List.getElem_cons_zero, List.getElem_cons_succ, List.setIfInBounds_toArray, List.set_cons_zero, List.set_cons_succ]
            refine wpAnyIn_ready (rs := [11]) (by kernel_rfl) (by simp) ?_
            refine AllReadyIn.cons rfl (fun K hK => ?_) AllReadyIn.nil
            go_simp
            refine hK _ _ ?_
            clear hK K
            refine wpAnyIn_done (by kernel_rfl) ?_ _
            gi_wp2_with (gi_at_builtin; refine wpListIn_append_own _ rfl _ _ 66 rfl w.heap.size 48 i0 zeroR 2 16 Tryz.underlying66 hi hz0 hz1 hz2 rfl (by decide) _ _ _ rfl (hst.alloc _) ⟨W.heap.size, 0, none⟩ 1 1 [.int .i64 x.2.2, .int .i64 (m : Int)] rfl rfl (new_twoS (by simp) _ _ _) (by simp [Value.oneCell']) (by unfold maxLen; omega) (by omega) (by simp; omega) ?_; intro v' w1 hown' hgrow _; obtain ⟨g', cap', rfl⟩ := ownsRow_succ hown'; obtain ⟨hv1, hv2, hr2, hk2, hb2⟩ := hv3.appended (by decide) hst (by have := hB1.size; simp; try omega) (by omega) hown' hgrow; have hc1 := hv1.cell; have hf1 := hv1.frozen)
            have n0 := boxAfter (B' := w.heap.size + 1 + 1 + 1) c03 (by decide) hst hgrow (by omega) (.slice (some ⟨g', 0, none⟩) (k + 1 + 1) cap')
            have n1 := boxAfter (B' := w.heap.size + 1 + 1 + 1) c13 (by decide) hst hgrow (by omega) (.slice (some ⟨g', 0, none⟩) (k + 1 + 1) cap')
            have n2 := boxAfter (B' := w.heap.size + 1 + 1 + 1) c23 (by decide) hst hgrow (by omega) (.slice (some ⟨g', 0, none⟩) (k + 1 + 1) cap')
            have n4 := boxAfter (B' := w.heap.size + 1 + 1 + 1) c43 (by decide) hst hgrow (by omega) (.slice (some ⟨g', 0, none⟩) (k + 1 + 1) cap')
            exact ⟨(hKd.trans hk2).from _, ⟨hBd.trans hb2, n4.trans c4.symm⟩, ⟨⟨_, hv2, by rw [HF.out, HS.out, HC.out, rc_snoc, List.length_append, hlen3]; exact hr2, hpx⟩, n0, n1, n2, n4, Nat.le_trans hsz (hBd.trans hb2).size⟩, hB1.trans (hBd.trans hb2)⟩
      · have HS : Hid (stpL bg en (m : Int) acc x = acc) := by show _ = _; unfold stpL; rw [if_neg hxe, if_neg hxb]
        have e1 := texts_ne hxb
        have e2 := texts_ne hxe
        have hpx : ∀ y ∈ pre ++ [x], y.1 ≠ en := fun y hy => (List.mem_append.1 hy).elim (hp y) (fun h => by simp at h; rw [h]; exact hxe)
        gi_wp2
        exact ⟨KeepsFrom.refl _ _, ⟨Below.refl _ _, rfl⟩, ⟨⟨v, hv, by rw [HF.out, HS.out]; exact hrow, hpx⟩, c0, c1, c2, c4, hsz⟩, hB1⟩
  case done =>
    rintro D ys W hD rfl ⟨⟨⟨v, hv, hrow, hp⟩, c0, c1, c2, c4, hsz⟩, hB1⟩ hK
    have hc := hv.cell
    have HU : Hid (spL bg en (m : Int) (lns d) = (lns d).foldl (stpL bg en (m : Int)) []) := by show _ = _; unfold spL; rw [upE_none hp]
    gi_wp2
    refine ⟨by simp, .inl ⟨_, _, rfl, run_takeDeferred hK, ?_⟩⟩
    exact ⟨_, results_tmp rfl _ _ _, v, rfl, by rw [HU.out]; exact ownsRow_putObj hrow _ hK rfl, hB1.trans (belowK_b (w := w) (Nat.le_refl _) W D _ _ (by omega) hK rfl rfl)⟩
  case stop =>
    rintro D c pre W hD hpre ⟨⟨⟨v, hv, hrow, hp⟩, rfl⟩, hB1⟩ hK
    have hc := hv.cell
    have HU : Hid (spL bg en (m : Int) (lns d) = pre.foldl (stpL bg en (m : Int)) []) := by
      obtain ⟨p, y, rfl, hy, hpz⟩ := hp
      obtain ⟨t, ht⟩ := hpre
      have e : lns d = p ++ y :: t := by rw [← ht]; simp
      show _ = _
      unfold spL
      rw [e, upE_pre hy hpz]
    gi_wp2
    refine ⟨by simp, .inl ⟨_, _, rfl, run_takeDeferred hK, ?_⟩⟩
    exact ⟨_, results_tmp rfl _ _ _, v, rfl, by rw [HU.out]; exact ownsRow_putObj hrow _ hK rfl, hB1.trans (belowK_b (w := w) (Nat.le_refl _) W D _ _ (by omega) hK rfl rfl)⟩
end Go.Proofs.YtaefomiofoakhaaGreatDoor
