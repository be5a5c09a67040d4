/- ReadJournal: the program's function, and what it answers in plain words; the condition: the table of what each kind has lies in its variable. -/
import Derived.Test.YtdcgihcjiiemdaaDoorRjc
import Derived.Test.YtdcgihcjiiemdaaDoorDjrToOpa
import Derived.Test.YtdcgihcjiiemdaaDoorPso
namespace Go.Proofs.YtdcgihcjiiemdaaDoor
open Go.RowKit
set_option linter.unusedVariables false
def jG : Nat → List Nat → Nat × List OpR
  | 0, _ => (0, [])
  | k + 1, d => if (rpV d).1 = 0 then ((rpV d).2.1 + (jG k (d.drop (rpV d).2.1)).1, (rpV d).2.2 :: (jG k (d.drop (rpV d).2.1)).2) else (0, [])
def jV (d : List Nat) : Int × Nat × List OpR := if 8000 < d.length then (2, 0, []) else (0, (jG d.length d).1, (jG d.length d).2)
theorem rpV_ok {d : List Nat} (h : (rpV d).1 = 0) : 14 ≤ (rpV d).2.1 ∧ (rpV d).2.1 ≤ d.length := by
  unfold rpV at *
  split at h
  · next hc =>
    rw [if_pos hc]
    exact ⟨(pkO_le hc.1).1, hc.2.length_le⟩
  · simp at h
theorem rpV_code (d : List Nat) : rpV d = (5, 0, opZ) ∨ (rpV d).1 = 0 := by
  unfold rpV
  split
  · exact .inr rfl
  · exact .inl rfl
def JgS (d : List Nat) (u : Nat) (os : List OpR) : Prop := u ≤ d.length ∧ 14 * os.length ≤ u ∧ ∃ f, d.length - u ≤ f ∧ jG d.length d = (u + (jG f (d.drop u)).1, os ++ (jG f (d.drop u)).2)
theorem JgS.nil (d : List Nat) : JgS d 0 [] := ⟨Nat.zero_le _, by simp, d.length, by omega, by simp⟩
theorem JgS.step {d : List Nat} {u : Nat} {os : List OpR} (h : JgS d u os) (hr : (rpV (d.drop u)).1 = 0) : JgS d (u + (rpV (d.drop u)).2.1) (os ++ [(rpV (d.drop u)).2.2]) := by
  obtain ⟨h1, h2, f, hf, he⟩ := h
  obtain ⟨k1, k2⟩ := rpV_ok hr
  rw [List.length_drop] at k2
  obtain ⟨f', rfl⟩ : ∃ f', f = f' + 1 := ⟨f - 1, by omega⟩
  refine ⟨by omega, by rw [List.length_append, List.length_singleton]; omega, f', by omega, ?_⟩
  have e : jG (f' + 1) (d.drop u) = ((rpV (d.drop u)).2.1 + (jG f' ((d.drop u).drop (rpV (d.drop u)).2.1)).1, (rpV (d.drop u)).2.2 :: (jG f' ((d.drop u).drop (rpV (d.drop u)).2.1)).2) := if_pos hr
  rw [he, e]
  simp [List.drop_drop, Nat.add_assoc]
theorem JgS.done {d : List Nat} {u : Nat} {os : List OpR} (h : JgS d u os) (hr : (rpV (d.drop u)).1 ≠ 0) : jG d.length d = (u, os) := by
  obtain ⟨h1, h2, f, hf, he⟩ := h
  rw [he]
  cases f with
  | zero => simp [jG]
  | succ f => unfold jG; rw [if_neg hr]; simp
theorem OpsIn.up {w : World} {own : Option Nat} {hi' : Nat} (h' : hi' ≤ w.heap.size) : ∀ {ps : List SlO} {os : List OpR} {lo hi : Nat}, OpsIn w own lo hi ps os → hi ≤ hi' → OpsIn w own lo hi' ps os
  | [], [], _, _, h, hh => ⟨Nat.le_trans h.1 hh, h'⟩
  | _ :: _, _ :: _, _, _, ⟨k, m, h0, h1, h2⟩, hh => ⟨k, m, h0, h1, OpsIn.up h' h2 hh⟩
  | [], _ :: _, _, _, h, _ => h.elim
  | _ :: _, [], _, _, h, _ => h.elim
def RwO (w : World) (B : Nat) (v : Value) (os : List OpR) : Prop := ∃ ps : List SlO, ps.length = os.length ∧ OwnO w B v (List.zipWith opQ os ps) ∧ OpsIn w v.ownBlock B w.heap.size ps os
theorem RwO.nil {w : World} {B : Nat} (hB : B ≤ w.heap.size) : RwO w B (.slice none 0 0) [] := ⟨[], rfl, OwnO.nil _ _, hB, Nat.le_refl _⟩
theorem RwO.form {w : World} {B : Nat} {v : Value} {os : List OpR} (h : RwO w B v os) : ∃ a cap, v = .slice a os.length cap ∧ os.length ≤ cap ∧ cap ≤ maxLen := by
  obtain ⟨ps, hl, ho, -⟩ := h
  obtain ⟨a, cap, h1, h2, h3⟩ := ho.form
  have e : (List.zipWith opQ os ps).length = os.length := by rw [List.length_zipWith, hl, Nat.min_self]
  rw [e] at h1 h2
  exact ⟨a, cap, h1, h2, h3⟩
theorem RwO.below {w w' : World} {B : Nat} {v : Value} {os : List OpR} (h : RwO w B v os) (hb : Below w.heap.size w w') : RwO w' B v os := by
  obtain ⟨ps, hl, ho, hi⟩ := h
  exact ⟨ps, hl, ho.below hb (Nat.le_refl _), (hi.kept hb.size (fun g h1 h2 h3 => Kc.below hb (Nat.le_refl _) h2) (fun g e => .inl e)).up (Nat.le_refl _) hb.size⟩
theorem RwO.set {w : World} {B : Nat} {v : Value} {os : List OpR} (h : RwO w B v os) (k j : Nat) (u : Value) (hk : k < B) : RwO (w.setCell ⟨k, j, none⟩ u) B v os := by
  obtain ⟨ps, hl, ho, hi⟩ := h
  have hs : (w.setCell ⟨k, j, none⟩ u).heap.size = w.heap.size := by simp
  refine ⟨ps, hl, ho.set _ hk u, ?_⟩
  rw [hs]
  exact hi.kept (by rw [hs]; exact Nat.le_refl _) (fun g h1 h2 h3 => Kc.set u h2 (by omega)) (fun g e => .inl e)
theorem OwnO.low {w : World} {B B' : Nat} {v : Value} {l : List Oc} (h : OwnO w B v l) (hB : B' ≤ B) : OwnO w B' v l :=
  ⟨h.1, h.2.imp id (fun ⟨g, cap, cur, h1, h2, h3⟩ => ⟨g, cap, cur, h1, Nat.le_trans hB h2, h3⟩)⟩
theorem OpsIn.low {w : World} {own : Option Nat} {lo lo' hi : Nat} {ps : List SlO} {os : List OpR} (h : OpsIn w own lo hi ps os) (hl : lo' ≤ lo) : OpsIn w own lo' hi ps os := by
  cases ps with
  | nil => cases os with
    | nil => exact ⟨Nat.le_trans hl h.1, h.2⟩
    | cons o os => exact h.elim
  | cons p ps => cases os with
    | nil => exact h.elim
    | cons o os =>
      obtain ⟨k, m, h0, h1⟩ := h
      exact ⟨k, m, Nat.le_trans hl h0, h1⟩
theorem RwO.low {w : World} {B B' : Nat} {v : Value} {os : List OpR} (h : RwO w B v os) (hB : B' ≤ B) : RwO w B' v os := by
  obtain ⟨ps, hl, ho, hi⟩ := h
  exact ⟨ps, hl, ho.low hB, hi.low hB⟩
def RwP (w : World) (B : Nat) (v : Value) (os : List OpR) (p : SlO) (o : OpR) : Prop := ∃ ps : List SlO, ps.length = os.length ∧ OwnO w B v (List.zipWith opQ os ps) ∧ OpsIn w v.ownBlock B w.heap.size (ps ++ [p]) (os ++ [o])
theorem RwP.new {w w' : World} {B : Nat} {v : Value} {os : List OpR} {p : SlO} {o : OpR} (h : RwO w B v os) (hb : Below w.heap.size w w') (ho : IsOp w.heap.size w' p o) (h1 : WrQ w.heap.size w' p.1) (h2 : WrQ w.heap.size w' p.2) (hsp : ∀ x y, p.1.1 = some x → p.2.1 = some y → x.block ≠ y.block) : RwP w' B v os p o := by
  obtain ⟨ps, hl, hO, hi⟩ := h
  have hk := hi.kept hb.size (own' := v.ownBlock) (fun g h1 h2 h3 => Kc.below hb (Nat.le_refl _) h2) (fun g e => .inl e)
  exact ⟨ps, hl, hO.below hb (Nat.le_refl _), OpsIn.snoc (Nat.le_refl _) ⟨ho, .of_wr h1, .of_wr h2, hb.size, Nat.le_refl _, h1, h2, hsp, fun g e => .inl (World.ownsRow.lt hO g e).2⟩ hk⟩
theorem RwP.below {w w' : World} {B : Nat} {v : Value} {os : List OpR} {p : SlO} {o : OpR} (h : RwP w B v os p o) (hb : Below w.heap.size w w') : RwP w' B v os p o := by
  obtain ⟨ps, hl, ho, hi⟩ := h
  exact ⟨ps, hl, ho.below hb (Nat.le_refl _), (hi.kept hb.size (fun g h1 h2 h3 => Kc.below hb (Nat.le_refl _) h2) (fun g e => .inl e)).up (Nat.le_refl _) hb.size⟩
theorem RwP.own {w : World} {B : Nat} {v : Value} {os : List OpR} {p : SlO} {o : OpR} (h : RwP w B v os p o) : ∃ l : List Oc, l.length = os.length ∧ OwnO w B v l ∧ ∀ v' w', OwnO w' B v' (l ++ [opQ o p]) → w.grownBy w' v.ownBlock → (v'.ownBlock = v.ownBlock ∨ v'.ownBlock = some w.heap.size) → RwO w' B v' (os ++ [o]) := by
  obtain ⟨ps, hl, ho, hi⟩ := h
  refine ⟨_, by rw [List.length_zipWith, hl, Nat.min_self], ho, fun v' w' h1 h2 h3 => ⟨ps ++ [p], by simp [hl], ?_, ?_⟩⟩
  · rw [List.zipWith_append hl.symm]
    exact h1
  · refine (hi.kept h2.size (fun g a b c => Kc.grown h2 b c) (fun g e => ?_)).up (Nat.le_refl _) h2.size
    rcases h3 with h3 | h3
    · exact .inl (h3.symm.trans e)
    · right; rw [h3] at e; cases e; exact Nat.le_refl _
def JrEnd (r : Int × Nat × List OpR) (w : World) (e : Ending) (w' : World) : Prop := ∃ v, e = .returned (.agg #[.int .i64 r.1, .int .i64 (r.2.1 : Int), v]) ∧ RwO w' w.heap.size v r.2.2 ∧ Below w.heap.size w w'
theorem jr_fin {w x : World} {v : Value} {os : List OpR} (hb : Below w.heap.size w x) (h : RwO x (w.heap.size + 1) v os) (c : Int) (u : Nat) (v0 v1 v2 : Value) : JrEnd (c, u, os) w (.returned (.agg #[.int .i64 c, .int .i64 (u : Int), v])) (((x.setCell ⟨w.heap.size, 0, none⟩ v0).setCell ⟨w.heap.size, 1, none⟩ v1).setCell ⟨w.heap.size, 2, none⟩ v2) :=
  ⟨v, rfl, (((h.set _ _ _ (Nat.lt_succ_self _)).set _ _ _ (Nat.lt_succ_self _)).set _ _ _ (Nat.lt_succ_self _)).low (by omega), ((hb.setCell (Nat.le_refl _) _).setCell (Nat.le_refl _) _).setCell (Nat.le_refl _) _⟩
theorem rd_add {w : World} {a : Option Addr} {l : List Nat} (h : Rd w a l) (c : Nat) : Rd w (Option.map (fun x => x.add c) a) (l.drop c) := by
  rcases h with h | ⟨b, off, e, hlt, hc⟩
  · left; rw [h]; simp
  · subst e
    have h' := Rd.drop (.inr ⟨b, off, rfl, hlt, hc⟩ : Rd w (some ⟨b, off, none⟩) l) c
    simpa [Go.WideShapes.add_plain] using h'
theorem res_block3 {w W wr : World} {c0 c1 c2 : Value} {t : TypeId} (hW : w.alloc (.cells #[c0, c1, c2] t) = W) (hb : Below (w.heap.size + 1) W wr) :
    wr.cell? ⟨w.heap.size, 0, none⟩ = some c0 ∧ wr.cell? ⟨w.heap.size, 1, none⟩ = some c1 ∧ wr.cell? ⟨w.heap.size, 2, none⟩ = some c2 ∧ wr.frozen? ⟨w.heap.size, 0, none⟩ = false ∧ wr.frozen? ⟨w.heap.size, 1, none⟩ = false ∧ wr.frozen? ⟨w.heap.size, 2, none⟩ = false := by
  subst hW
  refine ⟨?_, ?_, ?_, ?_, ?_, ?_⟩
  · rw [hb.cell (p := ⟨w.heap.size, 0, none⟩) (by simp)]; simp
  · rw [hb.cell (p := ⟨w.heap.size, 1, none⟩) (by simp)]; simp
  · rw [hb.cell (p := ⟨w.heap.size, 2, none⟩) (by simp)]; simp
  · rw [hb.frozen (p := ⟨w.heap.size, 0, none⟩) (by simp)]; simp
  · rw [hb.frozen (p := ⟨w.heap.size, 1, none⟩) (by simp)]; simp
  · rw [hb.frozen (p := ⟨w.heap.size, 2, none⟩) (by simp)]; simp
theorem res_cells3 {wr : World} {sz : Nat} {x0 x1 x2 : Value} (h0 : wr.cell? ⟨sz, 0, none⟩ = some x0) (h1 : wr.cell? ⟨sz, 1, none⟩ = some x1) (h2 : wr.cell? ⟨sz, 2, none⟩ = some x2) (c t u : Value) :
    (wr.setCell ⟨sz, 0, none⟩ c).cell? ⟨sz, 0, none⟩ = some c ∧ ((wr.setCell ⟨sz, 0, none⟩ c).setCell ⟨sz, 1, none⟩ t).cell? ⟨sz, 1, none⟩ = some t ∧
    (((wr.setCell ⟨sz, 0, none⟩ c).setCell ⟨sz, 1, none⟩ t).setCell ⟨sz, 2, none⟩ u).cell? ⟨sz, 2, none⟩ = some u := by
  have h1' : (wr.setCell ⟨sz, 0, none⟩ c).cell? ⟨sz, 1, none⟩ = some x1 := by simp [go_sem, h1]
  have h2' : ((wr.setCell ⟨sz, 0, none⟩ c).setCell ⟨sz, 1, none⟩ t).cell? ⟨sz, 2, none⟩ = some x2 := by simp [go_sem, h2]
  exact ⟨World.cell?_setCell_same _ _ _ h0, World.cell?_setCell_same _ _ _ h1', World.cell?_setCell_same _ _ _ h2'⟩
def TdJ (R : Nat) (w : World) (u : Nat) (v : Value) : Prop := (w.cell? ⟨R, 0, none⟩ = some (.int .i64 0) ∧ w.cell? ⟨R, 1, none⟩ = some (.int .i64 (u : Int)) ∧ w.cell? ⟨R, 2, none⟩ = some v) ∧ w.frozen? ⟨R, 0, none⟩ = false ∧ w.frozen? ⟨R, 1, none⟩ = false ∧ w.frozen? ⟨R, 2, none⟩ = false
theorem TdJ.block {R : Nat} {w w' : World} {u : Nat} {v : Value} (h : TdJ R w u v) (hb : w'.heap[R]? = w.heap[R]?) : TdJ R w' u v := by
  obtain ⟨⟨h0, h1, h2⟩, f0, f1, f2⟩ := h
  exact ⟨⟨(World.cell?_of_block hb).trans h0, (World.cell?_of_block hb).trans h1, (World.cell?_of_block hb).trans h2⟩, (World.frozen?_of_block hb).trans f0, (World.frozen?_of_block hb).trans f1, (World.frozen?_of_block hb).trans f2⟩
theorem TdJ.put {R : Nat} {w : World} {u u' : Nat} {v v' : Value} (h : TdJ R w u v) : TdJ R ((w.setCell ⟨R, 2, none⟩ v').setCell ⟨R, 1, none⟩ (.int .i64 (u' : Int))) u' v' := by
  obtain ⟨⟨h0, h1, h2⟩, f0, f1, f2⟩ := h
  exact ⟨⟨by simp [go_sem, h0], World.cell?_setCell_same _ _ _ (by simp [go_sem, h1]; rfl), by rw [World.cell?_setCell_other _ _ _ _ (by simp)]; exact World.cell?_setCell_same _ _ _ h2⟩, by simpa using f0, by simpa using f1, by simpa using f2⟩
def mdJ (R n : Nat) (w : World) : Nat := n - (intOf ((w.cell? ⟨R, 1, none⟩).getD (.int .i64 0))).toNat
theorem TdJ.md {R n : Nat} {w : World} {u : Nat} {v : Value} (h : TdJ R w u v) : mdJ R n w = n - u := by
  unfold mdJ
  rw [h.1.2.1]
  simp [intOf]
set_option maxHeartbeats 3200000 in
set_option maxRecDepth 100000 in
theorem readJournal_any (a : Option Addr) (n cap : Nat) (l : List Nat) (w : World) (hl : l.length = n) (hnc : n ≤ cap) (hcm : cap ≤ maxLen) (hr : Rd w a l) (hB : IsB l) (hT : TabH8 w) :
    Calls Tryd.prog 16 #[.slice a n cap] w fun e w' => JrEnd (jV l) w e w' := by
  have HV : Hid (jV l = if 8000 < l.length then (2, 0, []) else (0, (jG l.length l).1, (jG l.length l).2)) := rfl
  have HL : Hid (l.length = n) := hl
  have HCM : Hid (cap ≤ maxLen) := hcm
  unfold maxLen at hcm
  obtain ⟨W, hW⟩ : ∃ W, w.alloc (.cells #[.int .i64 0, .int .i64 0, .slice none 0 0] 40) = W := ⟨_, rfl⟩
  have hsW : W.heap.size = w.heap.size + 1 := by rw [← hW]; simp
  have hb0 : Below w.heap.size w W := by rw [← hW]; exact (Below.refl _ _).alloc (Nat.le_refl _) _
  have HRB : Hid (∀ wr, Below (w.heap.size + 1) W wr → _) := fun wr hb => res_block3 hW hb
  have HBW : Hid (∀ wr, Below (w.heap.size + 1) W wr → Below w.heap.size w wr) := fun wr hb => hb0.trans (hb.mono (by omega))
  have HRO : Hid (∀ (wr : World) (u : Nat) (a' : Option Addr) (n' c' : Nat), Below (w.heap.size + 1) W wr → (a' = Option.map (fun x => x.add u) a ∨ l.drop u = []) → n' = n - u → n' ≤ c' → c' ≤ maxLen → Calls Tryd.prog 7 #[.slice a' n' c'] wr fun e w' => OrEnd (rpV (l.drop u)) wr e w') := fun wr u a' n' c' hb ha hn h1 h2 => by
    refine readOp_any a' n' c' (l.drop u) wr (by rw [List.length_drop, hl, hn]) h1 h2 ?_ (isB_drop hB u) (hT.below (HBW.out wr hb))
    rcases ha with rfl | ha
    · exact rd_add (hr.below (HBW.out wr hb)) u
    · exact .inl ha
  clear hr hB hT hl
  by_cases h8 : 8000 < n
  · have h8i : (n : Int) > 8000 := by omega
    have HR : Hid (jV l = (2, 0, [])) := HV.out.trans (if_pos (by rw [HL.out]; exact h8))
    obtain ⟨a0, a1, a2, y0, y1, y2⟩ := HRB.out W (Below.refl _ _)
    obtain ⟨x0, x1, x2⟩ := res_cells3 a0 a1 a2 (.int .i64 2) (.int .i64 0) (.slice none 0 0)
    have HEH : Hid (_) := jr_fin (HBW.out W (Below.refl _ _)) (RwO.nil (B := w.heap.size + 1) (by omega)) 2 0 (.int .i64 2) (.int .i64 0) (.slice none 0 0)
    generalize jV l = r at *
    clear HV HRO HRB
    go_enter Tryd.func16, Tryd.ntmps16
    go_wp2
    refine bodyPost_ret (v := .agg #[.int .i64 2, .int .i64 0, .slice none 0 0]) (by simp [results, Tryd.results16, go_sem, x0, x1, x2]) rfl ?_
    rw [HR.out]
    exact HEH.out
  · have h8i : ¬ (n : Int) > 8000 := by omega
    have HR : Hid (∀ u os, jG l.length l = (u, os) → jV l = (0, u, os)) := fun u os h => by rw [HV.out, if_neg (by rw [HL.out]; exact h8), h]
    generalize jV l = r at *
    clear HV
    obtain ⟨W1, hW1⟩ : ∃ W1, W.alloc (.cells #[.int .i64 0, .int .i64 0, .slice none 0 0] 40) = W1 := ⟨_, rfl⟩
    have hs1 : W1.heap.size = w.heap.size + 2 := by rw [← hW1]; simp [hsW]
    have b1 : Below (w.heap.size + 1) W W1 := by rw [← hW1]; exact (Below.refl _ _).alloc (by omega) _
    have hTd : TdJ (w.heap.size + 1) W1 0 (.slice none 0 0) := by
      rw [← hW1, ← hsW]
      exact ⟨⟨by simp, by simp, by simp⟩, by simp, by simp, by simp⟩
    go_enter Tryd.func16, Tryd.ntmps16
    go_wp2
    go_loopw [4] (fun x wr => ∃ (u : Nat) (os : List OpR) (v : Value), JgS l u os ∧ TdJ (w.heap.size + 1) wr u v ∧ RwO wr (w.heap.size + 2) v os ∧ Below (w.heap.size + 1) W wr) (fun _ wr => mdJ (w.heap.size + 1) n wr)
    case atStart => exact ⟨0, [], _, JgS.nil _, hTd, RwO.nil (by omega), b1⟩
    case round =>
      obtain ⟨u, os, v, hj, htd, hro, hbr⟩ := hrel
      clear b1 hTd hW1 hs1
      obtain ⟨va, ca, rfl, -, -⟩ := id hro.form
      have hun : u ≤ n := by have := hj.1; rw [HL.out] at this; exact this
      have hol : os.length ≤ 8000 := by have := hj.2.1; omega
      have hzr : w.heap.size + 1 < wr.heap.size := by have := hro; obtain ⟨ps, -, -, hi⟩ := this; have := hi.le.1; omega
      have HST : Hid ((rpV (l.drop u)).1 = 0 → JgS l (u + (rpV (l.drop u)).2.1) (os ++ [(rpV (l.drop u)).2.2]) ∧ 14 ≤ (rpV (l.drop u)).2.1 ∧ (rpV (l.drop u)).2.1 ≤ n - u) := fun h => ⟨hj.step h, (rpV_ok h).1, by have := (rpV_ok h).2; rw [List.length_drop, HL.out] at this; exact this⟩
      have HDN : Hid ((rpV (l.drop u)).1 ≠ 0 → r = (0, u, os)) := fun h => HR.out _ _ (hj.done h)
      have HCD := rpV_code (l.drop u)
      have HRO' : Hid (∀ (a' : Option Addr) (n' c' : Nat), (a' = Option.map (fun x => x.add u) a ∨ l.drop u = []) → n' = n - u → n' ≤ c' → c' ≤ maxLen → Calls Tryd.prog 7 #[.slice a' n' c'] wr fun e w' => OrEnd (rpV (l.drop u)) wr e w') := fun a' n' c' => HRO.out wr u a' n' c' hbr
      have HNE : Hid (u = n → l.drop u = []) := fun h => List.drop_of_length_le (by rw [HL.out]; omega)
      have HCZ : Hid (l.drop u = [] → (rpV (l.drop u)).1 ≠ 0) := fun h h0 => by have := rpV_ok h0; rw [h] at this; simp at this; omega
      clear hj HR HRO
      obtain ⟨⟨c0, c1, c2⟩, f0, f1, f2⟩ := id htd
      by_cases hcu : cap = u
      · subst hcu
        obtain rfl : n = cap := by omega
        have hdr := HNE.out rfl
        have hq0 := HCZ.out hdr
        have HC := HRO'.out a 0 0 (.inr hdr) (by omega) (Nat.le_refl _) (Nat.zero_le _)
        go_wp2_with fail
        refine HC.mono ?_
        rintro e w1 ⟨p, rfl, ho, ⟨hv1, hv2⟩, hsp, hb1⟩
        have hpn : RwP w1 (w.heap.size + 2) (.slice va os.length ca) os p (rpV (l.drop n)).2.2 := RwP.new hro hb1 ho hv1 hv2 hsp
        have hro1 := hro.below hb1
        have HMD : Hid (mdJ (w.heap.size + 1) n wr = n - n) := htd.md
        have HOB : Hid (∀ k, (Value.slice va os.length ca).ownBlock = some k → w.heap.size + 2 ≤ k ∧ k < wr.heap.size) := fun k e => by obtain ⟨ps, -, h, -⟩ := hro; exact World.ownsRow.lt h k e
        have hB1 : Below (w.heap.size + 1) W w1 := hbr.trans (hb1.mono (by omega))
        have htd1 := htd.block (hb1.block (w.heap.size + 1) hzr)
        have hz1 : wr.heap.size ≤ w1.heap.size := hb1.size
        clear HC htd hro hbr c0 c1 c2 f0 f1 f2 ho hv1 hv2 hsp hb1 HRO'
        generalize rpV (l.drop n) = q at *
        obtain ⟨W2, hW2⟩ : ∃ W2, w1.alloc (.cells #[.int .i64 q.1, .int .i64 (q.2.1 : Int), .int .i64 q.2.2.k, .string q.2.2.x, .string q.2.2.t, slW p.1, .int .i64 q.2.2.m, .int .i64 q.2.2.f, .int .i64 q.2.2.d, slW p.2] 29) = W2 := ⟨_, rfl⟩
        have b2 : Below w1.heap.size w1 W2 := by rw [← hW2]; exact (Below.refl _ _).alloc (Nat.le_refl _) _
        have hs2 : W2.heap.size = w1.heap.size + 1 := by rw [← hW2]; simp
        have hB2 := hB1.trans (b2.mono (by omega))
        have htd2 := htd1.block (b2.block (w.heap.size + 1) (by omega))
        have hro2 := hro1.below b2
        have hpn2 := hpn.below b2
        obtain ⟨⟨k0, k1, k2, k3, k4, k5, k6, k7, k8, k9⟩, -⟩ := res_block10 hW2 (Below.refl _ W2)
        obtain ⟨⟨c0, c1, c2⟩, f0, f1, f2⟩ := id htd2
        clear htd1 hro1 hpn hB1 b2
        have hq : q.1 ≠ 0 := hq0
        have HJ : Hid (r = (0, n, os)) := HDN.out hq
        have hqi : q.1 = 5 := by rcases HCD with h | h; · rw [h]
                                 · exact absurd h hq
        have hqn : ¬ (q.1 = (0 : Int)) := hq
        obtain ⟨a0, a1, a2, y0, y1, y2⟩ := HRB.out W2 hB2
        obtain ⟨x0, x1, x2⟩ := res_cells3 a0 a1 a2 (.int .i64 0) (.int .i64 (n : Int)) (.slice va os.length ca)
        have HEH : Hid (_) := jr_fin (HBW.out W2 hB2) (hro2.low (by omega)) 0 n (.int .i64 0) (.int .i64 (n : Int)) (.slice va os.length ca)
        rw [hqi] at k0
        clear HST HDN HCD HCZ hro2 hpn2 HRB hq hqn hqi
        go_wp2
        refine bodyPost_ret (v := .agg #[.int .i64 0, .int .i64 (n : Int), .slice va os.length ca]) (by simp [results, Tryd.results16, go_sem, x0, x1, x2]) rfl ?_
        rw [HJ.out]
        exact HEH.out
      · have HCU : Hid (cap - u ≤ maxLen) := Nat.le_trans (Nat.sub_le _ _) HCM.out
        have HC := HRO'.out (Option.map (fun x => x.add u) a) (n - u) (cap - u) (.inl rfl) rfl (by omega) HCU.out
        go_wp2_with fail
        refine HC.mono ?_
        rintro e w1 ⟨p, rfl, ho, ⟨hv1, hv2⟩, hsp, hb1⟩
        have hpn : RwP w1 (w.heap.size + 2) (.slice va os.length ca) os p (rpV (l.drop u)).2.2 := RwP.new hro hb1 ho hv1 hv2 hsp
        have hro1 := hro.below hb1
        have HMD : Hid (mdJ (w.heap.size + 1) n wr = n - u) := htd.md
        have HOB : Hid (∀ k, (Value.slice va os.length ca).ownBlock = some k → w.heap.size + 2 ≤ k ∧ k < wr.heap.size) := fun k e => by obtain ⟨ps, -, h, -⟩ := hro; exact World.ownsRow.lt h k e
        have hB1 : Below (w.heap.size + 1) W w1 := hbr.trans (hb1.mono (by omega))
        have htd1 := htd.block (hb1.block (w.heap.size + 1) hzr)
        have hz1 : wr.heap.size ≤ w1.heap.size := hb1.size
        clear HC htd hro hbr c0 c1 c2 f0 f1 f2 ho hv1 hv2 hsp hb1 HRO'
        generalize rpV (l.drop u) = q at *
        obtain ⟨W2, hW2⟩ : ∃ W2, w1.alloc (.cells #[.int .i64 q.1, .int .i64 (q.2.1 : Int), .int .i64 q.2.2.k, .string q.2.2.x, .string q.2.2.t, slW p.1, .int .i64 q.2.2.m, .int .i64 q.2.2.f, .int .i64 q.2.2.d, slW p.2] 29) = W2 := ⟨_, rfl⟩
        have b2 : Below w1.heap.size w1 W2 := by rw [← hW2]; exact (Below.refl _ _).alloc (Nat.le_refl _) _
        have hs2 : W2.heap.size = w1.heap.size + 1 := by rw [← hW2]; simp
        have hB2 := hB1.trans (b2.mono (by omega))
        have htd2 := htd1.block (b2.block (w.heap.size + 1) (by omega))
        have hro2 := hro1.below b2
        have hpn2 := hpn.below b2
        obtain ⟨⟨k0, k1, k2, k3, k4, k5, k6, k7, k8, k9⟩, -⟩ := res_block10 hW2 (Below.refl _ W2)
        obtain ⟨⟨c0, c1, c2⟩, f0, f1, f2⟩ := id htd2
        clear htd1 hro1 hpn hB1 b2
        by_cases hq : q.1 = 0
        · obtain ⟨hjs, h14, hqu⟩ := HST.out hq
          have HJS : Hid (JgS l (u + q.2.1) (os ++ [q.2.2])) := hjs
          obtain ⟨c, m, o⟩ := q
          dsimp only at *
          subst hq
          obtain ⟨W3, hW3⟩ : ∃ W3, W2.alloc (.cells #[.int .i64 o.k, .string o.x, .string o.t, slW p.1, .int .i64 o.m, .int .i64 o.f, .int .i64 o.d, slW p.2] 27) = W3 := ⟨_, rfl⟩
          have b3 : Below W2.heap.size W2 W3 := by rw [← hW3]; exact (Below.refl _ _).alloc (Nat.le_refl _) _
          have hs3 : W3.heap.size = W2.heap.size + 1 := by rw [← hW3]; simp
          have hQ3 : Qo W3 (w1.heap.size + 1) (opQ o p) := by rw [← hs2, ← hW3]; exact Qo.new _ _ _ _ _ _ _ _ _ _
          have hB3 := hB2.trans (b3.mono (by omega))
          have htd3 := htd2.block (b3.block (w.heap.size + 1) (by omega))
          obtain ⟨ql, hql, hown, HW⟩ := (hpn2.below b3).own
          have e1 : W3.cell? ⟨w1.heap.size, 1, none⟩ = some (.int .i64 (m : Int)) := (b3.cell (p := ⟨w1.heap.size, 1, none⟩) (by show w1.heap.size < W2.heap.size; omega)).trans k1
          have HWH : Hid (∀ v' w', OwnO w' (w.heap.size + 2) v' (ql ++ [opQ o p]) → W3.grownBy w' (Value.slice va os.length ca).ownBlock → (v'.ownBlock = (Value.slice va os.length ca).ownBlock ∨ v'.ownBlock = some W3.heap.size) → RwO w' (w.heap.size + 2) v' (os ++ [o])) := HW
          have HTD : Hid (∀ v' w', OwnO w' (w.heap.size + 2) v' (ql ++ [opQ o p]) → W3.grownBy w' (Value.slice va os.length ca).ownBlock → TdJ (w.heap.size + 1) w' u (.slice va os.length ca) ∧ Below (w.heap.size + 1) W w' ∧ w'.cell? ⟨w1.heap.size, 1, none⟩ = some (.int .i64 (m : Int))) := fun v' w' h1 h2 => ⟨htd3.block (h2.block _ (by omega) (fun e => by have := (World.ownsRow.lt hown _ e.symm).1; omega)), hB3.grown h2 (by omega) (fun k e => by have := (World.ownsRow.lt hown _ e).1; omega), (World.cell?_of_block (h2.block w1.heap.size (by omega) (fun e => by have := (HOB.out _ e.symm).2; omega))).trans e1⟩
          have hne1 : w1.heap.size ≠ w.heap.size + 1 := by omega
          have hne2 : w.heap.size + 1 ≠ w1.heap.size := by omega
          clear HST HDN HCD HCZ hro2 hpn2 HRB hjs HW htd2 htd3 hB2
          go_wp2_with (at_builtin; refine wpList_appO rfl _ _ rfl (w.heap.size + 2) _ ql rfl hown (w1.heap.size + 1) (opQ o p) rfl hQ3 ⟨rfl, rfl, rfl, rfl, rfl, rfl, rfl, rfl⟩ (by omega) (by omega) ?_; intro v' w4 hO4 hg4 hat4; obtain ⟨htd4, hB4, e4⟩ := HTD.out v' w4 hO4 hg4; have hR4 := HWH.out v' w4 hO4 hg4 hat4; obtain ⟨a4, cp4, rfl, -, -⟩ := id hR4.form; obtain ⟨⟨d0, d1, d2⟩, g0, g1, g2⟩ := id htd4)
          go_roundw
          case rel => exact ⟨u + m, os ++ [o], .slice a4 (os ++ [o]).length cp4, HJS.out, by simpa using htd4.put (u' := u + m) (v' := .slice a4 (os ++ [o]).length cp4), (hR4.set _ _ _ (by omega)).set _ _ _ (by omega), (hB4.setCell (Nat.le_refl _) _).setCell (Nat.le_refl _) _⟩
          case measure =>
            have e := (htd4.put (u' := u + m) (v' := .slice a4 (os ++ [o]).length cp4)).md (n := n)
            rw [show ((u + m : Nat) : Int) = (u : Int) + (m : Int) from by omega, List.length_append, List.length_singleton] at e
            rw [HMD.out]
            refine Nat.lt_of_le_of_lt (Nat.le_of_eq e) (by omega)
        · have HJ : Hid (r = (0, u, os)) := HDN.out hq
          have hqi : q.1 = 5 := by rcases HCD with h | h; · rw [h]
                                   · exact absurd h hq
          have hqn : ¬ (q.1 = (0 : Int)) := hq
          obtain ⟨a0, a1, a2, y0, y1, y2⟩ := HRB.out W2 hB2
          obtain ⟨x0, x1, x2⟩ := res_cells3 a0 a1 a2 (.int .i64 0) (.int .i64 (u : Int)) (.slice va os.length ca)
          have HEH : Hid (_) := jr_fin (HBW.out W2 hB2) (hro2.low (by omega)) 0 u (.int .i64 0) (.int .i64 (u : Int)) (.slice va os.length ca)
          rw [hqi] at k0
          clear HST HDN HCD HCZ hro2 hpn2 HRB hq hqn hqi
          go_wp2
          refine bodyPost_ret (v := .agg #[.int .i64 0, .int .i64 (u : Int), .slice va os.length ca]) (by simp [results, Tryd.results16, go_sem, x0, x1, x2]) rfl ?_
          rw [HJ.out]
          exact HEH.out
end Go.Proofs.YtdcgihcjiiemdaaDoor
