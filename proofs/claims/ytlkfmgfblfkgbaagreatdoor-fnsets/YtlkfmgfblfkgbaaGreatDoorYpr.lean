/- The model's reading of a set: at every text of at most 1048576 bytes; no conditions beyond those that each fact names. -/
import Derived.Test.YtlkfmgfblfkgbaaGreatDoorYcu
import Derived.Test.YtlkfmgfblfkgbaaGreatDoorYsp
import Derived.Deep.RegionHeld3
namespace Go.Proofs.YtlkfmgfblfkgbaaGreatDoor
open Go.RowKit

theorem cutM_sub {c : Nat} : ∀ {l : List Nat}, ∀ w ∈ cutM c l, w.length ≤ l.length ∧ ∀ x ∈ w, x ∈ l
  | [], w, hw => by
    simp [cutM] at hw
    subst hw; simp
  | x :: r, w, hw => by
    by_cases hx : x = c
    · rw [cutM, if_pos hx] at hw
      rcases List.mem_cons.1 hw with rfl | hw
      · simp
      · obtain ⟨h1, h2⟩ := cutM_sub w hw
        exact ⟨by simp; omega, fun y hy => List.mem_cons_of_mem _ (h2 y hy)⟩
    · obtain ⟨y, t, e1, e2⟩ := cutM_cons (r := r) hx
      rw [e2] at hw
      rcases List.mem_cons.1 hw with rfl | hw
      · obtain ⟨h1, h2⟩ := cutM_sub (l := r) y (by rw [e1]; exact List.mem_cons_self ..)
        refine ⟨by simp; omega, fun z hz => ?_⟩
        rcases List.mem_cons.1 hz with rfl | hz
        · exact List.mem_cons_self ..
        · exact List.mem_cons_of_mem _ (h2 z hz)
      · obtain ⟨h1, h2⟩ := cutM_sub (l := r) w (by rw [e1]; exact List.mem_cons_of_mem _ hw)
        exact ⟨by simp; omega, fun z hz => List.mem_cons_of_mem _ (h2 z hz)⟩
theorem cutM_len {c : Nat} : ∀ {l : List Nat}, (cutM c l).length ≤ l.length + 1
  | [] => by simp [cutM]
  | x :: r => by
    have ih := cutM_len (c := c) (l := r)
    by_cases hx : x = c
    · rw [cutM, if_pos hx]; simp; omega
    · obtain ⟨y, t, e1, e2⟩ := cutM_cons (r := r) hx
      rw [e1] at ih
      rw [e2]; simp at ih ⊢; omega
theorem psL_step {ws : List (List Nat)} {k : Nat} (h : k < ws.length) {p : YgP} (hp : rgM (nthS ws k) = some p) (out : List YgP) : (psL (ws.drop k)).map (out ++ ·) = (psL (ws.drop (k + 1))).map ((out ++ [p]) ++ ·) := by
  rw [drop_consT ws k h, psL, hp]
  cases psL (ws.drop (k + 1)) <;> simp
theorem psL_none {ws : List (List Nat)} {k : Nat} (h : k < ws.length) (hp : rgM (nthS ws k) = none) : psL (ws.drop k) = none := by
  rw [drop_consT ws k h, psL, hp]
/-- A row of texts and a row of ranges are two. -/
theorem own_two {w : World} {B C : Nat} {v u : Value} {l : List (List Nat)} {m : List YgP} (h : OwnS w B v l) (k : OwnY w C u m) : v.ownBlock = none ∨ v.ownBlock ≠ u.ownBlock := by
  rcases h.2 with ⟨rfl, _⟩ | ⟨g, cap, cur, rfl, _, hg, _⟩
  · exact .inl rfl
  · right
    rcases k.2 with ⟨rfl, _⟩ | ⟨g', cap', cur', rfl, _, hg', _⟩
    · intro e; cases e
    · intro e
      have e' : g = g' := by simpa [Value.ownBlock] using e
      subst e'
      rw [hg] at hg'
      simp at hg'
/-- An append of one range that was laid just ahead, with what it leaves. -/
theorem wpList_app_newYg {wr : World} {ops : Array Oper} {rest : List Oper} {o : Oper} {a : Act} {Q : Exit → Act → World → Prop} (hgd : o.guard = none) (s x : Operand)
    (ho : o.op = .call { callee := .builtin .append, args := #[s, x], argTypes := #[25, 25] })
    (B : Nat) (v : Value) (l : List YgP) (hs : a.eval s = v) (hown : OwnY wr B v l) (p q : Int) (hx : a.eval x = .slice (some ⟨wr.heap.size, 0, none⟩) 1 1)
    (hsz : l.length + 1 ≤ 1048577) (hB : B ≤ wr.heap.size)
    (h : ∀ v' w1, OwnY w1 B v' (l ++ [(p, q)]) → (wr.alloc (.cells #[.int .i64 p, .int .i64 q] 42)).grownBy w1 v.ownBlock → wpList Tryz.prog ops Q rest (a.put o.dst v') w1) : wpList Tryz.prog ops Q (o :: rest) a (wr.alloc (.cells #[.int .i64 p, .int .i64 q] 42)) := by
  obtain ⟨i0, hi, hz0, hz1, hz2⟩ := info_parts infoY
  refine wpList_append_own _ hgd s x 25 ho B 42 i0 zeroY 2 16 Tryz.underlying25 hi hz0 hz1 hz2 rfl (by decide) v l.length (yc l) hs (hown.alloc _) ⟨wr.heap.size, 0, none⟩ 1 1 (yc [(p, q)]) hx rfl ?_ (yc_one _) (by unfold maxLen; omega) (by omega) (by simp; omega) ?_
  · intro j u hj
    rw [Go.WideShapes.add_plain, World.cell?_alloc_mark, Nat.zero_add, ← Array.getElem?_toList]
    exact hj
  · intro v' w1 hown' hgr _
    refine h v' w1 ?_ hgr
    unfold OwnY
    rw [yc_app, List.length_append]
    exact hown'
theorem OwnS.keptT {w w' : World} {B : Nat} {v : Value} {l : List (List Nat)} {row : Option Nat} (h : OwnS w B v l) (hg : w.grownBy w' row) (hne : v.ownBlock = none ∨ v.ownBlock ≠ row) : OwnS w' B v l := World.ownsRow.kept h hg hne

/-- How the model's reading ends. -/
def PrE (l : List Nat) (w : World) (e : Ending) (w' : World) : Prop := match psL (cutM 44 l) with
  | none => e = .returned (.tuple #[.slice none 0 0, .bool false]) ∧ Below w.heap.size w w'
  | some out => ∃ v, e = .returned (.tuple #[v, .bool (decide (out.length ≤ 8))]) ∧ OwnY w' w.heap.size v out ∧ Below w.heap.size w w'
theorem PrE.no {l : List Nat} {w w' : World} (h : psL (cutM 44 l) = none) (hb : Below w.heap.size w w') : PrE l w (.returned (.tuple #[.slice none 0 0, .bool false])) w' := by
  unfold PrE; rw [h]; exact ⟨rfl, hb⟩
theorem PrE.yes {l : List Nat} {w w' : World} {out : List YgP} {v : Value} {b : Bool} (h : psL (cutM 44 l) = some out) (hv : OwnY w' w.heap.size v out) (hd : b = decide (out.length ≤ 8)) (hb : Below w.heap.size w w') : PrE l w (.returned (.tuple #[v, .bool b])) w' := by
  unfold PrE; rw [h, hd]; exact ⟨v, rfl, hv, hb⟩

set_option maxHeartbeats 12800000 in
set_option maxRecDepth 100000 in
theorem l11Parse_any (l : List Nat) (n : Nat) (w : World) (hl : l.length = n) (hB : IsB l) (hn : n ≤ 1048576) :
    Calls Tryz.prog 23 #[.string (str l)] w fun e w' => PrE l w e w' := by
  have hsz : (str l).size = n := by rw [str_size, hl]
  have HC1 : Hid (∀ w, Calls Tryz.prog 39 #[.string (str l), .int .u8 44] w fun e w' => ∃ v, e = .returned v ∧ OwnS w' w.heap.size v (cutM 44 l) ∧ Below w.heap.size w w') := fun w => l11Cut_any 44 l n w hl hB hn
  have hwl := cutM_len (c := 44) (l := l)
  have HSUB : Hid (∀ x ∈ cutM 44 l, x.length ≤ n ∧ IsB x) := fun x hx => by
    obtain ⟨h1, h2⟩ := cutM_sub (c := 44) (l := l) x hx
    exact ⟨by omega, fun y hy => hB y (h2 y hy)⟩
  have HNO : Hid (∀ w', psL (cutM 44 l) = none → Below w.heap.size w w' → PrE l w (.returned (.tuple #[.slice none 0 0, .bool false])) w') := fun w' h hb => PrE.no h hb
  have HYES : Hid (∀ w' v out b, psL (cutM 44 l) = some out → OwnY w' w.heap.size v out → b = decide (out.length ≤ 8) → Below w.heap.size w w' → PrE l w (.returned (.tuple #[v, .bool b])) w') := fun w' v out b h1 h2 h3 h4 => PrE.yes h1 h2 h3 h4
  have hown0 : OwnY (w.alloc (.cells #[] 42)) w.heap.size (.slice (some ⟨w.heap.size, 0, none⟩) 0 0) [] := by
    have := World.ownsRow_lit (base := w.heap.size) (e := 42) (size := 2) w #[] 0 (Nat.le_refl _) (by decide) rfl
    exact this
  have hb0 : Below w.heap.size w (w.alloc (.cells #[] 42)) := (Below.refl _ _).alloc (Nat.le_refl _) _
  generalize cutM 44 l = ws at *
  clear hsz
  rw [hl] at hwl
  clear hl hB
  generalize hsl : str l = sl at *
  clear hsl
  go_enter Tryz.func23, Tryz.ntmps23
  go_wp2_with fail
  refine (HC1.out _).mono ?_
  rintro e w1 ⟨v1, rfl, hos, hb1⟩
  have ho1 := hown0.below hb1 (Nat.le_refl _)
  have hB1 := hb0.trans (hb1.mono (by simp))
  obtain ⟨W, hW⟩ : ∃ W, ws.length = W := ⟨_, rfl⟩
  obtain ⟨a1, c1, hv1, -, -⟩ := hos.form
  rw [hW] at hv1 hwl
  subst hv1
  have hos1 := hos.low (C := w.heap.size) (by simp)
  clear hown0 hb0 hos hb1 HC1
  go_wp2
  go_loopw [4, 6] (fun v iv wr => ∃ (k : Nat) (out : List YgP), k ≤ W ∧ iv = .int .i64 k ∧ OwnY wr w.heap.size v out ∧ OwnS wr w.heap.size (.slice a1 W c1) ws ∧ out.length = k ∧ psL ws = (psL (ws.drop k)).map (out ++ ·) ∧ Below w.heap.size w wr)
    (fun _ iv _ => W - (intOf iv).toNat)
  case atStart => exact ⟨0, [], Nat.zero_le _, rfl, ho1, hos1, rfl, by simp, hB1⟩
  case round =>
    obtain ⟨k, out, hk, rfl, hown, hows, hol, hps, hbel⟩ := hrel
    clear ho1 hos1 hB1
    by_cases hkn : k < W
    · have hki : (k : Int) < (W : Int) := by omega
      obtain ⟨gw, offw, ea1, hgwl, hgwc⟩ := hows.rd.2.at_ (by omega)
      have hcw : wr.cell? ⟨gw, offw + k, none⟩ = some (.string (str (nthS ws k))) := hgwc k (by omega)
      obtain ⟨hxl, hxB⟩ := HSUB.out (nthS ws k) (by rw [nthS_get (by omega)]; exact List.getElem_mem _)
      have HC2 : Hid (∀ w, Calls Tryz.prog 39 #[.string (str (nthS ws k)), .int .u8 58] w fun e w' => ∃ v, e = .returned v ∧ OwnS w' w.heap.size v (cutM 58 (nthS ws k)) ∧ Below w.heap.size w w') := fun w => l11Cut_any 58 (nthS ws k) _ w rfl hxB (by omega)
      have HSB2 : Hid (∀ x ∈ cutM 58 (nthS ws k), x.length ≤ n ∧ IsB x) := fun x hx => by
        obtain ⟨h1, h2⟩ := cutM_sub (c := 58) (l := nthS ws k) x hx
        exact ⟨by omega, fun y hy => hxB y (h2 y hy)⟩
      have HPN : Hid (rgM (nthS ws k) = none → psL ws = none) := fun h => by rw [hps, psL_none (by omega) h]; rfl
      have HPY : Hid (∀ p, rgM (nthS ws k) = some p → psL ws = (psL (ws.drop (k + 1))).map ((out ++ [p]) ++ ·)) := fun p h => by rw [hps]; exact psL_step (by omega) h out
      have hes1 := cutM_len (c := 58) (l := nthS ws k)
      have hesn := cutM_ne 58 (nthS ws k)
      unfold rgM rgE at HPN HPY
      generalize cutM 58 (nthS ws k) = es at *
      generalize str (nthS ws k) = sw at *
      clear hgwc hps hxB
      subst ea1
      obtain ⟨av, cv, ev, _, _⟩ := hown.form
      rw [hol] at ev
      subst ev
      go_wp2_with fail
      refine (HC2.out _).mono ?_
      rintro e w2 ⟨v2, rfl, ho2, hb2⟩
      have hown2 := hown.below hb2 (Nat.le_refl _)
      have hows2 := hows.below hb2 (Nat.le_refl _)
      have hbel2 := hbel.trans (hb2.mono hbel.size)
      obtain ⟨m, hm⟩ : ∃ m, es.length = m := ⟨_, rfl⟩
      have hm1 : 1 ≤ m := by
        rcases Nat.lt_or_ge 0 es.length with h | h
        · omega
        · exact absurd (List.length_eq_zero_iff.1 (Nat.le_zero.1 h)) hesn
      obtain ⟨a2, c2, hv2, -, -⟩ := ho2.form
      rw [hm] at hv2
      subst hv2
      obtain ⟨ge, offe, ea2, hgel, hgec⟩ := ho2.rd.2.at_ (by omega)
      subst ea2
      have he0 := hgec 0 (by omega)
      have he1 := hgec (m - 1) (by omega)
      rw [Nat.add_zero] at he0
      obtain ⟨l0, B0⟩ := HSB2.out (nthS es 0) (by rw [nthS_get (by omega)]; exact List.getElem_mem _)
      obtain ⟨l1, B1⟩ := HSB2.out (nthS es (m - 1)) (by rw [nthS_get (by omega)]; exact List.getElem_mem _)
      have HE0 : Hid (∀ w, Calls Tryz.prog 40 #[.string (str (nthS es 0))] w fun e w' => e = .returned (.int .i64 (endM (nthS es 0))) ∧ w = w') := fun w => l11End_any (nthS es 0) _ w rfl B0 (by omega)
      have HE1 : Hid (∀ w, Calls Tryz.prog 40 #[.string (str (nthS es (m - 1)))] w fun e w' => e = .returned (.int .i64 (endM (nthS es (m - 1)))) ∧ w = w') := fun w => l11End_any (nthS es (m - 1)) _ w rfl B1 (by omega)
      rw [hm] at HPN HPY hes1
      clear hb2 hown hows hbel ho2 hgec HSB2 HC2 B0 B1 l0 l1
      generalize endM (nthS es 0) = f at *
      generalize endM (nthS es (m - 1)) = t at *
      generalize str (nthS es 0) = s0 at *
      generalize str (nthS es (m - 1)) = s1 at *
      obtain ⟨m', hm'⟩ : ∃ m', m = m' + 1 := ⟨m - 1, by omega⟩
      subst hm'
      rw [Nat.add_sub_cancel] at he1
      have hwm : IntKind.i64.wrap (m' : Int) = (m' : Int) := by rw [IntKind.wrap_i64]; omega
      have hmi : (m' : Int) < (m' : Int) + 1 := by omega
      have hbA : Below w2.heap.size w2 (w2.alloc (.cells #[.int .i64 f, .int .i64 t] 42)) := (Below.refl _ _).alloc (Nat.le_refl _) _
      have hownA := hown2.below hbA (Nat.le_refl _)
      have howsA := hows2.below hbA (Nat.le_refl _)
      have HBA : Hid (Below w.heap.size w (w2.alloc (.cells #[.int .i64 f, .int .i64 t] 42))) := hbel2.trans (hbA.mono hbel2.size)
      have HOA : Hid (_) := hownA
      have HSA : Hid (_) := howsA
      have hle2 : w.heap.size ≤ w2.heap.size := hbel2.size
      have hA0 : ∀ ob, (w2.alloc ob).cell? ⟨ge, offe, none⟩ = some (.string s0) := fun ob => by rw [World.cell?_alloc_old _ _ _ (Nat.ne_of_lt hgel)]; exact he0
      have hA1 : ∀ ob, (w2.alloc ob).cell? ⟨ge, offe + m', none⟩ = some (.string s1) := fun ob => by rw [World.cell?_alloc_old _ _ _ (Nat.ne_of_lt hgel)]; exact he1
      clear hownA howsA hown2 hows2 hbel2 hbA
      by_cases o1 : 2 < m' + 1
      · have hx : (m' : Int) + 1 > 2 := by omega
        have HN : Hid (psL ws = none) := HPN.out (if_pos (.inl o1))
        go_wp2_with fail
        refine wp_region_held_drew (S := fun w' => w'.cell? ⟨ge, offe, none⟩ = some (.string s0) ∧ w'.cell? ⟨ge, offe + m', none⟩ = some (.string s1)) (by kernel_rfl) ?hS1 (fun hHeld => ?_)
        case hS1 => exact ⟨he0, he1⟩
        refine wpAnyH_take (i := 0) (v := ?_) rfl (by kernel_rfl) (by kernel_rfl) (by kernel_rfl) (fun _ _ _ h => h) (Or.inl ⟨by rfl, ?hy2⟩) (by assumption) ?ty2
        case hy2 => (intro w5 hSw; (try dsimp only at hSw); (try obtain ⟨p0, p1, p2, p3, p4⟩ := hSw); go_simp; all_goals with_reducible rfl)
        simp only [Act.put, List.getElem_toArray, List.getElem_cons_zero, List.setIfInBounds_toArray, List.set_cons_zero, List.set_cons_succ]
        refine wpAnyH_take (i := 1) (v := ?_) rfl (by kernel_rfl) (by kernel_rfl) (by kernel_rfl) (fun _ _ _ h => h) (Or.inl ⟨by rfl, ?hy3⟩) (by assumption) ?ty3
        case hy3 => (intro w5 hSw; (try dsimp only at hSw); (try obtain ⟨p0, p1, p2, p3, p4⟩ := hSw); go_simp; all_goals first | with_reducible rfl | (rw [if_pos (by omega)]))
        simp only [Act.put, List.getElem_toArray, List.getElem_cons_zero, List.getElem_cons_succ, List.setIfInBounds_toArray, List.set_cons_zero, List.set_cons_succ]
        refine wpAnyH_take (i := 2) (v := ?_) rfl (by kernel_rfl) (by kernel_rfl) (by kernel_rfl) (fun _ _ _ h => h) (Or.inl ⟨by rfl, ?hy4⟩) (by assumption) ?ty4
        case hy4 => (intro w5 hSw; (try dsimp only at hSw); (try obtain ⟨p0, p1, p2, p3, p4⟩ := hSw); go_simp; all_goals first | with_reducible rfl | (rw [if_pos (by omega)]))
        simp only [Act.put, List.getElem_toArray, List.getElem_cons_zero, List.getElem_cons_succ, List.setIfInBounds_toArray, List.set_cons_zero, List.set_cons_succ]
        refine wpAnyH_take (i := 4) (v := ?_) rfl (by kernel_rfl) (by kernel_rfl) (by kernel_rfl) (fun _ _ _ h => h) (Or.inl ⟨by rfl, ?hy5⟩) (by assumption) ?ty5
        case hy5 => (intro w5 hSw; (try dsimp only at hSw); (try obtain ⟨p0, p1, p2, p3, p4⟩ := hSw); go_simp; all_goals with_reducible rfl)
        simp only [Act.put, List.getElem_toArray, List.getElem_cons_zero, List.getElem_cons_succ, List.setIfInBounds_toArray, List.set_cons_zero, List.set_cons_succ]
        refine wpAnyH_take (i := 5) (v := ?_) rfl (by kernel_rfl) (by kernel_rfl) (by kernel_rfl) (fun _ _ _ h => h) (Or.inl ⟨by rfl, ?hy6⟩) (by assumption) ?ty6
        case hy6 => (intro w5 hSw; (try dsimp only at hSw); (try obtain ⟨p0, p1, p2, p3, p4⟩ := hSw); go_simp; all_goals with_reducible rfl)
        simp only [Act.put, List.getElem_toArray, List.getElem_cons_zero, List.getElem_cons_succ, List.setIfInBounds_toArray, List.set_cons_zero, List.set_cons_succ]
        refine wpAnyH_take (i := 6) (v := ?_) rfl (by kernel_rfl) (by kernel_rfl) (by kernel_rfl) (fun _ _ _ h => h) (Or.inl ⟨by rfl, ?hy7⟩) (by assumption) ?ty7
        case hy7 => (intro w5 hSw; (try dsimp only at hSw); (try obtain ⟨p0, p1, p2, p3, p4⟩ := hSw); go_simp; all_goals with_reducible rfl)
        simp only [Act.put, List.getElem_toArray, List.getElem_cons_zero, List.getElem_cons_succ, List.setIfInBounds_toArray, List.set_cons_zero, List.set_cons_succ]
        refine wpAnyH_take (i := 7) (v := .int .i64 (m' : Int)) rfl (by kernel_rfl) (by kernel_rfl) (by kernel_rfl) (fun _ _ _ h => h) (Or.inl ⟨by rfl, ?hy8⟩) (by assumption) ?ty8
        case hy8 => (intro w5 hSw; (try dsimp only at hSw); (try obtain ⟨p0, p1, p2, p3, p4⟩ := hSw); go_simp; all_goals first | (rw [hwm]) | (simp [hwm]; done) | with_reducible rfl)
        simp only [Act.put, List.getElem_toArray, List.getElem_cons_zero, List.getElem_cons_succ, List.setIfInBounds_toArray, List.set_cons_zero, List.set_cons_succ]
        refine wpAnyH_take (i := 8) (v := ?_) rfl (by kernel_rfl) (by kernel_rfl) (by kernel_rfl) (fun _ _ _ h => h) (Or.inl ⟨by rfl, ?hy9⟩) (by assumption) ?ty9
        case hy9 => (intro w5 hSw; (try dsimp only at hSw); (try obtain ⟨p0, p1, p2, p3, p4⟩ := hSw); go_simp; all_goals first | with_reducible rfl | (rw [if_pos (by omega)]))
        simp only [Act.put, List.getElem_toArray, List.getElem_cons_zero, List.getElem_cons_succ, List.setIfInBounds_toArray, List.set_cons_zero, List.set_cons_succ]
        refine wpAnyH_take (i := 9) (v := ?_) rfl (by kernel_rfl) (by kernel_rfl) (by kernel_rfl) (fun _ _ _ h => h) (Or.inl ⟨by rfl, ?hy10⟩) (by assumption) ?ty10
        case hy10 => (intro w5 hSw; (try dsimp only at hSw); (try obtain ⟨p0, p1, p2, p3, p4⟩ := hSw); go_simp; all_goals first | with_reducible rfl | (rw [if_pos (by omega)]))
        simp only [Act.put, List.getElem_toArray, List.getElem_cons_zero, List.getElem_cons_succ, List.setIfInBounds_toArray, List.set_cons_zero, List.set_cons_succ]
        refine wpAnyH_ready (rs := [3, 12]) (by kernel_rfl) (by simp) ?_
        refine AllReadyH.cons rfl (fun K hK => ?_) (AllReadyH.cons rfl (fun K hK => ?_) AllReadyH.nil)
        · go_simp
          refine (HE0.out _).mono ?_
          rintro e wz ⟨rfl, rfl⟩
          refine hK.out _ _ ⟨he0, he1⟩ (fun hHeld => ?_)
          clear hK K
          refine wpAnyH_ready (rs := [10, 12]) (by kernel_rfl) (by simp) ?_
          refine AllReadyH.cons rfl (fun K hK => ?_) (AllReadyH.cons rfl (fun K hK => ?_) AllReadyH.nil)
          · go_simp
            refine (HE1.out _).mono ?_
            rintro e wz ⟨rfl, rfl⟩
            refine hK.out _ _ ⟨he0, he1⟩ (fun hHeld => ?_)
            clear hK K
            refine wpAnyH_take (i := 11) (v := ?_) rfl (by kernel_rfl) (by kernel_rfl) (by kernel_rfl) (fun _ _ _ h => h) (Or.inl ⟨by rfl, ?hy11⟩) (by assumption) ?ty11
            case hy11 => (intro w5 hSw; (try dsimp only at hSw); (try obtain ⟨p0, p1, p2, p3, p4⟩ := hSw); go_simp; all_goals with_reducible rfl)
            simp only [Act.put, List.getElem_toArray, List.getElem_cons_zero, List.getElem_cons_succ, List.setIfInBounds_toArray, List.set_cons_zero, List.set_cons_succ]
            refine wpAnyH_ready (rs := [12]) (by kernel_rfl) (by simp) ?_
            refine AllReadyH.cons rfl (fun K hK => ?_) AllReadyH.nil
            go_simp
            refine hK.out _ _ ⟨by exact hA0 _, by exact hA1 _⟩ (fun hHeld => ?_)
            clear hK K
            refine wpAnyH_ready (rs := [13]) (by kernel_rfl) (by simp) ?_
            refine AllReadyH.cons rfl (fun K hK => ?_) AllReadyH.nil
            go_simp
            refine hK.out _ _ ⟨by exact hA0 _, by exact hA1 _⟩ (fun hHeld => ?_)
            clear hK K
            refine wpAnyH_done (by kernel_rfl) ?_ _
            clear hHeld he0 he1 hA0 hA1 HE0 HE1 hcw
            clear HSA HOA HPY HYES
            go_wp2
            go_returns
            exact HNO.out _ HN.out HBA.out.drew
          · go_simp
            refine hK.out _ _ ⟨by exact hA0 _, by exact hA1 _⟩ (fun hHeld => ?_)
            clear hK K
            refine wpAnyH_ready (rs := [10]) (by kernel_rfl) (by simp) ?_
            refine AllReadyH.cons rfl (fun K hK => ?_) AllReadyH.nil
            go_simp
            refine (HE1.out _).mono ?_
            rintro e wz ⟨rfl, rfl⟩
            refine hK.out _ _ ⟨by exact hA0 _, by exact hA1 _⟩ (fun hHeld => ?_)
            clear hK K
            refine wpAnyH_take (i := 11) (v := ?_) rfl (by kernel_rfl) (by kernel_rfl) (by kernel_rfl) (fun _ _ _ h => h) (Or.inl ⟨by rfl, ?hy12⟩) (by assumption) ?ty12
            case hy12 => (intro w5 hSw; (try dsimp only at hSw); (try obtain ⟨p0, p1, p2, p3, p4⟩ := hSw); go_simp; all_goals with_reducible rfl)
            simp only [Act.put, List.getElem_toArray, List.getElem_cons_zero, List.getElem_cons_succ, List.setIfInBounds_toArray, List.set_cons_zero, List.set_cons_succ]
            refine wpAnyH_ready (rs := [13]) (by kernel_rfl) (by simp) ?_
            refine AllReadyH.cons rfl (fun K hK => ?_) AllReadyH.nil
            go_simp
            refine hK.out _ _ ⟨by exact hA0 _, by exact hA1 _⟩ (fun hHeld => ?_)
            clear hK K
            refine wpAnyH_done (by kernel_rfl) ?_ _
            clear hHeld he0 he1 hA0 hA1 HE0 HE1 hcw
            clear HSA HOA HPY HYES
            go_wp2
            go_returns
            exact HNO.out _ HN.out HBA.out.drew
        · go_simp
          refine hK.out _ _ ⟨by exact hA0 _, by exact hA1 _⟩ (fun hHeld => ?_)
          clear hK K
          refine wpAnyH_ready (rs := [3]) (by kernel_rfl) (by simp) ?_
          refine AllReadyH.cons rfl (fun K hK => ?_) AllReadyH.nil
          go_simp
          refine (HE0.out _).mono ?_
          rintro e wz ⟨rfl, rfl⟩
          refine hK.out _ _ ⟨by exact hA0 _, by exact hA1 _⟩ (fun hHeld => ?_)
          clear hK K
          refine wpAnyH_ready (rs := [10]) (by kernel_rfl) (by simp) ?_
          refine AllReadyH.cons rfl (fun K hK => ?_) AllReadyH.nil
          go_simp
          refine (HE1.out _).mono ?_
          rintro e wz ⟨rfl, rfl⟩
          refine hK.out _ _ ⟨by exact hA0 _, by exact hA1 _⟩ (fun hHeld => ?_)
          clear hK K
          refine wpAnyH_take (i := 11) (v := ?_) rfl (by kernel_rfl) (by kernel_rfl) (by kernel_rfl) (fun _ _ _ h => h) (Or.inl ⟨by rfl, ?hy13⟩) (by assumption) ?ty13
          case hy13 => (intro w5 hSw; (try dsimp only at hSw); (try obtain ⟨p0, p1, p2, p3, p4⟩ := hSw); go_simp; all_goals with_reducible rfl)
          simp only [Act.put, List.getElem_toArray, List.getElem_cons_zero, List.getElem_cons_succ, List.setIfInBounds_toArray, List.set_cons_zero, List.set_cons_succ]
          refine wpAnyH_ready (rs := [13]) (by kernel_rfl) (by simp) ?_
          refine AllReadyH.cons rfl (fun K hK => ?_) AllReadyH.nil
          go_simp
          refine hK.out _ _ ⟨by exact hA0 _, by exact hA1 _⟩ (fun hHeld => ?_)
          clear hK K
          refine wpAnyH_done (by kernel_rfl) ?_ _
          clear hHeld he0 he1 hA0 hA1 HE0 HE1 hcw
          clear HSA HOA HPY HYES
          go_wp2
          go_returns
          exact HNO.out _ HN.out HBA.out.drew
      · have hx1 : ¬ (m' : Int) + 1 > 2 := by omega
        by_cases o2 : f < 0
        · skip
          have HN : Hid (psL ws = none) := HPN.out (if_pos (.inr (.inl o2)))
          go_wp2_with fail
          refine wp_region_held_drew (S := fun w' => w'.cell? ⟨ge, offe, none⟩ = some (.string s0) ∧ w'.cell? ⟨ge, offe + m', none⟩ = some (.string s1)) (by kernel_rfl) ?hS14 (fun hHeld => ?_)
          case hS14 => exact ⟨he0, he1⟩
          refine wpAnyH_take (i := 0) (v := ?_) rfl (by kernel_rfl) (by kernel_rfl) (by kernel_rfl) (fun _ _ _ h => h) (Or.inl ⟨by rfl, ?hy15⟩) (by assumption) ?ty15
          case hy15 => (intro w5 hSw; (try dsimp only at hSw); (try obtain ⟨p0, p1, p2, p3, p4⟩ := hSw); go_simp; all_goals with_reducible rfl)
          simp only [Act.put, List.getElem_toArray, List.getElem_cons_zero, List.setIfInBounds_toArray, List.set_cons_zero, List.set_cons_succ]
          refine wpAnyH_take (i := 1) (v := ?_) rfl (by kernel_rfl) (by kernel_rfl) (by kernel_rfl) (fun _ _ _ h => h) (Or.inl ⟨by rfl, ?hy16⟩) (by assumption) ?ty16
          case hy16 => (intro w5 hSw; (try dsimp only at hSw); (try obtain ⟨p0, p1, p2, p3, p4⟩ := hSw); go_simp; all_goals first | with_reducible rfl | (rw [if_pos (by omega)]))
          simp only [Act.put, List.getElem_toArray, List.getElem_cons_zero, List.getElem_cons_succ, List.setIfInBounds_toArray, List.set_cons_zero, List.set_cons_succ]
          refine wpAnyH_take (i := 2) (v := ?_) rfl (by kernel_rfl) (by kernel_rfl) (by kernel_rfl) (fun _ _ _ h => h) (Or.inl ⟨by rfl, ?hy17⟩) (by assumption) ?ty17
          case hy17 => (intro w5 hSw; (try dsimp only at hSw); (try obtain ⟨p0, p1, p2, p3, p4⟩ := hSw); go_simp; all_goals first | with_reducible rfl | (rw [if_pos (by omega)]))
          simp only [Act.put, List.getElem_toArray, List.getElem_cons_zero, List.getElem_cons_succ, List.setIfInBounds_toArray, List.set_cons_zero, List.set_cons_succ]
          refine wpAnyH_take (i := 4) (v := ?_) rfl (by kernel_rfl) (by kernel_rfl) (by kernel_rfl) (fun _ _ _ h => h) (Or.inl ⟨by rfl, ?hy18⟩) (by assumption) ?ty18
          case hy18 => (intro w5 hSw; (try dsimp only at hSw); (try obtain ⟨p0, p1, p2, p3, p4⟩ := hSw); go_simp; all_goals with_reducible rfl)
          simp only [Act.put, List.getElem_toArray, List.getElem_cons_zero, List.getElem_cons_succ, List.setIfInBounds_toArray, List.set_cons_zero, List.set_cons_succ]
          refine wpAnyH_take (i := 5) (v := ?_) rfl (by kernel_rfl) (by kernel_rfl) (by kernel_rfl) (fun _ _ _ h => h) (Or.inl ⟨by rfl, ?hy19⟩) (by assumption) ?ty19
          case hy19 => (intro w5 hSw; (try dsimp only at hSw); (try obtain ⟨p0, p1, p2, p3, p4⟩ := hSw); go_simp; all_goals with_reducible rfl)
          simp only [Act.put, List.getElem_toArray, List.getElem_cons_zero, List.getElem_cons_succ, List.setIfInBounds_toArray, List.set_cons_zero, List.set_cons_succ]
          refine wpAnyH_take (i := 6) (v := ?_) rfl (by kernel_rfl) (by kernel_rfl) (by kernel_rfl) (fun _ _ _ h => h) (Or.inl ⟨by rfl, ?hy20⟩) (by assumption) ?ty20
          case hy20 => (intro w5 hSw; (try dsimp only at hSw); (try obtain ⟨p0, p1, p2, p3, p4⟩ := hSw); go_simp; all_goals with_reducible rfl)
          simp only [Act.put, List.getElem_toArray, List.getElem_cons_zero, List.getElem_cons_succ, List.setIfInBounds_toArray, List.set_cons_zero, List.set_cons_succ]
          refine wpAnyH_take (i := 7) (v := .int .i64 (m' : Int)) rfl (by kernel_rfl) (by kernel_rfl) (by kernel_rfl) (fun _ _ _ h => h) (Or.inl ⟨by rfl, ?hy21⟩) (by assumption) ?ty21
          case hy21 => (intro w5 hSw; (try dsimp only at hSw); (try obtain ⟨p0, p1, p2, p3, p4⟩ := hSw); go_simp; all_goals first | (rw [hwm]) | (simp [hwm]; done) | with_reducible rfl)
          simp only [Act.put, List.getElem_toArray, List.getElem_cons_zero, List.getElem_cons_succ, List.setIfInBounds_toArray, List.set_cons_zero, List.set_cons_succ]
          refine wpAnyH_take (i := 8) (v := ?_) rfl (by kernel_rfl) (by kernel_rfl) (by kernel_rfl) (fun _ _ _ h => h) (Or.inl ⟨by rfl, ?hy22⟩) (by assumption) ?ty22
          case hy22 => (intro w5 hSw; (try dsimp only at hSw); (try obtain ⟨p0, p1, p2, p3, p4⟩ := hSw); go_simp; all_goals first | with_reducible rfl | (rw [if_pos (by omega)]))
          simp only [Act.put, List.getElem_toArray, List.getElem_cons_zero, List.getElem_cons_succ, List.setIfInBounds_toArray, List.set_cons_zero, List.set_cons_succ]
          refine wpAnyH_take (i := 9) (v := ?_) rfl (by kernel_rfl) (by kernel_rfl) (by kernel_rfl) (fun _ _ _ h => h) (Or.inl ⟨by rfl, ?hy23⟩) (by assumption) ?ty23
          case hy23 => (intro w5 hSw; (try dsimp only at hSw); (try obtain ⟨p0, p1, p2, p3, p4⟩ := hSw); go_simp; all_goals first | with_reducible rfl | (rw [if_pos (by omega)]))
          simp only [Act.put, List.getElem_toArray, List.getElem_cons_zero, List.getElem_cons_succ, List.setIfInBounds_toArray, List.set_cons_zero, List.set_cons_succ]
          refine wpAnyH_ready (rs := [3, 12]) (by kernel_rfl) (by simp) ?_
          refine AllReadyH.cons rfl (fun K hK => ?_) (AllReadyH.cons rfl (fun K hK => ?_) AllReadyH.nil)
          · go_simp
            refine (HE0.out _).mono ?_
            rintro e wz ⟨rfl, rfl⟩
            refine hK.out _ _ ⟨he0, he1⟩ (fun hHeld => ?_)
            clear hK K
            refine wpAnyH_ready (rs := [10, 12]) (by kernel_rfl) (by simp) ?_
            refine AllReadyH.cons rfl (fun K hK => ?_) (AllReadyH.cons rfl (fun K hK => ?_) AllReadyH.nil)
            · go_simp
              refine (HE1.out _).mono ?_
              rintro e wz ⟨rfl, rfl⟩
              refine hK.out _ _ ⟨he0, he1⟩ (fun hHeld => ?_)
              clear hK K
              refine wpAnyH_take (i := 11) (v := ?_) rfl (by kernel_rfl) (by kernel_rfl) (by kernel_rfl) (fun _ _ _ h => h) (Or.inl ⟨by rfl, ?hy24⟩) (by assumption) ?ty24
              case hy24 => (intro w5 hSw; (try dsimp only at hSw); (try obtain ⟨p0, p1, p2, p3, p4⟩ := hSw); go_simp; all_goals with_reducible rfl)
              simp only [Act.put, List.getElem_toArray, List.getElem_cons_zero, List.getElem_cons_succ, List.setIfInBounds_toArray, List.set_cons_zero, List.set_cons_succ]
              refine wpAnyH_ready (rs := [12]) (by kernel_rfl) (by simp) ?_
              refine AllReadyH.cons rfl (fun K hK => ?_) AllReadyH.nil
              go_simp
              refine hK.out _ _ ⟨by exact hA0 _, by exact hA1 _⟩ (fun hHeld => ?_)
              clear hK K
              refine wpAnyH_ready (rs := [13]) (by kernel_rfl) (by simp) ?_
              refine AllReadyH.cons rfl (fun K hK => ?_) AllReadyH.nil
              go_simp
              refine hK.out _ _ ⟨by exact hA0 _, by exact hA1 _⟩ (fun hHeld => ?_)
              clear hK K
              refine wpAnyH_done (by kernel_rfl) ?_ _
              clear hHeld he0 he1 hA0 hA1 HE0 HE1 hcw
              clear HSA HOA HPY HYES
              go_wp2
              go_returns
              exact HNO.out _ HN.out HBA.out.drew
            · go_simp
              refine hK.out _ _ ⟨by exact hA0 _, by exact hA1 _⟩ (fun hHeld => ?_)
              clear hK K
              refine wpAnyH_ready (rs := [10]) (by kernel_rfl) (by simp) ?_
              refine AllReadyH.cons rfl (fun K hK => ?_) AllReadyH.nil
              go_simp
              refine (HE1.out _).mono ?_
              rintro e wz ⟨rfl, rfl⟩
              refine hK.out _ _ ⟨by exact hA0 _, by exact hA1 _⟩ (fun hHeld => ?_)
              clear hK K
              refine wpAnyH_take (i := 11) (v := ?_) rfl (by kernel_rfl) (by kernel_rfl) (by kernel_rfl) (fun _ _ _ h => h) (Or.inl ⟨by rfl, ?hy25⟩) (by assumption) ?ty25
              case hy25 => (intro w5 hSw; (try dsimp only at hSw); (try obtain ⟨p0, p1, p2, p3, p4⟩ := hSw); go_simp; all_goals with_reducible rfl)
              simp only [Act.put, List.getElem_toArray, List.getElem_cons_zero, List.getElem_cons_succ, List.setIfInBounds_toArray, List.set_cons_zero, List.set_cons_succ]
              refine wpAnyH_ready (rs := [13]) (by kernel_rfl) (by simp) ?_
              refine AllReadyH.cons rfl (fun K hK => ?_) AllReadyH.nil
              go_simp
              refine hK.out _ _ ⟨by exact hA0 _, by exact hA1 _⟩ (fun hHeld => ?_)
              clear hK K
              refine wpAnyH_done (by kernel_rfl) ?_ _
              clear hHeld he0 he1 hA0 hA1 HE0 HE1 hcw
              clear HSA HOA HPY HYES
              go_wp2
              go_returns
              exact HNO.out _ HN.out HBA.out.drew
          · go_simp
            refine hK.out _ _ ⟨by exact hA0 _, by exact hA1 _⟩ (fun hHeld => ?_)
            clear hK K
            refine wpAnyH_ready (rs := [3]) (by kernel_rfl) (by simp) ?_
            refine AllReadyH.cons rfl (fun K hK => ?_) AllReadyH.nil
            go_simp
            refine (HE0.out _).mono ?_
            rintro e wz ⟨rfl, rfl⟩
            refine hK.out _ _ ⟨by exact hA0 _, by exact hA1 _⟩ (fun hHeld => ?_)
            clear hK K
            refine wpAnyH_ready (rs := [10]) (by kernel_rfl) (by simp) ?_
            refine AllReadyH.cons rfl (fun K hK => ?_) AllReadyH.nil
            go_simp
            refine (HE1.out _).mono ?_
            rintro e wz ⟨rfl, rfl⟩
            refine hK.out _ _ ⟨by exact hA0 _, by exact hA1 _⟩ (fun hHeld => ?_)
            clear hK K
            refine wpAnyH_take (i := 11) (v := ?_) rfl (by kernel_rfl) (by kernel_rfl) (by kernel_rfl) (fun _ _ _ h => h) (Or.inl ⟨by rfl, ?hy26⟩) (by assumption) ?ty26
            case hy26 => (intro w5 hSw; (try dsimp only at hSw); (try obtain ⟨p0, p1, p2, p3, p4⟩ := hSw); go_simp; all_goals with_reducible rfl)
            simp only [Act.put, List.getElem_toArray, List.getElem_cons_zero, List.getElem_cons_succ, List.setIfInBounds_toArray, List.set_cons_zero, List.set_cons_succ]
            refine wpAnyH_ready (rs := [13]) (by kernel_rfl) (by simp) ?_
            refine AllReadyH.cons rfl (fun K hK => ?_) AllReadyH.nil
            go_simp
            refine hK.out _ _ ⟨by exact hA0 _, by exact hA1 _⟩ (fun hHeld => ?_)
            clear hK K
            refine wpAnyH_done (by kernel_rfl) ?_ _
            clear hHeld he0 he1 hA0 hA1 HE0 HE1 hcw
            clear HSA HOA HPY HYES
            go_wp2
            go_returns
            exact HNO.out _ HN.out HBA.out.drew
        · by_cases o3 : t < 0
          · skip
            have HN : Hid (psL ws = none) := HPN.out (if_pos (.inr (.inr (.inl o3))))
            go_wp2_with fail
            refine wp_region_held_drew (S := fun w' => w'.cell? ⟨ge, offe, none⟩ = some (.string s0) ∧ w'.cell? ⟨ge, offe + m', none⟩ = some (.string s1)) (by kernel_rfl) ?hS27 (fun hHeld => ?_)
            case hS27 => exact ⟨he0, he1⟩
            refine wpAnyH_take (i := 0) (v := ?_) rfl (by kernel_rfl) (by kernel_rfl) (by kernel_rfl) (fun _ _ _ h => h) (Or.inl ⟨by rfl, ?hy28⟩) (by assumption) ?ty28
            case hy28 => (intro w5 hSw; (try dsimp only at hSw); (try obtain ⟨p0, p1, p2, p3, p4⟩ := hSw); go_simp; all_goals with_reducible rfl)
            simp only [Act.put, List.getElem_toArray, List.getElem_cons_zero, List.setIfInBounds_toArray, List.set_cons_zero, List.set_cons_succ]
            refine wpAnyH_take (i := 1) (v := ?_) rfl (by kernel_rfl) (by kernel_rfl) (by kernel_rfl) (fun _ _ _ h => h) (Or.inl ⟨by rfl, ?hy29⟩) (by assumption) ?ty29
            case hy29 => (intro w5 hSw; (try dsimp only at hSw); (try obtain ⟨p0, p1, p2, p3, p4⟩ := hSw); go_simp; all_goals first | with_reducible rfl | (rw [if_pos (by omega)]))
            simp only [Act.put, List.getElem_toArray, List.getElem_cons_zero, List.getElem_cons_succ, List.setIfInBounds_toArray, List.set_cons_zero, List.set_cons_succ]
            refine wpAnyH_take (i := 2) (v := ?_) rfl (by kernel_rfl) (by kernel_rfl) (by kernel_rfl) (fun _ _ _ h => h) (Or.inl ⟨by rfl, ?hy30⟩) (by assumption) ?ty30
            case hy30 => (intro w5 hSw; (try dsimp only at hSw); (try obtain ⟨p0, p1, p2, p3, p4⟩ := hSw); go_simp; all_goals first | with_reducible rfl | (rw [if_pos (by omega)]))
            simp only [Act.put, List.getElem_toArray, List.getElem_cons_zero, List.getElem_cons_succ, List.setIfInBounds_toArray, List.set_cons_zero, List.set_cons_succ]
            refine wpAnyH_take (i := 4) (v := ?_) rfl (by kernel_rfl) (by kernel_rfl) (by kernel_rfl) (fun _ _ _ h => h) (Or.inl ⟨by rfl, ?hy31⟩) (by assumption) ?ty31
            case hy31 => (intro w5 hSw; (try dsimp only at hSw); (try obtain ⟨p0, p1, p2, p3, p4⟩ := hSw); go_simp; all_goals with_reducible rfl)
            simp only [Act.put, List.getElem_toArray, List.getElem_cons_zero, List.getElem_cons_succ, List.setIfInBounds_toArray, List.set_cons_zero, List.set_cons_succ]
            refine wpAnyH_take (i := 5) (v := ?_) rfl (by kernel_rfl) (by kernel_rfl) (by kernel_rfl) (fun _ _ _ h => h) (Or.inl ⟨by rfl, ?hy32⟩) (by assumption) ?ty32
            case hy32 => (intro w5 hSw; (try dsimp only at hSw); (try obtain ⟨p0, p1, p2, p3, p4⟩ := hSw); go_simp; all_goals with_reducible rfl)
            simp only [Act.put, List.getElem_toArray, List.getElem_cons_zero, List.getElem_cons_succ, List.setIfInBounds_toArray, List.set_cons_zero, List.set_cons_succ]
            refine wpAnyH_take (i := 6) (v := ?_) rfl (by kernel_rfl) (by kernel_rfl) (by kernel_rfl) (fun _ _ _ h => h) (Or.inl ⟨by rfl, ?hy33⟩) (by assumption) ?ty33
            case hy33 => (intro w5 hSw; (try dsimp only at hSw); (try obtain ⟨p0, p1, p2, p3, p4⟩ := hSw); go_simp; all_goals with_reducible rfl)
            simp only [Act.put, List.getElem_toArray, List.getElem_cons_zero, List.getElem_cons_succ, List.setIfInBounds_toArray, List.set_cons_zero, List.set_cons_succ]
            refine wpAnyH_take (i := 7) (v := .int .i64 (m' : Int)) rfl (by kernel_rfl) (by kernel_rfl) (by kernel_rfl) (fun _ _ _ h => h) (Or.inl ⟨by rfl, ?hy34⟩) (by assumption) ?ty34
            case hy34 => (intro w5 hSw; (try dsimp only at hSw); (try obtain ⟨p0, p1, p2, p3, p4⟩ := hSw); go_simp; all_goals first | (rw [hwm]) | (simp [hwm]; done) | with_reducible rfl)
            simp only [Act.put, List.getElem_toArray, List.getElem_cons_zero, List.getElem_cons_succ, List.setIfInBounds_toArray, List.set_cons_zero, List.set_cons_succ]
            refine wpAnyH_take (i := 8) (v := ?_) rfl (by kernel_rfl) (by kernel_rfl) (by kernel_rfl) (fun _ _ _ h => h) (Or.inl ⟨by rfl, ?hy35⟩) (by assumption) ?ty35
            case hy35 => (intro w5 hSw; (try dsimp only at hSw); (try obtain ⟨p0, p1, p2, p3, p4⟩ := hSw); go_simp; all_goals first | with_reducible rfl | (rw [if_pos (by omega)]))
            simp only [Act.put, List.getElem_toArray, List.getElem_cons_zero, List.getElem_cons_succ, List.setIfInBounds_toArray, List.set_cons_zero, List.set_cons_succ]
            refine wpAnyH_take (i := 9) (v := ?_) rfl (by kernel_rfl) (by kernel_rfl) (by kernel_rfl) (fun _ _ _ h => h) (Or.inl ⟨by rfl, ?hy36⟩) (by assumption) ?ty36
            case hy36 => (intro w5 hSw; (try dsimp only at hSw); (try obtain ⟨p0, p1, p2, p3, p4⟩ := hSw); go_simp; all_goals first | with_reducible rfl | (rw [if_pos (by omega)]))
            simp only [Act.put, List.getElem_toArray, List.getElem_cons_zero, List.getElem_cons_succ, List.setIfInBounds_toArray, List.set_cons_zero, List.set_cons_succ]
            refine wpAnyH_ready (rs := [3, 12]) (by kernel_rfl) (by simp) ?_
            refine AllReadyH.cons rfl (fun K hK => ?_) (AllReadyH.cons rfl (fun K hK => ?_) AllReadyH.nil)
            · go_simp
              refine (HE0.out _).mono ?_
              rintro e wz ⟨rfl, rfl⟩
              refine hK.out _ _ ⟨he0, he1⟩ (fun hHeld => ?_)
              clear hK K
              refine wpAnyH_ready (rs := [10, 12]) (by kernel_rfl) (by simp) ?_
              refine AllReadyH.cons rfl (fun K hK => ?_) (AllReadyH.cons rfl (fun K hK => ?_) AllReadyH.nil)
              · go_simp
                refine (HE1.out _).mono ?_
                rintro e wz ⟨rfl, rfl⟩
                refine hK.out _ _ ⟨he0, he1⟩ (fun hHeld => ?_)
                clear hK K
                refine wpAnyH_take (i := 11) (v := ?_) rfl (by kernel_rfl) (by kernel_rfl) (by kernel_rfl) (fun _ _ _ h => h) (Or.inl ⟨by rfl, ?hy37⟩) (by assumption) ?ty37
                case hy37 => (intro w5 hSw; (try dsimp only at hSw); (try obtain ⟨p0, p1, p2, p3, p4⟩ := hSw); go_simp; all_goals with_reducible rfl)
                simp only [Act.put, List.getElem_toArray, List.getElem_cons_zero, List.getElem_cons_succ, List.setIfInBounds_toArray, List.set_cons_zero, List.set_cons_succ]
                refine wpAnyH_ready (rs := [12]) (by kernel_rfl) (by simp) ?_
                refine AllReadyH.cons rfl (fun K hK => ?_) AllReadyH.nil
                go_simp
                refine hK.out _ _ ⟨by exact hA0 _, by exact hA1 _⟩ (fun hHeld => ?_)
                clear hK K
                refine wpAnyH_ready (rs := [13]) (by kernel_rfl) (by simp) ?_
                refine AllReadyH.cons rfl (fun K hK => ?_) AllReadyH.nil
                go_simp
                refine hK.out _ _ ⟨by exact hA0 _, by exact hA1 _⟩ (fun hHeld => ?_)
                clear hK K
                refine wpAnyH_done (by kernel_rfl) ?_ _
                clear hHeld he0 he1 hA0 hA1 HE0 HE1 hcw
                clear HSA HOA HPY HYES
                go_wp2
                go_returns
                exact HNO.out _ HN.out HBA.out.drew
              · go_simp
                refine hK.out _ _ ⟨by exact hA0 _, by exact hA1 _⟩ (fun hHeld => ?_)
                clear hK K
                refine wpAnyH_ready (rs := [10]) (by kernel_rfl) (by simp) ?_
                refine AllReadyH.cons rfl (fun K hK => ?_) AllReadyH.nil
                go_simp
                refine (HE1.out _).mono ?_
                rintro e wz ⟨rfl, rfl⟩
                refine hK.out _ _ ⟨by exact hA0 _, by exact hA1 _⟩ (fun hHeld => ?_)
                clear hK K
                refine wpAnyH_take (i := 11) (v := ?_) rfl (by kernel_rfl) (by kernel_rfl) (by kernel_rfl) (fun _ _ _ h => h) (Or.inl ⟨by rfl, ?hy38⟩) (by assumption) ?ty38
                case hy38 => (intro w5 hSw; (try dsimp only at hSw); (try obtain ⟨p0, p1, p2, p3, p4⟩ := hSw); go_simp; all_goals with_reducible rfl)
                simp only [Act.put, List.getElem_toArray, List.getElem_cons_zero, List.getElem_cons_succ, List.setIfInBounds_toArray, List.set_cons_zero, List.set_cons_succ]
                refine wpAnyH_ready (rs := [13]) (by kernel_rfl) (by simp) ?_
                refine AllReadyH.cons rfl (fun K hK => ?_) AllReadyH.nil
                go_simp
                refine hK.out _ _ ⟨by exact hA0 _, by exact hA1 _⟩ (fun hHeld => ?_)
                clear hK K
                refine wpAnyH_done (by kernel_rfl) ?_ _
                clear hHeld he0 he1 hA0 hA1 HE0 HE1 hcw
                clear HSA HOA HPY HYES
                go_wp2
                go_returns
                exact HNO.out _ HN.out HBA.out.drew
            · go_simp
              refine hK.out _ _ ⟨by exact hA0 _, by exact hA1 _⟩ (fun hHeld => ?_)
              clear hK K
              refine wpAnyH_ready (rs := [3]) (by kernel_rfl) (by simp) ?_
              refine AllReadyH.cons rfl (fun K hK => ?_) AllReadyH.nil
              go_simp
              refine (HE0.out _).mono ?_
              rintro e wz ⟨rfl, rfl⟩
              refine hK.out _ _ ⟨by exact hA0 _, by exact hA1 _⟩ (fun hHeld => ?_)
              clear hK K
              refine wpAnyH_ready (rs := [10]) (by kernel_rfl) (by simp) ?_
              refine AllReadyH.cons rfl (fun K hK => ?_) AllReadyH.nil
              go_simp
              refine (HE1.out _).mono ?_
              rintro e wz ⟨rfl, rfl⟩
              refine hK.out _ _ ⟨by exact hA0 _, by exact hA1 _⟩ (fun hHeld => ?_)
              clear hK K
              refine wpAnyH_take (i := 11) (v := ?_) rfl (by kernel_rfl) (by kernel_rfl) (by kernel_rfl) (fun _ _ _ h => h) (Or.inl ⟨by rfl, ?hy39⟩) (by assumption) ?ty39
              case hy39 => (intro w5 hSw; (try dsimp only at hSw); (try obtain ⟨p0, p1, p2, p3, p4⟩ := hSw); go_simp; all_goals with_reducible rfl)
              simp only [Act.put, List.getElem_toArray, List.getElem_cons_zero, List.getElem_cons_succ, List.setIfInBounds_toArray, List.set_cons_zero, List.set_cons_succ]
              refine wpAnyH_ready (rs := [13]) (by kernel_rfl) (by simp) ?_
              refine AllReadyH.cons rfl (fun K hK => ?_) AllReadyH.nil
              go_simp
              refine hK.out _ _ ⟨by exact hA0 _, by exact hA1 _⟩ (fun hHeld => ?_)
              clear hK K
              refine wpAnyH_done (by kernel_rfl) ?_ _
              clear hHeld he0 he1 hA0 hA1 HE0 HE1 hcw
              clear HSA HOA HPY HYES
              go_wp2
              go_returns
              exact HNO.out _ HN.out HBA.out.drew
          · by_cases o4 : m' + 1 = 2
            · have hb2 : ((m' : Int) + 1 == 2) = true := beq_iff_eq.2 (by omega)
              have O4 : Hid (m' + 1 = 2) := o4
              clear o4
              by_cases o5 : f = t
              · have hbt : (f == t) = true := by rw [o5]; simp
                have O5 : Hid (f = t) := o5
                clear o5
                have HN : Hid (psL ws = none) := HPN.out (if_pos (.inr (.inr (.inr ⟨O4.out, O5.out⟩))))
                go_wp2_with fail
                refine wp_region_held_drew (S := fun w' => w'.cell? ⟨ge, offe, none⟩ = some (.string s0) ∧ w'.cell? ⟨ge, offe + m', none⟩ = some (.string s1)) (by kernel_rfl) ?hS40 (fun hHeld => ?_)
                case hS40 => exact ⟨he0, he1⟩
                refine wpAnyH_take (i := 0) (v := ?_) rfl (by kernel_rfl) (by kernel_rfl) (by kernel_rfl) (fun _ _ _ h => h) (Or.inl ⟨by rfl, ?hy41⟩) (by assumption) ?ty41
                case hy41 => (intro w5 hSw; (try dsimp only at hSw); (try obtain ⟨p0, p1, p2, p3, p4⟩ := hSw); go_simp; all_goals with_reducible rfl)
                simp only [Act.put, List.getElem_toArray, List.getElem_cons_zero, List.setIfInBounds_toArray, List.set_cons_zero, List.set_cons_succ]
                refine wpAnyH_take (i := 1) (v := ?_) rfl (by kernel_rfl) (by kernel_rfl) (by kernel_rfl) (fun _ _ _ h => h) (Or.inl ⟨by rfl, ?hy42⟩) (by assumption) ?ty42
                case hy42 => (intro w5 hSw; (try dsimp only at hSw); (try obtain ⟨p0, p1, p2, p3, p4⟩ := hSw); go_simp; all_goals first | with_reducible rfl | (rw [if_pos (by omega)]))
                simp only [Act.put, List.getElem_toArray, List.getElem_cons_zero, List.getElem_cons_succ, List.setIfInBounds_toArray, List.set_cons_zero, List.set_cons_succ]
                refine wpAnyH_take (i := 2) (v := ?_) rfl (by kernel_rfl) (by kernel_rfl) (by kernel_rfl) (fun _ _ _ h => h) (Or.inl ⟨by rfl, ?hy43⟩) (by assumption) ?ty43
                case hy43 => (intro w5 hSw; (try dsimp only at hSw); (try obtain ⟨p0, p1, p2, p3, p4⟩ := hSw); go_simp; all_goals first | with_reducible rfl | (rw [if_pos (by omega)]))
                simp only [Act.put, List.getElem_toArray, List.getElem_cons_zero, List.getElem_cons_succ, List.setIfInBounds_toArray, List.set_cons_zero, List.set_cons_succ]
                refine wpAnyH_take (i := 4) (v := ?_) rfl (by kernel_rfl) (by kernel_rfl) (by kernel_rfl) (fun _ _ _ h => h) (Or.inl ⟨by rfl, ?hy44⟩) (by assumption) ?ty44
                case hy44 => (intro w5 hSw; (try dsimp only at hSw); (try obtain ⟨p0, p1, p2, p3, p4⟩ := hSw); go_simp; all_goals with_reducible rfl)
                simp only [Act.put, List.getElem_toArray, List.getElem_cons_zero, List.getElem_cons_succ, List.setIfInBounds_toArray, List.set_cons_zero, List.set_cons_succ]
                refine wpAnyH_take (i := 5) (v := ?_) rfl (by kernel_rfl) (by kernel_rfl) (by kernel_rfl) (fun _ _ _ h => h) (Or.inl ⟨by rfl, ?hy45⟩) (by assumption) ?ty45
                case hy45 => (intro w5 hSw; (try dsimp only at hSw); (try obtain ⟨p0, p1, p2, p3, p4⟩ := hSw); go_simp; all_goals with_reducible rfl)
                simp only [Act.put, List.getElem_toArray, List.getElem_cons_zero, List.getElem_cons_succ, List.setIfInBounds_toArray, List.set_cons_zero, List.set_cons_succ]
                refine wpAnyH_take (i := 6) (v := ?_) rfl (by kernel_rfl) (by kernel_rfl) (by kernel_rfl) (fun _ _ _ h => h) (Or.inl ⟨by rfl, ?hy46⟩) (by assumption) ?ty46
                case hy46 => (intro w5 hSw; (try dsimp only at hSw); (try obtain ⟨p0, p1, p2, p3, p4⟩ := hSw); go_simp; all_goals with_reducible rfl)
                simp only [Act.put, List.getElem_toArray, List.getElem_cons_zero, List.getElem_cons_succ, List.setIfInBounds_toArray, List.set_cons_zero, List.set_cons_succ]
                refine wpAnyH_take (i := 7) (v := .int .i64 (m' : Int)) rfl (by kernel_rfl) (by kernel_rfl) (by kernel_rfl) (fun _ _ _ h => h) (Or.inl ⟨by rfl, ?hy47⟩) (by assumption) ?ty47
                case hy47 => (intro w5 hSw; (try dsimp only at hSw); (try obtain ⟨p0, p1, p2, p3, p4⟩ := hSw); go_simp; all_goals first | (rw [hwm]) | (simp [hwm]; done) | with_reducible rfl)
                simp only [Act.put, List.getElem_toArray, List.getElem_cons_zero, List.getElem_cons_succ, List.setIfInBounds_toArray, List.set_cons_zero, List.set_cons_succ]
                refine wpAnyH_take (i := 8) (v := ?_) rfl (by kernel_rfl) (by kernel_rfl) (by kernel_rfl) (fun _ _ _ h => h) (Or.inl ⟨by rfl, ?hy48⟩) (by assumption) ?ty48
                case hy48 => (intro w5 hSw; (try dsimp only at hSw); (try obtain ⟨p0, p1, p2, p3, p4⟩ := hSw); go_simp; all_goals first | with_reducible rfl | (rw [if_pos (by omega)]))
                simp only [Act.put, List.getElem_toArray, List.getElem_cons_zero, List.getElem_cons_succ, List.setIfInBounds_toArray, List.set_cons_zero, List.set_cons_succ]
                refine wpAnyH_take (i := 9) (v := ?_) rfl (by kernel_rfl) (by kernel_rfl) (by kernel_rfl) (fun _ _ _ h => h) (Or.inl ⟨by rfl, ?hy49⟩) (by assumption) ?ty49
                case hy49 => (intro w5 hSw; (try dsimp only at hSw); (try obtain ⟨p0, p1, p2, p3, p4⟩ := hSw); go_simp; all_goals first | with_reducible rfl | (rw [if_pos (by omega)]))
                simp only [Act.put, List.getElem_toArray, List.getElem_cons_zero, List.getElem_cons_succ, List.setIfInBounds_toArray, List.set_cons_zero, List.set_cons_succ]
                refine wpAnyH_ready (rs := [3, 12]) (by kernel_rfl) (by simp) ?_
                refine AllReadyH.cons rfl (fun K hK => ?_) (AllReadyH.cons rfl (fun K hK => ?_) AllReadyH.nil)
                · go_simp
                  refine (HE0.out _).mono ?_
                  rintro e wz ⟨rfl, rfl⟩
                  refine hK.out _ _ ⟨he0, he1⟩ (fun hHeld => ?_)
                  clear hK K
                  refine wpAnyH_ready (rs := [10, 12]) (by kernel_rfl) (by simp) ?_
                  refine AllReadyH.cons rfl (fun K hK => ?_) (AllReadyH.cons rfl (fun K hK => ?_) AllReadyH.nil)
                  · go_simp
                    refine (HE1.out _).mono ?_
                    rintro e wz ⟨rfl, rfl⟩
                    refine hK.out _ _ ⟨he0, he1⟩ (fun hHeld => ?_)
                    clear hK K
                    refine wpAnyH_take (i := 11) (v := ?_) rfl (by kernel_rfl) (by kernel_rfl) (by kernel_rfl) (fun _ _ _ h => h) (Or.inl ⟨by rfl, ?hy50⟩) (by assumption) ?ty50
                    case hy50 => (intro w5 hSw; (try dsimp only at hSw); (try obtain ⟨p0, p1, p2, p3, p4⟩ := hSw); go_simp; all_goals with_reducible rfl)
                    simp only [Act.put, List.getElem_toArray, List.getElem_cons_zero, List.getElem_cons_succ, List.setIfInBounds_toArray, List.set_cons_zero, List.set_cons_succ]
                    refine wpAnyH_ready (rs := [12]) (by kernel_rfl) (by simp) ?_
                    refine AllReadyH.cons rfl (fun K hK => ?_) AllReadyH.nil
                    go_simp
                    refine hK.out _ _ ⟨by exact hA0 _, by exact hA1 _⟩ (fun hHeld => ?_)
                    clear hK K
                    refine wpAnyH_ready (rs := [13]) (by kernel_rfl) (by simp) ?_
                    refine AllReadyH.cons rfl (fun K hK => ?_) AllReadyH.nil
                    go_simp
                    refine hK.out _ _ ⟨by exact hA0 _, by exact hA1 _⟩ (fun hHeld => ?_)
                    clear hK K
                    refine wpAnyH_done (by kernel_rfl) ?_ _
                    clear hHeld he0 he1 hA0 hA1 HE0 HE1 hcw
                    clear HSA HOA HPY HYES
                    go_wp2
                    go_returns
                    exact HNO.out _ HN.out HBA.out.drew
                  · go_simp
                    refine hK.out _ _ ⟨by exact hA0 _, by exact hA1 _⟩ (fun hHeld => ?_)
                    clear hK K
                    refine wpAnyH_ready (rs := [10]) (by kernel_rfl) (by simp) ?_
                    refine AllReadyH.cons rfl (fun K hK => ?_) AllReadyH.nil
                    go_simp
                    refine (HE1.out _).mono ?_
                    rintro e wz ⟨rfl, rfl⟩
                    refine hK.out _ _ ⟨by exact hA0 _, by exact hA1 _⟩ (fun hHeld => ?_)
                    clear hK K
                    refine wpAnyH_take (i := 11) (v := ?_) rfl (by kernel_rfl) (by kernel_rfl) (by kernel_rfl) (fun _ _ _ h => h) (Or.inl ⟨by rfl, ?hy51⟩) (by assumption) ?ty51
                    case hy51 => (intro w5 hSw; (try dsimp only at hSw); (try obtain ⟨p0, p1, p2, p3, p4⟩ := hSw); go_simp; all_goals with_reducible rfl)
                    simp only [Act.put, List.getElem_toArray, List.getElem_cons_zero, List.getElem_cons_succ, List.setIfInBounds_toArray, List.set_cons_zero, List.set_cons_succ]
                    refine wpAnyH_ready (rs := [13]) (by kernel_rfl) (by simp) ?_
                    refine AllReadyH.cons rfl (fun K hK => ?_) AllReadyH.nil
                    go_simp
                    refine hK.out _ _ ⟨by exact hA0 _, by exact hA1 _⟩ (fun hHeld => ?_)
                    clear hK K
                    refine wpAnyH_done (by kernel_rfl) ?_ _
                    clear hHeld he0 he1 hA0 hA1 HE0 HE1 hcw
                    clear HSA HOA HPY HYES
                    go_wp2
                    go_returns
                    exact HNO.out _ HN.out HBA.out.drew
                · go_simp
                  refine hK.out _ _ ⟨by exact hA0 _, by exact hA1 _⟩ (fun hHeld => ?_)
                  clear hK K
                  refine wpAnyH_ready (rs := [3]) (by kernel_rfl) (by simp) ?_
                  refine AllReadyH.cons rfl (fun K hK => ?_) AllReadyH.nil
                  go_simp
                  refine (HE0.out _).mono ?_
                  rintro e wz ⟨rfl, rfl⟩
                  refine hK.out _ _ ⟨by exact hA0 _, by exact hA1 _⟩ (fun hHeld => ?_)
                  clear hK K
                  refine wpAnyH_ready (rs := [10]) (by kernel_rfl) (by simp) ?_
                  refine AllReadyH.cons rfl (fun K hK => ?_) AllReadyH.nil
                  go_simp
                  refine (HE1.out _).mono ?_
                  rintro e wz ⟨rfl, rfl⟩
                  refine hK.out _ _ ⟨by exact hA0 _, by exact hA1 _⟩ (fun hHeld => ?_)
                  clear hK K
                  refine wpAnyH_take (i := 11) (v := ?_) rfl (by kernel_rfl) (by kernel_rfl) (by kernel_rfl) (fun _ _ _ h => h) (Or.inl ⟨by rfl, ?hy52⟩) (by assumption) ?ty52
                  case hy52 => (intro w5 hSw; (try dsimp only at hSw); (try obtain ⟨p0, p1, p2, p3, p4⟩ := hSw); go_simp; all_goals with_reducible rfl)
                  simp only [Act.put, List.getElem_toArray, List.getElem_cons_zero, List.getElem_cons_succ, List.setIfInBounds_toArray, List.set_cons_zero, List.set_cons_succ]
                  refine wpAnyH_ready (rs := [13]) (by kernel_rfl) (by simp) ?_
                  refine AllReadyH.cons rfl (fun K hK => ?_) AllReadyH.nil
                  go_simp
                  refine hK.out _ _ ⟨by exact hA0 _, by exact hA1 _⟩ (fun hHeld => ?_)
                  clear hK K
                  refine wpAnyH_done (by kernel_rfl) ?_ _
                  clear hHeld he0 he1 hA0 hA1 HE0 HE1 hcw
                  clear HSA HOA HPY HYES
                  go_wp2
                  go_returns
                  exact HNO.out _ HN.out HBA.out.drew
              · have hbt : (f == t) = false := beq_eq_false_iff_ne.2 o5
                have HP : Hid (_) := HPY.out (f, t) (if_neg (by have := O4.out; omega))
                go_wp2_with fail
                refine wp_region_held_drew (S := fun w' => w'.cell? ⟨ge, offe, none⟩ = some (.string s0) ∧ w'.cell? ⟨ge, offe + m', none⟩ = some (.string s1)) (by kernel_rfl) ?hS53 (fun hHeld => ?_)
                case hS53 => exact ⟨he0, he1⟩
                refine wpAnyH_take (i := 0) (v := ?_) rfl (by kernel_rfl) (by kernel_rfl) (by kernel_rfl) (fun _ _ _ h => h) (Or.inl ⟨by rfl, ?hy54⟩) (by assumption) ?ty54
                case hy54 => (intro w5 hSw; (try dsimp only at hSw); (try obtain ⟨p0, p1, p2, p3, p4⟩ := hSw); go_simp; all_goals with_reducible rfl)
                simp only [Act.put, List.getElem_toArray, List.getElem_cons_zero, List.setIfInBounds_toArray, List.set_cons_zero, List.set_cons_succ]
                refine wpAnyH_take (i := 1) (v := ?_) rfl (by kernel_rfl) (by kernel_rfl) (by kernel_rfl) (fun _ _ _ h => h) (Or.inl ⟨by rfl, ?hy55⟩) (by assumption) ?ty55
                case hy55 => (intro w5 hSw; (try dsimp only at hSw); (try obtain ⟨p0, p1, p2, p3, p4⟩ := hSw); go_simp; all_goals first | with_reducible rfl | (rw [if_pos (by omega)]))
                simp only [Act.put, List.getElem_toArray, List.getElem_cons_zero, List.getElem_cons_succ, List.setIfInBounds_toArray, List.set_cons_zero, List.set_cons_succ]
                refine wpAnyH_take (i := 2) (v := ?_) rfl (by kernel_rfl) (by kernel_rfl) (by kernel_rfl) (fun _ _ _ h => h) (Or.inl ⟨by rfl, ?hy56⟩) (by assumption) ?ty56
                case hy56 => (intro w5 hSw; (try dsimp only at hSw); (try obtain ⟨p0, p1, p2, p3, p4⟩ := hSw); go_simp; all_goals first | with_reducible rfl | (rw [if_pos (by omega)]))
                simp only [Act.put, List.getElem_toArray, List.getElem_cons_zero, List.getElem_cons_succ, List.setIfInBounds_toArray, List.set_cons_zero, List.set_cons_succ]
                refine wpAnyH_take (i := 4) (v := ?_) rfl (by kernel_rfl) (by kernel_rfl) (by kernel_rfl) (fun _ _ _ h => h) (Or.inl ⟨by rfl, ?hy57⟩) (by assumption) ?ty57
                case hy57 => (intro w5 hSw; (try dsimp only at hSw); (try obtain ⟨p0, p1, p2, p3, p4⟩ := hSw); go_simp; all_goals with_reducible rfl)
                simp only [Act.put, List.getElem_toArray, List.getElem_cons_zero, List.getElem_cons_succ, List.setIfInBounds_toArray, List.set_cons_zero, List.set_cons_succ]
                refine wpAnyH_take (i := 5) (v := ?_) rfl (by kernel_rfl) (by kernel_rfl) (by kernel_rfl) (fun _ _ _ h => h) (Or.inl ⟨by rfl, ?hy58⟩) (by assumption) ?ty58
                case hy58 => (intro w5 hSw; (try dsimp only at hSw); (try obtain ⟨p0, p1, p2, p3, p4⟩ := hSw); go_simp; all_goals with_reducible rfl)
                simp only [Act.put, List.getElem_toArray, List.getElem_cons_zero, List.getElem_cons_succ, List.setIfInBounds_toArray, List.set_cons_zero, List.set_cons_succ]
                refine wpAnyH_take (i := 6) (v := ?_) rfl (by kernel_rfl) (by kernel_rfl) (by kernel_rfl) (fun _ _ _ h => h) (Or.inl ⟨by rfl, ?hy59⟩) (by assumption) ?ty59
                case hy59 => (intro w5 hSw; (try dsimp only at hSw); (try obtain ⟨p0, p1, p2, p3, p4⟩ := hSw); go_simp; all_goals with_reducible rfl)
                simp only [Act.put, List.getElem_toArray, List.getElem_cons_zero, List.getElem_cons_succ, List.setIfInBounds_toArray, List.set_cons_zero, List.set_cons_succ]
                refine wpAnyH_take (i := 7) (v := .int .i64 (m' : Int)) rfl (by kernel_rfl) (by kernel_rfl) (by kernel_rfl) (fun _ _ _ h => h) (Or.inl ⟨by rfl, ?hy60⟩) (by assumption) ?ty60
                case hy60 => (intro w5 hSw; (try dsimp only at hSw); (try obtain ⟨p0, p1, p2, p3, p4⟩ := hSw); go_simp; all_goals first | (rw [hwm]) | (simp [hwm]; done) | with_reducible rfl)
                simp only [Act.put, List.getElem_toArray, List.getElem_cons_zero, List.getElem_cons_succ, List.setIfInBounds_toArray, List.set_cons_zero, List.set_cons_succ]
                refine wpAnyH_take (i := 8) (v := ?_) rfl (by kernel_rfl) (by kernel_rfl) (by kernel_rfl) (fun _ _ _ h => h) (Or.inl ⟨by rfl, ?hy61⟩) (by assumption) ?ty61
                case hy61 => (intro w5 hSw; (try dsimp only at hSw); (try obtain ⟨p0, p1, p2, p3, p4⟩ := hSw); go_simp; all_goals first | with_reducible rfl | (rw [if_pos (by omega)]))
                simp only [Act.put, List.getElem_toArray, List.getElem_cons_zero, List.getElem_cons_succ, List.setIfInBounds_toArray, List.set_cons_zero, List.set_cons_succ]
                refine wpAnyH_take (i := 9) (v := ?_) rfl (by kernel_rfl) (by kernel_rfl) (by kernel_rfl) (fun _ _ _ h => h) (Or.inl ⟨by rfl, ?hy62⟩) (by assumption) ?ty62
                case hy62 => (intro w5 hSw; (try dsimp only at hSw); (try obtain ⟨p0, p1, p2, p3, p4⟩ := hSw); go_simp; all_goals first | with_reducible rfl | (rw [if_pos (by omega)]))
                simp only [Act.put, List.getElem_toArray, List.getElem_cons_zero, List.getElem_cons_succ, List.setIfInBounds_toArray, List.set_cons_zero, List.set_cons_succ]
                refine wpAnyH_ready (rs := [3, 12]) (by kernel_rfl) (by simp) ?_
                refine AllReadyH.cons rfl (fun K hK => ?_) (AllReadyH.cons rfl (fun K hK => ?_) AllReadyH.nil)
                · go_simp
                  refine (HE0.out _).mono ?_
                  rintro e wz ⟨rfl, rfl⟩
                  refine hK.out _ _ ⟨he0, he1⟩ (fun hHeld => ?_)
                  clear hK K
                  refine wpAnyH_ready (rs := [10, 12]) (by kernel_rfl) (by simp) ?_
                  refine AllReadyH.cons rfl (fun K hK => ?_) (AllReadyH.cons rfl (fun K hK => ?_) AllReadyH.nil)
                  · go_simp
                    refine (HE1.out _).mono ?_
                    rintro e wz ⟨rfl, rfl⟩
                    refine hK.out _ _ ⟨he0, he1⟩ (fun hHeld => ?_)
                    clear hK K
                    refine wpAnyH_take (i := 11) (v := ?_) rfl (by kernel_rfl) (by kernel_rfl) (by kernel_rfl) (fun _ _ _ h => h) (Or.inl ⟨by rfl, ?hy63⟩) (by assumption) ?ty63
                    case hy63 => (intro w5 hSw; (try dsimp only at hSw); (try obtain ⟨p0, p1, p2, p3, p4⟩ := hSw); go_simp; all_goals with_reducible rfl)
                    simp only [Act.put, List.getElem_toArray, List.getElem_cons_zero, List.getElem_cons_succ, List.setIfInBounds_toArray, List.set_cons_zero, List.set_cons_succ]
                    refine wpAnyH_ready (rs := [12]) (by kernel_rfl) (by simp) ?_
                    refine AllReadyH.cons rfl (fun K hK => ?_) AllReadyH.nil
                    go_simp
                    refine hK.out _ _ ⟨by exact hA0 _, by exact hA1 _⟩ (fun hHeld => ?_)
                    clear hK K
                    refine wpAnyH_ready (rs := [13]) (by kernel_rfl) (by simp) ?_
                    refine AllReadyH.cons rfl (fun K hK => ?_) AllReadyH.nil
                    go_simp
                    refine hK.out _ _ ⟨by exact hA0 _, by exact hA1 _⟩ (fun hHeld => ?_)
                    clear hK K
                    refine wpAnyH_done (by kernel_rfl) ?_ _
                    clear hHeld he0 he1 hA0 hA1 HE0 HE1 hcw
                    clear HPN HNO
                    have x0 : (w2.alloc (.cells #[.int .i64 f, .int .i64 t] 42)).drew.cell? ⟨w2.heap.size, 0, none⟩ = some (.int .i64 f) := by simp
                    have x1 : (w2.alloc (.cells #[.int .i64 f, .int .i64 t] 42)).drew.cell? ⟨w2.heap.size, 1, none⟩ = some (.int .i64 t) := by simp
                    have xO : OwnY (w2.alloc (.cells #[.int .i64 f, .int .i64 t] 42)).drew w.heap.size (.slice av k cv) out := HOA.out
                    have xS : OwnS (w2.alloc (.cells #[.int .i64 f, .int .i64 t] 42)).drew w.heap.size (.slice (some ⟨gw, offw, none⟩) W c1) ws := HSA.out
                    have xB : Below w.heap.size w (w2.alloc (.cells #[.int .i64 f, .int .i64 t] 42)).drew := HBA.out.drew
                    clear HOA HSA HBA
                    generalize (w2.alloc (.cells #[.int .i64 f, .int .i64 t] 42)).drew = X at *
                    generalize w2.heap.size = g2 at *
                    have xz := xB.size
                    go_wp2_with (at_builtin; refine wpList_app_newYg rfl _ _ rfl w.heap.size _ out rfl xO f t rfl (by omega) xz ?_; intro v' w3 ho3 hg3)
                    have xS3 := (OwnS.alloc xS (.cells #[.int .i64 f, .int .i64 t] 42)).keptT hg3 (own_two (OwnS.alloc xS (.cells #[.int .i64 f, .int .i64 t] 42)) (OwnY.alloc xO (.cells #[.int .i64 f, .int .i64 t] 42)))
                    have xB3 : Below w.heap.size w w3 := (xB.alloc xz _).grown hg3 (by simp; omega) (fun k hk => (OwnY.alloc xO (.cells #[.int .i64 f, .int .i64 t] 42)).lt k hk |>.1)
                    clear hg3 xO xS xB x0 x1
                    go_roundw
                    case rel => exact ⟨k + 1, out ++ [(f, t)], by omega, by go_num, ho3, xS3, by rw [List.length_append]; simp; omega, HP.out, xB3⟩
                    case measure => simp [intOf]; omega
                  · go_simp
                    refine hK.out _ _ ⟨by exact hA0 _, by exact hA1 _⟩ (fun hHeld => ?_)
                    clear hK K
                    refine wpAnyH_ready (rs := [10]) (by kernel_rfl) (by simp) ?_
                    refine AllReadyH.cons rfl (fun K hK => ?_) AllReadyH.nil
                    go_simp
                    refine (HE1.out _).mono ?_
                    rintro e wz ⟨rfl, rfl⟩
                    refine hK.out _ _ ⟨by exact hA0 _, by exact hA1 _⟩ (fun hHeld => ?_)
                    clear hK K
                    refine wpAnyH_take (i := 11) (v := ?_) rfl (by kernel_rfl) (by kernel_rfl) (by kernel_rfl) (fun _ _ _ h => h) (Or.inl ⟨by rfl, ?hy64⟩) (by assumption) ?ty64
                    case hy64 => (intro w5 hSw; (try dsimp only at hSw); (try obtain ⟨p0, p1, p2, p3, p4⟩ := hSw); go_simp; all_goals with_reducible rfl)
                    simp only [Act.put, List.getElem_toArray, List.getElem_cons_zero, List.getElem_cons_succ, List.setIfInBounds_toArray, List.set_cons_zero, List.set_cons_succ]
                    refine wpAnyH_ready (rs := [13]) (by kernel_rfl) (by simp) ?_
                    refine AllReadyH.cons rfl (fun K hK => ?_) AllReadyH.nil
                    go_simp
                    refine hK.out _ _ ⟨by exact hA0 _, by exact hA1 _⟩ (fun hHeld => ?_)
                    clear hK K
                    refine wpAnyH_done (by kernel_rfl) ?_ _
                    clear hHeld he0 he1 hA0 hA1 HE0 HE1 hcw
                    clear HPN HNO
                    have x0 : (w2.alloc (.cells #[.int .i64 f, .int .i64 t] 42)).drew.cell? ⟨w2.heap.size, 0, none⟩ = some (.int .i64 f) := by simp
                    have x1 : (w2.alloc (.cells #[.int .i64 f, .int .i64 t] 42)).drew.cell? ⟨w2.heap.size, 1, none⟩ = some (.int .i64 t) := by simp
                    have xO : OwnY (w2.alloc (.cells #[.int .i64 f, .int .i64 t] 42)).drew w.heap.size (.slice av k cv) out := HOA.out
                    have xS : OwnS (w2.alloc (.cells #[.int .i64 f, .int .i64 t] 42)).drew w.heap.size (.slice (some ⟨gw, offw, none⟩) W c1) ws := HSA.out
                    have xB : Below w.heap.size w (w2.alloc (.cells #[.int .i64 f, .int .i64 t] 42)).drew := HBA.out.drew
                    clear HOA HSA HBA
                    generalize (w2.alloc (.cells #[.int .i64 f, .int .i64 t] 42)).drew = X at *
                    generalize w2.heap.size = g2 at *
                    have xz := xB.size
                    go_wp2_with (at_builtin; refine wpList_app_newYg rfl _ _ rfl w.heap.size _ out rfl xO f t rfl (by omega) xz ?_; intro v' w3 ho3 hg3)
                    have xS3 := (OwnS.alloc xS (.cells #[.int .i64 f, .int .i64 t] 42)).keptT hg3 (own_two (OwnS.alloc xS (.cells #[.int .i64 f, .int .i64 t] 42)) (OwnY.alloc xO (.cells #[.int .i64 f, .int .i64 t] 42)))
                    have xB3 : Below w.heap.size w w3 := (xB.alloc xz _).grown hg3 (by simp; omega) (fun k hk => (OwnY.alloc xO (.cells #[.int .i64 f, .int .i64 t] 42)).lt k hk |>.1)
                    clear hg3 xO xS xB x0 x1
                    go_roundw
                    case rel => exact ⟨k + 1, out ++ [(f, t)], by omega, by go_num, ho3, xS3, by rw [List.length_append]; simp; omega, HP.out, xB3⟩
                    case measure => simp [intOf]; omega
                · go_simp
                  refine hK.out _ _ ⟨by exact hA0 _, by exact hA1 _⟩ (fun hHeld => ?_)
                  clear hK K
                  refine wpAnyH_ready (rs := [3]) (by kernel_rfl) (by simp) ?_
                  refine AllReadyH.cons rfl (fun K hK => ?_) AllReadyH.nil
                  go_simp
                  refine (HE0.out _).mono ?_
                  rintro e wz ⟨rfl, rfl⟩
                  refine hK.out _ _ ⟨by exact hA0 _, by exact hA1 _⟩ (fun hHeld => ?_)
                  clear hK K
                  refine wpAnyH_ready (rs := [10]) (by kernel_rfl) (by simp) ?_
                  refine AllReadyH.cons rfl (fun K hK => ?_) AllReadyH.nil
                  go_simp
                  refine (HE1.out _).mono ?_
                  rintro e wz ⟨rfl, rfl⟩
                  refine hK.out _ _ ⟨by exact hA0 _, by exact hA1 _⟩ (fun hHeld => ?_)
                  clear hK K
                  refine wpAnyH_take (i := 11) (v := ?_) rfl (by kernel_rfl) (by kernel_rfl) (by kernel_rfl) (fun _ _ _ h => h) (Or.inl ⟨by rfl, ?hy65⟩) (by assumption) ?ty65
                  case hy65 => (intro w5 hSw; (try dsimp only at hSw); (try obtain ⟨p0, p1, p2, p3, p4⟩ := hSw); go_simp; all_goals with_reducible rfl)
                  simp only [Act.put, List.getElem_toArray, List.getElem_cons_zero, List.getElem_cons_succ, List.setIfInBounds_toArray, List.set_cons_zero, List.set_cons_succ]
                  refine wpAnyH_ready (rs := [13]) (by kernel_rfl) (by simp) ?_
                  refine AllReadyH.cons rfl (fun K hK => ?_) AllReadyH.nil
                  go_simp
                  refine hK.out _ _ ⟨by exact hA0 _, by exact hA1 _⟩ (fun hHeld => ?_)
                  clear hK K
                  refine wpAnyH_done (by kernel_rfl) ?_ _
                  clear hHeld he0 he1 hA0 hA1 HE0 HE1 hcw
                  clear HPN HNO
                  have x0 : (w2.alloc (.cells #[.int .i64 f, .int .i64 t] 42)).drew.cell? ⟨w2.heap.size, 0, none⟩ = some (.int .i64 f) := by simp
                  have x1 : (w2.alloc (.cells #[.int .i64 f, .int .i64 t] 42)).drew.cell? ⟨w2.heap.size, 1, none⟩ = some (.int .i64 t) := by simp
                  have xO : OwnY (w2.alloc (.cells #[.int .i64 f, .int .i64 t] 42)).drew w.heap.size (.slice av k cv) out := HOA.out
                  have xS : OwnS (w2.alloc (.cells #[.int .i64 f, .int .i64 t] 42)).drew w.heap.size (.slice (some ⟨gw, offw, none⟩) W c1) ws := HSA.out
                  have xB : Below w.heap.size w (w2.alloc (.cells #[.int .i64 f, .int .i64 t] 42)).drew := HBA.out.drew
                  clear HOA HSA HBA
                  generalize (w2.alloc (.cells #[.int .i64 f, .int .i64 t] 42)).drew = X at *
                  generalize w2.heap.size = g2 at *
                  have xz := xB.size
                  go_wp2_with (at_builtin; refine wpList_app_newYg rfl _ _ rfl w.heap.size _ out rfl xO f t rfl (by omega) xz ?_; intro v' w3 ho3 hg3)
                  have xS3 := (OwnS.alloc xS (.cells #[.int .i64 f, .int .i64 t] 42)).keptT hg3 (own_two (OwnS.alloc xS (.cells #[.int .i64 f, .int .i64 t] 42)) (OwnY.alloc xO (.cells #[.int .i64 f, .int .i64 t] 42)))
                  have xB3 : Below w.heap.size w w3 := (xB.alloc xz _).grown hg3 (by simp; omega) (fun k hk => (OwnY.alloc xO (.cells #[.int .i64 f, .int .i64 t] 42)).lt k hk |>.1)
                  clear hg3 xO xS xB x0 x1
                  go_roundw
                  case rel => exact ⟨k + 1, out ++ [(f, t)], by omega, by go_num, ho3, xS3, by rw [List.length_append]; simp; omega, HP.out, xB3⟩
                  case measure => simp [intOf]; omega
            · have hb2 : ((m' : Int) + 1 == 2) = false := beq_eq_false_iff_ne.2 (by omega)
              have HP : Hid (_) := HPY.out (f, t) (if_neg (by omega))
              go_wp2_with fail
              refine wp_region_held_drew (S := fun w' => w'.cell? ⟨ge, offe, none⟩ = some (.string s0) ∧ w'.cell? ⟨ge, offe + m', none⟩ = some (.string s1)) (by kernel_rfl) ?hS66 (fun hHeld => ?_)
              case hS66 => exact ⟨he0, he1⟩
              refine wpAnyH_take (i := 0) (v := ?_) rfl (by kernel_rfl) (by kernel_rfl) (by kernel_rfl) (fun _ _ _ h => h) (Or.inl ⟨by rfl, ?hy67⟩) (by assumption) ?ty67
              case hy67 => (intro w5 hSw; (try dsimp only at hSw); (try obtain ⟨p0, p1, p2, p3, p4⟩ := hSw); go_simp; all_goals with_reducible rfl)
              simp only [Act.put, List.getElem_toArray, List.getElem_cons_zero, List.setIfInBounds_toArray, List.set_cons_zero, List.set_cons_succ]
              refine wpAnyH_take (i := 1) (v := ?_) rfl (by kernel_rfl) (by kernel_rfl) (by kernel_rfl) (fun _ _ _ h => h) (Or.inl ⟨by rfl, ?hy68⟩) (by assumption) ?ty68
              case hy68 => (intro w5 hSw; (try dsimp only at hSw); (try obtain ⟨p0, p1, p2, p3, p4⟩ := hSw); go_simp; all_goals first | with_reducible rfl | (rw [if_pos (by omega)]))
              simp only [Act.put, List.getElem_toArray, List.getElem_cons_zero, List.getElem_cons_succ, List.setIfInBounds_toArray, List.set_cons_zero, List.set_cons_succ]
              refine wpAnyH_take (i := 2) (v := ?_) rfl (by kernel_rfl) (by kernel_rfl) (by kernel_rfl) (fun _ _ _ h => h) (Or.inl ⟨by rfl, ?hy69⟩) (by assumption) ?ty69
              case hy69 => (intro w5 hSw; (try dsimp only at hSw); (try obtain ⟨p0, p1, p2, p3, p4⟩ := hSw); go_simp; all_goals first | with_reducible rfl | (rw [if_pos (by omega)]))
              simp only [Act.put, List.getElem_toArray, List.getElem_cons_zero, List.getElem_cons_succ, List.setIfInBounds_toArray, List.set_cons_zero, List.set_cons_succ]
              refine wpAnyH_take (i := 4) (v := ?_) rfl (by kernel_rfl) (by kernel_rfl) (by kernel_rfl) (fun _ _ _ h => h) (Or.inl ⟨by rfl, ?hy70⟩) (by assumption) ?ty70
              case hy70 => (intro w5 hSw; (try dsimp only at hSw); (try obtain ⟨p0, p1, p2, p3, p4⟩ := hSw); go_simp; all_goals with_reducible rfl)
              simp only [Act.put, List.getElem_toArray, List.getElem_cons_zero, List.getElem_cons_succ, List.setIfInBounds_toArray, List.set_cons_zero, List.set_cons_succ]
              refine wpAnyH_take (i := 5) (v := ?_) rfl (by kernel_rfl) (by kernel_rfl) (by kernel_rfl) (fun _ _ _ h => h) (Or.inl ⟨by rfl, ?hy71⟩) (by assumption) ?ty71
              case hy71 => (intro w5 hSw; (try dsimp only at hSw); (try obtain ⟨p0, p1, p2, p3, p4⟩ := hSw); go_simp; all_goals with_reducible rfl)
              simp only [Act.put, List.getElem_toArray, List.getElem_cons_zero, List.getElem_cons_succ, List.setIfInBounds_toArray, List.set_cons_zero, List.set_cons_succ]
              refine wpAnyH_take (i := 6) (v := ?_) rfl (by kernel_rfl) (by kernel_rfl) (by kernel_rfl) (fun _ _ _ h => h) (Or.inl ⟨by rfl, ?hy72⟩) (by assumption) ?ty72
              case hy72 => (intro w5 hSw; (try dsimp only at hSw); (try obtain ⟨p0, p1, p2, p3, p4⟩ := hSw); go_simp; all_goals with_reducible rfl)
              simp only [Act.put, List.getElem_toArray, List.getElem_cons_zero, List.getElem_cons_succ, List.setIfInBounds_toArray, List.set_cons_zero, List.set_cons_succ]
              refine wpAnyH_take (i := 7) (v := .int .i64 (m' : Int)) rfl (by kernel_rfl) (by kernel_rfl) (by kernel_rfl) (fun _ _ _ h => h) (Or.inl ⟨by rfl, ?hy73⟩) (by assumption) ?ty73
              case hy73 => (intro w5 hSw; (try dsimp only at hSw); (try obtain ⟨p0, p1, p2, p3, p4⟩ := hSw); go_simp; all_goals first | (rw [hwm]) | (simp [hwm]; done) | with_reducible rfl)
              simp only [Act.put, List.getElem_toArray, List.getElem_cons_zero, List.getElem_cons_succ, List.setIfInBounds_toArray, List.set_cons_zero, List.set_cons_succ]
              refine wpAnyH_take (i := 8) (v := ?_) rfl (by kernel_rfl) (by kernel_rfl) (by kernel_rfl) (fun _ _ _ h => h) (Or.inl ⟨by rfl, ?hy74⟩) (by assumption) ?ty74
              case hy74 => (intro w5 hSw; (try dsimp only at hSw); (try obtain ⟨p0, p1, p2, p3, p4⟩ := hSw); go_simp; all_goals first | with_reducible rfl | (rw [if_pos (by omega)]))
              simp only [Act.put, List.getElem_toArray, List.getElem_cons_zero, List.getElem_cons_succ, List.setIfInBounds_toArray, List.set_cons_zero, List.set_cons_succ]
              refine wpAnyH_take (i := 9) (v := ?_) rfl (by kernel_rfl) (by kernel_rfl) (by kernel_rfl) (fun _ _ _ h => h) (Or.inl ⟨by rfl, ?hy75⟩) (by assumption) ?ty75
              case hy75 => (intro w5 hSw; (try dsimp only at hSw); (try obtain ⟨p0, p1, p2, p3, p4⟩ := hSw); go_simp; all_goals first | with_reducible rfl | (rw [if_pos (by omega)]))
              simp only [Act.put, List.getElem_toArray, List.getElem_cons_zero, List.getElem_cons_succ, List.setIfInBounds_toArray, List.set_cons_zero, List.set_cons_succ]
              refine wpAnyH_ready (rs := [3, 12]) (by kernel_rfl) (by simp) ?_
              refine AllReadyH.cons rfl (fun K hK => ?_) (AllReadyH.cons rfl (fun K hK => ?_) AllReadyH.nil)
              · go_simp
                refine (HE0.out _).mono ?_
                rintro e wz ⟨rfl, rfl⟩
                refine hK.out _ _ ⟨he0, he1⟩ (fun hHeld => ?_)
                clear hK K
                refine wpAnyH_ready (rs := [10, 12]) (by kernel_rfl) (by simp) ?_
                refine AllReadyH.cons rfl (fun K hK => ?_) (AllReadyH.cons rfl (fun K hK => ?_) AllReadyH.nil)
                · go_simp
                  refine (HE1.out _).mono ?_
                  rintro e wz ⟨rfl, rfl⟩
                  refine hK.out _ _ ⟨he0, he1⟩ (fun hHeld => ?_)
                  clear hK K
                  refine wpAnyH_take (i := 11) (v := ?_) rfl (by kernel_rfl) (by kernel_rfl) (by kernel_rfl) (fun _ _ _ h => h) (Or.inl ⟨by rfl, ?hy76⟩) (by assumption) ?ty76
                  case hy76 => (intro w5 hSw; (try dsimp only at hSw); (try obtain ⟨p0, p1, p2, p3, p4⟩ := hSw); go_simp; all_goals with_reducible rfl)
                  simp only [Act.put, List.getElem_toArray, List.getElem_cons_zero, List.getElem_cons_succ, List.setIfInBounds_toArray, List.set_cons_zero, List.set_cons_succ]
                  refine wpAnyH_ready (rs := [12]) (by kernel_rfl) (by simp) ?_
                  refine AllReadyH.cons rfl (fun K hK => ?_) AllReadyH.nil
                  go_simp
                  refine hK.out _ _ ⟨by exact hA0 _, by exact hA1 _⟩ (fun hHeld => ?_)
                  clear hK K
                  refine wpAnyH_ready (rs := [13]) (by kernel_rfl) (by simp) ?_
                  refine AllReadyH.cons rfl (fun K hK => ?_) AllReadyH.nil
                  go_simp
                  refine hK.out _ _ ⟨by exact hA0 _, by exact hA1 _⟩ (fun hHeld => ?_)
                  clear hK K
                  refine wpAnyH_done (by kernel_rfl) ?_ _
                  clear hHeld he0 he1 hA0 hA1 HE0 HE1 hcw
                  clear HPN HNO
                  have x0 : (w2.alloc (.cells #[.int .i64 f, .int .i64 t] 42)).drew.cell? ⟨w2.heap.size, 0, none⟩ = some (.int .i64 f) := by simp
                  have x1 : (w2.alloc (.cells #[.int .i64 f, .int .i64 t] 42)).drew.cell? ⟨w2.heap.size, 1, none⟩ = some (.int .i64 t) := by simp
                  have xO : OwnY (w2.alloc (.cells #[.int .i64 f, .int .i64 t] 42)).drew w.heap.size (.slice av k cv) out := HOA.out
                  have xS : OwnS (w2.alloc (.cells #[.int .i64 f, .int .i64 t] 42)).drew w.heap.size (.slice (some ⟨gw, offw, none⟩) W c1) ws := HSA.out
                  have xB : Below w.heap.size w (w2.alloc (.cells #[.int .i64 f, .int .i64 t] 42)).drew := HBA.out.drew
                  clear HOA HSA HBA
                  generalize (w2.alloc (.cells #[.int .i64 f, .int .i64 t] 42)).drew = X at *
                  generalize w2.heap.size = g2 at *
                  have xz := xB.size
                  go_wp2_with (at_builtin; refine wpList_app_newYg rfl _ _ rfl w.heap.size _ out rfl xO f t rfl (by omega) xz ?_; intro v' w3 ho3 hg3)
                  have xS3 := (OwnS.alloc xS (.cells #[.int .i64 f, .int .i64 t] 42)).keptT hg3 (own_two (OwnS.alloc xS (.cells #[.int .i64 f, .int .i64 t] 42)) (OwnY.alloc xO (.cells #[.int .i64 f, .int .i64 t] 42)))
                  have xB3 : Below w.heap.size w w3 := (xB.alloc xz _).grown hg3 (by simp; omega) (fun k hk => (OwnY.alloc xO (.cells #[.int .i64 f, .int .i64 t] 42)).lt k hk |>.1)
                  clear hg3 xO xS xB x0 x1
                  go_roundw
                  case rel => exact ⟨k + 1, out ++ [(f, t)], by omega, by go_num, ho3, xS3, by rw [List.length_append]; simp; omega, HP.out, xB3⟩
                  case measure => simp [intOf]; omega
                · go_simp
                  refine hK.out _ _ ⟨by exact hA0 _, by exact hA1 _⟩ (fun hHeld => ?_)
                  clear hK K
                  refine wpAnyH_ready (rs := [10]) (by kernel_rfl) (by simp) ?_
                  refine AllReadyH.cons rfl (fun K hK => ?_) AllReadyH.nil
                  go_simp
                  refine (HE1.out _).mono ?_
                  rintro e wz ⟨rfl, rfl⟩
                  refine hK.out _ _ ⟨by exact hA0 _, by exact hA1 _⟩ (fun hHeld => ?_)
                  clear hK K
                  refine wpAnyH_take (i := 11) (v := ?_) rfl (by kernel_rfl) (by kernel_rfl) (by kernel_rfl) (fun _ _ _ h => h) (Or.inl ⟨by rfl, ?hy77⟩) (by assumption) ?ty77
                  case hy77 => (intro w5 hSw; (try dsimp only at hSw); (try obtain ⟨p0, p1, p2, p3, p4⟩ := hSw); go_simp; all_goals with_reducible rfl)
                  simp only [Act.put, List.getElem_toArray, List.getElem_cons_zero, List.getElem_cons_succ, List.setIfInBounds_toArray, List.set_cons_zero, List.set_cons_succ]
                  refine wpAnyH_ready (rs := [13]) (by kernel_rfl) (by simp) ?_
                  refine AllReadyH.cons rfl (fun K hK => ?_) AllReadyH.nil
                  go_simp
                  refine hK.out _ _ ⟨by exact hA0 _, by exact hA1 _⟩ (fun hHeld => ?_)
                  clear hK K
                  refine wpAnyH_done (by kernel_rfl) ?_ _
                  clear hHeld he0 he1 hA0 hA1 HE0 HE1 hcw
                  clear HPN HNO
                  have x0 : (w2.alloc (.cells #[.int .i64 f, .int .i64 t] 42)).drew.cell? ⟨w2.heap.size, 0, none⟩ = some (.int .i64 f) := by simp
                  have x1 : (w2.alloc (.cells #[.int .i64 f, .int .i64 t] 42)).drew.cell? ⟨w2.heap.size, 1, none⟩ = some (.int .i64 t) := by simp
                  have xO : OwnY (w2.alloc (.cells #[.int .i64 f, .int .i64 t] 42)).drew w.heap.size (.slice av k cv) out := HOA.out
                  have xS : OwnS (w2.alloc (.cells #[.int .i64 f, .int .i64 t] 42)).drew w.heap.size (.slice (some ⟨gw, offw, none⟩) W c1) ws := HSA.out
                  have xB : Below w.heap.size w (w2.alloc (.cells #[.int .i64 f, .int .i64 t] 42)).drew := HBA.out.drew
                  clear HOA HSA HBA
                  generalize (w2.alloc (.cells #[.int .i64 f, .int .i64 t] 42)).drew = X at *
                  generalize w2.heap.size = g2 at *
                  have xz := xB.size
                  go_wp2_with (at_builtin; refine wpList_app_newYg rfl _ _ rfl w.heap.size _ out rfl xO f t rfl (by omega) xz ?_; intro v' w3 ho3 hg3)
                  have xS3 := (OwnS.alloc xS (.cells #[.int .i64 f, .int .i64 t] 42)).keptT hg3 (own_two (OwnS.alloc xS (.cells #[.int .i64 f, .int .i64 t] 42)) (OwnY.alloc xO (.cells #[.int .i64 f, .int .i64 t] 42)))
                  have xB3 : Below w.heap.size w w3 := (xB.alloc xz _).grown hg3 (by simp; omega) (fun k hk => (OwnY.alloc xO (.cells #[.int .i64 f, .int .i64 t] 42)).lt k hk |>.1)
                  clear hg3 xO xS xB x0 x1
                  go_roundw
                  case rel => exact ⟨k + 1, out ++ [(f, t)], by omega, by go_num, ho3, xS3, by rw [List.length_append]; simp; omega, HP.out, xB3⟩
                  case measure => simp [intOf]; omega
              · go_simp
                refine hK.out _ _ ⟨by exact hA0 _, by exact hA1 _⟩ (fun hHeld => ?_)
                clear hK K
                refine wpAnyH_ready (rs := [3]) (by kernel_rfl) (by simp) ?_
                refine AllReadyH.cons rfl (fun K hK => ?_) AllReadyH.nil
                go_simp
                refine (HE0.out _).mono ?_
                rintro e wz ⟨rfl, rfl⟩
                refine hK.out _ _ ⟨by exact hA0 _, by exact hA1 _⟩ (fun hHeld => ?_)
                clear hK K
                refine wpAnyH_ready (rs := [10]) (by kernel_rfl) (by simp) ?_
                refine AllReadyH.cons rfl (fun K hK => ?_) AllReadyH.nil
                go_simp
                refine (HE1.out _).mono ?_
                rintro e wz ⟨rfl, rfl⟩
                refine hK.out _ _ ⟨by exact hA0 _, by exact hA1 _⟩ (fun hHeld => ?_)
                clear hK K
                refine wpAnyH_take (i := 11) (v := ?_) rfl (by kernel_rfl) (by kernel_rfl) (by kernel_rfl) (fun _ _ _ h => h) (Or.inl ⟨by rfl, ?hy78⟩) (by assumption) ?ty78
                case hy78 => (intro w5 hSw; (try dsimp only at hSw); (try obtain ⟨p0, p1, p2, p3, p4⟩ := hSw); go_simp; all_goals with_reducible rfl)
                simp only [Act.put, List.getElem_toArray, List.getElem_cons_zero, List.getElem_cons_succ, List.setIfInBounds_toArray, List.set_cons_zero, List.set_cons_succ]
                refine wpAnyH_ready (rs := [13]) (by kernel_rfl) (by simp) ?_
                refine AllReadyH.cons rfl (fun K hK => ?_) AllReadyH.nil
                go_simp
                refine hK.out _ _ ⟨by exact hA0 _, by exact hA1 _⟩ (fun hHeld => ?_)
                clear hK K
                refine wpAnyH_done (by kernel_rfl) ?_ _
                clear hHeld he0 he1 hA0 hA1 HE0 HE1 hcw
                clear HPN HNO
                have x0 : (w2.alloc (.cells #[.int .i64 f, .int .i64 t] 42)).drew.cell? ⟨w2.heap.size, 0, none⟩ = some (.int .i64 f) := by simp
                have x1 : (w2.alloc (.cells #[.int .i64 f, .int .i64 t] 42)).drew.cell? ⟨w2.heap.size, 1, none⟩ = some (.int .i64 t) := by simp
                have xO : OwnY (w2.alloc (.cells #[.int .i64 f, .int .i64 t] 42)).drew w.heap.size (.slice av k cv) out := HOA.out
                have xS : OwnS (w2.alloc (.cells #[.int .i64 f, .int .i64 t] 42)).drew w.heap.size (.slice (some ⟨gw, offw, none⟩) W c1) ws := HSA.out
                have xB : Below w.heap.size w (w2.alloc (.cells #[.int .i64 f, .int .i64 t] 42)).drew := HBA.out.drew
                clear HOA HSA HBA
                generalize (w2.alloc (.cells #[.int .i64 f, .int .i64 t] 42)).drew = X at *
                generalize w2.heap.size = g2 at *
                have xz := xB.size
                go_wp2_with (at_builtin; refine wpList_app_newYg rfl _ _ rfl w.heap.size _ out rfl xO f t rfl (by omega) xz ?_; intro v' w3 ho3 hg3)
                have xS3 := (OwnS.alloc xS (.cells #[.int .i64 f, .int .i64 t] 42)).keptT hg3 (own_two (OwnS.alloc xS (.cells #[.int .i64 f, .int .i64 t] 42)) (OwnY.alloc xO (.cells #[.int .i64 f, .int .i64 t] 42)))
                have xB3 : Below w.heap.size w w3 := (xB.alloc xz _).grown hg3 (by simp; omega) (fun k hk => (OwnY.alloc xO (.cells #[.int .i64 f, .int .i64 t] 42)).lt k hk |>.1)
                clear hg3 xO xS xB x0 x1
                go_roundw
                case rel => exact ⟨k + 1, out ++ [(f, t)], by omega, by go_num, ho3, xS3, by rw [List.length_append]; simp; omega, HP.out, xB3⟩
                case measure => simp [intOf]; omega
    · have hki : ¬ (k : Int) < (W : Int) := by omega
      have hkk : ws.drop k = [] := List.drop_of_length_le (by omega)
      rw [hkk] at hps
      have HP : Hid (psL ws = some out) := by
        show psL ws = _
        rw [hps]; simp [psL]
      obtain ⟨av, cv, ev, _, _⟩ := hown.form
      rw [hol] at ev
      subst ev
      clear hps hkk hows
      by_cases h8 : out.length ≤ 8
      · have h8' : (k : Int) ≤ 8 := by omega
        have HD : Hid (true = decide (out.length ≤ 8)) := (decide_eq_true h8).symm
        go_wp2
        go_returns
        exact HYES.out _ _ out _ HP.out hown HD.out hbel
      · have h8' : ¬ (k : Int) ≤ 8 := by omega
        have HD : Hid (false = decide (out.length ≤ 8)) := (decide_eq_false h8).symm
        go_wp2
        go_returns
        exact HYES.out _ _ out _ HP.out hown HD.out hbel
end Go.Proofs.YtlkfmgfblfkgbaaGreatDoor
