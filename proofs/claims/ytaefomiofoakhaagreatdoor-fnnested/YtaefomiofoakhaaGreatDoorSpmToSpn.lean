/- Which kind of line begins at a place, the model's; the ranges of a body as the model tells them, by a plain function · What both sides make of a part's bytes: the same, but for a mark that is too long · The ranges of a body on both sides: by the lines of the body alone, and by places in the whole · A slice of the model's ranges: a row of the call's own, an append; the greater and the lesser of two numbers. -/
import Derived.Test.YtaefomiofoakhaaGreatDoorOne
namespace Go.Proofs.YtaefomiofoakhaaGreatDoor
open Go.RowKit

/-- Which kind of line a text is. -/
def kdM (bg en t : ByteArray) : Int := if t = bg then 1 else if t = en then 2 else 0
set_option maxHeartbeats 1600000 in
set_option maxRecDepth 100000 in
theorem l5Line_any {cp : Nat} (b m : Nat) (d : List Nat) (mk bg en : ByteArray) (w : World) (hr : Rd w (some ⟨b, 0, none⟩) d) (hl : d.length = m) (_hm : m ≤ 400) (i j : Nat) (him : i < m) (hij : i ≤ j) (hjm : j ≤ m) (hmk : mk.size ≤ 1000) (hbg : ⟨#[45, 45]⟩ ++ mk = bg) (hen : bg ++ ⟨#[45, 45]⟩ = en) (hcp : m ≤ cp := by omega) :
    Calls Tryz.prog 78 #[.slice (some ⟨b, 0, none⟩) m cp, .int .i64 (i : Int), .int .i64 (j : Int), .string mk] w fun e w' => e = .returned (.int .i64 (kdM bg en (str (cutN d i j)))) ∧ w = w' := by
  have htl : (cutN d i j).length = j - i := by unfold cutN; rw [List.length_drop, List.length_take]; omega
  have hrc : Rd w (some ⟨b, i, none⟩) (cutN d i j) := by
    have h := (rd_takeH hr j).drop i
    rw [Nat.zero_add] at h; exact h
  have hst := fun c' => run_str (cap := c') (n := j - i) htl hrc
  have hbs : bg.size = 2 + mk.size := by rw [← hbg, ByteArray.size_append]; rfl
  have hcat1 : ¬ 9223372036854775807 < 2 + mk.size := by omega
  have hcat2 : ¬ 9223372036854775807 < 2 + mk.size + 2 := by omega
  have hcat3 : ¬ 9223372036854775807 < bg.size + 2 := by omega
  have hi1 : (i : Int) ≤ (j : Int) := by omega
  have hi2 : (j : Int) ≤ (m : Int) := by omega
  have hmi : ¬ m = i := by omega
  generalize str (cutN d i j) = t at *
  clear hrc htl
  by_cases h1 : t = bg
  · have HM : Hid (kdM bg en t = 1) := if_pos h1
    have e1 : (t.toList == bg.toList) = true := by rw [h1]; simp
    go_enter Tryz.func78, Tryz.ntmps78
    go_wp2
    go_ret
    exact ⟨by rw [HM.out]; rfl, rfl⟩
  · have e1 := texts_ne h1
    by_cases h2 : t = en
    · have HM : Hid (kdM bg en t = 2) := (if_neg h1).trans (if_pos h2)
      have e2 : (t.toList == en.toList) = true := by rw [h2]; simp
      have e3 : (en.toList == bg.toList) = false := by rw [← h2]; exact e1
      go_enter Tryz.func78, Tryz.ntmps78
      go_wp2
      go_ret
      exact ⟨by rw [HM.out]; rfl, rfl⟩
    · have HM : Hid (kdM bg en t = 0) := (if_neg h1).trans (if_neg h2)
      have e2 := texts_ne h2
      go_enter Tryz.func78, Tryz.ntmps78
      go_wp2
      go_ret
      exact ⟨by rw [HM.out]; rfl, rfl⟩
/-- What the model has at its end. -/
def finM (tt : Nat) (out : List RngP) (o : Option Nat) : List RngP := match o with
  | some s => out ++ [((s : Int), (tt : Int))]
  | none => out
/-- What the model has behind a line of a mark that begins at a place. -/
def cloM (k : Nat) (out : List RngP) (o : Option Nat) : List RngP := match o with
  | some s => out ++ [((s : Int), ((if s ≤ k - 1 then k - 1 else s : Nat) : Int))]
  | none => out
/-- A line of a kind, and what comes behind it. -/
def spS (kd : Int) (k e tt : Nat) (out : List RngP) (o : Option Nat) (F : Nat → List RngP → Option Nat → List RngP) : List RngP :=
  if kd = 2 then cloM k out o else if kd = 1 then F (e + 1) (cloM k out o) (some (if e + 1 ≤ tt then e + 1 else tt)) else F (e + 1) out o
/-- The model's ranges, line by line: what is closed, where the open one began. -/
def spF (d : List Nat) (tt : Nat) (bg en : ByteArray) : Nat → Nat → List RngP → Option Nat → List RngP
  | 0, _, out, o => finM tt out o
  | f + 1, k, out, o => if k < tt then spS (kdM bg en (str (cutN d k (eoL (d.take tt) k)))) k (eoL (d.take tt) k) tt out o (fun a b c => spF d tt bg en f a b c) else finM tt out o
theorem spF_yes {d : List Nat} {tt f k : Nat} {bg en : ByteArray} {out : List RngP} {o : Option Nat} (h : k < tt) : spF d tt bg en (f + 1) k out o = spS (kdM bg en (str (cutN d k (eoL (d.take tt) k)))) k (eoL (d.take tt) k) tt out o (spF d tt bg en f) := if_pos h
theorem spF_end {d : List Nat} {tt f k : Nat} {bg en : ByteArray} {out : List RngP} {o : Option Nat} (h : ¬ k < tt) : spF d tt bg en f k out o = finM tt out o := by
  cases f with
  | zero => rfl
  | succ f => exact if_neg h
end Go.Proofs.YtaefomiofoakhaaGreatDoor

namespace Go.Proofs.YtaefomiofoakhaaGreatDoor
open Go.RowKit

theorem mm_apart {p : List Nat} (h : bgN p wMulti = true) : bgN p wMark = false := by
  cases hm : bgN p wMark with
  | false => rfl
  | true =>
    exfalso
    have h1 := of_decide_eq_true h
    have h2 := of_decide_eq_true hm
    have l1 := bgN_len h
    cases p with
    | nil => simp [wMulti] at l1
    | cons c p =>
      simp [wMulti] at h1
      simp [wMark] at h2
      omega
theorem nm_tail {t : List Nat} (h : (tyV t).1 = 2) : nmN wMark (pcs t) = nmN wMark ((pcs t).drop 1) := by
  cases hp : pcs t with
  | nil => rfl
  | cons p l =>
    have hb : bgN p wMulti = true := by
      cases hb : bgN p wMulti with
      | true => rfl
      | false =>
        exfalso
        cases ht : bgN p wText with
        | true => rw [tyV_text hp hb ht] at h; simp at h
        | false => rw [tyV_else hp hb ht] at h; simp at h
    rw [nmN, mm_apart hb]
    rfl
/-- A mark that the program takes. -/
def mkT (r : (Int × Int × Int) × Nat × List Nat) : List Nat := if r.1.1 = 2 ∧ r.2.2.length ≤ 20 then r.2.2 else []
theorem oneV_M (x : List Nat) : oneV x = ((oneM x).1, (oneM x).2.1, mkT (oneM x)) := by
  by_cases h : (phV x).1 = 0
  · cases hf : fdOf (phV x).2.2 wct with
    | none =>
      rw [oneV_none h hf, oneM_none h hf]
      simp [mkT]
    | some v =>
      rw [oneV_some h hf, oneM_some h hf]
      by_cases ht : (tyV (bts v)).1 = 2
      · have e := nm_tail ht
        simp only [ht, if_true, mkT, true_and]
        unfold mkC
        rw [e]
        cases nmN wMark ((pcs (bts v)).drop 1) with
        | none => simp
        | some y => simp
      · simp [ht, mkT]
  · rw [oneV_bad h, oneM_bad h]
    simp [mkT]
end Go.Proofs.YtaefomiofoakhaaGreatDoor

namespace Go.Proofs.YtaefomiofoakhaaGreatDoor
open Go.RowKit

/-- A range that is told from further ahead. -/
def sh (fr : Nat) (s : RngP) : RngP := (s.1 + (fr : Int), s.2 + (fr : Int))
/-- How the two lists go together. -/
def RO (fr L : Nat) (out : List RngP) (o : Option Nat) (acc : List RngP) : Prop := (o = none ∧ out = [] ∧ acc = []) ∨ ∃ (s0 : Nat) (out0 : List RngP), o = some (s0 + fr) ∧ out = out0.map (sh fr) ∧ acc = out0 ++ [((s0 : Int), (L : Int))] ∧ s0 ≤ L
theorem RO.fin {fr L tt : Nat} {out acc : List RngP} {o : Option Nat} (h : RO fr L out o acc) (ht : fr + L = tt) : finM tt out o = acc.map (sh fr) := by
  rcases h with ⟨rfl, rfl, rfl⟩ | ⟨s0, out0, rfl, rfl, rfl, _⟩
  · rfl
  · simp only [finM, List.map_append, List.map_cons, List.map_nil, sh]
    congr 2
    simp only [Prod.mk.injEq]
    exact ⟨by omega, by omega⟩
theorem nthR_last (out0 : List RngP) (p : RngP) : nthR (out0 ++ [p]) out0.length = p := by
  unfold nthR; simp
theorem RO.clo {fr L i : Nat} {out acc : List RngP} {o : Option Nat} {x : Line} (h : RO fr L out o acc) (hL : L ≤ 1048576) (hi : i ≤ L) (hx : x.2.1 = (i : Int)) : cloM (fr + i) out o = (clsL acc x).map (sh fr) := by
  rcases h with ⟨rfl, rfl, rfl⟩ | ⟨s0, out0, rfl, rfl, rfl, _⟩
  · rfl
  · have e : (out0 ++ [((s0 : Int), (L : Int))]).length - 1 = out0.length := by simp
    unfold clsL
    rw [e, nthR_last, hx, Go.IntWalk.wrap64_in _ (by omega)]
    rw [List.set_append_right _ _ (Nat.le_refl _), Nat.sub_self, List.set_cons_zero]
    simp only [cloM, List.map_append, List.map_cons, List.map_nil, sh]
    congr 2
    simp only [Prod.mk.injEq]
    refine ⟨by omega, ?_⟩
    rw [Int.max_def]
    split <;> split <;> omega
theorem RO.next {fr L i q : Nat} {out acc : List RngP} {o : Option Nat} {x : Line} (h : RO fr L out o acc) (hL : L ≤ 1048576) (hi : i ≤ L) (hx : x.2.1 = (i : Int)) (hq : q ≤ L) : RO fr L (cloM (fr + i) out o) (some (q + fr)) (clsL acc x ++ [((q : Int), (L : Int))]) :=
  .inr ⟨q, clsL acc x, rfl, h.clo hL hi hx, rfl, hq⟩
/-- Where a line ends, told from further ahead. -/
theorem eoL_cut {d : List Nat} {fr tt i : Nat} (_h : fr ≤ tt) (_ht : tt ≤ d.length) (_hi : fr + i ≤ tt) : eoL (d.take tt) (fr + i) = fr + eoL (cutN d fr tt) i := by
  unfold eoL cutN
  rw [List.drop_drop]
  omega
theorem cut_cut {d : List Nat} {fr tt i e : Nat} (he : fr + e ≤ tt) : cutN d (fr + i) (fr + e) = ((cutN d fr tt).take e).drop i := by
  unfold cutN
  rw [← List.drop_drop]
  congr 1
  rw [List.drop_take, List.drop_take, List.take_take]
  congr 1; omega
theorem spF_same {d : List Nat} {fr tt : Nat} {bg en : ByteArray} (hbe : bg ≠ en) (hft : fr ≤ tt) (ht : tt ≤ d.length) (hL : d.length ≤ 1048576) : ∀ (f g i : Nat) (out acc : List RngP) (o : Option Nat), tt - fr ≤ f + i → tt - fr ≤ g + i → fr + i ≤ tt → RO fr (tt - fr) out o acc →
    spF d tt bg en f (fr + i) out o = ((upE en (lnsF (cutN d fr tt) g i)).foldl (stpL bg en ((tt - fr : Nat) : Int)) acc).map (sh fr) := by
  have hxl : (cutN d fr tt).length = tt - fr := by unfold cutN; rw [List.length_drop, List.length_take]; omega
  intro f
  induction f with
  | zero =>
    intro g i out acc o hf hg hi hro
    have hi2 : i = tt - fr := by omega
    rw [spF_end (by omega), lnsF_no (by omega), hro.fin (by omega)]; rfl
  | succ f ih =>
    intro g i out acc o hf hg hi hro
    by_cases hk : i < tt - fr
    · obtain ⟨g, rfl⟩ : ∃ g', g = g' + 1 := ⟨g - 1, by omega⟩
      have hge := eoL_ge (cutN d fr tt) i
      have hle := eoL_le (l := cutN d fr tt) (i := i) (by omega)
      have he := eoL_cut (i := i) hft ht hi
      have hct : cutN d (fr + i) (fr + eoL (cutN d fr tt) i) = ((cutN d fr tt).take (eoL (cutN d fr tt) i)).drop i := cut_cut (by omega)
      rw [spF_yes (by omega), lnsF_yes (by omega), he, hct]
      generalize hT : str (((cutN d fr tt).take (eoL (cutN d fr tt) i)).drop i) = T
      have hnx : nxL (cutN d fr tt) i = if eoL (cutN d fr tt) i < tt - fr then eoL (cutN d fr tt) i + 1 else eoL (cutN d fr tt) i := by unfold nxL; rw [hxl]
      generalize nxL (cutN d fr tt) i = nx at *
      generalize eoL (cutN d fr tt) i = e at *
      have hgo : ∀ out' acc' o', RO fr (tt - fr) out' o' acc' → spF d tt bg en f (fr + e + 1) out' o' = ((upE en (lnsF (cutN d fr tt) g nx)).foldl (stpL bg en ((tt - fr : Nat) : Int)) acc').map (sh fr) := by
        intro out' acc' o' hro'
        by_cases hee : e < tt - fr
        · rw [if_pos hee] at hnx
          rw [hnx, Nat.add_assoc]
          exact ih g (e + 1) out' acc' o' (by omega) (by omega) (by omega) hro'
        · rw [if_neg hee] at hnx
          rw [spF_end (by omega), lnsF_no (by omega), hro'.fin (by omega)]; rfl
      by_cases h1 : T = bg
      · have hk1 : kdM bg en T = 1 := if_pos h1
        have hne : T ≠ en := fun e => hbe (h1.symm.trans e)
        rw [upE, if_neg (by exact hne), List.foldl_cons]
        have hs : stpL bg en ((tt - fr : Nat) : Int) acc (T, (i : Int), (nx : Int)) = clsL acc (T, (i : Int), (nx : Int)) ++ [((nx : Int), ((tt - fr : Nat) : Int))] := by unfold stpL; rw [if_neg (by exact hne), if_pos (by exact h1)]
        rw [hs, hk1]
        have hq : (if fr + e + 1 ≤ tt then fr + e + 1 else tt) = nx + fr := by rw [hnx]; split <;> split <;> omega
        unfold spS
        rw [if_neg (by decide), if_pos rfl, hq]
        exact hgo _ _ _ (hro.next (by omega) (by omega) rfl (by rw [hnx]; split <;> omega))
      · by_cases h2 : T = en
        · have hk2 : kdM bg en T = 2 := (if_neg h1).trans (if_pos h2)
          rw [upE, if_pos (by exact h2), List.foldl_cons, List.foldl_nil]
          have hs : stpL bg en ((tt - fr : Nat) : Int) acc (T, (i : Int), (nx : Int)) = clsL acc (T, (i : Int), (nx : Int)) := by unfold stpL; rw [if_pos (by exact h2)]
          rw [hs, hk2]
          unfold spS
          rw [if_pos rfl]
          exact hro.clo (by omega) (by omega) rfl
        · have hk0 : kdM bg en T = 0 := (if_neg h1).trans (if_neg h2)
          rw [upE, if_neg (by exact h2), List.foldl_cons]
          have hs : stpL bg en ((tt - fr : Nat) : Int) acc (T, (i : Int), (nx : Int)) = acc := by unfold stpL; rw [if_neg (by exact h2), if_neg (by exact h1)]
          rw [hs, hk0]
          unfold spS
          rw [if_neg (by decide), if_neg (by decide)]
          exact hgo _ _ _ hro
    · rw [spF_end (by omega), lnsF_no (by omega), hro.fin (by omega)]; rfl
end Go.Proofs.YtaefomiofoakhaaGreatDoor

namespace Go.Proofs.YtaefomiofoakhaaGreatDoor
open Go.RowKit

def OwnM (w : World) (B : Nat) (v : Value) (l : List RngP) : Prop := w.ownsRow B 100 2 v l.length (rc l)
theorem infoM : (Tryz.prog.info? 100).map (fun i => (i.zero, i.size, i.bytes)) = some (some zeroR, 2, 16) := by kernel_rfl
theorem OwnM.alloc {w : World} {B : Nat} {v : Value} {l : List RngP} (h : OwnM w B v l) (o : Obj) : OwnM (w.alloc o) B v l := World.ownsRow.alloc h o
theorem OwnM.below {w w' : World} {B C : Nat} {v : Value} {l : List RngP} (h : OwnM w B v l) (hb : Below C w w') (hC : w.heap.size ≤ C) : OwnM w' B v l := by
  refine ⟨h.1, ?_⟩
  rcases h.2 with h' | ⟨g, cap, cur, h1, h2, h3, h4⟩
  · exact .inl h'
  · refine .inr ⟨g, cap, cur, h1, h2, ?_, h4⟩
    have hg : g < w.heap.size := (Array.getElem?_eq_some_iff.1 h3).1
    rw [hb.block g (by omega)]; exact h3
theorem OwnM.form {w : World} {B : Nat} {v : Value} {l : List RngP} (h : OwnM w B v l) : ∃ a cap, v = .slice a l.length cap ∧ l.length ≤ cap ∧ cap ≤ maxLen := by
  rcases h.2 with ⟨h', h0⟩ | ⟨g, cap, cur, h', _, _, h4, h5, _⟩
  · exact ⟨none, 0, by rw [h', h0], by omega, by decide⟩
  · exact ⟨_, cap, h', h4, h5⟩
theorem OwnM.rd {w : World} {B n cap : Nat} {a : Option Addr} {l : List RngP} (h : OwnM w B (.slice a n cap) l) : l.length = n ∧ RdR w a l := by
  have hf : l.length = n := by
    obtain ⟨a', c', e, _⟩ := h.form
    simp at e; omega
  subst hf
  exact ⟨rfl, RdR.own h⟩
theorem OwnM.lit0 (w : World) (B : Nat) (hB : B ≤ w.heap.size) : OwnM (w.alloc (.cells #[] 100)) B (.slice (some ⟨w.heap.size, 0, none⟩) 0 0) [] := by
  have := World.ownsRow_lit (base := B) (e := 100) (size := 2) w #[] 0 hB (by decide) rfl
  exact this
/-- AN APPEND OF ONE RANGE THAT WAS LAID JUST AHEAD. -/
theorem wpList_appM {w : World} {ops : Array Oper} {rest : List Oper} {o : Oper} {a : Act} {Q : Exit → Act → World → Prop} (hgd : o.guard = none) (s x : Operand)
    (ho : o.op = .call { callee := .builtin .append, args := #[s, x], argTypes := #[97, 97] })
    (B : Nat) (v : Value) (l : List RngP) (hs : a.eval s = v) (hown : OwnM w B v l) (ad : Addr) (y : RngP) (hx : a.eval x = .slice (some ad) 1 1)
    (hnew : ∀ j u, [Value.int .i64 y.1, Value.int .i64 y.2][j]? = some u → w.cell? (ad.add j) = some u) (hsz : l.length + 1 ≤ 1048576) (hB : B ≤ w.heap.size)
    (h : ∀ v' w1, OwnM w1 B v' (l ++ [y]) → Below B w w1 → wpList Tryz.prog ops Q rest (a.put o.dst v') w1) : wpList Tryz.prog ops Q (o :: rest) a w := by
  obtain ⟨i0, hi, hz0, hz1, hz2⟩ := info_parts infoM
  refine wpList_append_own w hgd s x 97 ho B 100 i0 zeroR 2 16 Tryz.underlying97 hi hz0 hz1 hz2 rfl (by decide) v l.length (rc l) hs hown ad 1 1 (rc [y]) hx (by rw [rc_len]; rfl) ?_ (rc_one [y]) (by unfold maxLen; omega) (by omega) hB ?_
  · intro j u hj
    exact hnew j u hj
  · intro v' w1 hown' hgr _
    refine h v' w1 ?_ ((Below.refl _ _).grown hgr hB (fun k hk => (hown.lt k hk).1))
    unfold OwnM
    rw [rc_app, List.length_append]
    exact hown'
theorem l1Max_any (x y : Int) (w : World) : Calls Tryz.prog 79 #[.int .i64 x, .int .i64 y] w fun e w' => e = .returned (.int .i64 (if y < x then x else y)) ∧ w = w' := by
  by_cases h : y < x
  · rw [if_pos h]
    go_enter Tryz.func79, Tryz.ntmps79
    go_wp2
    go_ret
    exact ⟨rfl, rfl⟩
  · rw [if_neg h]
    go_enter Tryz.func79, Tryz.ntmps79
    go_wp2
    go_ret
    exact ⟨rfl, rfl⟩
theorem l1Min_any (x y : Int) (w : World) : Calls Tryz.prog 80 #[.int .i64 x, .int .i64 y] w fun e w' => e = .returned (.int .i64 (if x < y then x else y)) ∧ w = w' := by
  by_cases h : x < y
  · rw [if_pos h]
    go_enter Tryz.func80, Tryz.ntmps80
    go_wp2
    go_ret
    exact ⟨rfl, rfl⟩
  · rw [if_neg h]
    go_enter Tryz.func80, Tryz.ntmps80
    go_wp2
    go_ret
    exact ⟨rfl, rfl⟩
end Go.Proofs.YtaefomiofoakhaaGreatDoor
