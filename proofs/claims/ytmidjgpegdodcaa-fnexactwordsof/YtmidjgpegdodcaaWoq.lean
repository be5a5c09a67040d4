/- WordsOf, the program's and the model's: both answer the line's longest pieces without a blank; lines of at most 1048576 bytes. -/
import Derived.Test.YtmidjgpegdodcaaWop
import Derived.Test.YtmidjgpegdodcaaMrk0
import Derived.Maps.AppendAt
namespace Go.Proofs.Ytmidjgpegdodcaa
open Go.RowKit

theorem OwnS.setW {w : World} {B : Nat} {v : Value} {l : List (List Nat)} (h : OwnS w B v l) (p : Addr) (hp : p.block < B) (u : Value) : OwnS (w.setCell p u) B v l := ownsRow_setCell_below h hp u
/-- What WordsOf answers. -/
def WdEnd (w : World) (t : List Nat) (e : Ending) (w' : World) : Prop := ∃ v, e = .returned (.agg #[.int .i64 0, v]) ∧ OwnS w' w.heap.size v (wdX t) ∧ Below w.heap.size w w'
theorem txt_neX {x s : ByteArray} (h : x ≠ s) : (x.toList == s.toList) = false := by
  rw [beq_eq_false_iff_ne]
  intro e
  refine h ?_
  apply ByteArray.ext
  apply Array.ext'
  rw [← ByteArray.toList_eq, ← ByteArray.toList_eq]; exact e
theorem str_nil_eq (x : Nat) (r : List Nat) : ((str (x :: r)).toList == ByteArray.toList ⟨#[]⟩) = false := txt_neX fun e => by
  have := congrArg ByteArray.size e
  rw [str_size] at this
  exact absurd this (by simp [ByteArray.size])
theorem str_nil_em (x : Nat) (r : List Nat) : (str (x :: r)).toList.isEmpty = false := by
  have := str_nil_eq x r
  cases h : (str (x :: r)).toList with
  | nil =>
    rw [h, ByteArray.toList_eq] at this
    exact absurd this (by decide)
  | cons _ _ => rfl
theorem str_tail (x : Nat) (r : List Nat) (m : Nat) (h : m = r.length + 1) : (str (x :: r)).extract 1 m = str r := by
  rw [str_exY, h]
  have : (x :: r).take (r.length + 1) = x :: r := List.take_of_length_le (by simp)
  rw [this]; rfl

theorem wdX_len : ∀ (n : Nat) (l : List Nat), l.length = n → (wdX l).length ≤ l.length := fun n => by
  induction n using Nat.strongRecOn with
  | _ n ih =>
    intro l hl
    cases l with
    | nil => simp [wdX_nil]
    | cons x r =>
      by_cases hx : x = 32
      · subst hx
        rw [wdX_bl]
        have := ih r.length (by rw [← hl]; simp) r rfl
        simp; omega
      · obtain ⟨h1, h2⟩ := wdX_hd x r hx
        have hd : ((x :: r).drop ((hdX (x :: r)).length + 1)).length < n := by (rw [List.length_drop, hl]; have : n = r.length + 1 := (by rw [← hl]; rfl); omega)
        have := ih _ hd _ rfl
        rw [h1, List.length_cons]
        rw [List.length_drop] at this
        omega

set_option maxHeartbeats 3200000 in
set_option maxRecDepth 100000 in
theorem wordsOf_any (l : List Nat) (n : Nat) (w : World) (hl : l.length = n) (hB : IsB l) (hn : n ≤ 1048576) :
    Calls Try.prog 5 #[.string (str l)] w fun e w' => WdEnd w l e w' := by
  have hb0 : Below w.heap.size w (w.alloc (.cells #[.int .i64 0, .slice none 0 0] 24)) := (Below.refl _ _).alloc (Nat.le_refl _) _
  have hWs : (w.alloc (.cells #[.int .i64 0, .slice none 0 0] 24)).heap.size = w.heap.size + 1 := by simp
  unfold WdEnd
  go_enter Try.func5, Try.ntmps5
  go_wp2
  generalize hW : w.alloc (.cells #[.int .i64 0, .slice none 0 0] 24) = W at *
  go_step3
  go_wp2
  go_step3
  go_wp2
  go_loopg [3, 4] n (fun g v rest wr => ∃ (t : List Nat) (ps : List (List Nat)), t.length = g ∧ IsB t ∧ rest = .string (str t) ∧ OwnS wr (w.heap.size + 1) v ps ∧ Below (w.heap.size + 1) W wr ∧ ps.length + g ≤ n ∧ Aside (wdX l = ps ++ wdX t))
  case atStart => exact ⟨l, [], hl, hB, rfl, OwnS.nil _ _, Below.refl _ _, by simp, rfl⟩
  case round =>
    obtain ⟨t, ps, htl, hBt, rfl, hown, hbl, hpl, HA⟩ := hrel
    go_wp2
    go_loopg [4] t.length (fun g2 rest wx => ∃ u : List Nat, u.length = g2 ∧ g2 ≤ t.length ∧ IsB u ∧ rest = .string (str u) ∧ wr = wx ∧ Aside (wdX t = wdX u))
    case atStart => exact ⟨t, rfl, Nat.le_refl _, hBt, rfl, rfl, rfl⟩
    case round =>
      obtain ⟨u, hul, hug, hBu, rfl, rfl, HU⟩ := hrel
      cases u with
      | nil =>
        have HX : Hid (wdX l = ps) := by
          show _ = _
          rw [HA.out, HU.out, wdX_nil, List.append_nil]
        rw [show str [] = (⟨#[]⟩ : ByteArray) from rfl]
        obtain ⟨a1, cp1, ev, _, _⟩ := hown.form
        subst ev
        obtain ⟨hcw, hcw1, hfw, hfw1⟩ := res_block hW hbl
        obtain ⟨hk0, hk1⟩ := res_cells hcw hcw1 (.int .i64 0) (.slice a1 ps.length cp1)
        have hbE : Below w.heap.size w wr := hb0.trans (hbl.mono (by omega))
        have HO : Hid (OwnS ((wr.setCell ⟨w.heap.size, 0, none⟩ (.int .i64 0)).setCell ⟨w.heap.size, 1, none⟩ (.slice a1 ps.length cp1)) w.heap.size (.slice a1 ps.length cp1) (wdX l)) := by
          show OwnS _ _ _ _
          rw [HX.out]
          exact ((hown.setW ⟨w.heap.size, 0, none⟩ (Nat.lt_succ_self _) _).setW ⟨w.heap.size, 1, none⟩ (Nat.lt_succ_self _) _).low (Nat.le_succ _)
        have HBE : Hid (Below w.heap.size w ((wr.setCell ⟨w.heap.size, 0, none⟩ (.int .i64 0)).setCell ⟨w.heap.size, 1, none⟩ (.slice a1 ps.length cp1))) := (hbE.setCell (Nat.le_refl _) _).setCell (Nat.le_refl _) _
        clear HX hown hbl hbE HA HU
        go_wp2
        try rw [Exit.noGoto_ret]
        refine bodyPost_ret (v := .agg #[.int .i64 0, .slice a1 ps.length cp1]) (by simp [results, Try.results5, go_sem, hk0, hk1]) rfl ?_
        exact ⟨_, rfl, HO.out, HBE.out⟩
      | cons x r =>
        obtain ⟨R, hR⟩ : ∃ R, r.length = R := ⟨_, rfl⟩
        have hsz : (str (x :: r)).size = R + 1 := by rw [str_size, ← hR]; rfl
        have hne := str_nil_eq x r
        have hne2 := str_nil_em x r
        have hBr : IsB r := fun b hb => hBu b (List.mem_cons_of_mem _ hb)
        have g0 := str_get hBu (i := 0) (by rw [hsz]; omega)
        rw [show nth (x :: r) 0 = x from rfl] at g0
        have hul' : R + 1 = gk := by rw [← hul, ← hR]; rfl
        have hx256 : x < 256 := hBu x List.mem_cons_self
        by_cases hx : x = 32
        · subst hx
          have htl' := str_tail 32 r gk (by omega)
          have HU' : Hid (wdX t = wdX r) := HU.out.trans (wdX_bl r)
          clear HU
          clear hul
          go_wp2
          go_roundg R
          case measure => omega
          case rel => exact ⟨r, hR, by omega, hBr, rfl, rfl, HU'.out⟩
        · obtain ⟨hw1, hw2⟩ := wdX_hd x r hx
          have HW2 : Hid (wdX l = (ps ++ [hdX (x :: r)]) ++ wdX ((x :: r).drop ((hdX (x :: r)).length + 1))) := by
            show _ = _
            rw [HA.out, HU.out, hw1]; simp
          have hxb : ((x : Nat) : Int) ≠ 32 := by omega
          have hxc : (((x : Nat) : Int) == (32 : Int)) = false := beq_eq_false_iff_ne.2 hxb
          have HC : Hid (∀ w, _) := fun w => cutX_any (x :: r) _ w rfl hBu (by simp; omega)
          have HLT : Hid (((x :: r).drop ((hdX (x :: r)).length + 1)).length < R + 1) := by
            show _ < _
            rw [List.length_drop, List.length_cons, hR]; omega
          have HBD : Hid (IsB ((x :: r).drop ((hdX (x :: r)).length + 1))) := fun b hb => hBu b (List.mem_of_mem_drop hb)
          generalize hdX (x :: r) = h at *
          generalize (x :: r).drop (h.length + 1) = rest' at *
          clear hw1 HA HU
          go_wp2_with fail
          refine (HC.out _).mono ?_
          rintro e w1 ⟨⟨f, rfl⟩, hb1⟩
          have hbl1 := hbl.trans (hb1.mono (by have := hbl.size; omega))
          have hown1 := hown.below hb1 (Nat.le_refl _)
          clear hb1 hown HC
          go_wp2_with (at_builtin; refine wpList_app_newT rfl _ _ rfl (w.heap.size + 1) _ ps rfl hown1 1 1 [h] rfl rfl (by simp [sc]) (by omega) (by have := hbl1.size; omega) ?_; intro v' w3 ho3 hb3)
          go_roundg rest'.length
          case measure => have := HLT.out; omega
          case rel => exact ⟨rest', ps ++ [h], rfl, HBD.out, rfl, ho3, hbl1.trans hb3, by have := HLT.out; rw [List.length_append, List.length_singleton]; omega, HW2.out⟩

theorem filt_yes {ls : List (List Nat)} {k : Nat} (h : k < ls.length) (hx : nthS ls k ≠ []) : ((ls.take (k + 1)).filter fun x => !x.isEmpty) = ((ls.take k).filter fun x => !x.isEmpty) ++ [nthS ls k] := by
  rw [take_snocT ls k h, List.filter_append, List.filter_cons_of_pos (by rw [List.isEmpty_eq_false_iff.2 hx]; rfl)]; rfl
theorem filt_no {ls : List (List Nat)} {k : Nat} (h : k < ls.length) (hx : nthS ls k = []) : ((ls.take (k + 1)).filter fun x => !x.isEmpty) = ((ls.take k).filter fun x => !x.isEmpty) := by
  rw [take_snocT ls k h, List.filter_append, hx]; simp
theorem cutM_lenX (c : Nat) : ∀ l : List Nat, (cutM c l).length ≤ l.length + 1
  | [] => by simp [cutM]
  | x :: r => by
    have ih := cutM_lenX c r
    unfold cutM
    split
    · simp; omega
    · split
      · simp
      · rename_i y u e
        rw [e] at ih
        simp at ih ⊢; omega
/-- An append of one text that was laid just ahead: it says where the row lies then. -/
theorem wpList_app_atX {wr : World} {x : List Nat} {ops : Array Oper} {rest : List Oper} {o : Oper} {a : Act} {Q : Exit → Act → World → Prop} (hgd : o.guard = none) (s y : Operand)
    (ho : o.op = .call { callee := .builtin .append, args := #[s, y], argTypes := #[22, 22] })
    (B : Nat) (v : Value) (l : List (List Nat)) (hs : a.eval s = v) (hown : OwnS wr B v l) (hx : a.eval y = .slice (some ⟨wr.heap.size, 0, none⟩) 1 1)
    (hsz : l.length + 1 ≤ 134217728) (hB : B ≤ wr.heap.size)
    (h : ∀ v' w1, OwnS w1 B v' (l ++ [x]) → Below B wr w1 → wr.grownBy w1 v.ownBlock → (v'.ownBlock = v.ownBlock ∨ ∃ b, v'.ownBlock = some b ∧ wr.heap.size ≤ b) → wpList Try.prog ops Q rest (a.put o.dst v') w1) : wpList Try.prog ops Q (o :: rest) a (wr.alloc (.cells #[.string (str x)] 9)) := by
  obtain ⟨i0, hi, hz0, hz1, hz2⟩ := info_parts infoS
  have ho' : OwnS (wr.alloc (.cells #[.string (str x)] 9)) B v l := hown.alloc _
  refine wpList_append_own_at _ hgd s y 22 ho B 9 i0 (.string ⟨#[]⟩) 1 16 Try.underlying22 hi hz0 hz1 hz2 rfl (by decide) v l.length (sc l) hs ho' ⟨wr.heap.size, 0, none⟩ 1 1 (sc [x]) hx rfl ?_ (sc_one [x]) (by unfold maxLen; omega) (by omega) (by simp; omega) ?_
  · intro j u hj
    have hjl : j < 1 := by
      rcases Nat.lt_or_ge j 1 with hlt | hge
      · exact hlt
      · rw [List.getElem?_eq_none (by rw [sc_len]; exact hge)] at hj; cases hj
    obtain rfl : j = 0 := by omega
    rw [Go.WideShapes.add_plain, World.cell?_alloc_mark]
    rw [← hj]; rfl
  · intro v' w1 hown' hgr _ hat
    have hb : Below B wr w1 := ((Below.refl _ _).alloc hB _).grown hgr (by simp; omega) (fun k hk => (ho'.lt k hk).1)
    refine h v' w1 ?_ hb (grown_alloc hgr) ?_
    · unfold OwnS
      rw [sc_app, List.length_append]
      exact hown'
    · rcases hat with hat | hat
      · exact .inl hat
      · exact .inr ⟨_, hat, by simp⟩
theorem RdS.keep {w w' : World} {g off : Nat} {r : Option Nat} {l : List (List Nat)} (h : RdS w (some ⟨g, off, none⟩) l) (hg : w.grownBy w' r) (hne : some g ≠ r) : RdS w' (some ⟨g, off, none⟩) l := by
  rcases h with h | ⟨b, o, e, hlt, hc⟩
  · exact .inl h
  · obtain ⟨rfl, rfl⟩ : g = b ∧ off = o := by simpa using e
    exact .inr ⟨g, off, rfl, Nat.lt_of_lt_of_le hlt hg.size, fun i hi => (hg.cell_far ⟨g, off + i, none⟩ hlt hne).trans (hc i hi)⟩

set_option maxHeartbeats 3200000 in
set_option maxRecDepth 100000 in
theorem l16Words_any (l : List Nat) (n : Nat) (w : World) (hl : l.length = n) (hB : IsB l) (hn : n ≤ 1048576) :
    Calls Try.prog 9 #[.string (str l)] w fun e w' => ∃ v, e = .returned v ∧ OwnS w' w.heap.size v (wdX l) ∧ Below w.heap.size w w' := by
  have hown0 : OwnS (w.alloc (.cells #[] 9)) w.heap.size (.slice (some ⟨w.heap.size, 0, none⟩) 0 0) [] := OwnS.lit w _ (Nat.le_refl _) #[] [] rfl (by decide)
  have hbel0 : Below w.heap.size w (w.alloc (.cells #[] 9)) := (Below.refl _ _).alloc (Nat.le_refl _) _
  have HC : Hid (∀ w, _) := fun w => l11Cut_any 32 l n w hl hB hn
  have hcl := cutM_lenX 32 l
  have HD : Hid (wdX l = (cutM 32 l).filter fun x => !x.isEmpty) := rfl
  have HNE : Hid (cutM 32 l ≠ []) := cutM_ne 32 l
  rw [hl] at hcl
  generalize wdX l = D at *
  generalize cutM 32 l = ls at *
  obtain ⟨m, hm⟩ : ∃ m, ls.length = m := ⟨_, rfl⟩
  rw [hm] at hcl
  go_enter Try.func9, Try.ntmps9
  go_wp2_with fail
  refine (HC.out _).mono ?_
  rintro e w1 ⟨v1, rfl, hown, hb1⟩
  have hbl1 := hbel0.trans (hb1.mono (by simp))
  have ho1 := hown0.below hb1 (Nat.le_refl _)
  obtain ⟨a1, cp1, ev, _, _⟩ := hown.form
  subst ev
  have hr1 := hown.rd.2
  have hpos : 0 < ls.length := List.length_pos_iff.2 HNE.out
  obtain ⟨g1, off1, rfl, hgl, _⟩ := hr1.at_ hpos
  have hgw : w.heap.size < g1 := by have := (hown.lt g1 rfl).1; simp at this; omega
  rw [hm]
  have hv0 : (Value.slice (some ⟨w.heap.size, 0, none⟩) 0 0).ownBlock = some w.heap.size := rfl
  clear hown0 hbel0 hb1 hown HC hpos HNE
  generalize (Value.slice (some ⟨w.heap.size, 0, none⟩) 0 0) = v0 at *
  go_wp2
  go_loopw [3, 5] (fun v i wr => ∃ (k : Nat), k ≤ m ∧ i = .int .i64 k ∧ OwnS wr w.heap.size v ((ls.take k).filter fun x => !x.isEmpty) ∧ ((ls.take k).filter fun x => !x.isEmpty).length ≤ k ∧ RdS wr (some ⟨g1, off1, none⟩) ls ∧ g1 < wr.heap.size ∧ Below w.heap.size w wr ∧ (v.ownBlock = some w.heap.size ∨ ∃ b, v.ownBlock = some b ∧ g1 < b)) (fun _ i _ => m - (intOf i).toNat)
  case atStart => exact ⟨0, Nat.zero_le _, rfl, by simpa using ho1, by simp, hr1, hgl, hbl1, .inl hv0⟩
  case round =>
    obtain ⟨k, hk, rfl, ho, hkl, hr, hg, hbl, hat⟩ := hrel
    clear hbl1 ho1 hr1 hv0 hgl
    by_cases hkm : k < m
    · obtain ⟨b', off', e, _, hcell⟩ := hr.at_ (by omega)
      cases e
      have hc := hcell k (by omega)
      have hkI : (k : Int) < (m : Int) := by omega
      have HY : Hid (nthS ls k ≠ [] → ((ls.take (k + 1)).filter fun x => !x.isEmpty) = ((ls.take k).filter fun x => !x.isEmpty) ++ [nthS ls k]) := fun hx => filt_yes (by omega) hx
      have HN : Hid (nthS ls k = [] → ((ls.take (k + 1)).filter fun x => !x.isEmpty) = ((ls.take k).filter fun x => !x.isEmpty)) := fun hx => filt_no (by omega) hx
      generalize ((ls.take k).filter fun x => !x.isEmpty) = ps at *
      clear hcell
      cases hx : nthS ls k with
      | nil =>
        rw [hx, show str [] = (⟨#[]⟩ : ByteArray) from rfl] at hc
        have HP : Hid (_) := HN.out hx
        clear HY HN hx
        go_wp2
        go_roundw
        case rel => exact ⟨k + 1, by omega, by go_num, by rw [HP.out]; exact ho, by rw [HP.out]; omega, hr, hg, hbl, hat⟩
        case measure => simp [intOf]; omega
      | cons x r =>
        rw [hx] at hc
        have HP : Hid (_) := HY.out (by rw [hx]; simp)
        rw [hx] at HP
        have hne := str_nil_eq x r
        have hne2 := str_nil_em x r
        clear HY HN hx
        generalize x :: r = t at *
        go_wp2_with (at_builtin; refine wpList_app_atX rfl _ _ rfl w.heap.size _ ps rfl ho rfl (by omega) (by have := hbl.size; omega) ?_; intro v' w3 ho3 hb3 hgr hat3)
        have hne3 : some g1 ≠ Value.ownBlock _ := fun e => by
          rcases hat with hat | ⟨b, hat, hb⟩
          · rw [hat] at e; cases e; omega
          · rw [hat] at e; cases e; omega
        have hr3 := hr.keep hgr hne3
        go_roundw
        case rel =>
          refine ⟨k + 1, by omega, by go_num, by rw [HP.out]; exact ho3, by rw [HP.out, List.length_append]; simp; omega, hr3, Nat.lt_of_lt_of_le hg hgr.size, hbl.trans hb3, ?_⟩
          rcases hat3 with h3 | ⟨b, h3, hb⟩
          · rw [h3]; exact hat
          · exact .inr ⟨b, h3, by omega⟩
        case measure => simp [intOf]; omega
    · have hkI : ¬ (k : Int) < (m : Int) := by omega
      have HP : Hid (((ls.take k).filter fun x => !x.isEmpty) = D) := by
        show _ = _
        rw [List.take_of_length_le (by omega), HD.out]
      rw [HP.out] at ho
      clear hr hat HP hkl
      go_wp2
      go_ret
      exact ⟨_, rfl, ho, hbl⟩

set_option maxHeartbeats 1600000 in
set_option maxRecDepth 100000 in
theorem specWordsOf_any (l : List Nat) (n : Nat) (w : World) (hl : l.length = n) (hB : IsB l) (hn : n ≤ 1048576) :
    Calls Try.prog 4 #[.string (str l)] w fun e w' => WdEnd w l e w' := by
  have hb0 : Below w.heap.size w (w.alloc (.cells #[.int .i64 0, .slice none 0 0] 24)) := (Below.refl _ _).alloc (Nat.le_refl _) _
  have hWs : (w.alloc (.cells #[.int .i64 0, .slice none 0 0] 24)).heap.size = w.heap.size + 1 := by simp
  have HC : Hid (∀ w, _) := fun w => l16Words_any l n w hl hB hn
  unfold WdEnd
  generalize wdX l = D at *
  go_enter Try.func4, Try.ntmps4
  go_wp2_with fail
  refine (HC.out _).mono ?_
  rintro e w1 ⟨v, rfl, hown, hb1⟩
  have hbl1 : Below (w.heap.size + 1) (w.alloc (.cells #[.int .i64 0, .slice none 0 0] 24)) w1 := by rw [← hWs]; exact hb1
  rw [hWs] at hown
  generalize hW : w.alloc (.cells #[.int .i64 0, .slice none 0 0] 24) = W at *
  obtain ⟨hcw, hcw1, hfw, hfw1⟩ := res_block hW hbl1
  obtain ⟨hk0, hk1⟩ := res_cells hcw hcw1 (.int .i64 0) v
  have hbE : Below w.heap.size w w1 := hb0.trans (hbl1.mono (by omega))
  obtain ⟨a1, cp1, ev, _, _⟩ := hown.form
  subst ev
  have HO : Hid (OwnS ((w1.setCell ⟨w.heap.size, 0, none⟩ (.int .i64 0)).setCell ⟨w.heap.size, 1, none⟩ (.slice a1 D.length cp1)) w.heap.size (.slice a1 D.length cp1) D) := ((hown.setW ⟨w.heap.size, 0, none⟩ (Nat.lt_succ_self _) _).setW ⟨w.heap.size, 1, none⟩ (Nat.lt_succ_self _) _).low (Nat.le_succ _)
  have HBE : Hid (Below w.heap.size w ((w1.setCell ⟨w.heap.size, 0, none⟩ (.int .i64 0)).setCell ⟨w.heap.size, 1, none⟩ (.slice a1 D.length cp1))) := (hbE.setCell (Nat.le_refl _) _).setCell (Nat.le_refl _) _
  clear hown hbl1 hbE hb1 HC
  go_wp2
  refine bodyPost_ret (v := .agg #[.int .i64 0, .slice a1 D.length cp1]) (by simp [results, Try.results4, go_sem, hk0, hk1]) rfl ?_
  exact ⟨_, rfl, HO.out, HBE.out⟩
end Go.Proofs.Ytmidjgpegdodcaa
