/- An append to a slice that grows, of a slice, of nothing, or of a text; no conditions beyond those that each fact names · EncodeWords, the model's, at every slice of characters · The draws of chapter 1: each ends with some bytes or a number; nothing that was there is turned; sources of at most 1048576 bytes · A text that the model bends: it ends with some text of at most four letters more; nothing below its source is turned · A text that the model bends: it ends with some text of at most four letters more; nothing below its source is turned · The draws of texts to be read: each ends with some text of at most 1601 letters, and turns nothing that was there; sources of at most 1048576 bytes · What EncodeWords tells: plain, of 400 bytes at most: plain functions, with no program in them · The draws of chapter 4 that the law of words reads: some text, some numbers; sources of at most 1048576 bytes. -/
import Derived.Test.YtfbjodbihenmjaaGreatDoorCakToKzz
import Derived.Deep.AppendSrc
import Derived.Test.YtfbjodbihenmjaaGreatDoorWpEToEwp
import Derived.Test.YtfbjodbihenmjaaGreatDoorDrw3aToChn
import Derived.Test.YtfbjodbihenmjaaGreatDoorDecQToEncQ2
import Derived.Test.YtfbjodbihenmjaaGreatDoorCvToLow0
import Derived.ArgAppend
import Derived.Test.YtfbjodbihenmjaaGreatDoorEncB3ToDecB3
import Derived.Test.YtfbjodbihenmjaaGreatDoorEncQ3ToDMath
import Derived.Test.YtfbjodbihenmjaaGreatDoorDecLToWpm
namespace Go.Proofs.YtfbjodbihenmjaaGreatDoor
open Go.RowKit

/-- Rows in other blocks than the slice's own stay, and its new block is none of them. -/
def Kp (w w1 : World) (v v' : Value) : Prop := (∀ (b off : Nat) (d : List Nat), b < w.heap.size → v.ownBlock ≠ some b → Rd w (some ⟨b, off, none⟩) d → Rd w1 (some ⟨b, off, none⟩) d) ∧ ∀ k, k < w.heap.size → v.ownBlock ≠ some k → v'.ownBlock ≠ some k
theorem run_app_grK {w : World} {B : Nat} {v : Value} {l : List Nat} (hv : Gr w B v l) (tx ty : TypeId) (x : Value) (n : Nat) (new : List Nat) (hsrc : Go.Src Tryz.prog 1 tx x n (bc new) w) (hm : new.length = n) (hsz : l.length + n ≤ 1073741824) (hB : B ≤ w.heap.size) :
    ∃ v' w1, (Builtin.append_ #[22, tx] ty #[v, x]).run Tryz.prog w = .ok v' w1 ∧ Gr w1 B v' (l ++ new) ∧ Below B w w1 ∧ Kp w w1 v v' := by
  obtain ⟨i, hi, hz, hsize, hby⟩ := info_parts infoB
  obtain ⟨g, cap, e, hBg, hcm, hl, hn, hlt, hc, hf⟩ := hv
  subst e
  by_cases hr : l.length + n ≤ cap
  · have hrun := run_append_room_src (P := Tryz.prog) (w := w) 22 tx ty 5 i Tryz.underlying22 hi g 0 l.length cap x n (bc new) (by rw [hsize]; exact hsrc) hr (fun j hj => by rw [bc_len] at hj; rw [hsize]; exact (hf _ (by omega)).1) (fun j hj => by rw [bc_len] at hj; rw [hsize]; exact (hf _ (by omega)).2)
    rw [hsize] at hrun
    have hin := World.cell?_setCells_in g (bc new) (0 + l.length * 1) w (fun j hj => by rw [bc_len] at hj; exact (hf _ (by omega)).1)
    have hcell : ∀ i, i < l.length → (w.setCells g (0 + l.length * 1) (bc new)).cell? ⟨g, i, none⟩ = some (.int .u8 (nth (l ++ new) i : Int)) := fun i h1 => by
      rw [World.cell?_setCells_out g (bc new) (0 + l.length * 1) w ⟨g, i, none⟩ (fun _ _ => .inl (by simp; omega)), hc i h1, nth_get (by omega), nth_get (by rw [List.length_append]; omega), List.getElem_append_left (by omega)]
    have hcell2 : ∀ i, l.length ≤ i → i < (l ++ new).length → (w.setCells g (0 + l.length * 1) (bc new)).cell? ⟨g, i, none⟩ = some (.int .u8 (nth (l ++ new) i : Int)) := fun i h1 hi => by
      rw [List.length_append] at hi
      have := hin (i - l.length) (by rw [bc_len]; omega)
      rw [show 0 + l.length * 1 + (i - l.length) = i by omega] at this
      rw [this, nth_get (by rw [List.length_append]; omega), List.getElem_append_right (by omega)]
      simp [bc]
    refine ⟨_, _, hrun, ⟨g, cap, ?_, hBg, hcm, rfl, by rw [List.length_append]; omega, Nat.lt_of_lt_of_le hlt (below_setCells g _ _ _).size, fun i hi => ?_, fun i hi => ⟨?_, ?_⟩⟩, (below_setCells g _ _ _).mono hBg, ?_⟩
    · rw [List.length_append, hm]
    · rcases Nat.lt_or_ge i l.length with h1 | h1
      · exact hcell i h1
      · exact hcell2 i h1 hi
    · exact World.isSome_setCells g (bc new) _ w _ (hf i hi).1
    · exact (World.frozen?_setCells g _ _ _ _).trans (hf i hi).2
    · refine ⟨fun b off d hb hne hrd => ?_, fun k _ hne => hne⟩
      have hbg : b ≠ g := fun h => hne (by rw [h]; rfl)
      rcases hrd with h | ⟨b', off', e, hlt', hc'⟩
      · exact .inl h
      · cases e
        exact .inr ⟨b, off, rfl, Nat.lt_of_lt_of_le hlt' (below_setCells g _ _ _).size, fun i hi => (World.cell?_setCells_out g (bc new) (0 + l.length * 1) w ⟨b, off + i, none⟩ (fun h _ => absurd h hbg)).trans (hc' i hi)⟩
  · have hold : (Builtin.firstCells i.size l.length (.slice (some ⟨g, 0, none⟩) l.length cap)).run Tryz.prog w.drew = .ok (bc l).toArray w.drew := by
      refine run_firstCells_some w.drew i.size l.length ⟨g, 0, none⟩ l.length cap (bc l) (by rw [bc_len, hsize]; omega) (fun j u hj => ?_)
      have hjl : j < l.length := by
        rcases Nat.lt_or_ge j l.length with h | h
        · exact h
        · rw [List.getElem?_eq_none (by rw [bc_len]; exact h)] at hj; cases hj
      rw [bc_get hjl] at hj
      cases hj
      rw [Addr.add_lit, Nat.zero_add]
      exact hc j (by omega)
    have hrun := run_append_grow_src (P := Tryz.prog) (w := w) 22 tx ty 5 i (.int .u8 0) Tryz.underlying22 hi hz (some ⟨g, 0, none⟩) l.length cap (bc l) hold x n (bc new) (by rw [hsize]; exact hsrc) (by omega) (by omega) (growslice_fits (by omega) (by rw [hby]; omega))
    have hown : Own (w.drew.alloc (.cells (((bc l) ++ (bc new)).toArray ++ Builtin.zeroCells (Value.int .u8 0).cells (grownCap w (l.length + n) cap 5 - (l.length + n))) 5)) w.heap.size (.slice (some ⟨w.heap.size, 0, none⟩) (l.length + n) (grownCap w (l.length + n) cap 5)) (l ++ new) := by
      unfold Own
      rw [bc_app, List.length_append, hm]
      have hlen : (bc l ++ bc new).length = (l.length + n) * 1 := by rw [List.length_append, bc_len, bc_len, hm]; omega
      refine ⟨hlen, .inr ⟨w.heap.size, _, _, rfl, Nat.le_refl _, heap_alloc_new w.drew _, grownCap_ge w (l.length + n) cap 5, grownCap_le_maxLen w (l.length + n) cap 5 (by unfold maxLen; omega), ?_, ?_⟩⟩
      · have := grownCap_ge w (l.length + n) cap 5
        simp only [Array.size_append, List.size_toArray, size_zeroCells, hlen]
        show (l.length + n) * 1 + (grownCap w (l.length + n) cap 5 - (l.length + n)) * 1 = _
        omega
      · simp only [Array.toList_append]
        rw [← hlen]
        exact List.take_left
    refine ⟨_, _, hrun, (Gr.own hown (by rw [List.length_append]; omega)).low hB, ?_⟩
    refine ⟨((Below.refl _ _).drew).alloc hB _, fun b off d hb _ hrd => hrd.below (((Below.refl _ _).drew).alloc (Nat.le_refl _) _), fun k hk _ h => ?_⟩
    simp [Value.ownBlock] at h
    omega
theorem run_app_gr {w : World} {B : Nat} {v : Value} {l : List Nat} (hv : Gr w B v l) (tx ty : TypeId) (x : Value) (n : Nat) (new : List Nat) (hsrc : Go.Src Tryz.prog 1 tx x n (bc new) w) (hm : new.length = n) (hsz : l.length + n ≤ 1073741824) (hB : B ≤ w.heap.size) :
    ∃ v' w1, (Builtin.append_ #[22, tx] ty #[v, x]).run Tryz.prog w = .ok v' w1 ∧ Gr w1 B v' (l ++ new) ∧ Below B w w1 := by
  obtain ⟨v', w1, h1, h2, h3, -⟩ := run_app_grK hv tx ty x n new hsrc hm hsz hB
  exact ⟨v', w1, h1, h2, h3⟩

/-- AN APPEND OUTSIDE A REGION THAT DRAWS. -/
theorem wpList_app_grx {w : World} {ops : Array Oper} {rest : List Oper} {o : Oper} {a : Act} {Q : Exit → Act → World → Prop} (hgd : o.guard = none) (s x : Operand) (tx : TypeId)
    (ho : o.op = .call { callee := .builtin .append, args := #[s, x], argTypes := #[22, tx] })
    (B : Nat) (v : Value) (l : List Nat) (hs : a.eval s = v) (hv : Gr w B v l) (xv : Value) (n : Nat) (new : List Nat) (hx : a.eval x = xv) (hsrc : Go.Src Tryz.prog 1 tx xv n (bc new) w) (hm : new.length = n) (hsz : l.length + n ≤ 1073741824) (hB : B ≤ w.heap.size)
    (h : ∀ v' w1, Gr w1 B v' (l ++ new) → Below B w w1 → wpList Tryz.prog ops Q rest (a.put o.dst v') w1) : wpList Tryz.prog ops Q (o :: rest) a w := by
  refine wpList_plain hgd fun K hK => ?_
  obtain ⟨v', w1, hrun, h1, h2⟩ := run_app_gr hv tx o.type xv n new hsrc hm hsz hB
  unfold Oper.wp
  simp [execOp, ho, resolve, invoke, builtin, hs, hx, hrun, Result.andThen]
  exact hK _ _ (h v' w1 h1 h2)
/-- AN APPEND AT A STEP OF A REGION THAT DRAWS ITS ORDER. -/
theorem step_app_grx {w : World} {ops : Array Oper} {o : Oper} {a : Act} {K : Act → World → Prop} {Q : Exit → Act → World → Prop} {E : Prop} (hgd : o.guard = none) (s x : Operand) (tx : TypeId)
    (ho : o.op = .call { callee := .builtin .append, args := #[s, x], argTypes := #[22, tx] })
    (B : Nat) (v : Value) (l : List Nat) (hs : a.eval s = v) (hv : Gr w B v l) (xv : Value) (n : Nat) (new : List Nat) (hx : a.eval x = xv) (hsrc : Go.Src Tryz.prog 1 tx xv n (bc new) w) (hm : new.length = n) (hsz : l.length + n ≤ 1073741824) (hB : B ≤ w.heap.size)
    (h : ∀ v' w1, Gr w1 B v' (l ++ new) → Below B w w1 → Kp w w1 v v' → K (a.put o.dst v') w1) : if Region.wanted o (yielded ops a.tmps) = true then Oper.wp Tryz.prog o a w K Q else E := by
  have hw : Region.wanted o (yielded ops a.tmps) = true := by simp [Region.wanted, hgd]
  rw [if_pos hw]
  obtain ⟨v', w1, hrun, h1, h2, h3⟩ := run_app_grK hv tx o.type xv n new hsrc hm hsz hB
  unfold Oper.wp
  simp [execOp, ho, resolve, invoke, builtin, hs, hx, hrun, Result.andThen]
  exact h v' w1 h1 h2 h3
/-- What is appended: a text, a slice, nothing. -/
theorem src_text {w : World} (l : List Nat) (hB : IsB l) : Go.Src Tryz.prog 1 9 (.string (str l)) l.length (bc l) w := by
  have h := Src.ofString (P := Tryz.prog) (w := w) Tryz.underlying9 (str l)
  have e : byteCells (str l) = bc l := by
    unfold byteCells bc str
    simp only [List.map_map]
    refine List.map_congr_left (fun b hb => ?_)
    have := hB b hb
    simp [Nat.mod_eq_of_lt this]
  rw [e, str_size] at h
  exact h
theorem src_slice {w : World} {a : Option Addr} {n cap : Nat} {l : List Nat} (hl : l.length = n) (hr : Rd w a l) (hn : a = none → n = 0) : Go.Src Tryz.prog 1 22 (.slice a n cap) n (bc l) w := by
  cases a with
  | none =>
    obtain rfl : n = 0 := hn rfl
    obtain rfl : l = [] := List.length_eq_zero_iff.1 hl
    exact Src.ofNil w Tryz.underlying22 cap
  | some ad =>
    refine Src.ofSlice w Tryz.underlying22 ad n cap (bc l) (by rw [bc_len]; omega) (fun j u hj => ?_) (bc_one l)
    have hjl : j < l.length := by
      rcases Nat.lt_or_ge j l.length with h | h
      · exact h
      · rw [List.getElem?_eq_none (by rw [bc_len]; exact h)] at hj; cases hj
    rw [bc_get hjl] at hj
    cases hj
    obtain ⟨b, off, e, -, hc⟩ := hr.at_ (by omega)
    cases e
    rw [Go.WideShapes.add_plain]
    exact hc j hjl
end Go.Proofs.YtfbjodbihenmjaaGreatDoor

namespace Go.Proofs.YtfbjodbihenmjaaGreatDoor
open Go.RowKit

/-- How the model's answer lies. -/
def TwoTxt (r : Int × List Nat) (w : World) (e : Ending) (w' : World) : Prop := e = .returned (.tuple #[.string (str r.2), .int .i64 r.1]) ∧ Below w.heap.size w w'
theorem encT_few4 {l : List Int} (hf : flt l = 0) : encT 4 l = encV 4 l := encT_ok (by omega) hf

set_option maxHeartbeats 3200000 in
set_option maxRecDepth 100000 in
theorem l4Encode_any (a : Option Addr) (n cap : Nat) (l : List Int) (w : World) (hl : l.length = n) (hr : RdI w a l) (hf : flt l = 0) :
    Calls Tryz.prog 60 #[.slice a n cap] w fun e w' => TwoTxt (ewV l) w e w' := by
  obtain ⟨hn, hch⟩ := flt_zero hf
  rw [hl] at hn
  have HE := l2Encode_any 4 a n cap l w (by omega) hl hr hn hch
  have HSf := fun w' (hb : Below w.heap.size w w') => l4Self_any a n cap l w' hl (hr.below hb) (by omega)
  have HB : Hid ((encT 4 l).1 ≠ 0 → ewV l = ((encT 4 l).1, [])) := ewV_bad
  have HS : Hid ((encT 4 l).1 = 0 → sfV l = true → ewV l = (0, (encT 4 l).2)) := ewV_self
  have HMn : Hid ((encT 4 l).1 = 0 → sfV l = false → 400 < (toldW (encT 4 l).2).length → ewV l = (2, [])) := ewV_many
  have HT : Hid ((encT 4 l).1 = 0 → sfV l = false → ¬ 400 < (toldW (encT 4 l).2).length → ewV l = (0, toldW (encT 4 l).2)) := ewV_told
  have HI : Hid ((encT 4 l).1 = 0 → IsB (encT 4 l).2 ∧ (encT 4 l).2.length ≤ 400) := fun h => ⟨encT_isB h, (encT_zero h).2.2⟩
  unfold EncEnd at HE
  rw [← encT_few4 hf] at HE
  clear hr hl hf hch
  generalize encT 4 l = r at *
  obtain ⟨c, o⟩ := r
  generalize sfV l = sf at *
  generalize ewV l = x at *
  simp only at HB HS HMn HT HI
  go_enter Tryz.func60, Tryz.ntmps60
  go_wp2_with fail
  refine HE.mono ?_
  rintro e w1 ⟨v, rfl, hown, hb1⟩
  obtain ⟨ao, oc, rfl, ho1, ho2⟩ := hown.form
  have hrd := hown.rd.2
  clear HE
  by_cases hc : c = 0
  · subst hc
    obtain ⟨hBo, h4o⟩ := HI.out (by first | rfl | trivial)
    have hst := run_str (cap := oc) (n := o.length) rfl hrd
    have HEb := l1Encode_any ao o.length oc o _ rfl hrd hBo (by omega)
    obtain ⟨tu, ht1, ht2⟩ := told_sum o (by rw [toldW_len]; have := enc_few h4o; omega)
    go_wp2_with fail
    refine (HSf _ hb1).mono ?_
    rintro e w' ⟨rfl, rfl⟩
    clear HSf
    cases sf with
    | true =>
      have HM : Hid (_) := HS.out (by first | rfl | trivial) (by first | rfl | trivial)
      clear HS HMn HT HI HB HEb ht1 ht2
      go_wp2
      go_ret2
      rw [HM.out]
      exact ⟨rfl, hb1⟩
    | false =>
      go_wp2_with fail
      refine HEb.mono ?_
      rintro e w2 ⟨rfl, hb2⟩
      have hbw2 := hb1.trans (hb2.mono hb1.size)
      clear hb2 HEb
      by_cases h4 : 400 < (toldW o).length
      · have h4' : (400 : Int) < ((toldW o).length : Int) := by omega
        have HM : Hid (_) := HMn.out (by first | rfl | trivial) (by first | rfl | trivial) h4
        have hsz : (str (toldW o)).size = (toldW o).length := str_size _
        clear HS HMn HT HI HB
        generalize toldW o = tw at *
        go_wp2
        go_ret2
        rw [HM.out]
        exact ⟨rfl, hbw2⟩
      · have h4' : ¬ (400 : Int) < ((toldW o).length : Int) := by omega
        have HM : Hid (_) := HT.out (by first | rfl | trivial) (by first | rfl | trivial) h4
        have hsz : (str (toldW o)).size = (toldW o).length := str_size _
        clear HS HMn HT HI HB
        generalize toldW o = tw at *
        go_wp2
        go_ret2
        rw [HM.out]
        exact ⟨rfl, hbw2⟩
  · have HM : Hid (_) := HB.out hc
    clear HS HMn HT HI HB HSf
    have hc' : (c == 0) = false := by simp [hc]
    go_wp2
    go_ret2
    rw [HM.out]
    exact ⟨rfl, hb1⟩

end Go.Proofs.YtfbjodbihenmjaaGreatDoor

namespace Go.Proofs.YtfbjodbihenmjaaGreatDoor
open Go.RowKit

end Go.Proofs.YtfbjodbihenmjaaGreatDoor

namespace Go.Proofs.YtfbjodbihenmjaaGreatDoor
open Go.RowKit

/-- AN APPEND onto such a slice: where there is room, and where there is none. -/
theorem wpList_app_cv {w : World} {ops : Array Oper} {rest : List Oper} {o : Oper} {a : Act} {Q : Exit → Act → World → Prop} (hgd : o.guard = none) (s x : Operand)
    (ho : o.op = .call { callee := .builtin .append, args := #[s, x], argTypes := #[22, 22] })
    (g n cap : Nat) (l : List Nat) (hs : a.eval s = .slice (some ⟨g, 0, none⟩) n cap) (hcv : Cv w g n cap l) (ad : Addr) (m c : Nat) (new : List Nat) (hx : a.eval x = .slice (some ad) m c) (hm : new.length = m)
    (hnew : ∀ j, j < m → w.cell? (ad.add j) = some (.int .u8 (nth new j : Int))) (hsz : n + m ≤ 1073741824)
    (h : ∀ (ao : Option Addr) (N cap' : Nat) (w1 : World), (∀ c', (convert 22 9 (.slice ao N c')).run Tryz.prog w1 = .ok (.string (str (l ++ new))) w1) → Below g w w1 → wpList Tryz.prog ops Q rest (a.put o.dst (.slice ao N cap')) w1) : wpList Tryz.prog ops Q (o :: rest) a w := by
  obtain ⟨i0, hi, hz0, hz1, hz2⟩ := info_parts infoB
  obtain ⟨hl, hn, hlt, hc, hf⟩ := hcv
  refine wpList_append_arg w hgd s x 22 ho 5 i0 (.int .u8 0) 1 1 Tryz.underlying22 hi hz0 hz1 hz2 rfl (by decide) g 0 n cap (bc l) hs (by rw [bc_len, hl]; omega) ?_ ad m c (bc new) hx (by rw [bc_len, hm]; omega) ?_ (bc_one new) ?_ (by unfold maxLen; omega) (by omega) ?_ ?_
  · intro j u hj
    have hjl : j < l.length := by
      rcases Nat.lt_or_ge j l.length with hlt | hge
      · exact hlt
      · rw [List.getElem?_eq_none (by rw [bc_len]; exact hge)] at hj; cases hj
    rw [bc_get hjl] at hj
    cases hj
    rw [Nat.zero_add]
    exact hc j (by omega)
  · intro j u hj
    have hjl : j < new.length := by
      rcases Nat.lt_or_ge j new.length with hlt | hge
      · exact hlt
      · rw [List.getElem?_eq_none (by rw [bc_len]; exact hge)] at hj; cases hj
    rw [bc_get hjl] at hj
    cases hj
    exact hnew j (by omega)
  · intro hr j hj
    rw [bc_len] at hj
    exact hf _ (by omega)
  · intro hr
    have hin := World.cell?_setCells_in g (bc new) (0 + n * 1) w (fun j hj => by rw [bc_len] at hj; exact (hf _ (by omega)).1)
    have hrd : Rd (w.setCells g (0 + n * 1) (bc new)) (some ⟨g, 0, none⟩) (l ++ new) := by
      refine .inr ⟨g, 0, rfl, Nat.lt_of_lt_of_le hlt (below_setCells g _ _ _).size, fun i hi => ?_⟩
      rw [List.length_append] at hi
      rw [show (⟨g, 0 + i, none⟩ : Addr) = ⟨g, i, none⟩ by rw [Nat.zero_add]]
      rcases Nat.lt_or_ge i n with h1 | h1
      · rw [World.cell?_setCells_out g (bc new) (0 + n * 1) w ⟨g, i, none⟩ (fun _ _ => .inl (by simp; omega)), hc i h1, nth_get (by omega), nth_get (by rw [List.length_append]; omega), List.getElem_append_left (by omega)]
      · have := hin (i - n) (by rw [bc_len]; omega)
        rw [show 0 + n * 1 + (i - n) = i by omega] at this
        rw [this, nth_get (by rw [List.length_append]; omega), List.getElem_append_right (by omega)]
        simp [bc, hl]
    exact h _ _ _ _ (fun c' => run_str (by rw [List.length_append]; omega) hrd) (below_setCells g _ _ _)
  · intro _ v' w' hown hgr
    have ho' : Own w' w.heap.size v' (l ++ new) := by unfold Own; rw [bc_app, List.length_append, hl, hm]; exact hown
    obtain ⟨ao, cap', rfl, _⟩ := ho'.form
    exact h ao _ cap' w' (fun c' => run_str rfl ho'.rd.2) ((Below.refl _ _).grown hgr (by omega) (by intro k hk; cases hk))
end Go.Proofs.YtfbjodbihenmjaaGreatDoor

namespace Go.Proofs.YtfbjodbihenmjaaGreatDoor
open Go.RowKit

/-- How a draw of a text ends: a plain word, so that no walk opens it. -/
def TextEnd (b m : Nat) (w : World) (e : Ending) (w' : World) : Prop := ∃ l : List Nat, e = .returned (.string (str l)) ∧ IsB l ∧ l.length ≤ m ∧ Below b w w'
theorem textEnd {b m : Nat} {w w' : World} {l : List Nat} (h1 : IsB l) (h2 : l.length ≤ m) (h3 : Below b w w') : TextEnd b m w (.returned (.string (str l))) w' := ⟨l, rfl, h1, h2, h3⟩

theorem Cv.set {w : World} {g n cap j y : Nat} {l : List Nat} (h : Cv w g n cap l) (hj : j < n) : Rd (w.setCell ⟨g, j, none⟩ (.int .u8 (y : Int))) (some ⟨g, 0, none⟩) (l.set j y) := by
  obtain ⟨hl, _, hg, hc, _⟩ := h
  refine .inr ⟨g, 0, rfl, by simpa using hg, fun i hi => ?_⟩
  rw [List.length_set] at hi
  rw [show (⟨g, 0 + i, none⟩ : Addr) = ⟨g, i, none⟩ by rw [Nat.zero_add], nth_get (by rw [List.length_set]; exact hi), List.getElem_set]
  by_cases e : j = i
  · subst e
    rw [if_pos rfl]
    exact World.cell?_setCell_same _ _ _ (hc j (by omega))
  · rw [if_neg e, World.cell?_setCell_other _ _ _ _ (fun h => e (by cases h; rfl)), hc i (by omega), nth_get hi]
theorem isB_set {l : List Nat} (h : IsB l) {j y : Nat} (hy : y < 256) : IsB (l.set j y) := by
  intro x hx
  rcases List.mem_or_eq_of_mem_set hx with h1 | h1
  · exact h x h1
  · omega
theorem isB_app {a b : List Nat} (ha : IsB a) (hb : IsB b) : IsB (a ++ b) := fun x hx => (List.mem_append.1 hx).elim (ha x) (hb x)
theorem rd_take {w : World} {a : Option Addr} {l : List Nat} (h : Rd w a l) (k : Nat) : Rd w a (l.take k) := by
  rcases h with h | ⟨g, o, e, hg, hc⟩
  · exact .inl (by rw [h]; simp)
  · refine .inr ⟨g, o, e, hg, fun i hi => ?_⟩
    rw [List.length_take] at hi
    rw [hc i (by omega), nth_get (by omega), nth_get (by rw [List.length_take]; omega), List.getElem_take]

/-- The six texts that are hung on. -/
def hung : List (List Nat) := [[61], [61, 10], [32], [61, 52], [61, 61, 61, 61], [61, 51, 100]]
theorem hung_at (w : World) (j : Nat) (hj : j < 6) (t : TypeId) : ∃ new : List Nat, IsB new ∧ 1 ≤ new.length ∧ new.length ≤ 4 ∧ (w.alloc (.cells #[.string ⟨#[61]⟩, .string ⟨#[61, 10]⟩, .string ⟨#[32]⟩, .string ⟨#[61, 52]⟩, .string ⟨#[61, 61, 61, 61]⟩, .string ⟨#[61, 51, 100]⟩] t)).cell? ⟨w.heap.size, j, none⟩ = some (.string (str new)) := by
  have hm : hung.getD j [] ∈ hung := by rw [List.getD_eq_getElem?_getD, List.getElem?_eq_getElem (by exact hj)]; exact List.getElem_mem _
  have hall : ∀ x ∈ hung, (1 ≤ x.length ∧ x.length ≤ 4) ∧ ∀ y ∈ x, y < 256 := by decide
  refine ⟨hung.getD j [], fun y hy => (hall _ hm).2 y hy, (hall _ hm).1.1, (hall _ hm).1.2, ?_⟩
  rw [World.cell?_alloc_mark]
  match j, hj with
  | 0, _ => rfl
  | 1, _ => rfl
  | 2, _ => rfl
  | 3, _ => rfl
  | 4, _ => rfl
  | 5, _ => rfl

end Go.Proofs.YtfbjodbihenmjaaGreatDoor

namespace Go.Proofs.YtfbjodbihenmjaaGreatDoor
open Go.RowKit

theorem enc_isB {l : List Nat} (h : IsB l) : IsB (Xf.enc l) := fun x hx => by have := Xf.enc_plain l h x hx; omega
theorem quo_isB {l : List Nat} (h : IsB l) : IsB (Xq.quo l) := fun x hx => by have := Xq.quo_plain l h x hx; omega

end Go.Proofs.YtfbjodbihenmjaaGreatDoor

namespace Go.Proofs.YtfbjodbihenmjaaGreatDoor
open Go.RowKit

/-- What EncodeWords tells is plain. -/
theorem ew_plain (l : List Int) : ∀ x ∈ (ewV l).2, 1 ≤ x ∧ x ≤ 127 := by
  by_cases hz : (encT 4 l).1 = 0
  · obtain ⟨hf, he, hlen⟩ := encT_zero hz
    have hch := (flt_zero hf).2
    cases hs : sfV l with
    | true =>
      rw [ewV_self hz hs]
      have hs' := hs
      rw [sfV_eq, Bool.and_eq_true] at hs'
      intro x hx
      rw [he] at hx
      have hb := List.all_eq_true.1 ((flat_bos l hch).trans hs'.1) x hx
      have := of_decide_eq_true hb
      omega
    | false =>
      by_cases h4 : 400 < (toldW (encT 4 l).2).length
      · rw [ewV_many hz hs h4]; intro x hx; cases hx
      · rw [ewV_told hz hs h4]
        intro x hx
        unfold toldW at hx
        have hp := Xf.enc_plain (encT 4 l).2 (encT_isB hz)
        rcases List.mem_append.1 hx with hx | hx
        · rcases List.mem_append.1 hx with hx | hx
          · have : ∀ y ∈ twB, 1 ≤ y ∧ y ≤ 127 := by decide
            exact this x hx
          · have := hp x hx; omega
        · have : ∀ y ∈ ([63, 61] : List Nat), 1 ≤ y ∧ y ≤ 127 := by decide
          exact this x hx
  · rw [ewV_bad hz]; intro x hx; cases hx
theorem ew_len (l : List Int) : (ewV l).2.length ≤ 400 := by
  by_cases hz : (encT 4 l).1 = 0
  · cases hs : sfV l with
    | true => rw [ewV_self hz hs]; exact (encT_zero hz).2.2
    | false =>
      by_cases h4 : 400 < (toldW (encT 4 l).2).length
      · rw [ewV_many hz hs h4]; exact Nat.zero_le _
      · rw [ewV_told hz hs h4]; show (toldW (encT 4 l).2).length ≤ 400; omega
  · rw [ewV_bad hz]; exact Nat.zero_le _
theorem ew_isB (l : List Int) : IsB (ewV l).2 := fun x hx => by have := ew_plain l x hx; omega
end Go.Proofs.YtfbjodbihenmjaaGreatDoor

namespace Go.Proofs.YtfbjodbihenmjaaGreatDoor
open Go.RowKit

theorem drawn_flt {l : List Int} (h : Drawn l) (hl : l.length ≤ 400) : flt l = 0 := by
  refine flt_ok (by omega) (List.all_eq_true.2 (fun x hx => ?_))
  have := h x hx
  simp only [List.mem_cons, List.not_mem_nil, or_false] at this
  rcases this with rfl | rfl | rfl | rfl | rfl | rfl | rfl | rfl | rfl | rfl | rfl | rfl | rfl <;> decide
theorem row_wordV {w : World} {cs : Array Value} {t : TypeId} {ss : List ByteArray} (h : cs.toList = ss.map Value.string) (hs : ∀ s ∈ ss, s.size ≤ 100) (j : Nat) (hj : j < ss.length) :
    ∃ l : List Nat, (w.alloc (.cells cs t)).cell? ⟨w.heap.size, j, none⟩ = some (.string (str l)) ∧ IsB l ∧ l.length ≤ 100 := by
  obtain ⟨l, h1, h2⟩ := str_surj ss[j]
  refine ⟨l, ?_, h2, ?_⟩
  · rw [World.cell?_alloc_mark, ← Array.getElem?_toList, h]
    simp [hj, h1]
  · have := hs ss[j] (List.getElem_mem hj)
    rw [h1, str_size] at this; exact this
/-- How a draw of a text ends. -/
def ValEnd (B b M : Nat) (w : World) (e : Ending) (w' : World) : Prop := ∃ l : List Nat, e = .returned (.string (str l)) ∧ IsB l ∧ l.length ≤ 400 ∧ Src w' B b M ∧ w.grownBy w' (some b)

end Go.Proofs.YtfbjodbihenmjaaGreatDoor
