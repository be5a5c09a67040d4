/- What EncodeWords tells: plain, of 400 bytes at most: plain functions, with no program in them · An append of a text's bytes, and one of some bytes, each of which keeps a field that lies elsewhere; no conditions beyond those that each fact names · PackHeader, the program's, at every slice of fields: by the same plain function as the model's · PackHeader, the model's and the program's: one answer. -/
import Derived.Test.YtkjnhcnbbojajaaGreatDoorWPmToWpm
import Derived.Test.YtkjnhcnbbojajaaGreatDoorHdr3ToHdr5
import Derived.Lib.AppendStr
import Derived.Test.YtkjnhcnbbojajaaGreatDoorFdpToHdr2
namespace Go.Proofs.YtkjnhcnbbojajaaGreatDoor
open Go.RowKit

/-- What EncodeWords tells is plain. -/
theorem ew_plain (l : List Int) : ∀ x ∈ (ewV l).2, 1 ≤ x ∧ x ≤ 127 := by
  by_cases hz : (encT 4 l).1 = 0
  · obtain ⟨hf, he, hlen⟩ := encT_zero hz
    have hch := (flt_zero hf).2
    cases hs : sfV l with
    | true =>
      rw [ewV_self hz hs]
      have hs' := hs
      rw [sfV_eq, Bool.and_eq_true] at hs'
      intro x hx
      rw [he] at hx
      have hb := List.all_eq_true.1 ((flat_bos l hch).trans hs'.1) x hx
      have := of_decide_eq_true hb
      omega
    | false =>
      by_cases h4 : 400 < (toldW (encT 4 l).2).length
      · rw [ewV_many hz hs h4]; intro x hx; cases hx
      · rw [ewV_told hz hs h4]
        intro x hx
        unfold toldW at hx
        have hp := Xf.enc_plain (encT 4 l).2 (encT_isB hz)
        rcases List.mem_append.1 hx with hx | hx
        · rcases List.mem_append.1 hx with hx | hx
          · have : ∀ y ∈ twB, 1 ≤ y ∧ y ≤ 127 := by decide
            exact this x hx
          · have := hp x hx; omega
        · have : ∀ y ∈ ([63, 61] : List Nat), 1 ≤ y ∧ y ≤ 127 := by decide
          exact this x hx
  · rw [ewV_bad hz]; intro x hx; cases hx
theorem ew_len (l : List Int) : (ewV l).2.length ≤ 400 := by
  by_cases hz : (encT 4 l).1 = 0
  · cases hs : sfV l with
    | true => rw [ewV_self hz hs]; exact (encT_zero hz).2.2
    | false =>
      by_cases h4 : 400 < (toldW (encT 4 l).2).length
      · rw [ewV_many hz hs h4]; exact Nat.zero_le _
      · rw [ewV_told hz hs h4]; show (toldW (encT 4 l).2).length ≤ 400; omega
  · rw [ewV_bad hz]; exact Nat.zero_le _
theorem ew_isB (l : List Int) : IsB (ewV l).2 := fun x hx => by have := ew_plain l x hx; omega
end Go.Proofs.YtkjnhcnbbojajaaGreatDoor

namespace Go.Proofs.YtkjnhcnbbojajaaGreatDoor
open Go.RowKit

/-- A block that holds a field. -/
def FldAt (w : World) (q : Nat) (x y : ByteArray) : Prop := w.heap[q]? = some (.cells #[.string x, .string y] 128)
theorem FldAt.new (w : World) (x y : ByteArray) : FldAt (w.alloc (.cells #[.string x, .string y] 128)) w.heap.size x y := heap_alloc_new w _
theorem FldAt.lt {w : World} {q : Nat} {x y : ByteArray} (h : FldAt w q x y) : q < w.heap.size := by
  rcases Nat.lt_or_ge q w.heap.size with hlt | hge
  · exact hlt
  · unfold FldAt at h; rw [Array.getElem?_eq_none hge] at h; cases h
theorem FldAt.cell0 {w : World} {q : Nat} {x y : ByteArray} (h : FldAt w q x y) : w.cell? ⟨q, 0, none⟩ = some (.string x) := by
  unfold FldAt at h
  simp [World.cell?, h]
theorem FldAt.cell1 {w : World} {q : Nat} {x y : ByteArray} (h : FldAt w q x y) : w.cell? ⟨q, 1, none⟩ = some (.string y) := by
  unfold FldAt at h
  simp [World.cell?, h]
theorem FldAt.alloc {w : World} {q : Nat} {x y : ByteArray} (h : FldAt w q x y) (o : Obj) : FldAt (w.alloc o) q x y := by
  unfold FldAt
  rw [heap_alloc_old w _ h.lt]; exact h
theorem FldAt.ne {w : World} {q B : Nat} {x y : ByteArray} {v : Value} {l : List Nat} (h : FldAt w q x y) (ho : Own w B v l) : v.ownBlock ≠ some q := by
  intro e
  rcases ho.2 with ⟨rfl, _⟩ | ⟨g, cap, cur, rfl, _, hg, _⟩
  · cases e
  · cases e
    unfold FldAt at h
    rw [hg] at h
    simp at h
theorem FldAt.grown {w w' : World} {q B : Nat} {x y : ByteArray} {v : Value} {l : List Nat} (h : FldAt w q x y) (ho : Own w B v l) (hg : w.grownBy w' v.ownBlock) : FldAt w' q x y := by
  unfold FldAt
  rw [hg.block q h.lt (fun e => h.ne ho e.symm)]; exact h
theorem strCells_bts (s : ByteArray) : Lib.strCells s = bc (bts s) := by
  unfold Lib.strCells bc bts
  rw [List.map_map]
  rfl

/-- AN APPEND of a text's bytes. -/
theorem wpList_appS {w : World} {ops : Array Oper} {rest : List Oper} {o : Oper} {a : Act} {Q : Exit → Act → World → Prop} (hgd : o.guard = none) (sl x : Operand)
    (ho : o.op = .call { callee := .builtin .append, args := #[sl, x], argTypes := #[22, 9] })
    (B : Nat) (v : Value) (l : List Nat) (hs : a.eval sl = v) (hown : Own w B v l) (s : ByteArray) (hx : a.eval x = .string s) (hsz : l.length + s.size ≤ 1073741824) (hB : B ≤ w.heap.size)
    (h : ∀ v' w1, Own w1 B v' (l ++ bts s) → Below B w w1 → (∀ q x y, FldAt w q x y → FldAt w1 q x y) → wpList Tryz.prog ops Q rest (a.put o.dst v') w1) : wpList Tryz.prog ops Q (o :: rest) a w := by
  obtain ⟨i0, hi, hz0, hz1, hz2⟩ := info_parts infoB
  refine Lib.wpList_append_own_string w hgd sl x 22 9 ho B 5 i0 Tryz.underlying22 Tryz.underlying9 hi hz0 hz1 hz2 v l.length (bc l) hs hown s hx (by unfold maxLen; omega) (by omega) hB ?_
  intro v' w1 hown' hgr _
  refine h v' w1 ?_ ((Below.refl _ _).grown hgr hB (fun k hk => (hown.lt k hk).1)) (fun q x y hq => hq.grown hown hgr)
  unfold Own
  rw [bc_app, List.length_append, bts_len, ← strCells_bts]
  exact hown'
/-- AN APPEND of the block that was laid just ahead. -/
theorem wpList_appL {wr : World} {cs : Array Value} {ops : Array Oper} {rest : List Oper} {o : Oper} {a : Act} {Q : Exit → Act → World → Prop} (hgd : o.guard = none) (s x : Operand)
    (ho : o.op = .call { callee := .builtin .append, args := #[s, x], argTypes := #[22, 22] })
    (B : Nat) (v : Value) (l : List Nat) (hs : a.eval s = v) (hown : Own wr B v l) (m c : Nat) (new : List Nat) (hx : a.eval x = .slice (some ⟨wr.heap.size, 0, none⟩) m c) (hm : new.length = m) (hcs : cs.toList = bc new)
    (hsz : l.length + m ≤ 1073741824) (hB : B ≤ wr.heap.size)
    (h : ∀ v' w1, Own w1 B v' (l ++ new) → Below B wr w1 → (∀ q x y, FldAt wr q x y → FldAt w1 q x y) → wpList Tryz.prog ops Q rest (a.put o.dst v') w1) : wpList Tryz.prog ops Q (o :: rest) a (wr.alloc (.cells cs 5)) := by
  have hb : Below B wr (wr.alloc (.cells cs 5)) := (Below.refl _ _).alloc hB _
  obtain ⟨i0, hi, hz0, hz1, hz2⟩ := info_parts infoB
  refine wpList_append_own _ hgd s x 22 ho B 5 i0 (.int .u8 0) 1 1 Tryz.underlying22 hi hz0 hz1 hz2 rfl (by decide) v l.length (bc l) hs (hown.alloc _) ⟨wr.heap.size, 0, none⟩ m c (bc new) hx (by rw [bc_len, hm]; omega) ?_ (bc_one new) (by unfold maxLen; omega) (by omega) (by simp; omega) ?_
  · intro j u hj
    have e : (⟨wr.heap.size, 0, none⟩ : Addr).add j = ⟨wr.heap.size, j, none⟩ := by rw [Go.WideShapes.add_plain, Nat.zero_add]
    rw [e, World.cell?_alloc_mark, ← Array.getElem?_toList, hcs]
    exact hj
  · intro v' w1 hown' hgr _
    refine h v' w1 ?_ (hb.trans ((Below.refl _ _).grown hgr (by simp; omega) (fun k hk => (hown.lt k hk).1))) (fun q x y hq => (hq.alloc _).grown (hown.alloc _) hgr)
    unfold Own
    rw [bc_app, List.length_append, hm]
    exact hown'
end Go.Proofs.YtkjnhcnbbojajaaGreatDoor

namespace Go.Proofs.YtkjnhcnbbojajaaGreatDoor
open Go.RowKit

theorem lnF_parts (x y : ByteArray) : lnF (x, y) = ((bts x ++ [58, 32]) ++ bts y) ++ [10] := rfl

set_option maxHeartbeats 1600000 in
set_option maxRecDepth 100000 in
theorem packHeader_any (a : Option Addr) (n cap : Nat) (l : List FldP) (w : World) (hl : l.length = n) (hr : RdF w a l) (hn : n ≤ 1048576) (hfit : Fit l) :
    Calls Tryz.prog 177 #[.slice a n cap] w fun e w' => BytEnd (pkV l) w e w' := by
  have hb0 : Below w.heap.size w (w.alloc (.cells #[.int .i64 0, .slice none 0 0] 46)) := (Below.refl _ _).alloc (Nat.le_refl _) _
  have HF := fieldsFault_any a n cap l _ hl (hr.below hb0) hn hfit
  have HL : Hid (l.length = n) := hl
  have HB : Hid (fdF l ≠ 0 → pkV l = (fdF l, [])) := pkV_bad
  have HN : Hid (fdF l = 0 → 400 < (pkH l ++ [10]).length → pkV l = (2, [])) := pkV_many
  have HS : Hid (fdF l = 0 → ¬ 400 < (pkH l ++ [10]).length → pkV l = (0, pkH l ++ [10])) := pkV_ok
  have HT : Hid (fdF l = 0 → (pkH l).length ≤ 1224) := pkH_fit
  clear hfit hl
  generalize fdF l = c at *
  generalize pkV l = r at *
  go_enter Tryz.func177, Tryz.ntmps177
  go_wp2_with fail
  refine HF.mono ?_
  rintro e w1 ⟨rfl, hb1⟩
  have hbl : Below (w.heap.size + 1) (w.alloc (.cells #[.int .i64 0, .slice none 0 0] 46)) w1 := hb1.mono (by simp)
  have hsW : (w.alloc (.cells #[.int .i64 0, .slice none 0 0] 46)).heap.size = w.heap.size + 1 := by simp
  have hrW := hr.below hb0
  clear HF hb1 hr
  generalize hW : w.alloc (.cells #[.int .i64 0, .slice none 0 0] 46) = W at *
  have hbw := hb0.trans (hbl.mono (by omega))
  by_cases hc : c = 0
  · subst hc
    have hfit : (pkH l).length ≤ 1224 := HT.out rfl
    have hz1 := hbl.size
    rw [hsW] at hz1
    go_wp2
    go_loopw [4, 15] (fun v i wr => ∃ k : Nat, k ≤ n ∧ i = .int .i64 k ∧ Own wr (w.heap.size + 1) v (pkH (l.take k)) ∧ Below (w.heap.size + 1) W wr) (fun _ i _ => n - (intOf i).toNat)
    case atStart => exact ⟨0, Nat.zero_le _, rfl, Own.nil _ _, hbl⟩
    case round =>
      obtain ⟨k, hk, rfl, hown, hbel⟩ := hrel
      have hz := hbel.size
      rw [hsW] at hz
      by_cases hkn : k < n
      · obtain ⟨b, off, rfl, hblt, hcell⟩ := hrW.at_ (by have := HL.out; omega)
        rw [hsW] at hblt
        have hc0 : wr.cell? ⟨b, off + k * 2, none⟩ = some (.string (nthF l k).1) := (hbel.cell (p := ⟨b, off + k * 2, none⟩) hblt).trans (hcell k (by have := HL.out; omega)).1
        have hc1 : wr.cell? ⟨b, off + k * 2 + 1, none⟩ = some (.string (nthF l k).2) := (hbel.cell (p := ⟨b, off + k * 2 + 1, none⟩) hblt).trans (hcell k (by have := HL.out; omega)).2
        have hki : (k : Int) < (n : Int) := by omega
        have HK : Hid (pkH (l.take (k + 1)) = pkH (l.take k) ++ lnF (nthF l k)) := pkH_snoc l k (by have := HL.out; omega)
        have hle : (pkH (l.take k)).length + (lnF (nthF l k)).length ≤ 1224 := by
          rw [← List.length_append, ← HK.out]
          exact Nat.le_trans (pkH_le l (k + 1)) hfit
        clear hcell
        generalize nthF l k = p at *
        obtain ⟨x, y⟩ := p
        simp only at hc0 hc1
        rw [lnF_parts] at HK hle
        simp only [List.length_append, bts_len, List.length_cons, List.length_nil] at hle
        generalize pkH (l.take k) = out at *
        have hF0 := FldAt.new wr x y
        have hownA := hown.alloc (.cells #[.string x, .string y] 128)
        have hbA : Below (w.heap.size + 1) W (wr.alloc (.cells #[.string x, .string y] 128)) := hbel.alloc hz _
        have hsA : w.heap.size + 1 ≤ (wr.alloc (.cells #[.string x, .string y] 128)).heap.size := by simp; omega
        clear hown hbel
        go_wp2_with (first
          | (at_builtin; refine wpList_appS rfl _ _ rfl (w.heap.size + 1) _ _ rfl hownA x rfl (by omega) hsA ?_; intro v2 w2 hown2 hb2 hF2; have hq2 := hF2 _ _ _ hF0; have hc2 := hq2.cell1; have hlt2 := hq2.lt; have hz2 := Nat.le_trans hsA hb2.size; have hbel2 := hbA.trans hb2; clear hF2 hb2 hbA hownA hF0)
          | (at_builtin; refine wpList_appL rfl _ _ rfl (w.heap.size + 1) _ _ rfl hown2 2 2 [58, 32] rfl rfl rfl (by rw [List.length_append, bts_len]; omega) hz2 ?_; intro v3 w3 hown3 hb3 hF3; have hq3 := hF3 _ _ _ hq2; have hc3 := hq3.cell1; have hlt3 := hq3.lt; have hz3 := Nat.le_trans hz2 hb3.size; have hbel3 := hbel2.trans hb3; clear hF3 hb3 hbel2 hown2 hq2 hc2 hlt2)
          | (at_builtin; refine wpList_appS rfl _ _ rfl (w.heap.size + 1) _ _ rfl hown3 y rfl (by rw [List.length_append, List.length_append, bts_len, List.length_cons, List.length_cons, List.length_nil]; omega) hz3 ?_; intro v4 w4 hown4 hb4 hF4; have hz4 := Nat.le_trans hz3 hb4.size; have hbel4 := hbel3.trans hb4; clear hF4 hb4 hbel3 hown3 hq3 hc3 hlt3)
          | (at_builtin; refine wpList_appL rfl _ _ rfl (w.heap.size + 1) _ _ rfl hown4 1 1 [10] rfl rfl rfl (by simp only [List.length_append, bts_len, List.length_cons, List.length_nil]; omega) hz4 ?_; intro v5 w5 hown5 hb5 hF5; have hbel5 := hbel4.trans hb5; clear hF5 hb5 hbel4 hown4))
        go_roundw
        case rel => exact ⟨k + 1, by omega, by go_num, by rw [HK.out]; simpa [List.append_assoc] using hown5, hbel5⟩
        case measure => simp [intOf]; omega
      · have hki : ¬ (k : Int) < (n : Int) := by omega
        have HM : Hid (pkH (l.take k) = pkH l) := by
          show _ = _
          rw [show k = l.length by have := HL.out; omega, List.take_length]
        rw [HM.out] at hown
        generalize pkH l = o at *
        obtain ⟨q, HQ⟩ : ∃ q, Hid (q = o ++ [10]) := ⟨o ++ [10], (rfl : o ++ [10] = o ++ [10])⟩
        rw [← HQ.out] at HN HS
        by_cases h4 : 400 < q.length
        · have h4' : (400 : Int) < (q.length : Int) := by omega
          have HM : Hid (_) := HN.out trivial h4
          clear HN HS HB
          go_wp2_with (at_builtin; refine wpList_appL rfl _ _ rfl (w.heap.size + 1) _ _ rfl hown 1 1 [10] rfl rfl rfl (by omega) hz ?_; intro v2 w2 hown2 hb2 hF2; rw [← HQ.out] at hown2; obtain ⟨ao, oc, rfl, ho1, ho2⟩ := hown2.form; have hbel2 := hbel.trans hb2; have hbw2 := hb0.trans (hbel2.mono (by omega)); obtain ⟨hcw, hcw1, hfw, hfw1⟩ := res_block hW hbel2; have hz2 := Nat.le_trans hz hb2.size; clear hF2 hb2 hown)
          obtain ⟨hk0, hk1⟩ := res_cells hcw hcw1 (.int .i64 2) (.slice none 0 0)
          refine bodyPost_ret (v := .agg #[.int .i64 2, .slice none 0 0]) (by simp [results, Tryz.results177, go_sem, hk0, hk1]) rfl ?_
          rw [HM.out]
          exact BytEnd.code hbw2 _ _
        · have h4' : ¬ (400 : Int) < (q.length : Int) := by omega
          have HM : Hid (_) := HS.out trivial h4
          clear HN HS HB
          go_wp2_with (at_builtin; refine wpList_appL rfl _ _ rfl (w.heap.size + 1) _ _ rfl hown 1 1 [10] rfl rfl rfl (by omega) hz ?_; intro v2 w2 hown2 hb2 hF2; rw [← HQ.out] at hown2; obtain ⟨ao, oc, rfl, ho1, ho2⟩ := hown2.form; have hbel2 := hbel.trans hb2; have hbw2 := hb0.trans (hbel2.mono (by omega)); obtain ⟨hcw, hcw1, hfw, hfw1⟩ := res_block hW hbel2; have hz2 := Nat.le_trans hz hb2.size; clear hF2 hb2 hown)
          obtain ⟨hk0, hk1⟩ := res_cells hcw hcw1 (.int .i64 0) (.slice ao q.length oc)
          refine bodyPost_ret (v := .agg #[.int .i64 0, .slice ao q.length oc]) (by simp [results, Tryz.results177, go_sem, hk0, hk1]) rfl ?_
          rw [HM.out]
          exact BytEnd.some hbw2 hown2 _ _
  · have HM : Hid (_) := HB.out hc
    clear HN HS HB
    obtain ⟨hcw, hcw1, hfw, hfw1⟩ := res_block hW hbl
    obtain ⟨hk0, hk1⟩ := res_cells hcw hcw1 (.int .i64 c) (.slice none 0 0)
    have hc' : (c == 0) = false := by simp [hc]
    go_wp2
    refine bodyPost_ret (v := .agg #[.int .i64 c, .slice none 0 0]) (by simp [results, Tryz.results177, go_sem, hk0, hk1]) rfl ?_
    rw [HM.out]
    exact BytEnd.code hbw _ _
end Go.Proofs.YtkjnhcnbbojajaaGreatDoor

namespace Go.Proofs.YtkjnhcnbbojajaaGreatDoor
open Go.RowKit

theorem pkV_few (l : List FldP) : (pkV l).2.length ≤ 1048576 := by
  unfold pkV
  split
  · split
    · exact Nat.zero_le _
    · simp only; omega
  · exact Nat.zero_le _
end Go.Proofs.YtkjnhcnbbojajaaGreatDoor
