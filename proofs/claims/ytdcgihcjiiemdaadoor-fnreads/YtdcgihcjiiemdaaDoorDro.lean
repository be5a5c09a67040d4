/- The draw of bytes in which an op is read; no conditions beyond those that each fact names. -/
import Derived.Test.YtdcgihcjiiemdaaDoorDob
import Derived.Test.YtdcgihcjiiemdaaDoorPkm
import Derived.Test.YtdcgihcjiiemdaaDoorRjc
import Derived.Test.YtdcgihcjiiemdaaDoorLgkToXo8
namespace Go.Proofs.YtdcgihcjiiemdaaDoor
open Go.RowKit
set_option linter.unusedVariables false

theorem nth_mem8 {l : List Nat} {i : Nat} (h : i < l.length) : nth l i ∈ l := by
  rw [nth_get h]; exact List.getElem_mem h
theorem Gr.kbJ {w w' : World} {B b : Nat} {v : Value} {l : List Nat} (h : Gr w B v l) (hk : w.grownBy w' (some b)) (hb : b < B) : Gr w' B v l := by
  obtain ⟨g, cap, e, hBg, hm, hc⟩ := h
  exact ⟨g, cap, e, hBg, hm, hc.kept hk (by omega)⟩
theorem Cv.take {w : World} {g n cap k : Nat} {l : List Nat} (h : Cv w g n cap l) (hk : k ≤ n) : Rd w (some ⟨g, 0, none⟩) (l.take k) := by
  obtain ⟨hl, -, hg, hc, -⟩ := h
  refine .inr ⟨g, 0, rfl, hg, fun i hi => ?_⟩
  rw [List.length_take] at hi
  rw [Nat.zero_add, hc i (by omega)]
  congr 3
  unfold nth
  rw [List.getD_eq_getElem?_getD, List.getD_eq_getElem?_getD, List.getElem?_take_of_lt (by omega)]
/-- How a draw of bytes ends. -/
def RbDr (w : World) (e : Ending) (w' : World) : Prop := ∃ (g n c : Nat) (d : List Nat), e = .returned (.slice (some ⟨g, 0, none⟩) n c) ∧ d.length = n ∧ n ≤ c ∧ c ≤ maxLen ∧ n ≤ 8000 ∧ IsB d ∧ Rd w' (some ⟨g, 0, none⟩) d ∧ g < w'.heap.size ∧ Below w.heap.size w w'
theorem RbDr.mk {w w' : World} {B g n c : Nat} {d : List Nat} (hc : Cv w' g n c d) (hm : c ≤ maxLen) (hn : n ≤ 8000) (hB : IsB d) (hb : Below w.heap.size w w') : RbDr w (.returned (.slice (some ⟨g, 0, none⟩) n c)) w' :=
  ⟨g, n, c, d, rfl, hc.1, hc.2.1, hm, hn, hB, hc.rd, hc.2.2.1, hb⟩
theorem RbDr.cut {w w' : World} {g n c k : Nat} {d : List Nat} (hc : Cv w' g n c d) (hk : k ≤ n) (hm : c ≤ maxLen) (hn : n ≤ 8000) (hB : IsB d) (hb : Below w.heap.size w w') : RbDr w (.returned (.slice (some ⟨g, 0, none⟩) k c)) w' :=
  ⟨g, k, c, d.take k, rfl, by have := hc.1; rw [List.length_take]; omega, by have := hc.2.1; omega, hm, by omega, fun z hz => hB z (List.mem_of_mem_take hz), hc.take hk, hc.2.2.1, hb⟩

set_option maxHeartbeats 3200000 in
set_option maxRecDepth 100000 in
theorem drawReadOp_any (a : Option Addr) (n cap : Nat) (l : List Nat) (w : World) (hl : l.length = n) (hr : Rd w a l) (hB0 : IsB l) (hn : n ≤ 1048576) :
    Calls Tryd.prog 6 #[.slice a n cap] w fun e w' => RbDr w e w' := by
  go_enter Tryd.func6, Tryd.ntmps6
  go_wp2_with fail
  refine (l1Source_any a n cap l w hl hr hB0 hn).mono ?_
  rintro e w1 ⟨rfl, hs1, hb1⟩
  have hbw : w.heap.size < w1.heap.size := hs1.2.1
  go_wp2_with fail
  refine (l8Draw_any w.heap.size w.heap.size 0 w1 hs1 (by omega)).mono ?_
  rintro e w2 ⟨⟨ok, ox, ot, ou, om, of0, od, ob⟩, ⟨⟨pa, pn, pc⟩, qa, qn, qc⟩, rfl, hI, hK, hs2, hk2⟩
  have hBe2 : Below w.heap.size w w2 := hb1.trans (gbelow hk2 hs1.2.1)
  have h23 : Below w2.heap.size w2 (w2.alloc (.cells #[.int .i64 ok, .string ox, .string ot, .slice pa pn pc, .int .i64 om, .int .i64 of0, .int .i64 od, .slice qa qn qc] 27)) := (Below.refl _ _).alloc (Nat.le_refl _) _
  have hQ3 : Qo (w2.alloc (.cells #[.int .i64 ok, .string ox, .string ot, .slice pa pn pc, .int .i64 om, .int .i64 of0, .int .i64 od, .slice qa qn qc] 27)) w2.heap.size (opQ ⟨ok, ox, ot, ou, om, of0, od, ob⟩ ((pa, pn, pc), (qa, qn, qc))) := Qo.new _ _ _ _ _ _ _ _ _ _
  have hI3 := hI.below h23
  have hs3 := hs2.below (h23.mono hs2.2.1)
  have hBe3 := hBe2.trans (h23.mono hBe2.size)
  have hz3 : w.heap.size < (w2.alloc (.cells #[.int .i64 ok, .string ox, .string ot, .slice pa pn pc, .int .i64 om, .int .i64 of0, .int .i64 od, .slice qa qn qc] 27)).heap.size := by have := hBe2.size; simp; omega
  dsimp only [opX, slW]
  go_wp2_with fail
  generalize w2.alloc (.cells #[.int .i64 ok, .string ox, .string ot, .slice pa pn pc, .int .i64 om, .int .i64 of0, .int .i64 od, .slice qa qn qc] 27) = W3 at *
  generalize w2.heap.size = R at *
  have HBP : Hid (IsB (pkO ⟨ok, ox, ot, ou, om, of0, od, ob⟩)) := pkO_isB hK hI3.2.2.2.2.1
  have hpl : 14 ≤ (pkO ⟨ok, ox, ot, ou, om, of0, od, ob⟩).length ∧ (pkO ⟨ok, ox, ot, ou, om, of0, od, ob⟩).length ≤ 644 := by
    have h1 := hK.x; have h2 := hK.t; have h3 := hK.u; have h4 := hK.b
    rw [pkO_len]
    dsimp only at h1 h2 h3 h4 ⊢
    omega
  refine (l9Pack_any ⟨ok, ox, ot, ou, om, of0, od, ob⟩ ((pa, pn, pc), (qa, qn, qc)) R W3 hI3 hQ3 hK).mono ?_
  rintro e w4 ⟨v4, rfl, hg4, hb4⟩
  have hBe4 := hBe3.trans (hb4.mono hBe3.size)
  have hs4 := hs3.below (hb4.mono hz3)
  have hz4 : W3.heap.size ≤ w4.heap.size := hb4.size
  clear hs1 hb1 hI hK hs2 hk2 hBe2 h23 hQ3 hI3 hs3 hBe3 hb4
  generalize pkO ⟨ok, ox, ot, ou, om, of0, od, ob⟩ = PK at *
  go_wp2_with fail
  refine (l1Next_any w.heap.size w.heap.size (0 + 60) 3 w4 hs4 (by omega) (by omega) (by omega)).mono ?_
  rintro e w5 ⟨r5, rfl, r0, r1, -, hs5, hg5⟩
  obtain ⟨j, rfl⟩ := Int.eq_ofNat_of_zero_le r0
  have hj : j < 3 := by have := r1 (by omega); omega
  have hgr5 := hg4.kbJ hg5 hz3
  have hBe5 := hBe4.trans (gbelow hg5 hs4.2.1)
  have hz5 : w4.heap.size ≤ w5.heap.size := hg5.size
  clear hg4 hs4 hg5 hBe4 r0 r1
  go_wp2_with fail
  refine (l1Some_nk w.heap.size w.heap.size (0 + 60 + 1) j w5 hs5 (by omega) (by omega)).mono ?_
  rintro e w6 ⟨v6, out, rfl, ho6, ⟨g6, cp6, hv6, hc6⟩, hBo, hol, hs6, hb6, hk6⟩
  subst hol
  subst hv6
  have hs6 := hs6.more (show 0 + 60 + 1 + 2 * out.length ≤ 70 by omega)
  have hgr6 := hgr5.kbJ hk6 hz3
  have hr6 : Rd w6 (some ⟨g6, 0, none⟩) out := Rd.own ho6
  have hBe6 := hBe5.trans (gbelow hk6 hs5.2.1)
  have hz6 : w5.heap.size ≤ w6.heap.size := hk6.size
  clear hgr5 ho6 hs5 hBe5 hk6 hb6
  go_wp2_with (at_builtin; refine wpList_app_grx rfl _ _ 22 rfl W3.heap.size _ PK (by rfl) hgr6 _ _ out (by rfl) (src_slice rfl hr6 (fun h => by cases h)) rfl (by omega) (by omega) ?_; intro v7 w7 hg7 hb7)
  have hBD : IsB (PK ++ out) := fun z hz => by
    rcases List.mem_append.1 hz with h | h
    · exact HBP.out z h
    · exact hBo z h
  have hDl : 14 ≤ (PK ++ out).length ∧ (PK ++ out).length ≤ 700 := by rw [List.length_append]; omega
  obtain ⟨g, c, rfl, hgB, hcm, hcv⟩ := hg7
  have hBe7 := hBe6.trans (hb7.mono (by omega))
  have hs7 := hs6.below (hb7.mono hz3)
  clear hgr6 hr6 hs6 hBe6 hBo hpl hc6 hj
  generalize PK ++ out = D at *
  obtain ⟨N, hN⟩ : ∃ N, D.length = N := ⟨_, rfl⟩
  rw [hN] at hcv hDl ⊢
  have HN : Hid (D.length = N) := hN
  clear hN
  have hgw : w.heap.size ≠ g := by omega
  go_wp2_with fail
  refine (l1Next_any w.heap.size w.heap.size _ 5 w7 hs7 (by omega) (by omega) (by omega)).mono ?_
  rintro e w8 ⟨r8, rfl, r0, r1, -, hs8, hg8⟩
  have hcv8 := hcv.kept hg8 hgw
  have hBe8 := hBe7.trans (gbelow hg8 hs7.2.1)
  clear hcv hs7 hg8 hBe7 hb7
  by_cases h0 : r8 = 0
  · subst h0
    have hN1 : (1 : Int) ≤ (N : Int) := by omega
    go_wp2_with fail
    refine wp_region_held_drew (S := fun _ => True) (by kernel_rfl) ?hS1 (fun hHeld => ?_)
    case hS1 => exact trivial
    have hx0 : Below w.heap.size w w8.drew := hBe8.trans ((Below.refl _ _).drew.mono hBe8.size)
    have hsx := hs8.below ((Below.refl _ _).drew.mono hs8.2.1)
    have hcx : Cv w8.drew g N c D := hcv8.below (Below.refl _ _).drew hcv8.2.2.1
    clear hs8 hcv8 hBe8
    generalize w8.drew = x0 at *
    refine wpAnyH_take (i := 0) (v := ?_) rfl (by kernel_rfl) (by kernel_rfl) (by kernel_rfl) (fun _ _ _ h => h) (Or.inl ⟨by rfl, ?hy2⟩) (by assumption) ?ty2
    case hy2 => (intro w5 hSw; (try dsimp only at hSw); (try obtain ⟨p0, p1, p2, p3, p4⟩ := hSw); go_simp; all_goals with_reducible rfl)
    simp only [Act.put, List.getElem_toArray, List.getElem_cons_zero, List.setIfInBounds_toArray, List.set_cons_zero, List.set_cons_succ]
    refine wpAnyH_take (i := 1) (v := ?_) rfl (by kernel_rfl) (by kernel_rfl) (by kernel_rfl) (fun _ _ _ h => h) (Or.inl ⟨by rfl, ?hy3⟩) (by assumption) ?ty3
    case hy3 => (intro w5 hSw; (try dsimp only at hSw); (try obtain ⟨p0, p1, p2, p3, p4⟩ := hSw); go_simp; all_goals with_reducible rfl)
    simp only [Act.put, List.getElem_toArray, List.getElem_cons_zero, List.getElem_cons_succ, List.setIfInBounds_toArray, List.set_cons_zero, List.set_cons_succ]
    refine wpAnyH_take (i := 2) (v := ?_) rfl (by kernel_rfl) (by kernel_rfl) (by kernel_rfl) (fun _ _ _ h => h) (Or.inl ⟨by rfl, ?hy4⟩) (by assumption) ?ty4
    case hy4 => (intro w5 hSw; (try dsimp only at hSw); (try obtain ⟨p0, p1, p2, p3, p4⟩ := hSw); go_simp; all_goals with_reducible rfl)
    simp only [Act.put, List.getElem_toArray, List.getElem_cons_zero, List.getElem_cons_succ, List.setIfInBounds_toArray, List.set_cons_zero, List.set_cons_succ]
    refine wpAnyH_take (i := 7) (v := ?_) rfl (by kernel_rfl) (by kernel_rfl) (by kernel_rfl) (fun _ _ _ h => h) (Or.inl ⟨by rfl, ?hy5⟩) (by assumption) ?ty5
    case hy5 => (intro w5 hSw; (try dsimp only at hSw); (try obtain ⟨p0, p1, p2, p3, p4⟩ := hSw); go_simp; all_goals with_reducible rfl)
    simp only [Act.put, List.getElem_toArray, List.getElem_cons_zero, List.getElem_cons_succ, List.setIfInBounds_toArray, List.set_cons_zero, List.set_cons_succ]
    refine wpAnyH_take (i := 3) (v := ?_) rfl (by kernel_rfl) (by kernel_rfl) (by kernel_rfl) (fun _ _ _ h => h) (Or.inl ⟨by rfl, ?hy6⟩) (by assumption) ?ty6
    case hy6 => (intro w5 hSw; (try dsimp only at hSw); (try obtain ⟨p0, p1, p2, p3, p4⟩ := hSw); go_simp; all_goals with_reducible rfl)
    simp only [Act.put, List.getElem_toArray, List.getElem_cons_zero, List.getElem_cons_succ, List.setIfInBounds_toArray, List.set_cons_zero, List.set_cons_succ]
    refine wpAnyH_ready (rs := [4]) (by kernel_rfl) (by simp) ?_
    refine AllReadyH.cons rfl (fun K hK => ?_) AllReadyH.nil
    go_simp
    refine (l1Next_any w.heap.size w.heap.size _ (N : Int) x0 hsx (by omega) (by omega) (by omega)).mono ?_
    rintro e x1 ⟨q, rfl, q0, q1, -, hsx1, hgx1⟩
    refine hK.out _ _ trivial (fun hHeld => ?_)
    clear hK K
    obtain ⟨i, rfl⟩ := Int.eq_ofNat_of_zero_le q0
    have hi : i < N := by have := q1 (by omega); omega
    have hi' : (i : Int) < (N : Int) := by omega
    have hcx1 := hcx.kept hgx1 hgw
    have hx1 := hx0.trans (gbelow hgx1 hsx.2.1)
    clear hcx hsx hgx1 hx0 q0 q1
    refine wpAnyH_take (i := 5) (v := ?_) rfl (by kernel_rfl) (by kernel_rfl) (by kernel_rfl) (fun _ _ _ h => h) (Or.inl ⟨by rfl, ?hy7⟩) (by assumption) ?ty7
    case hy7 => (intro w5 hSw; (try dsimp only at hSw); (try obtain ⟨p0, p1, p2, p3, p4⟩ := hSw); go_simp; all_goals with_reducible rfl)
    simp only [Act.put, List.getElem_toArray, List.getElem_cons_zero, List.getElem_cons_succ, List.setIfInBounds_toArray, List.set_cons_zero, List.set_cons_succ]
    refine wpAnyH_ready (rs := [6, 8]) (by kernel_rfl) (by simp) ?_
    refine AllReadyH.cons rfl (fun K hK => ?_) (AllReadyH.cons rfl (fun K hK => ?_) AllReadyH.nil)
    · have hcl := hcx1.2.2.2.1 i hi
      go_simp
      refine hK.out _ _ trivial (fun hHeld => ?_)
      clear hK K
      refine wpAnyH_ready (rs := [8]) (by kernel_rfl) (by simp) ?_
      refine AllReadyH.cons rfl (fun K hK => ?_) AllReadyH.nil
      go_simp
      refine (l1Next_any w.heap.size w.heap.size _ 255 x1 hsx1 (by omega) (by omega) (by omega)).mono ?_
      rintro e x2 ⟨q, rfl, q0, q1, -, hsx2, hgx2⟩
      refine hK.out _ _ trivial (fun hHeld => ?_)
      clear hK K
      obtain ⟨z, rfl⟩ := Int.eq_ofNat_of_zero_le q0
      have hz : z < 255 := by have := q1 (by omega); omega
      have hcx2 := hcx1.kept hgx2 hgw
      have hx2 := hx1.trans (gbelow hgx2 hsx1.2.1)
      clear hsx1 hgx2 hx1 q0 q1
      refine wpAnyH_take (i := 9) (v := .int .i64 ((z + 1 : Nat) : Int)) rfl (by kernel_rfl) (by kernel_rfl) (by kernel_rfl) (fun _ _ _ h => h) (Or.inl ⟨by rfl, ?hy8⟩) (by assumption) ?ty8
      case hy8 => (intro w5 hSw; (try dsimp only at hSw); (try obtain ⟨p0, p1, p2, p3, p4⟩ := hSw); go_simp; rw [IntKind.wrap_i64]; omega)
      simp only [Act.put, List.getElem_toArray, List.getElem_cons_zero, List.getElem_cons_succ, List.setIfInBounds_toArray, List.set_cons_zero, List.set_cons_succ]
      refine wpAnyH_take (i := 10) (v := .int .u8 ((z + 1 : Nat) : Int)) rfl (by kernel_rfl) (by kernel_rfl) (by kernel_rfl) (fun _ _ _ h => h) (Or.inl ⟨by rfl, ?hy9⟩) (by assumption) ?ty9
      case hy9 => (intro w5 hSw; (try dsimp only at hSw); (try obtain ⟨p0, p1, p2, p3, p4⟩ := hSw); go_simp; rw [IntKind.wrap_u8]; omega)
      simp only [Act.put, List.getElem_toArray, List.getElem_cons_zero, List.getElem_cons_succ, List.setIfInBounds_toArray, List.set_cons_zero, List.set_cons_succ]
      have HX8 : Hid (bits .xor .u8 (nth D i : Int) ((z : Int) + 1) = ((nth D i ^^^ (z + 1) : Nat) : Int)) := xor_u8 (nth D i) (z + 1) (hBD _ (nth_mem8 (by rw [HN.out]; exact hi))) (by omega)
      refine wpAnyH_take (i := 11) (v := .int .u8 ((nth D i ^^^ (z + 1) : Nat) : Int)) rfl (by kernel_rfl) (by kernel_rfl) (by kernel_rfl) (fun _ _ _ h => h) (Or.inl ⟨by rfl, ?hy10⟩) (by assumption) ?ty10
      case hy10 => (intro w5 hSw; (try dsimp only at hSw); (try obtain ⟨p0, p1, p2, p3, p4⟩ := hSw); go_simp; exact HX8.out)
      simp only [Act.put, List.getElem_toArray, List.getElem_cons_zero, List.getElem_cons_succ, List.setIfInBounds_toArray, List.set_cons_zero, List.set_cons_succ]
      refine wpAnyH_take (i := 12) (v := ?_) rfl (by kernel_rfl) (by kernel_rfl) (by kernel_rfl) (fun _ _ _ h => h) (Or.inl ⟨by rfl, ?hy11⟩) (by assumption) ?ty11
      case hy11 => (intro w5 hSw; (try dsimp only at hSw); (try obtain ⟨p0, p1, p2, p3, p4⟩ := hSw); go_simp; all_goals with_reducible rfl)
      simp only [Act.put, List.getElem_toArray, List.getElem_cons_zero, List.getElem_cons_succ, List.setIfInBounds_toArray, List.set_cons_zero, List.set_cons_succ]
      refine wpAnyH_ready (rs := [13]) (by kernel_rfl) (by simp) ?_
      refine AllReadyH.cons rfl (fun K hK => ?_) AllReadyH.nil
      have hfz := (hcx2.2.2.2.2 i (by have := hcx2.2.1; omega)).2
      have hcl2 := hcx2.2.2.2.1 i hi
      go_simp
      refine hK.out _ _ trivial (fun hHeld => ?_)
      clear hK K
      refine wpAnyH_done (by kernel_rfl) ?_ _
      have hy8 : nth D i ^^^ (z + 1) < 256 := xor_lt8 (hBD _ (nth_mem8 (by rw [HN.out]; exact hi))) (by omega)
      have hgg : w.heap.size ≤ g := by omega
      have HF : Hid (RbDr w (.returned (.slice (some ⟨g, 0, none⟩) N c)) (x2.setCell ⟨g, i, none⟩ (.int .u8 ((nth D i ^^^ (z + 1) : Nat) : Int)))) := RbDr.mk (B := 0) (hcx2.put hi) hcm (by omega) (isB_set hBD hy8) (hx2.setCell hgg _)
      clear hcx2 hx2 hfz hcl2 hHeld
      go_wp2
      go_ret
      exact HF.out
    · go_simp
      refine (l1Next_any w.heap.size w.heap.size _ 255 x1 hsx1 (by omega) (by omega) (by omega)).mono ?_
      rintro e x2 ⟨q, rfl, q0, q1, -, hsx2, hgx2⟩
      refine hK.out _ _ trivial (fun hHeld => ?_)
      clear hK K
      obtain ⟨z, rfl⟩ := Int.eq_ofNat_of_zero_le q0
      have hz : z < 255 := by have := q1 (by omega); omega
      have hcx2 := hcx1.kept hgx2 hgw
      have hx2 := hx1.trans (gbelow hgx2 hsx1.2.1)
      clear hsx1 hgx2 hx1 q0 q1
      refine wpAnyH_take (i := 9) (v := .int .i64 ((z + 1 : Nat) : Int)) rfl (by kernel_rfl) (by kernel_rfl) (by kernel_rfl) (fun _ _ _ h => h) (Or.inl ⟨by rfl, ?hy12⟩) (by assumption) ?ty12
      case hy12 => (intro w5 hSw; (try dsimp only at hSw); (try obtain ⟨p0, p1, p2, p3, p4⟩ := hSw); go_simp; rw [IntKind.wrap_i64]; omega)
      simp only [Act.put, List.getElem_toArray, List.getElem_cons_zero, List.getElem_cons_succ, List.setIfInBounds_toArray, List.set_cons_zero, List.set_cons_succ]
      refine wpAnyH_take (i := 10) (v := .int .u8 ((z + 1 : Nat) : Int)) rfl (by kernel_rfl) (by kernel_rfl) (by kernel_rfl) (fun _ _ _ h => h) (Or.inl ⟨by rfl, ?hy13⟩) (by assumption) ?ty13
      case hy13 => (intro w5 hSw; (try dsimp only at hSw); (try obtain ⟨p0, p1, p2, p3, p4⟩ := hSw); go_simp; rw [IntKind.wrap_u8]; omega)
      simp only [Act.put, List.getElem_toArray, List.getElem_cons_zero, List.getElem_cons_succ, List.setIfInBounds_toArray, List.set_cons_zero, List.set_cons_succ]
      refine wpAnyH_ready (rs := [6]) (by kernel_rfl) (by simp) ?_
      refine AllReadyH.cons rfl (fun K hK => ?_) AllReadyH.nil
      have hcl := hcx2.2.2.2.1 i hi
      go_simp
      refine hK.out _ _ trivial (fun hHeld => ?_)
      clear hK K
      have HX8 : Hid (bits .xor .u8 (nth D i : Int) ((z : Int) + 1) = ((nth D i ^^^ (z + 1) : Nat) : Int)) := xor_u8 (nth D i) (z + 1) (hBD _ (nth_mem8 (by rw [HN.out]; exact hi))) (by omega)
      refine wpAnyH_take (i := 11) (v := .int .u8 ((nth D i ^^^ (z + 1) : Nat) : Int)) rfl (by kernel_rfl) (by kernel_rfl) (by kernel_rfl) (fun _ _ _ h => h) (Or.inl ⟨by rfl, ?hy14⟩) (by assumption) ?ty14
      case hy14 => (intro w5 hSw; (try dsimp only at hSw); (try obtain ⟨p0, p1, p2, p3, p4⟩ := hSw); go_simp; exact HX8.out)
      simp only [Act.put, List.getElem_toArray, List.getElem_cons_zero, List.getElem_cons_succ, List.setIfInBounds_toArray, List.set_cons_zero, List.set_cons_succ]
      refine wpAnyH_take (i := 12) (v := ?_) rfl (by kernel_rfl) (by kernel_rfl) (by kernel_rfl) (fun _ _ _ h => h) (Or.inl ⟨by rfl, ?hy15⟩) (by assumption) ?ty15
      case hy15 => (intro w5 hSw; (try dsimp only at hSw); (try obtain ⟨p0, p1, p2, p3, p4⟩ := hSw); go_simp; all_goals with_reducible rfl)
      simp only [Act.put, List.getElem_toArray, List.getElem_cons_zero, List.getElem_cons_succ, List.setIfInBounds_toArray, List.set_cons_zero, List.set_cons_succ]
      refine wpAnyH_ready (rs := [13]) (by kernel_rfl) (by simp) ?_
      refine AllReadyH.cons rfl (fun K hK => ?_) AllReadyH.nil
      have hfz := (hcx2.2.2.2.2 i (by have := hcx2.2.1; omega)).2
      have hcl2 := hcx2.2.2.2.1 i hi
      go_simp
      refine hK.out _ _ trivial (fun hHeld => ?_)
      clear hK K
      refine wpAnyH_done (by kernel_rfl) ?_ _
      have hy8 : nth D i ^^^ (z + 1) < 256 := xor_lt8 (hBD _ (nth_mem8 (by rw [HN.out]; exact hi))) (by omega)
      have hgg : w.heap.size ≤ g := by omega
      have HF : Hid (RbDr w (.returned (.slice (some ⟨g, 0, none⟩) N c)) (x2.setCell ⟨g, i, none⟩ (.int .u8 ((nth D i ^^^ (z + 1) : Nat) : Int)))) := RbDr.mk (B := 0) (hcx2.put hi) hcm (by omega) (isB_set hBD hy8) (hx2.setCell hgg _)
      clear hcx2 hx2 hfz hcl2 hHeld
      go_wp2
      go_ret
      exact HF.out
  · have e0 : (r8 == 0) = false := beq_eq_false_iff_ne.2 h0
    by_cases h1 : r8 = 1
    · subst h1
      go_wp2_with fail
      refine (l1Next_any w.heap.size w.heap.size _ (N : Int) w8 hs8 (by omega) (by omega) (by omega)).mono ?_
      rintro e w9 ⟨q, rfl, q0, q1, -, hs9, hg9⟩
      obtain ⟨i, rfl⟩ := Int.eq_ofNat_of_zero_le q0
      have hi : i < N := by have := q1 (by omega); omega
      have hcv9 := hcv8.kept hg9 hgw
      have hic : (i : Int) ≤ (c : Int) := by have := hcv9.2.1; omega
      have HF : Hid (RbDr w (.returned (.slice (some ⟨g, 0, none⟩) i c)) w9) := RbDr.cut hcv9 (by omega) hcm (by omega) hBD (hBe8.trans (gbelow hg9 hs8.2.1))
      clear hcv8 hs8 hBe8 hs9 hg9 hcv9 q0 q1
      go_wp2
      go_ret
      exact HF.out
    · have e1 : (r8 == 1) = false := beq_eq_false_iff_ne.2 h1
      have HF : Hid (RbDr w (.returned (.slice (some ⟨g, 0, none⟩) N c)) w8) := RbDr.mk (B := 0) hcv8 hcm (by omega) hBD hBe8
      clear hcv8 hs8 hBe8
      go_wp2
      go_ret
      exact HF.out
end Go.Proofs.YtdcgihcjiiemdaaDoor
