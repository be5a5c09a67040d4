/- More of the laws' helpers over slices of slices of bytes; no conditions beyond those that each fact names. -/
import Derived.Test.YthphokjhonddcaaBmu
namespace Go.Proofs.Ythphokjhonddcaa
open Go.RowKit

/-- A slice of slices of bytes, as it came in. -/
def IsBs (w : World) (a : Option Addr) (n cap : Nat) (l : List SlP) (ls : List (List Nat)) : Prop := l.length = n ∧ n ≤ cap ∧ cap ≤ maxLen ∧ RdL w a l ∧ RdLs w l ls ∧ ∀ k, k < n → IsB (ls.getD k []) ∧ (ls.getD k []).length ≤ maxLen

theorem szByteS_bs (a : Option Addr) (n cap : Nat) (left : Int) (w : World) (h0 : 0 ≤ left) (h1 : left ≤ 1048576) (hn : n ≤ maxLen) :
    Calls Try.prog 13 #[.slice a n cap, .int .i64 left] w fun e w' => ∃ r : Int, e = .returned (.int .i64 r) ∧ (r = -1 ∨ 0 ≤ r ∧ r = left - (n : Int)) ∧ Below w.heap.size w w' := by
  unfold maxLen at hn
  by_cases c1 : left - (n : Int) < 0
  · go_enter Try.func13, Try.ntmps13
    go_wp2
    go_ret
    exact ⟨-1, rfl, .inl rfl, by go_grown⟩
  · go_enter Try.func13, Try.ntmps13
    go_wp2
    go_ret
    exact ⟨left - (n : Int), rfl, .inr ⟨by omega, rfl⟩, by go_grown⟩

/-- The bytes of the first ones. -/
def sumB (ls : List (List Nat)) (k : Nat) : Nat := ((ls.take k).map List.length).sum
theorem sumB_snoc {ls : List (List Nat)} {k : Nat} (h : k < ls.length) : sumB ls (k + 1) = sumB ls k + (ls.getD k []).length := by
  unfold sumB
  rw [List.take_succ_eq_append_getElem h, List.map_append, List.sum_append, List.getD_eq_getElem?_getD, List.getElem?_eq_getElem h]
  simp

set_option maxHeartbeats 1600000 in
set_option maxRecDepth 100000 in
theorem szByteSS_bs (a : Option Addr) (n cap : Nat) (l : List SlP) (ls : List (List Nat)) (w : World) (h : IsBs w a n cap l ls) :
    Calls Try.prog 4 #[.slice a n cap, .int .i64 1048576] w fun e w' => ∃ r : Int, e = .returned (.int .i64 r) ∧ (r = -1 ∨ 0 ≤ r ∧ n ≤ 1048576 ∧ FitB ls ∧ ∀ k, k ≤ n → sumB ls k ≤ 1048576) ∧ Below w.heap.size w w' := by
  obtain ⟨hl, hnc, hcm, hr, hrs, hB⟩ := h
  have hlen : ls.length = n := by rw [← hrs.1]; exact hl
  unfold maxLen at hcm
  by_cases c1 : (1048576 : Int) - (n : Int) < 0
  · go_enter Try.func4, Try.ntmps4
    go_wp2
    go_ret
    exact ⟨-1, rfl, .inl rfl, Below.refl _ _⟩
  · go_enter Try.func4, Try.ntmps4
    go_wp2
    go_loopw [1, 5] (fun q i wr => ∃ (k : Nat) (r : Int), k ≤ n ∧ i = .int .i64 k ∧ q = .int .i64 r ∧ 0 ≤ r ∧ r = 1048576 - (n : Int) - (sumB ls k : Int) ∧ Below w.heap.size w wr)
      (fun _ i _ => n - (intOf i).toNat)
    case atStart => exact ⟨0, _, Nat.zero_le _, rfl, rfl, by omega, by simp [sumB], Below.refl _ _⟩
    case round =>
      obtain ⟨k, r, hk, rfl, rfl, hr0, hr1, hbel⟩ := hrel
      by_cases hkn : k < n
      · have hki : (k : Int) < (n : Int) := by omega
        obtain ⟨g, off, rfl, hglt, hcell⟩ := (hr.below hbel).at_ (by omega)
        have hck := hcell k (by omega)
        obtain ⟨e1, e2, -⟩ := hrs.2 k (by omega)
        have hbk := (hB k hkn).2
        have HS : Hid (sumB ls (k + 1) = sumB ls k + (ls.getD k []).length) := sumB_snoc (by omega)
        rw [← e1] at HS hbk
        clear hcell e1
        unfold slV at hck
        generalize nthL l k = sl at *
        obtain ⟨sa, sn, scp⟩ := sl
        dsimp only at hck e2 HS hbk
        have HC := szByteS_bs sa sn scp r wr hr0 (by omega) hbk
        have HR : Hid (r = 1048576 - (n : Int) - (sumB ls k : Int)) := hr1
        clear hr1
        go_wp2_with fail
        refine HC.mono ?_
        rintro e w1 ⟨r', rfl, hcase, hb1⟩
        have hbel1 := hbel.trans (hb1.mono hbel.size)
        clear HC
        rcases hcase with rfl | ⟨q0, q1⟩
        · go_wp2
          go_ret
          exact ⟨-1, rfl, .inl rfl, hbel1⟩
        · have hneg : ¬ r' < 0 := by omega
          have HR' : Hid (r' = 1048576 - (n : Int) - (sumB ls (k + 1) : Int)) := by show _ = _; rw [q1, HR.out, HS.out]; omega
          clear q1
          go_wp2
          go_roundw
          case rel => exact ⟨k + 1, r', by omega, by go_num, by trivial, q0, HR'.out, hbel1⟩
          case measure => simp [intOf]; omega
      · have hki : ¬ (k : Int) < (n : Int) := by omega
        have hmono : ∀ i, i ≤ n → sumB ls i ≤ sumB ls n := by
          have step : ∀ d i, i + d = n → sumB ls i ≤ sumB ls n := fun d => by
            induction d with
            | zero => intro i hi; rw [show i = n by omega]; exact Nat.le_refl _
            | succ d ih =>
              intro i hi
              have h1 := ih (i + 1) (by omega)
              rw [sumB_snoc (by omega)] at h1
              omega
          intro i hi
          exact step (n - i) i (by omega)
        have hall : sumB ls n ≤ 1048576 := by
          have : k = n := by omega
          subst this
          omega
        have HM : Hid (FitB ls ∧ ∀ k, k ≤ n → sumB ls k ≤ 1048576) := by
          refine ⟨fun i hi => ⟨(hB i (by omega)).1, ?_⟩, fun i hi => Nat.le_trans (hmono i hi) hall⟩
          have h1 := hmono (i + 1) (by omega)
          rw [sumB_snoc hi] at h1
          omega
        have hn : n ≤ 1048576 := by omega
        clear hr1
        go_wp2
        go_ret
        exact ⟨r, rfl, .inr ⟨hr0, HM.out⟩, hbel⟩

theorem Rd.setO {w : World} {a : Option Addr} {l : List Nat} {R j : Nat} {x : Value} (h : Rd w a l) (hne : ∀ y, a = some y → y.block ≠ R) : Rd (w.setCell ⟨R, j, none⟩ x) a l := by
  rcases h with h | ⟨b, off, e, hlt, hc⟩
  · exact .inl h
  · have := hne _ e
    exact .inr ⟨b, off, e, by simpa using hlt, fun i hi => (World.cell?_setCell_other _ _ _ _ (fun h => this (by cases h; rfl))).trans (hc i hi)⟩
theorem WrS.setO {lo hi R j : Nat} {w : World} {s : SlP} {x : Value} (h : WrS lo hi w s) (hR : R < lo) : WrS lo hi (w.setCell ⟨R, j, none⟩ x) s := by
  obtain ⟨g, h1, h2, h3, h4, h5⟩ := h
  refine ⟨g, h1, h2, h3, by simpa using h4, fun i hi => ⟨?_, ?_⟩⟩
  · rw [World.cell?_setCell_other _ _ _ _ (fun h => by injection h; omega)]; exact (h5 i hi).1
  · rw [World.frozen?_setCell]; exact (h5 i hi).2
theorem WrS.up {lo hi hi' : Nat} {w : World} {s : SlP} (h : WrS lo hi w s) (hh : hi ≤ hi') : WrS lo hi' w s := by
  obtain ⟨g, h1, h2, h3, h4, h5⟩ := h
  exact ⟨g, h1, h2, by omega, h4, h5⟩
theorem nthL_left {l : List SlP} {p : SlP} {i : Nat} (h : i < l.length) : nthL (l ++ [p]) i = nthL l i := by
  unfold nthL; rw [List.getD_eq_getElem?_getD, List.getD_eq_getElem?_getD, List.getElem?_append_left h]
theorem nthL_last {l : List SlP} {p : SlP} : nthL (l ++ [p]) l.length = p := by
  unfold nthL; rw [List.getD_eq_getElem?_getD, List.getElem?_append_right (Nat.le_refl _)]; simp
/-- A copy in the making. -/
def halfL (l : List SlP) (n : Nat) : List SlP := l ++ List.replicate (n - l.length) (none, 0, 0)
theorem halfL_len (l : List SlP) (n : Nat) (h : l.length ≤ n) : (halfL l n).length = n := by simp [halfL]; omega
theorem halfL_all (l : List SlP) : halfL l l.length = l := by simp [halfL]
theorem halfL_set (l : List SlP) (n : Nat) (p : SlP) (h : l.length < n) : (lc (halfL l n)).set l.length (slV p) = lc (halfL (l ++ [p]) n) := by
  have e : n - l.length = (n - (l.length + 1)) + 1 := by omega
  unfold halfL lc
  rw [e, List.replicate_succ, List.map_append, List.set_append, List.length_map, if_neg (Nat.lt_irrefl _), Nat.sub_self, List.length_append, List.length_singleton]
  simp
theorem made_slices (n : Nat) : (madeCells (Value.slice none 0 0).cells (n * 1)).toList = lc (List.replicate n (none, 0, 0)) := by
  apply List.ext_getElem?
  intro j
  by_cases hj : j < n
  · simp [madeCells, lc, slV, hj, Value.cells, Nat.mod_one]
  · simp [madeCells, lc, hj]

set_option maxHeartbeats 1600000 in
set_option maxRecDepth 100000 in
theorem toByteSS_bs (a : Option Addr) (n cap : Nat) (l : List SlP) (ls : List (List Nat)) (w : World) (hl : l.length = n) (hr : RdL w a l) (hrs : RdLs w l ls) (hf : FitB ls) (hn : n ≤ 1048576) :
    Calls Try.prog 6 #[.slice a n cap] w fun e w' => ∃ l' : List SlP, e = .returned (.slice (some ⟨w.heap.size, 0, none⟩) n n) ∧ l'.length = n ∧ w.heap.size < w'.heap.size ∧ RdL w' (some ⟨w.heap.size, 0, none⟩) l' ∧ RdLs w' l' ls ∧ (∀ i, i < n → WrS (w.heap.size + 1) w'.heap.size w' (nthL l' i)) ∧ Below w.heap.size w w' := by
  obtain ⟨i0, hi, hz0, hz1, hz2⟩ := info_parts infoL
  have hlen : ls.length = n := by rw [← hrs.1]; exact hl
  go_enter Try.func6, Try.ntmps6
  go_wp2_with (at_make; refine wpList_make_full _ rfl _ _ 22 rfl w.heap.size 24 i0 (.slice none 0 0) 1 Try.underlying22 hi hz0 hz1 .i64 .i64 _ _ n rfl rfl rfl rfl (by rw [hz2]; omega) (by unfold maxLen; omega) (Nat.le_refl _) ?_; intro w0 hown0 hgrow0)
  have hown0' : w0.ownsRow w.heap.size 24 1 (.slice (some ⟨w.heap.size, 0, none⟩) n n) n (lc (halfL [] n)) := by
    show w0.ownsRow _ _ _ _ _ (lc ([] ++ List.replicate n (none, 0, 0)))
    rw [List.nil_append, ← made_slices]
    exact hown0
  have hbel0 : Below w.heap.size w w0 := (Below.refl _ _).grown hgrow0 (Nat.le_refl _) (by intro k hk; cases hk)
  clear hgrow0 hown0
  go_loopw [4] (fun i wr => ∃ (k : Nat) (ql : List SlP), k ≤ n ∧ i = .int .i64 k ∧ ql.length = k ∧ wr.ownsRow w.heap.size 24 1 (.slice (some ⟨w.heap.size, 0, none⟩) n n) n (lc (halfL ql n)) ∧ RdLs wr ql (ls.take k) ∧ (∀ i, i < k → WrS (w.heap.size + 1) wr.heap.size wr (nthL ql i)) ∧ Below w.heap.size w wr)
    (fun i _ => n - (intOf i).toNat)
  case atStart => exact ⟨0, [], Nat.zero_le _, rfl, rfl, hown0', RdLs.nil _, fun i hi => absurd hi (Nat.not_lt_zero _), hbel0⟩
  case round =>
    obtain ⟨k, ql, hk, rfl, hqk, hown, hrd, hwr, hbel⟩ := hrel
    clear hown0' hbel0
    by_cases hkn : k < n
    · have hki : (k : Int) < (n : Int) := by omega
      obtain ⟨g, off, rfl, hglt, hcell⟩ := (hr.below hbel).at_ (by omega)
      have hck := hcell k (by omega)
      obtain ⟨e1, e2, hrk⟩ := (hrs.below hbel).2 k (by omega)
      have hfk := hf k (by omega)
      have HTK : Hid (ls.take (k + 1) = ls.take k ++ [ls.getD k []]) := by
        show _ = _
        rw [List.take_succ_eq_append_getElem (by omega), List.getD_eq_getElem?_getD, List.getElem?_eq_getElem (by omega)]; rfl
      clear hcell
      unfold slV at hck
      generalize nthL l k = sl at *
      obtain ⟨sa, sn, scp⟩ := sl
      dsimp only at hck e1 e2 hrk
      generalize ls.getD k [] = d at *
      subst e1
      have HC := toByteS_any sa d.length scp d wr rfl hrk hfk.2
      have hgl : w.heap.size < wr.heap.size := (hown.lt w.heap.size rfl).2
      have hhl : (halfL ql n).length = n := halfL_len _ _ (by omega)
      go_wp2_with fail
      refine HC.mono ?_
      rintro e w1 ⟨rfl, ho1, hb1⟩
      have hg0 : w1.cell? ⟨w.heap.size, k, none⟩ = some (slV (nthL (halfL ql n) k)) := by
        rw [hb1.cell (p := ⟨w.heap.size, k, none⟩) hgl, hown.cellAt k (by omega)]
        exact lc_get (by omega)
      have hf0 : w1.frozen? ⟨w.heap.size, k, none⟩ = false := (hb1.frozen (p := ⟨w.heap.size, k, none⟩) hgl).trans (hown.frozenAt k)
      have hown1 : w1.ownsRow w.heap.size 24 1 (.slice (some ⟨w.heap.size, 0, none⟩) n n) n (lc (halfL ql n)) := by
        have h := (show OwnL wr w.heap.size (.slice (some ⟨w.heap.size, 0, none⟩) n n) (halfL ql n) by unfold OwnL; rw [hhl]; exact hown).below hb1 (Nat.le_refl _)
        unfold OwnL at h
        rw [hhl] at h
        exact h
      have hbel1 : Below w.heap.size w w1 := hbel.trans (hb1.mono hbel.size)
      have hgr1 : Gr w1 wr.heap.size (.slice (some ⟨wr.heap.size, 0, none⟩) d.length d.length) d ∨ d.length = 0 := by
        rcases Nat.eq_zero_or_pos d.length with h | h
        · exact .inr h
        · exact .inl (Gr.own (by unfold Own; exact ho1) h)
      have hrd1 : Rd w1 (some ⟨wr.heap.size, 0, none⟩) d := Rd.own ho1
      have hlt1 : wr.heap.size < w1.heap.size := (ho1.lt wr.heap.size rfl).2
      obtain ⟨hst, -⟩ := hown1.stored k (slV (some ⟨wr.heap.size, 0, none⟩, d.length, d.length))
      rw [← hqk, halfL_set ql n _ (by omega), hqk] at hst
      have HO : Hid (_) := hst
      have HB2 : Hid (Below w.heap.size w (w1.setCell ⟨w.heap.size, k, none⟩ (.slice (some ⟨wr.heap.size, 0, none⟩) d.length d.length))) := hbel1.setCell (by simp) _
      have HR2 : Hid (RdLs (w1.setCell ⟨w.heap.size, k, none⟩ (.slice (some ⟨wr.heap.size, 0, none⟩) d.length d.length)) (ql ++ [(some ⟨wr.heap.size, 0, none⟩, d.length, d.length)]) (ls.take (k + 1))) := by
        show RdLs _ _ _
        rw [HTK.out]
        refine RdLs.snoc ?_ _ _ rfl (Nat.le_refl _) (hrd1.setO (fun y hy => by cases hy; show wr.heap.size ≠ _; omega))
        refine ⟨hrd.1, fun i hi => ?_⟩
        obtain ⟨x1, x2, x3⟩ := (hrd.below hb1).2 i hi
        refine ⟨x1, x2, x3.setO (fun y hy => ?_)⟩
        obtain ⟨g', y1, y2, -⟩ := hwr i (by omega)
        rw [y1] at hy
        cases hy
        show g' ≠ _
        omega
      have HW2 : Hid (∀ i, i < k + 1 → WrS (w.heap.size + 1) (w1.setCell ⟨w.heap.size, k, none⟩ (.slice (some ⟨wr.heap.size, 0, none⟩) d.length d.length)).heap.size (w1.setCell ⟨w.heap.size, k, none⟩ (.slice (some ⟨wr.heap.size, 0, none⟩) d.length d.length)) (nthL (ql ++ [(some ⟨wr.heap.size, 0, none⟩, d.length, d.length)]) i)) := fun i hi => by
        rcases Nat.lt_or_ge i k with h | h
        · rw [nthL_left (by omega)]
          exact ((((hwr i h).below hb1).up (hi' := w1.heap.size) hb1.size).setO (by omega)).up (by simp)
        · obtain rfl : i = ql.length := by omega
          rw [nthL_last]
          refine (WrS.setO (hi := w1.heap.size) ⟨wr.heap.size, rfl, by omega, hlt1, hlt1, fun q hq => ?_⟩ (by omega)).up (by simp)
          dsimp only at hq
          rcases hgr1 with ⟨g', cp', e', -, -, -, -, -, -, hfr⟩ | h0
          · cases e'
            exact hfr q hq
          · omega
      clear hst hown1 hown hb1 HC hrd hwr hbel hrk hbel1 hgr1 ho1 hrd1 HTK
      unfold slV at hg0
      go_wp2
      go_roundw
      case rel => exact ⟨k + 1, _, by omega, by go_num, by simp [hqk], HO.out, HR2.out, HW2.out, HB2.out⟩
      case measure => simp [intOf]; omega
    · have hkk : k = n := by omega
      subst hkk
      have hki : ¬ (k : Int) < (k : Int) := by omega
      have HLT : Hid (w.heap.size < wr.heap.size) := (hown.lt w.heap.size rfl).2
      have HQK : Hid (ql.length = k) := hqk
      have HO : Hid (RdL wr (some ⟨w.heap.size, 0, none⟩) ql) := by
        have h := hown
        rw [← hqk, halfL_all] at h
        exact RdL.own (cap := ql.length) h
      have HR2 : Hid (RdLs wr ql ls) := by
        show RdLs _ _ _
        have h := hrd
        rw [← hlen, List.take_length] at h
        exact h
      have HW2 : Hid (_) := hwr
      clear hown hrd hwr hqk
      go_wp2
      go_ret
      exact ⟨rfl, ql, HQK.out, HLT.out, HO.out, HR2.out, HW2.out, hbel⟩

set_option maxHeartbeats 1600000 in
set_option maxRecDepth 100000 in
theorem eqByteSS_bs (a c : Option Addr) (n cap cap' : Nat) (l l' : List SlP) (ls : List (List Nat)) (w : World) (hl : l.length = n) (hl' : l'.length = n) (hr : RdL w a l) (hr' : RdL w c l') (hrs : RdLs w l ls) (hrs' : RdLs w l' ls) (hf : FitB ls) (hn : n ≤ 1048576) :
    Calls Try.prog 9 #[.slice a n cap, .slice c n cap'] w fun e w' => e = .returned (.bool true) ∧ Below w.heap.size w w' := by
  have hlen : ls.length = n := by rw [← hrs.1]; exact hl
  go_enter Try.func9, Try.ntmps9
  go_wp2
  go_loopw [5] (fun i wr => ∃ k : Nat, k ≤ n ∧ i = .int .i64 k ∧ Below w.heap.size w wr) (fun i _ => n - (intOf i).toNat)
  case atStart => exact ⟨0, Nat.zero_le _, rfl, Below.refl _ _⟩
  case round =>
    obtain ⟨k, hk, rfl, hbel⟩ := hrel
    by_cases hkn : k < n
    · have hki : (k : Int) < (n : Int) := by omega
      obtain ⟨b, off, rfl, hblt, hcell⟩ := (hr.below hbel).at_ (by omega)
      obtain ⟨q, off', rfl, hqlt, hcell'⟩ := (hr'.below hbel).at_ (by omega)
      have hc := hcell k (by omega)
      have hd := hcell' k (by omega)
      obtain ⟨e1, -, hrk⟩ := (hrs.below hbel).2 k (by omega)
      obtain ⟨e1', -, hrk'⟩ := (hrs'.below hbel).2 k (by omega)
      have hfk := hf k (by omega)
      clear hcell hcell' hr hr'
      unfold slV at hc hd
      generalize nthL l k = sl at *
      generalize nthL l' k = sl' at *
      obtain ⟨sa, sn, scp⟩ := sl
      obtain ⟨sa', sn', scp'⟩ := sl'
      dsimp only at hc hd e1 e1' hrk hrk'
      generalize ls.getD k [] = d at *
      subst e1 e1'
      go_wp2_with fail
      refine wp_region_held_drew (S := fun w' => w'.cell? ⟨b, off + k, none⟩ = some (.slice sa d.length scp) ∧ w'.cell? ⟨q, off' + k, none⟩ = some (.slice sa' d.length scp')) (by kernel_rfl) ?hS1 (fun hHeld => ?_)
      case hS1 => exact ⟨hc, hd⟩
      refine wpAnyH_take (i := 0) (v := ?_) rfl (by kernel_rfl) (by kernel_rfl) (by kernel_rfl) (fun _ _ _ h => h) (Or.inl ⟨by rfl, ?hy0⟩) (by assumption) ?ty0
      case hy0 => (intro w' hSw; (try dsimp only at hSw); obtain ⟨x0, x1⟩ := hSw; go_simp; all_goals with_reducible rfl)
      simp only [Act.put, List.getElem_toArray, List.getElem_cons_zero, List.setIfInBounds_toArray, List.set_cons_zero, List.set_cons_succ]
      refine wpAnyH_take (i := 1) (v := ?_) rfl (by kernel_rfl) (by kernel_rfl) (by kernel_rfl) (fun _ _ _ h => h) (Or.inl ⟨by rfl, ?hy1⟩) (by assumption) ?ty1
      case hy1 => (intro w' hSw; (try dsimp only at hSw); obtain ⟨x0, x1⟩ := hSw; go_simp; all_goals with_reducible rfl)
      simp only [Act.put, List.getElem_toArray, List.getElem_cons_zero, List.getElem_cons_succ, List.setIfInBounds_toArray, List.set_cons_zero, List.set_cons_succ]
      refine wpAnyH_take (i := 2) (v := ?_) rfl (by kernel_rfl) (by kernel_rfl) (by kernel_rfl) (fun _ _ _ h => h) (Or.inl ⟨by rfl, ?hy2⟩) (by assumption) ?ty2
      case hy2 => (intro w' hSw; (try dsimp only at hSw); obtain ⟨x0, x1⟩ := hSw; go_simp; all_goals with_reducible rfl)
      simp only [Act.put, List.getElem_toArray, List.getElem_cons_zero, List.getElem_cons_succ, List.setIfInBounds_toArray, List.set_cons_zero, List.set_cons_succ]
      refine wpAnyH_take (i := 3) (v := ?_) rfl (by kernel_rfl) (by kernel_rfl) (by kernel_rfl) (fun _ _ _ h => h) (Or.inl ⟨by rfl, ?hy3⟩) (by assumption) ?ty3
      case hy3 => (intro w' hSw; (try dsimp only at hSw); obtain ⟨x0, x1⟩ := hSw; go_simp; all_goals with_reducible rfl)
      simp only [Act.put, List.getElem_toArray, List.getElem_cons_zero, List.getElem_cons_succ, List.setIfInBounds_toArray, List.set_cons_zero, List.set_cons_succ]
      refine wpAnyH_take (i := 4) (v := ?_) rfl (by kernel_rfl) (by kernel_rfl) (by kernel_rfl) (fun _ _ _ h => h) (Or.inl ⟨by rfl, ?hy4⟩) (by assumption) ?ty4
      case hy4 => (intro w' hSw; (try dsimp only at hSw); obtain ⟨x0, x1⟩ := hSw; go_simp; all_goals with_reducible rfl)
      simp only [Act.put, List.getElem_toArray, List.getElem_cons_zero, List.getElem_cons_succ, List.setIfInBounds_toArray, List.set_cons_zero, List.set_cons_succ]
      refine wpAnyH_take (i := 5) (v := ?_) rfl (by kernel_rfl) (by kernel_rfl) (by kernel_rfl) (fun _ _ _ h => h) (Or.inl ⟨by rfl, ?hy5⟩) (by assumption) ?ty5
      case hy5 => (intro w' hSw; (try dsimp only at hSw); obtain ⟨x0, x1⟩ := hSw; go_simp; all_goals with_reducible rfl)
      simp only [Act.put, List.getElem_toArray, List.getElem_cons_zero, List.getElem_cons_succ, List.setIfInBounds_toArray, List.set_cons_zero, List.set_cons_succ]
      refine wpAnyH_take (i := 6) (v := ?_) rfl (by kernel_rfl) (by kernel_rfl) (by kernel_rfl) (fun _ _ _ h => h) (Or.inl ⟨by rfl, ?hy6⟩) (by assumption) ?ty6
      case hy6 => (intro w' hSw; (try dsimp only at hSw); obtain ⟨x0, x1⟩ := hSw; go_simp; all_goals with_reducible rfl)
      simp only [Act.put, List.getElem_toArray, List.getElem_cons_zero, List.getElem_cons_succ, List.setIfInBounds_toArray, List.set_cons_zero, List.set_cons_succ]
      refine wpAnyH_take (i := 7) (v := ?_) rfl (by kernel_rfl) (by kernel_rfl) (by kernel_rfl) (fun _ _ _ h => h) (Or.inl ⟨by rfl, ?hy7⟩) (by assumption) ?ty7
      case hy7 => (intro w' hSw; (try dsimp only at hSw); obtain ⟨x0, x1⟩ := hSw; go_simp; all_goals with_reducible rfl)
      simp only [Act.put, List.getElem_toArray, List.getElem_cons_zero, List.getElem_cons_succ, List.setIfInBounds_toArray, List.set_cons_zero, List.set_cons_succ]
      refine wpAnyH_ready (rs := [8]) (by kernel_rfl) (by simp) ?_
      refine AllReadyH.cons rfl (fun K hK => ?_) AllReadyH.nil
      go_simp
      refine (eqByteS_same sa sa' d.length scp scp' d _ rfl (hrk.below (Below.refl _ _).drew) (hrk'.below (Below.refl _ _).drew) hfk.2).mono ?_
      rintro e w1 ⟨rfl, hbx⟩
      have HW : Hid (Below wr.heap.size wr w1) := (Below.refl _ _).drew.trans hbx
      refine hK.out _ _ ⟨(HW.out.cell (p := ⟨b, off + k, none⟩) hblt).trans hc, (HW.out.cell (p := ⟨q, off' + k, none⟩) hqlt).trans hd⟩ (fun hHeld => ?_)
      clear hK K
      refine wpAnyH_take (i := 9) (v := ?_) rfl (by kernel_rfl) (by kernel_rfl) (by kernel_rfl) (fun _ _ _ h => h) (Or.inl ⟨by rfl, ?hy10⟩) (by assumption) ?ty10
      case hy10 => (intro w' hSw; (try dsimp only at hSw); go_simp; all_goals with_reducible rfl)
      simp only [Act.put, List.getElem_toArray, List.getElem_cons_zero, List.getElem_cons_succ, List.setIfInBounds_toArray, List.set_cons_zero, List.set_cons_succ]
      refine wpAnyH_done (by kernel_rfl) ?_ _
      have hbel2 := hbel.trans (HW.out.mono hbel.size)
      clear hHeld hbx HW
      go_wp2
      go_roundw
      case rel => exact ⟨k + 1, by omega, by go_num, hbel2⟩
      case measure => simp [intOf]; omega
    · have hki : ¬ (k : Int) < (n : Int) := by omega
      go_wp2
      go_ret
      exact ⟨rfl, hbel⟩

set_option maxHeartbeats 800000 in
set_option maxRecDepth 100000 in
theorem markBytesResult_mk (c : Int) (a : Option Addr) (g n cap : Nat) (w : World) (ha : n = 0 ∨ a = some ⟨g, 0, none⟩) (hgl : g < w.heap.size) (hW : ∀ i, i < n → (w.cell? ⟨g, i, none⟩).isSome = true ∧ w.frozen? ⟨g, i, none⟩ = false) (hn : n ≤ 1048576) :
    Calls Try.prog 11 #[.agg #[.int .i64 c, .slice a n cap], .int .i64 1] w fun e w' =>
      e = .returned (.int .i64 ((1 + n : Nat) : Int)) ∧ Below g w w' ∧ (∀ p : Addr, p.block < w.heap.size → p.block ≠ g → w'.cell? p = w.cell? p) ∧ Rd w' a (marks n 1) := by
  obtain ⟨W, hWW⟩ : ∃ W, w.alloc (.cells #[.int .i64 c, .slice a n cap] 26) = W := ⟨_, rfl⟩
  have hb0 : Below w.heap.size w W := by rw [← hWW]; exact (Below.refl _ _).alloc (Nat.le_refl _) _
  have x1 : W.cell? ⟨w.heap.size, 1, none⟩ = some (.slice a n cap) := by rw [← hWW]; simp
  have HC := markByteS_mk a g n cap 1 g (g + 1) W ha (Nat.le_refl _) (by omega) (fun i hi => ⟨by rw [hb0.cell (p := ⟨g, i, none⟩) hgl]; exact (hW i hi).1, (hb0.frozen (p := ⟨g, i, none⟩) hgl).trans (hW i hi).2⟩) hn (by omega)
  go_enter Try.func11, Try.ntmps11
  go_wp2_with fail
  refine HC.mono ?_
  rintro e w1 ⟨rfl, hm, hc⟩
  have HQ : Hid (Below g w w1 ∧ (∀ p : Addr, p.block < w.heap.size → p.block ≠ g → w1.cell? p = w.cell? p) ∧ Rd w1 a (marks n 1)) := by
    refine ⟨(hb0.mono (by omega)).trans hm.1, fun p hp hne => ?_, ?_⟩
    · rcases Nat.lt_or_ge p.block g with h | h
      · exact (hm.1.cell h).trans (hb0.cell hp)
      · exact (hm.2.1 p (by omega)).trans (hb0.cell hp)
    · rcases Nat.eq_zero_or_pos n with h0 | h0
      · left; subst h0; rfl
      · obtain rfl : a = some ⟨g, 0, none⟩ := ha.resolve_left (by omega)
        right
        refine ⟨g, 0, rfl, ?_, fun i hi => ?_⟩
        · have := hm.1.size
          have := hb0.size
          omega
        · rw [marks_len] at hi
          rw [Nat.zero_add, marks_nth hi]
          exact hc i hi
  clear HC hm hc hb0 hW
  go_wp2
  go_ret
  exact ⟨rfl, HQ.out⟩
end Go.Proofs.Ythphokjhonddcaa
