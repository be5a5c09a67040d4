/- What the model says of a store; no conditions beyond those that each fact names. -/
import Derived.Test.YtmidjgpegdodcaaDoorSxs
import Derived.Test.YtmidjgpegdodcaaDoorStd
import Derived.Test.YtmidjgpegdodcaaDoorYte
import Derived.Test.YtmidjgpegdodcaaDoorMemI
namespace Go.Proofs.YtmidjgpegdodcaaDoor
open Go.RowKit

/-- Numbers, a blank ahead of each. -/
def nuT (l : List Int) : List Nat := (l.map fun x => 32 :: d4 x).flatten
theorem nuT_len : ∀ l : List Int, (nuT l).length ≤ 5 * l.length
  | [] => by simp [nuT]
  | x :: r => by
    have h1 := d4_len x
    have h2 := nuT_len r
    unfold nuT at h2 ⊢
    rw [List.map_cons, List.flatten_cons, List.length_append]
    simp only [List.length_cons]; omega
theorem nuT_step {l : List Int} {k : Nat} (h : k < l.length) : nuT (l.take (k + 1)) = nuT (l.take k) ++ [32] ++ d4 (nthI l k) := by
  unfold nuT
  rw [nthI_get h, List.take_succ_eq_append_getElem h, List.map_append, List.flatten_append, List.map_cons, List.map_nil, List.flatten_cons, List.flatten_nil, List.append_nil, List.append_assoc]
  rfl
theorem mzT_nu (m : Msg) : mzT m = [109, 101, 115, 115, 97, 103, 101] ++ nuT [m.u, m.f, m.d, (m.b.length : Int)] ++ [10] := by
  simp [mzT, lnW, jnW, nuT]
theorem bzT_nu (b : Bx) : bzT b = ([98, 111, 120, 32] ++ txB b.n ++ nuT [b.v, b.x] ++ [10]) ++ (b.m.map mzT).flatten := by
  simp [bzT, lnW, jnW, nuT]

set_option maxHeartbeats 1600000 in
set_option maxRecDepth 100000 in
theorem l15Numbers_any (a : Option Addr) (n cap : Nat) (l : List Int) (w : World) (hl : l.length = n) (hr : RdI w a l) (hn : n ≤ 10) (h9 : ∀ x ∈ l, 0 ≤ x ∧ x ≤ 9999) :
    Calls Tryd.prog 21 #[.slice a n cap] w fun e w' => e = .returned (.string (str (nuT l))) ∧ Below w.heap.size w w' := by
  go_enter Tryd.func21, Tryd.ntmps21
  go_wp2
  go_loopw [3, 4] (fun q i wr => ∃ k : Nat, k ≤ n ∧ i = .int .i64 k ∧ q = .string (str (nuT (l.take k))) ∧ Below w.heap.size w wr) (fun _ i _ => n - (intOf i).toNat)
  case atStart => exact ⟨0, Nat.zero_le _, rfl, rfl, Below.refl _ _⟩
  case round =>
    obtain ⟨k, hk, rfl, rfl, hbel⟩ := hrel
    by_cases hkn : k < n
    · have hki : (k : Int) < (n : Int) := by omega
      obtain ⟨g, off, rfl, hglt, hcell⟩ := hr.at_ (by omega)
      have hc : wr.cell? ⟨g, off + k, none⟩ = some (.int .i64 (nthI l k)) := (hbel.cell (p := ⟨g, off + k, none⟩) hglt).trans (hcell k (by omega))
      have hx := h9 (nthI l k) (by rw [nthI_get (by omega)]; exact List.getElem_mem _)
      have HR : Hid (str (nuT (l.take k)) ++ ⟨#[32]⟩ ++ str (d4 (nthI l k)) = str (nuT (l.take (k + 1)))) := by
        show _ = _
        rw [show (⟨#[32]⟩ : ByteArray) = str [32] from rfl, str_plusX, str_plusX, nuT_step (by omega)]
      have hz1 : (str (nuT (l.take k))).size ≤ 50 := by
        rw [str_size]
        have := nuT_len (l.take k)
        rw [List.length_take] at this; omega
      have hz2 : (str (d4 (nthI l k))).size ≤ 4 := by rw [str_size]; exact d4_len _
      have hz3 : (str (nuT (l.take k)) ++ ⟨#[32]⟩).size ≤ 51 := by
        rw [show (⟨#[32]⟩ : ByteArray) = str [32] from rfl, str_plusX, str_size, List.length_append]
        rw [str_size] at hz1
        simp; omega
      obtain ⟨m, hm⟩ : ∃ m : Nat, nthI l k = (m : Int) := ⟨(nthI l k).toNat, by omega⟩
      have HD := l1Digits_any 3 m wr (by omega) (by omega)
      rw [show dgF 3 m = d4 (nthI l k) by rw [hm]; unfold d4; rw [Int.toNat_natCast], ← hm] at HD
      clear hcell hm hx
      generalize str (d4 (nthI l k)) = s2 at *
      generalize str (nuT (l.take k)) = s1 at *
      generalize nthI l k = x at *
      have hz4 : s1.size + 1 ≤ 51 := by omega
      go_wp2_with fail
      refine HD.mono ?_
      rintro e w1 ⟨rfl, hb1⟩
      have hbel1 := hbel.trans (hb1.mono hbel.size)
      clear hb1 HD hc
      go_wp2
      go_roundw
      case rel => exact ⟨k + 1, by omega, by go_num, by rw [← HR.out], hbel1⟩
      case measure => simp [intOf]; omega
    · have hki : ¬ (k : Int) < (n : Int) := by omega
      rw [List.take_of_length_le (by omega)]
      go_wp2
      go_ret
      exact ⟨rfl, hbel⟩

theorem rdI_new2 (w : World) (x y : Int) : RdI (w.alloc (.cells #[.int .i64 x, .int .i64 y] 2)) (some ⟨w.heap.size, 0, none⟩) [x, y] :=
  .inr ⟨_, 0, rfl, by simp, fun i hi => by
    have : i = 0 ∨ i = 1 := by simp at hi; omega
    rcases this with rfl | rfl <;> simp [nthI]⟩
theorem rdI_new4 (w : World) (x y z u : Int) : RdI (w.alloc (.cells #[.int .i64 x, .int .i64 y, .int .i64 z, .int .i64 u] 2)) (some ⟨w.heap.size, 0, none⟩) [x, y, z, u] :=
  .inr ⟨_, 0, rfl, by simp, fun i hi => by
    have : i = 0 ∨ i = 1 ∨ i = 2 ∨ i = 3 := by simp at hi; omega
    rcases this with rfl | rfl | rfl | rfl <;> simp [nthI]⟩
theorem bzT_ne (b : Bx) : bzT b ≠ [] := by rw [bzT_nu]; simp
theorem str_nilS {t : List Nat} (h : t ≠ []) : (str t).toList.isEmpty = false := by
  rw [ByteArray.toList_eq]
  cases t with
  | nil => exact absurd rfl h
  | cons x r => rfl

set_option maxHeartbeats 6400000 in
set_option maxRecDepth 100000 in
theorem l16Store_any (v : Int) (s : SlQ) (l : List Bx) (g0 : Nat) {lo : Nat} (w : World) (hs : IsXs lo w s l) (h3 : l.length ≤ 3) (hbx : ∀ b ∈ l, bfV b = 0) (hD : Dc w g0 (.int .i64 v, slW s)) :
    Calls Tryd.prog 12 #[.pointer (some ⟨g0, 0, none⟩)] w fun e w' => e = .returned (.string (str (szT l))) ∧ Below w.heap.size w w' := by
  have HZ : Hid (szT l = if l.length = 0 then [110, 111, 110, 101, 10] else (l.map bzT).flatten) := rfl
  have hall := bzs_len l fun b hb => by
    obtain ⟨q1, _, _, q4, _⟩ := bfV_okX (hbx b hb)
    exact bzT_len _ q1 q4
  obtain ⟨a, n, cap⟩ := s
  dsimp only [slW] at *
  obtain ⟨hl, hnc, hcm, hr⟩ := hs
  dsimp only at hl hnc hcm hr
  rw [hl] at HZ
  obtain ⟨c0, c1⟩ := id hD
  dsimp only at c0 c1
  generalize szT l = Z at *
  go_enter Tryd.func12, Tryd.ntmps12
  go_wp2
  go_loopw [3, 4] (fun q j wr => ∃ i : Nat, i ≤ n ∧ j = .int .i64 i ∧ q = .string (str ((l.take i).map bzT).flatten) ∧ Below w.heap.size w wr) (fun _ j _ => n - (intOf j).toNat)
  case atStart => exact ⟨0, Nat.zero_le _, rfl, rfl, Below.refl _ _⟩
  case round =>
    obtain ⟨i, hi, rfl, rfl, hbel⟩ := hrel
    clear c0 c1
    obtain ⟨c0, c1⟩ := hD.below hbel hD.lt
    dsimp only at c0 c1
    by_cases hin : i < n
    · have hii : (i : Int) < (n : Int) := by omega
      obtain ⟨g, off, rfl, -, hglt, hcell⟩ := (hr.below hbel).at_ (by omega)
      obtain ⟨⟨qa, qn, qc⟩, ⟨d0, d1, d2, d3⟩, hI⟩ := hcell i (by omega)
      have hmem : nthX l i ∈ l := by rw [nthX_get (by omega)]; exact List.getElem_mem _
      have HST : Hid (((l.take (i + 1)).map bzT).flatten = ((l.take i).map bzT).flatten ++ bzT (nthX l i)) := by
        show _ = _
        rw [nthX_get (by omega), List.take_succ_eq_append_getElem (by omega), List.map_append, List.flatten_append, List.map_cons, List.map_nil, List.flatten_cons, List.flatten_nil, List.append_nil]
      obtain ⟨hnl, hv9, hx9, hm6, hms⟩ := bfV_okX (hbx _ hmem)
      have hlen : (((l.take i).map bzT).flatten).length ≤ 600 := by
        have := bzs_len (l.take i) fun b hb => by
          obtain ⟨q1, _, _, q4, _⟩ := bfV_okX (hbx b (List.mem_of_mem_take hb))
          exact bzT_len _ q1 q4
        rw [List.length_take] at this; omega
      have HBZ := bzT_nu (nthX l i)
      obtain ⟨hIl, hIc, hIm, hIr⟩ := hI
      dsimp only at hIl hIc hIm hIr
      clear hcell hmem
      generalize ((l.take i).map bzT).flatten = t0 at *
      generalize nthX l i = y at *
      obtain ⟨nm, xv, xx, ms⟩ := y
      dsimp only [slW] at d0 d1 d2 d3 HBZ hnl hv9 hx9 hm6 hms hIl hIr
      have HB : Hid (_) := HBZ
      have HN2 : Hid (∀ x ∈ [xv, xx], 0 ≤ x ∧ x ≤ 9999) := fun x hx => by
        simp only [List.mem_cons, List.not_mem_nil, or_false] at hx
        rcases hx with rfl | rfl
        · exact hv9
        · exact hx9
      have hnu := nuT_len [xv, xx]
      have hT1 : str t0 ++ (⟨#[98, 111, 120, 32]⟩ : ByteArray) ++ nm ++ str (nuT [xv, xx]) ++ ⟨#[10]⟩ = str (t0 ++ ([98, 111, 120, 32] ++ txB nm ++ nuT [xv, xx] ++ [10])) := by
        obtain ⟨tb, e, hB⟩ := str_surj nm
        rw [e, txB_str hB, show (⟨#[98, 111, 120, 32]⟩ : ByteArray) = str [98, 111, 120, 32] from rfl, show (⟨#[10]⟩ : ByteArray) = str [10] from rfl, str_plusX, str_plusX, str_plusX, str_plusX]
        simp
      have HL1 : Hid ((t0 ++ ([98, 111, 120, 32] ++ txB nm ++ nuT [xv, xx] ++ [10])).length ≤ 640) := by
        show _ ≤ _
        simp at hnu ⊢
        omega
      have HT1 : Hid (_) := hT1
      have hz0 : (str t0).size ≤ 600 := by rw [str_size]; exact hlen
      have hz1 : (str t0 ++ (⟨#[98, 111, 120, 32]⟩ : ByteArray)).size ≤ 604 := by
        rw [show (⟨#[98, 111, 120, 32]⟩ : ByteArray) = str [98, 111, 120, 32] from rfl, str_plusX, str_size]
        simp; omega
      have hzn : nm.size ≤ 8 := by rw [← str_txB nm, str_size]; exact hnl
      have hz2 : (str t0 ++ (⟨#[98, 111, 120, 32]⟩ : ByteArray) ++ nm).size ≤ 612 := by
        rw [ByteArray.size_append]; omega
      have hzu : (str (nuT [xv, xx])).size ≤ 10 := by rw [str_size]; simpa using hnu
      have hz3 : (str t0 ++ (⟨#[98, 111, 120, 32]⟩ : ByteArray) ++ nm ++ str (nuT [xv, xx])).size ≤ 622 := by
        rw [ByteArray.size_append]; omega
      have hS0 : wr.cell? ⟨g, off + i * 4, none⟩ = some (.string nm) ∧ wr.cell? ⟨g, off + i * 4 + 1, none⟩ = some (.int .i64 xv) ∧ wr.cell? ⟨g, off + i * 4 + 2, none⟩ = some (.int .i64 xx) ∧ wr.cell? ⟨g, off + i * 4 + 3, none⟩ = some (.slice qa qn qc) := ⟨d0, d1, d2, d3⟩
      have HSB : Hid (∀ w', Below wr.heap.size wr w' → w'.cell? ⟨g, off + i * 4, none⟩ = some (.string nm) ∧ w'.cell? ⟨g, off + i * 4 + 1, none⟩ = some (.int .i64 xv) ∧ w'.cell? ⟨g, off + i * 4 + 2, none⟩ = some (.int .i64 xx) ∧ w'.cell? ⟨g, off + i * 4 + 3, none⟩ = some (.slice qa qn qc)) := fun w' h =>
        ⟨(h.cell (p := ⟨g, off + i * 4, none⟩) hglt).trans d0, (h.cell (p := ⟨g, off + i * 4 + 1, none⟩) hglt).trans d1, (h.cell (p := ⟨g, off + i * 4 + 2, none⟩) hglt).trans d2, (h.cell (p := ⟨g, off + i * 4 + 3, none⟩) hglt).trans d3⟩
      clear hT1 HBZ hnu hv9 hx9 hnl
      go_wp2_with fail
      refine wp_region_held_drew (S := fun w' => w'.cell? ⟨g, off + i * 4, none⟩ = some (.string nm) ∧ w'.cell? ⟨g, off + i * 4 + 1, none⟩ = some (.int .i64 xv) ∧ w'.cell? ⟨g, off + i * 4 + 2, none⟩ = some (.int .i64 xx) ∧ w'.cell? ⟨g, off + i * 4 + 3, none⟩ = some (.slice qa qn qc)) (by kernel_rfl) ?hS1 (fun hHeld => ?_)
      case hS1 => exact hS0
      refine wpAnyH_take (i := 0) (v := ?_) rfl (by kernel_rfl) (by kernel_rfl) (by kernel_rfl) (fun _ _ _ h => h) (Or.inl ⟨by rfl, ?hy2⟩) (by assumption) ?ty2
      case hy2 => (intro w5 hSw; obtain ⟨p0, p1, p2, p3⟩ := hSw; go_simp; all_goals with_reducible rfl)
      simp only [Act.put, List.getElem_toArray, List.getElem_cons_zero, List.setIfInBounds_toArray, List.set_cons_zero, List.set_cons_succ]
      refine wpAnyH_take (i := 1) (v := ?_) rfl (by kernel_rfl) (by kernel_rfl) (by kernel_rfl) (fun _ _ _ h => h) (Or.inl ⟨by rfl, ?hy3⟩) (by assumption) ?ty3
      case hy3 => (intro w5 hSw; go_simp; all_goals first | (rw [if_neg (by omega)]) | with_reducible rfl)
      simp only [Act.put, List.getElem_toArray, List.getElem_cons_zero, List.getElem_cons_succ, List.setIfInBounds_toArray, List.set_cons_zero, List.set_cons_succ]
      refine wpAnyH_take (i := 2) (v := ?_) rfl (by kernel_rfl) (by kernel_rfl) (by kernel_rfl) (fun _ _ _ h => h) (Or.inl ⟨by rfl, ?hy4⟩) (by assumption) ?ty4
      case hy4 => (intro w5 hSw; obtain ⟨p0, p1, p2, p3⟩ := hSw; go_simp; all_goals with_reducible rfl)
      simp only [Act.put, List.getElem_toArray, List.getElem_cons_zero, List.getElem_cons_succ, List.setIfInBounds_toArray, List.set_cons_zero, List.set_cons_succ]
      refine wpAnyH_take (i := 3) (v := ?_) rfl (by kernel_rfl) (by kernel_rfl) (by kernel_rfl) (fun _ _ _ h => h) (Or.inl ⟨by rfl, ?hy5⟩) (by assumption) ?ty5
      case hy5 => (intro w5 hSw; obtain ⟨p0, p1, p2, p3⟩ := hSw; go_simp; all_goals with_reducible rfl)
      simp only [Act.put, List.getElem_toArray, List.getElem_cons_zero, List.getElem_cons_succ, List.setIfInBounds_toArray, List.set_cons_zero, List.set_cons_succ]
      refine wpAnyH_take (i := 4) (v := ?_) rfl (by kernel_rfl) (by kernel_rfl) (by kernel_rfl) (fun _ _ _ h => h) (Or.inl ⟨by rfl, ?hy6⟩) (by assumption) ?ty6
      case hy6 => (intro w5 hSw; obtain ⟨p0, p1, p2, p3⟩ := hSw; go_simp; all_goals with_reducible rfl)
      simp only [Act.put, List.getElem_toArray, List.getElem_cons_zero, List.getElem_cons_succ, List.setIfInBounds_toArray, List.set_cons_zero, List.set_cons_succ]
      refine wpAnyH_take (i := 5) (v := ?_) rfl (by kernel_rfl) (by kernel_rfl) (by kernel_rfl) (fun _ _ _ h => h) (Or.inl ⟨by rfl, ?hy7⟩) (by assumption) ?ty7
      case hy7 => (intro w5 hSw; obtain ⟨p0, p1, p2, p3⟩ := hSw; go_simp; all_goals with_reducible rfl)
      simp only [Act.put, List.getElem_toArray, List.getElem_cons_zero, List.getElem_cons_succ, List.setIfInBounds_toArray, List.set_cons_zero, List.set_cons_succ]
      refine wpAnyH_take (i := 6) (v := ?_) rfl (by kernel_rfl) (by kernel_rfl) (by kernel_rfl) (fun _ _ _ h => h) (Or.inl ⟨by rfl, ?hy8⟩) (by assumption) ?ty8
      case hy8 => (intro w5 hSw; go_simp; all_goals first | (rw [if_neg (by omega)]) | with_reducible rfl)
      simp only [Act.put, List.getElem_toArray, List.getElem_cons_zero, List.getElem_cons_succ, List.setIfInBounds_toArray, List.set_cons_zero, List.set_cons_succ]
      refine wpAnyH_take (i := 7) (v := ?_) rfl (by kernel_rfl) (by kernel_rfl) (by kernel_rfl) (fun _ _ _ h => h) (Or.inl ⟨by rfl, ?hy9⟩) (by assumption) ?ty9
      case hy9 => (intro w5 hSw; obtain ⟨p0, p1, p2, p3⟩ := hSw; go_simp; all_goals with_reducible rfl)
      simp only [Act.put, List.getElem_toArray, List.getElem_cons_zero, List.getElem_cons_succ, List.setIfInBounds_toArray, List.set_cons_zero, List.set_cons_succ]
      refine wpAnyH_take (i := 8) (v := ?_) rfl (by kernel_rfl) (by kernel_rfl) (by kernel_rfl) (fun _ _ _ h => h) (Or.inl ⟨by rfl, ?hy10⟩) (by assumption) ?ty10
      case hy10 => (intro w5 hSw; obtain ⟨p0, p1, p2, p3⟩ := hSw; go_simp; all_goals with_reducible rfl)
      simp only [Act.put, List.getElem_toArray, List.getElem_cons_zero, List.getElem_cons_succ, List.setIfInBounds_toArray, List.set_cons_zero, List.set_cons_succ]
      refine wpAnyH_take (i := 9) (v := ?_) rfl (by kernel_rfl) (by kernel_rfl) (by kernel_rfl) (fun _ _ _ h => h) (Or.inl ⟨by rfl, ?hy11⟩) (by assumption) ?ty11
      case hy11 => (intro w5 hSw; obtain ⟨p0, p1, p2, p3⟩ := hSw; go_simp; all_goals with_reducible rfl)
      simp only [Act.put, List.getElem_toArray, List.getElem_cons_zero, List.getElem_cons_succ, List.setIfInBounds_toArray, List.set_cons_zero, List.set_cons_succ]
      refine wpAnyH_take (i := 10) (v := ?_) rfl (by kernel_rfl) (by kernel_rfl) (by kernel_rfl) (fun _ _ _ h => h) (Or.inl ⟨by rfl, ?hy12⟩) (by assumption) ?ty12
      case hy12 => (intro w5 hSw; obtain ⟨p0, p1, p2, p3⟩ := hSw; go_simp; all_goals with_reducible rfl)
      simp only [Act.put, List.getElem_toArray, List.getElem_cons_zero, List.getElem_cons_succ, List.setIfInBounds_toArray, List.set_cons_zero, List.set_cons_succ]
      refine wpAnyH_take (i := 11) (v := ?_) rfl (by kernel_rfl) (by kernel_rfl) (by kernel_rfl) (fun _ _ _ h => h) (Or.inl ⟨by rfl, ?hy13⟩) (by assumption) ?ty13
      case hy13 => (intro w5 hSw; obtain ⟨p0, p1, p2, p3⟩ := hSw; go_simp; all_goals with_reducible rfl)
      simp only [Act.put, List.getElem_toArray, List.getElem_cons_zero, List.getElem_cons_succ, List.setIfInBounds_toArray, List.set_cons_zero, List.set_cons_succ]
      refine wpAnyH_take (i := 12) (v := ?_) rfl (by kernel_rfl) (by kernel_rfl) (by kernel_rfl) (fun _ _ _ h => h) (Or.inl ⟨by rfl, ?hy14⟩) (by assumption) ?ty14
      case hy14 => (intro w5 hSw; obtain ⟨p0, p1, p2, p3⟩ := hSw; go_simp; all_goals with_reducible rfl)
      simp only [Act.put, List.getElem_toArray, List.getElem_cons_zero, List.getElem_cons_succ, List.setIfInBounds_toArray, List.set_cons_zero, List.set_cons_succ]
      refine wpAnyH_take (i := 13) (v := ?_) rfl (by kernel_rfl) (by kernel_rfl) (by kernel_rfl) (fun _ _ _ h => h) (Or.inl ⟨by rfl, ?hy15⟩) (by assumption) ?ty15
      case hy15 => (intro w5 hSw; obtain ⟨p0, p1, p2, p3⟩ := hSw; go_simp; all_goals with_reducible rfl)
      simp only [Act.put, List.getElem_toArray, List.getElem_cons_zero, List.getElem_cons_succ, List.setIfInBounds_toArray, List.set_cons_zero, List.set_cons_succ]
      refine wpAnyH_take (i := 14) (v := ?_) rfl (by kernel_rfl) (by kernel_rfl) (by kernel_rfl) (fun _ _ _ h => h) (Or.inl ⟨by rfl, ?hy16⟩) (by assumption) ?ty16
      case hy16 => (intro w5 hSw; obtain ⟨p0, p1, p2, p3⟩ := hSw; go_simp; all_goals with_reducible rfl)
      simp only [Act.put, List.getElem_toArray, List.getElem_cons_zero, List.getElem_cons_succ, List.setIfInBounds_toArray, List.set_cons_zero, List.set_cons_succ]
      refine wpAnyH_ready (rs := [15]) (by kernel_rfl) (by simp) ?_
      refine AllReadyH.cons rfl (fun K hK => ?_) AllReadyH.nil
      go_simp
      have K1 : Below wr.heap.size wr (wr.drew.alloc (.cells #[.int .i64 xv, .int .i64 xx] 2)) := ((Below.refl _ _).drew).alloc (by simp) _
      have hS1 := HSB.out _ K1
      refine hK.out _ _ hS1 (fun hHeld => ?_)
      clear hK K
      refine wpAnyH_ready (rs := [16]) (by kernel_rfl) (by simp) ?_
      refine AllReadyH.cons rfl (fun K hK => ?_) AllReadyH.nil
      go_simp
      refine (l15Numbers_any _ 2 2 [xv, xx] _ rfl (rdI_new2 wr.drew xv xx) (by omega) HN2.out).mono ?_
      rintro e w1 ⟨rfl, hb1⟩
      have K2 : Below wr.heap.size wr w1 := K1.trans (hb1.mono K1.size)
      have hS2 := HSB.out _ K2
      refine hK.out _ _ hS2 (fun hHeld => ?_)
      clear hK K
      refine wpAnyH_take (i := 17) (v := ?_) rfl (by kernel_rfl) (by kernel_rfl) (by kernel_rfl) (fun _ _ _ h => h) (Or.inl ⟨by rfl, ?hy17⟩) (by assumption) ?ty17
      case hy17 => (intro w5 hSw; go_simp; all_goals first | (rw [if_neg (by omega)]) | with_reducible rfl)
      simp only [Act.put, List.getElem_toArray, List.getElem_cons_zero, List.getElem_cons_succ, List.setIfInBounds_toArray, List.set_cons_zero, List.set_cons_succ]
      refine wpAnyH_take (i := 18) (v := ?_) rfl (by kernel_rfl) (by kernel_rfl) (by kernel_rfl) (fun _ _ _ h => h) (Or.inl ⟨by rfl, ?hy18⟩) (by assumption) ?ty18
      case hy18 => (intro w5 hSw; go_simp; all_goals first | (rw [if_neg (by omega)]) | with_reducible rfl)
      simp only [Act.put, List.getElem_toArray, List.getElem_cons_zero, List.getElem_cons_succ, List.setIfInBounds_toArray, List.set_cons_zero, List.set_cons_succ]
      refine wpAnyH_take (i := 19) (v := ?_) rfl (by kernel_rfl) (by kernel_rfl) (by kernel_rfl) (fun _ _ _ h => h) (Or.inl ⟨by rfl, ?hy19⟩) (by assumption) ?ty19
      case hy19 => (intro w5 hSw; obtain ⟨p0, p1, p2, p3⟩ := hSw; go_simp; all_goals with_reducible rfl)
      simp only [Act.put, List.getElem_toArray, List.getElem_cons_zero, List.getElem_cons_succ, List.setIfInBounds_toArray, List.set_cons_zero, List.set_cons_succ]
      refine wpAnyH_done (by kernel_rfl) ?_ _
      clear hHeld hS1 hS2 hb1 K1 HN2
      rw [HT1.out]
      have hbel1 := hbel.trans (K2.mono hbel.size)
      have hr1 := hIr.below K2
      have HD1 : Hid (∀ w', Below w1.heap.size w1 w' → w'.cell? ⟨g, off + i * 4 + 3, none⟩ = some (.slice qa qn qc)) := fun w' h => (HSB.out w' (K2.trans (h.mono K2.size))).2.2.2
      clear HSB K2 hS0 HT1 hz0 hz1 hz2 hz3 hzu hzn hIr c0 c1 d0 d1 d2 d3
      have hl1 : (t0 ++ ([98, 111, 120, 32] ++ txB nm ++ nuT [xv, xx] ++ [10])).length ≤ 640 := HL1.out
      obtain ⟨t1, ht1⟩ : ∃ t1, t1 = t0 ++ ([98, 111, 120, 32] ++ txB nm ++ nuT [xv, xx] ++ [10]) := ⟨_, rfl⟩
      rw [← ht1] at hl1 ⊢
      have HTE : Hid (t1 = t0 ++ ([98, 111, 120, 32] ++ txB nm ++ nuT [xv, xx] ++ [10])) := ht1
      clear ht1 HL1
      have d3 := HD1.out w1 (Below.refl _ _)
      go_wp2
      go_loopw [3, 6] (fun q j wx => ∃ k : Nat, k ≤ qn ∧ j = .int .i64 k ∧ q = .string (str (t1 ++ ((ms.take k).map mzT).flatten)) ∧ Below w1.heap.size w1 wx) (fun _ j _ => qn - (intOf j).toNat)
      case atStart => exact ⟨0, Nat.zero_le _, rfl, by simp, Below.refl _ _⟩
      case round =>
        obtain ⟨k, hk, rfl, rfl, hbel2⟩ := hrel
        clear d3
        have d3 := HD1.out wr hbel2
        by_cases hkn : k < qn
        · have hki : (k : Int) < (qn : Int) := by omega
          obtain ⟨g2, off2, rfl, -, hglt2, hcell⟩ := (hr1.below hbel2).at_ (by omega)
          obtain ⟨⟨ya, yn, yc⟩, ⟨e0, e1, e2, e3⟩, hI2⟩ := hcell k (by omega)
          have HST3 : Hid (((ms.take (k + 1)).map mzT).flatten = ((ms.take k).map mzT).flatten ++ mzT (nthM ms k)) := by
            show _ = _
            rw [nthM_get (by omega), List.take_succ_eq_append_getElem (by omega), List.map_append, List.flatten_append, List.map_cons, List.map_nil, List.flatten_cons, List.flatten_nil, List.append_nil]
          have hy := mfV_okX (hms (nthM ms k) (by rw [nthM_get (by omega)]; exact List.getElem_mem _))
          have hlen2 : (t1 ++ ((ms.take k).map mzT).flatten).length ≤ 900 := by
            have h2 := mzs_len (ms.take k)
            rw [List.length_take] at h2
            rw [List.length_append]; omega
          have hyn := hI2.1
          have HMZ := mzT_nu (nthM ms k)
          clear hcell hI2
          have HST4 : Hid (t1 ++ ((ms.take (k + 1)).map mzT).flatten = (t1 ++ ((ms.take k).map mzT).flatten) ++ mzT (nthM ms k)) := by show _ = _; rw [HST3.out, List.append_assoc]
          clear HST3
          generalize t1 ++ ((ms.take k).map mzT).flatten = t2 at *
          generalize nthM ms k = y at *
          obtain ⟨yu, yf, yd, yb⟩ := y
          dsimp only [slW] at e0 e1 e2 e3 HMZ HST4 hy hyn
          rw [hyn] at HMZ
          have HB2 : Hid (_) := HMZ
          have HN4 : Hid (∀ x ∈ [yu, yf, yd, (yn : Int)], 0 ≤ x ∧ x ≤ 9999) := fun x hx => by
            simp only [List.mem_cons, List.not_mem_nil, or_false] at hx
            rcases hx with rfl | rfl | rfl | rfl
            · exact hy.1
            · exact hy.2.1
            · exact hy.2.2.1
            · have := hy.2.2.2; omega
          have hnu := nuT_len [yu, yf, yd, (yn : Int)]
          have HT2 : Hid (str t2 ++ (⟨#[109, 101, 115, 115, 97, 103, 101]⟩ : ByteArray) ++ str (nuT [yu, yf, yd, (yn : Int)]) ++ ⟨#[10]⟩ = str (t1 ++ ((ms.take (k + 1)).map mzT).flatten)) := by
            show _ = _
            rw [HST4.out, HB2.out, show (⟨#[109, 101, 115, 115, 97, 103, 101]⟩ : ByteArray) = str [109, 101, 115, 115, 97, 103, 101] from rfl, show (⟨#[10]⟩ : ByteArray) = str [10] from rfl, str_plusX, str_plusX, str_plusX]
            simp
          have hz0 : (str t2).size ≤ 900 := by rw [str_size]; exact hlen2
          have hz1 : (str t2 ++ (⟨#[109, 101, 115, 115, 97, 103, 101]⟩ : ByteArray)).size ≤ 907 := by
            rw [show (⟨#[109, 101, 115, 115, 97, 103, 101]⟩ : ByteArray) = str [109, 101, 115, 115, 97, 103, 101] from rfl, str_plusX, str_size]
            simp; omega
          have hzu : (str (nuT [yu, yf, yd, (yn : Int)])).size ≤ 20 := by rw [str_size]; simpa using hnu
          have hz3 : (str t2 ++ (⟨#[109, 101, 115, 115, 97, 103, 101]⟩ : ByteArray) ++ str (nuT [yu, yf, yd, (yn : Int)])).size ≤ 927 := by
            rw [ByteArray.size_append]; omega
          have hS0 : wr.cell? ⟨g2, off2 + k * 4, none⟩ = some (.int .i64 yu) ∧ wr.cell? ⟨g2, off2 + k * 4 + 1, none⟩ = some (.int .i64 yf) ∧ wr.cell? ⟨g2, off2 + k * 4 + 2, none⟩ = some (.int .i64 yd) ∧ wr.cell? ⟨g2, off2 + k * 4 + 3, none⟩ = some (.slice ya yn yc) := ⟨e0, e1, e2, e3⟩
          have HSB : Hid (∀ w', Below wr.heap.size wr w' → w'.cell? ⟨g2, off2 + k * 4, none⟩ = some (.int .i64 yu) ∧ w'.cell? ⟨g2, off2 + k * 4 + 1, none⟩ = some (.int .i64 yf) ∧ w'.cell? ⟨g2, off2 + k * 4 + 2, none⟩ = some (.int .i64 yd) ∧ w'.cell? ⟨g2, off2 + k * 4 + 3, none⟩ = some (.slice ya yn yc)) := fun w' h =>
            ⟨(h.cell (p := ⟨g2, off2 + k * 4, none⟩) hglt2).trans e0, (h.cell (p := ⟨g2, off2 + k * 4 + 1, none⟩) hglt2).trans e1, (h.cell (p := ⟨g2, off2 + k * 4 + 2, none⟩) hglt2).trans e2, (h.cell (p := ⟨g2, off2 + k * 4 + 3, none⟩) hglt2).trans e3⟩
          clear HB2 HMZ HST4 hnu hy hlen2 e0 e1 e2 e3
          go_wp2_with fail
          refine wp_region_held_drew (S := fun w' => w'.cell? ⟨g2, off2 + k * 4, none⟩ = some (.int .i64 yu) ∧ w'.cell? ⟨g2, off2 + k * 4 + 1, none⟩ = some (.int .i64 yf) ∧ w'.cell? ⟨g2, off2 + k * 4 + 2, none⟩ = some (.int .i64 yd) ∧ w'.cell? ⟨g2, off2 + k * 4 + 3, none⟩ = some (.slice ya yn yc)) (by kernel_rfl) ?hS20 (fun hHeld => ?_)
          case hS20 => exact hS0
          refine wpAnyH_take (i := 0) (v := ?_) rfl (by kernel_rfl) (by kernel_rfl) (by kernel_rfl) (fun _ _ _ h => h) (Or.inl ⟨by rfl, ?hy21⟩) (by assumption) ?ty21
          case hy21 => (intro w5 hSw; obtain ⟨p0, p1, p2, p3⟩ := hSw; go_simp; all_goals with_reducible rfl)
          simp only [Act.put, List.getElem_toArray, List.getElem_cons_zero, List.setIfInBounds_toArray, List.set_cons_zero, List.set_cons_succ]
          refine wpAnyH_take (i := 1) (v := ?_) rfl (by kernel_rfl) (by kernel_rfl) (by kernel_rfl) (fun _ _ _ h => h) (Or.inl ⟨by rfl, ?hy22⟩) (by assumption) ?ty22
          case hy22 => (intro w5 hSw; go_simp; all_goals first | (rw [if_neg (by omega)]) | with_reducible rfl)
          simp only [Act.put, List.getElem_toArray, List.getElem_cons_zero, List.getElem_cons_succ, List.setIfInBounds_toArray, List.set_cons_zero, List.set_cons_succ]
          refine wpAnyH_take (i := 2) (v := ?_) rfl (by kernel_rfl) (by kernel_rfl) (by kernel_rfl) (fun _ _ _ h => h) (Or.inl ⟨by rfl, ?hy23⟩) (by assumption) ?ty23
          case hy23 => (intro w5 hSw; obtain ⟨p0, p1, p2, p3⟩ := hSw; go_simp; all_goals with_reducible rfl)
          simp only [Act.put, List.getElem_toArray, List.getElem_cons_zero, List.getElem_cons_succ, List.setIfInBounds_toArray, List.set_cons_zero, List.set_cons_succ]
          refine wpAnyH_take (i := 3) (v := ?_) rfl (by kernel_rfl) (by kernel_rfl) (by kernel_rfl) (fun _ _ _ h => h) (Or.inl ⟨by rfl, ?hy24⟩) (by assumption) ?ty24
          case hy24 => (intro w5 hSw; obtain ⟨p0, p1, p2, p3⟩ := hSw; go_simp; all_goals with_reducible rfl)
          simp only [Act.put, List.getElem_toArray, List.getElem_cons_zero, List.getElem_cons_succ, List.setIfInBounds_toArray, List.set_cons_zero, List.set_cons_succ]
          refine wpAnyH_take (i := 4) (v := ?_) rfl (by kernel_rfl) (by kernel_rfl) (by kernel_rfl) (fun _ _ _ h => h) (Or.inl ⟨by rfl, ?hy25⟩) (by assumption) ?ty25
          case hy25 => (intro w5 hSw; obtain ⟨p0, p1, p2, p3⟩ := hSw; go_simp; all_goals with_reducible rfl)
          simp only [Act.put, List.getElem_toArray, List.getElem_cons_zero, List.getElem_cons_succ, List.setIfInBounds_toArray, List.set_cons_zero, List.set_cons_succ]
          refine wpAnyH_take (i := 5) (v := ?_) rfl (by kernel_rfl) (by kernel_rfl) (by kernel_rfl) (fun _ _ _ h => h) (Or.inl ⟨by rfl, ?hy26⟩) (by assumption) ?ty26
          case hy26 => (intro w5 hSw; obtain ⟨p0, p1, p2, p3⟩ := hSw; go_simp; all_goals with_reducible rfl)
          simp only [Act.put, List.getElem_toArray, List.getElem_cons_zero, List.getElem_cons_succ, List.setIfInBounds_toArray, List.set_cons_zero, List.set_cons_succ]
          refine wpAnyH_take (i := 6) (v := ?_) rfl (by kernel_rfl) (by kernel_rfl) (by kernel_rfl) (fun _ _ _ h => h) (Or.inl ⟨by rfl, ?hy27⟩) (by assumption) ?ty27
          case hy27 => (intro w5 hSw; obtain ⟨p0, p1, p2, p3⟩ := hSw; go_simp; all_goals with_reducible rfl)
          simp only [Act.put, List.getElem_toArray, List.getElem_cons_zero, List.getElem_cons_succ, List.setIfInBounds_toArray, List.set_cons_zero, List.set_cons_succ]
          refine wpAnyH_take (i := 7) (v := ?_) rfl (by kernel_rfl) (by kernel_rfl) (by kernel_rfl) (fun _ _ _ h => h) (Or.inl ⟨by rfl, ?hy28⟩) (by assumption) ?ty28
          case hy28 => (intro w5 hSw; obtain ⟨p0, p1, p2, p3⟩ := hSw; go_simp; all_goals with_reducible rfl)
          simp only [Act.put, List.getElem_toArray, List.getElem_cons_zero, List.getElem_cons_succ, List.setIfInBounds_toArray, List.set_cons_zero, List.set_cons_succ]
          refine wpAnyH_take (i := 8) (v := ?_) rfl (by kernel_rfl) (by kernel_rfl) (by kernel_rfl) (fun _ _ _ h => h) (Or.inl ⟨by rfl, ?hy29⟩) (by assumption) ?ty29
          case hy29 => (intro w5 hSw; obtain ⟨p0, p1, p2, p3⟩ := hSw; go_simp; all_goals with_reducible rfl)
          simp only [Act.put, List.getElem_toArray, List.getElem_cons_zero, List.getElem_cons_succ, List.setIfInBounds_toArray, List.set_cons_zero, List.set_cons_succ]
          refine wpAnyH_take (i := 9) (v := ?_) rfl (by kernel_rfl) (by kernel_rfl) (by kernel_rfl) (fun _ _ _ h => h) (Or.inl ⟨by rfl, ?hy30⟩) (by assumption) ?ty30
          case hy30 => (intro w5 hSw; obtain ⟨p0, p1, p2, p3⟩ := hSw; go_simp; all_goals with_reducible rfl)
          simp only [Act.put, List.getElem_toArray, List.getElem_cons_zero, List.getElem_cons_succ, List.setIfInBounds_toArray, List.set_cons_zero, List.set_cons_succ]
          refine wpAnyH_take (i := 10) (v := ?_) rfl (by kernel_rfl) (by kernel_rfl) (by kernel_rfl) (fun _ _ _ h => h) (Or.inl ⟨by rfl, ?hy31⟩) (by assumption) ?ty31
          case hy31 => (intro w5 hSw; obtain ⟨p0, p1, p2, p3⟩ := hSw; go_simp; all_goals with_reducible rfl)
          simp only [Act.put, List.getElem_toArray, List.getElem_cons_zero, List.getElem_cons_succ, List.setIfInBounds_toArray, List.set_cons_zero, List.set_cons_succ]
          refine wpAnyH_take (i := 11) (v := ?_) rfl (by kernel_rfl) (by kernel_rfl) (by kernel_rfl) (fun _ _ _ h => h) (Or.inl ⟨by rfl, ?hy32⟩) (by assumption) ?ty32
          case hy32 => (intro w5 hSw; obtain ⟨p0, p1, p2, p3⟩ := hSw; go_simp; all_goals with_reducible rfl)
          simp only [Act.put, List.getElem_toArray, List.getElem_cons_zero, List.getElem_cons_succ, List.setIfInBounds_toArray, List.set_cons_zero, List.set_cons_succ]
          refine wpAnyH_take (i := 12) (v := ?_) rfl (by kernel_rfl) (by kernel_rfl) (by kernel_rfl) (fun _ _ _ h => h) (Or.inl ⟨by rfl, ?hy33⟩) (by assumption) ?ty33
          case hy33 => (intro w5 hSw; obtain ⟨p0, p1, p2, p3⟩ := hSw; go_simp; all_goals with_reducible rfl)
          simp only [Act.put, List.getElem_toArray, List.getElem_cons_zero, List.getElem_cons_succ, List.setIfInBounds_toArray, List.set_cons_zero, List.set_cons_succ]
          refine wpAnyH_take (i := 13) (v := ?_) rfl (by kernel_rfl) (by kernel_rfl) (by kernel_rfl) (fun _ _ _ h => h) (Or.inl ⟨by rfl, ?hy34⟩) (by assumption) ?ty34
          case hy34 => (intro w5 hSw; obtain ⟨p0, p1, p2, p3⟩ := hSw; go_simp; all_goals with_reducible rfl)
          simp only [Act.put, List.getElem_toArray, List.getElem_cons_zero, List.getElem_cons_succ, List.setIfInBounds_toArray, List.set_cons_zero, List.set_cons_succ]
          refine wpAnyH_take (i := 14) (v := ?_) rfl (by kernel_rfl) (by kernel_rfl) (by kernel_rfl) (fun _ _ _ h => h) (Or.inl ⟨by rfl, ?hy35⟩) (by assumption) ?ty35
          case hy35 => (intro w5 hSw; obtain ⟨p0, p1, p2, p3⟩ := hSw; go_simp; all_goals with_reducible rfl)
          simp only [Act.put, List.getElem_toArray, List.getElem_cons_zero, List.getElem_cons_succ, List.setIfInBounds_toArray, List.set_cons_zero, List.set_cons_succ]
          refine wpAnyH_take (i := 15) (v := ?_) rfl (by kernel_rfl) (by kernel_rfl) (by kernel_rfl) (fun _ _ _ h => h) (Or.inl ⟨by rfl, ?hy36⟩) (by assumption) ?ty36
          case hy36 => (intro w5 hSw; obtain ⟨p0, p1, p2, p3⟩ := hSw; go_simp; all_goals with_reducible rfl)
          simp only [Act.put, List.getElem_toArray, List.getElem_cons_zero, List.getElem_cons_succ, List.setIfInBounds_toArray, List.set_cons_zero, List.set_cons_succ]
          refine wpAnyH_take (i := 16) (v := ?_) rfl (by kernel_rfl) (by kernel_rfl) (by kernel_rfl) (fun _ _ _ h => h) (Or.inl ⟨by rfl, ?hy37⟩) (by assumption) ?ty37
          case hy37 => (intro w5 hSw; obtain ⟨p0, p1, p2, p3⟩ := hSw; go_simp; all_goals with_reducible rfl)
          simp only [Act.put, List.getElem_toArray, List.getElem_cons_zero, List.getElem_cons_succ, List.setIfInBounds_toArray, List.set_cons_zero, List.set_cons_succ]
          refine wpAnyH_take (i := 17) (v := ?_) rfl (by kernel_rfl) (by kernel_rfl) (by kernel_rfl) (fun _ _ _ h => h) (Or.inl ⟨by rfl, ?hy38⟩) (by assumption) ?ty38
          case hy38 => (intro w5 hSw; obtain ⟨p0, p1, p2, p3⟩ := hSw; go_simp; all_goals with_reducible rfl)
          simp only [Act.put, List.getElem_toArray, List.getElem_cons_zero, List.getElem_cons_succ, List.setIfInBounds_toArray, List.set_cons_zero, List.set_cons_succ]
          refine wpAnyH_take (i := 18) (v := ?_) rfl (by kernel_rfl) (by kernel_rfl) (by kernel_rfl) (fun _ _ _ h => h) (Or.inl ⟨by rfl, ?hy39⟩) (by assumption) ?ty39
          case hy39 => (intro w5 hSw; obtain ⟨p0, p1, p2, p3⟩ := hSw; go_simp; all_goals with_reducible rfl)
          simp only [Act.put, List.getElem_toArray, List.getElem_cons_zero, List.getElem_cons_succ, List.setIfInBounds_toArray, List.set_cons_zero, List.set_cons_succ]
          refine wpAnyH_ready (rs := [19]) (by kernel_rfl) (by simp) ?_
          refine AllReadyH.cons rfl (fun K hK => ?_) AllReadyH.nil
          go_simp
          have K1 : Below wr.heap.size wr (wr.drew.alloc (.cells #[.int .i64 yu, .int .i64 yf, .int .i64 yd, .int .i64 (yn : Int)] 2)) := ((Below.refl _ _).drew).alloc (by simp) _
          have hS1 := HSB.out _ K1
          refine hK.out _ _ hS1 (fun hHeld => ?_)
          clear hK K
          refine wpAnyH_ready (rs := [20]) (by kernel_rfl) (by simp) ?_
          refine AllReadyH.cons rfl (fun K hK => ?_) AllReadyH.nil
          go_simp
          refine (l15Numbers_any _ 4 4 [yu, yf, yd, (yn : Int)] _ rfl (rdI_new4 wr.drew yu yf yd (yn : Int)) (by omega) HN4.out).mono ?_
          rintro e v1 ⟨rfl, hb1⟩
          have K2 : Below wr.heap.size wr v1 := K1.trans (hb1.mono K1.size)
          have hS2 := HSB.out _ K2
          refine hK.out _ _ hS2 (fun hHeld => ?_)
          clear hK K
          refine wpAnyH_take (i := 21) (v := ?_) rfl (by kernel_rfl) (by kernel_rfl) (by kernel_rfl) (fun _ _ _ h => h) (Or.inl ⟨by rfl, ?hy40⟩) (by assumption) ?ty40
          case hy40 => (intro w5 hSw; go_simp; all_goals first | (rw [if_neg (by omega)]) | with_reducible rfl)
          simp only [Act.put, List.getElem_toArray, List.getElem_cons_zero, List.getElem_cons_succ, List.setIfInBounds_toArray, List.set_cons_zero, List.set_cons_succ]
          refine wpAnyH_take (i := 22) (v := ?_) rfl (by kernel_rfl) (by kernel_rfl) (by kernel_rfl) (fun _ _ _ h => h) (Or.inl ⟨by rfl, ?hy41⟩) (by assumption) ?ty41
          case hy41 => (intro w5 hSw; go_simp; all_goals first | (rw [if_neg (by omega)]) | with_reducible rfl)
          simp only [Act.put, List.getElem_toArray, List.getElem_cons_zero, List.getElem_cons_succ, List.setIfInBounds_toArray, List.set_cons_zero, List.set_cons_succ]
          refine wpAnyH_take (i := 23) (v := ?_) rfl (by kernel_rfl) (by kernel_rfl) (by kernel_rfl) (fun _ _ _ h => h) (Or.inl ⟨by rfl, ?hy42⟩) (by assumption) ?ty42
          case hy42 => (intro w5 hSw; obtain ⟨p0, p1, p2, p3⟩ := hSw; go_simp; all_goals with_reducible rfl)
          simp only [Act.put, List.getElem_toArray, List.getElem_cons_zero, List.getElem_cons_succ, List.setIfInBounds_toArray, List.set_cons_zero, List.set_cons_succ]
          refine wpAnyH_done (by kernel_rfl) ?_ _
          clear hHeld hS1 hS2 hb1 K1 HN4
          rw [HT2.out]
          have hbel3 := hbel2.trans (K2.mono hbel2.size)
          clear HSB K2 hS0 HT2 hz0 hz1 hz3 hzu d3
          go_wp2
          go_roundw
          case rel => exact ⟨k + 1, by omega, by go_num, rfl, hbel3⟩
          case measure => simp [intOf]; omega
        · have hki : ¬ (k : Int) < (qn : Int) := by omega
          have HE : Hid (t1 ++ ((ms.take k).map mzT).flatten = ((l.take (i + 1)).map bzT).flatten) := by
            show _ = _
            rw [HST.out, HB.out, HTE.out, List.take_of_length_le (by omega), List.append_assoc]
          rw [HE.out]
          have hbelE := hbel1.trans (hbel2.mono hbel1.size)
          clear HE HST HB
          go_wp2
          go_roundw
          case rel => exact ⟨i + 1, by omega, by go_num, rfl, hbelE⟩
          case measure => simp [intOf]; omega
    · have hii : ¬ (i : Int) < (n : Int) := by omega
      have hin2 : i = n := by omega
      subst hin2
      rw [List.take_of_length_le (by omega)]
      by_cases hn0 : i = 0
      · subst hn0
        have hl0 : l = [] := List.length_eq_zero_iff.1 hl
        have HM : Hid (Z = [110, 111, 110, 101, 10]) := HZ.out.trans (if_pos rfl)
        subst hl0
        rw [show str ((([] : List Bx).map bzT).flatten) = (⟨#[]⟩ : ByteArray) from rfl]
        go_wp2
        go_ret
        exact ⟨by rw [HM.out]; rfl, hbel⟩
      · have HM : Hid (Z = (l.map bzT).flatten) := HZ.out.trans (if_neg hn0)
        have hne : (l.map bzT).flatten ≠ [] := by
          cases l with
          | nil => simp at hl; omega
          | cons b r =>
            rw [List.map_cons, List.flatten_cons]
            intro h
            exact bzT_ne b (List.append_eq_nil_iff.1 h).1
        have hs1 := str_nilS hne
        rw [← HM.out] at hs1 ⊢
        go_wp2
        go_ret
        exact ⟨rfl, hbel⟩
end Go.Proofs.YtmidjgpegdodcaaDoor
