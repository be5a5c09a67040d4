/- More of the model's draws: a source, a chance, a pick, some bytes; each ends within small bounds and turns nothing but its source. -/
import Derived.Test.YtpgjichcpnjeoaaDrw
namespace Go.Proofs.Ytpgjichcpnjeoaa
open Go.RowKit

set_option maxHeartbeats 800000 in
set_option maxRecDepth 100000 in
theorem l1Source_any (a : Option Addr) (n cap : Nat) (l : List Nat) (w : World) (hl : l.length = n) (hr : Rd w a l) (hB : IsB l) (hn : n ≤ 1048576) :
    Calls Try.prog 25 #[.slice a n cap] w fun e w' => e = .returned (.pointer (some ⟨w.heap.size, 0, none⟩)) ∧ Src w' w.heap.size w.heap.size 0 ∧ Below w.heap.size w w' := by
  have hb : Below w.heap.size w (w.alloc (.cells #[.slice a n cap, .int .i64 0] 70)) := (Below.refl _ _).alloc (Nat.le_refl _) _
  have hS : Src (w.alloc (.cells #[.slice a n cap, .int .i64 0] 70)) w.heap.size w.heap.size 0 := by
    refine ⟨Nat.le_refl _, by simp, a, n, cap, 0, l, by simp, by simp, by simp, hl, hn, hB, Nat.le_refl _, ?_⟩
    rcases hr with h | ⟨d, off, e, hlt, hc⟩
    · exact .inl h
    · exact .inr ⟨d, off, e, hlt, fun i hi => (hb.cell (p := ⟨d, off + i, none⟩) hlt).trans (hc i (by omega))⟩
  have HS : Hid (_) := hS
  clear hS
  go_enter Try.func25, Try.ntmps25
  go_wp2
  go_ret
  exact ⟨rfl, HS.out, hb⟩


/-- A row of whole numbers in a block of its own. -/
def Nums (w : World) (g : Nat) (vs : List Int) : Prop := ∀ i, i < vs.length → w.cell? ⟨g, i, none⟩ = some (.int .i64 (vs.getD i 0))

set_option maxHeartbeats 800000 in
set_option maxRecDepth 100000 in
theorem l1Pick_any (B b M g m cap : Nat) (vs : List Int) (w : World) (hs : Src w B b M) (hM : M ≤ 1000) (hm : vs.length = m) (h1 : 1 ≤ m) (h6 : m ≤ 100) (hv : Nums w g vs) (hg : b < g) :
    Calls Try.prog 30 #[.pointer (some ⟨b, 0, none⟩), .slice (some ⟨g, 0, none⟩) m cap] w fun e w' =>
      ∃ r : Int, e = .returned (.int .i64 r) ∧ r ∈ vs ∧ Src w' B b (M + 1) ∧ w.grownBy w' (some b) := by
  go_enter Try.func30, Try.ntmps30
  go_wp2_with fail
  refine (l1Next_any B b M (m : Int) _ hs hM (by omega) (by omega)).mono ?_
  rintro e w1 ⟨r, rfl, r0, r1, _, h1', h2⟩
  obtain ⟨j, rfl⟩ := Int.eq_ofNat_of_zero_le r0
  have hjm : j < m := by have := r1 (by omega); omega
  have hjm' : (j : Int) < (m : Int) := by omega
  have hlt : g < w.heap.size := World.block_lt_of_cell? w _ (hv 0 (by omega))
  have hc : w1.cell? ⟨g, j, none⟩ = some (.int .i64 (vs.getD j 0)) := (h2.cell_far ⟨g, j, none⟩ hlt (by simp; omega)).trans (hv j (by omega))
  have hmem : vs.getD j 0 ∈ vs := by rw [List.getD_eq_getElem?_getD, List.getElem?_eq_getElem (by omega)]; exact List.getElem_mem _
  generalize vs.getD j 0 = x at *
  have H1 : Hid (_) := h1'
  have H2 : Hid (_) := h2
  have H3 : Hid (_) := hmem
  clear h1' h2 hmem hv r1
  go_wp2
  go_ret
  exact ⟨x, rfl, H3.out, H1.out, H2.out⟩

theorem nums_new {w : World} {cs : Array Value} {vs : List Int} {t : TypeId} (h : cs.toList = vs.map (Value.int .i64)) : Nums (w.alloc (.cells cs t)) w.heap.size vs := by
  intro i hi
  rw [World.cell?_alloc_mark, ← Array.getElem?_toList, h]
  simp [hi]

set_option maxHeartbeats 1600000 in
set_option maxRecDepth 100000 in
theorem l1Some_any (B b M n : Nat) (w : World) (hs : Src w B b M) (hM : M + 2 * n ≤ 900) (hn : n ≤ 100) :
    Calls Try.prog 28 #[.pointer (some ⟨b, 0, none⟩), .int .i64 (n : Int)] w fun e w' =>
      ∃ (v : Value) (out : List Nat), e = .returned v ∧ Own w' (b + 1) v out ∧ IsB out ∧ out.length = n ∧ Src w' B b (M + 2 * n) ∧ Below b w w' := by
  obtain ⟨hBb, hbw, _⟩ := id hs
  go_enter Try.func28, Try.ntmps28
  go_wp2
  have hown0 : Own (w.alloc (.cells #[] 5)) (b + 1) (.slice (some ⟨w.heap.size, 0, none⟩) 0 0) [] := Own.lit w _ (by omega) #[] [] rfl (by decide)
  have hbel0 : Below b w (w.alloc (.cells #[] 5)) := (Below.refl _ _).alloc (by omega) _
  have hs0 : Src (w.alloc (.cells #[] 5)) B b M := hs.below ((Below.refl _ _).alloc (by omega) _)
  go_loopw [1, 5] (fun j v wr => ∃ (i : Nat) (out : List Nat), i ≤ n ∧ j = .int .i64 ((n - i : Nat) : Int) ∧ Own wr (b + 1) v out ∧ IsB out ∧ out.length = i ∧ Src wr B b (M + 2 * i) ∧ Below b w wr)
    (fun j _ _ => (intOf j).toNat)
  case atStart => exact ⟨0, [], by omega, rfl, hown0, fun x hx => by simp at hx, rfl, hs0, hbel0⟩
  case round =>
    obtain ⟨i, out, hi, rfl, hown, hBo, hol, hsr, hbel⟩ := hrel
    clear hown0 hbel0 hs0 hs
    have hz := hbel.size
    by_cases hin : i < n
    · have hj : (0 : Int) < ((n - i : Nat) : Int) := by omega
      obtain ⟨_, hbr, _⟩ := id hsr
      go_wp2_with fail
      refine (l1Next_any B b (M + 2 * i) 256 _ hsr (by omega) (by omega) (by omega)).mono ?_
      rintro e w1 ⟨r, rfl, r0, r1, _, hs1, hg1⟩
      have ho1 := hown.keptG hg1 (by omega)
      have hb1 : Below b w w1 := hbel.trans ((Below.refl _ _).grown hg1 (by omega) (by intro k hk; simp at hk; omega))
      have hz1 := hg1.size
      have hs1' : Src (w1.alloc (.cells #[.int .i64 r, .int .i64 97, .int .i64 32, .int .i64 10, .int .i64 61, .int .i64 122] 2)) B b (M + 2 * i + 1) := hs1.below ((Below.refl _ _).alloc (by omega) _)
      have hr256 : r < 256 := r1 (by omega)
      go_wp2_with fail
      refine (l1Pick_any B b (M + 2 * i + 1) _ 6 6 [r, 97, 32, 10, 61, 122] _ hs1' (by omega) rfl (by omega) (by omega) (nums_new rfl) (by omega)).mono ?_
      rintro e w2 ⟨x, rfl, hx, hs2, hg2⟩
      have hx' : 0 ≤ x ∧ x < 256 := by
        simp only [List.mem_cons, List.not_mem_nil, or_false] at hx
        omega
      obtain ⟨y, rfl⟩ := Int.eq_ofNat_of_zero_le hx'.1
      have hy : y < 256 := by omega
      have ho2 := (ho1.alloc (.cells #[.int .i64 r, .int .i64 97, .int .i64 32, .int .i64 10, .int .i64 61, .int .i64 122] 2)).keptG hg2 (by omega)
      have hb2 : Below b w w2 := (hb1.alloc (by omega) _).trans ((Below.refl _ _).grown hg2 (by simp; omega) (by intro k hk; simp at hk; omega))
      have hz2 : w1.heap.size + 1 ≤ w2.heap.size := by have := hg2.size; simpa using this
      have HS2 : Hid (Src w2 B b (M + 2 * i + 1 + 1)) := hs2
      clear hs1 hs1' hg1 hg2 ho1 hx hsr hown hs2 r1
      go_wp2_with (at_builtin; refine wpList_app_new rfl _ _ rfl (b + 1) _ out rfl ho2 1 1 [y] rfl rfl rfl (by omega) (by omega) ?_; intro v' w3 hown' hb')
      have hs3 : Hid (Src w3 B b (M + 2 * (i + 1))) := Src.below (w := w2) HS2.out hb'
      go_wp2
      go_roundw
      case rel => exact ⟨i + 1, out ++ [y], by omega, by go_num, hown', fun z hz => by rcases List.mem_append.1 hz with h | h; exact hBo z h; simp at h; omega, by simp; omega, hs3.out, hb2.trans (hb'.mono (by omega))⟩
      case measure => simp [intOf]; omega
    · have hii : i = n := by omega
      have hj : ¬ (0 : Int) < ((n - i : Nat) : Int) := by omega
      subst hii
      go_wp2
      go_ret
      exact ⟨_, rfl, out, hown, hBo, hol, hsr, hbel⟩
end Go.Proofs.Ytpgjichcpnjeoaa
