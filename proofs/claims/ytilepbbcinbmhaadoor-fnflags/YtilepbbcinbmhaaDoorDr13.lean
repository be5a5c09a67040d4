/- The draws of chapter 7 that FnFlags asks for, each whole; nothing that was there is turned; sources of at most 1048576 bytes. -/
import Derived.Test.YtilepbbcinbmhaaDoorDr12
import Derived.Test.YtilepbbcinbmhaaDoorFli
import Derived.Test.YtilepbbcinbmhaaDoorDrw3aToBytI
namespace Go.Proofs.YtilepbbcinbmhaaDoor
open Go.RowKit
set_option linter.unusedVariables false

def NumEndF (w : World) (e : Ending) (w' : World) : Prop := ∃ r : Int, e = .returned (.int .i64 r) ∧ (-1 ≤ r ∧ r ≤ 16) ∧ Below w.heap.size w w'
set_option maxHeartbeats 1600000 in
set_option maxRecDepth 100000 in
theorem drawFlagsText_any (a : Option Addr) (n cap : Nat) (l : List Nat) (w : World) (hl : l.length = n) (hr : Rd w a l) (hB : IsB l) (hn : n ≤ 1048576) :
    Calls Tryd.prog 16 #[.slice a n cap] w fun e w' => NumEndF w e w' := by
  go_enter Tryd.func16, Tryd.ntmps16
  go_wp2_with fail
  refine (l1Source_any a n cap l _ hl hr hB hn).mono ?_
  rintro e w1 ⟨rfl, hs, hb⟩
  have hlt : w.heap.size < w1.heap.size := (id hs).2.1
  go_wp2_with fail
  refine (l1Next_any w.heap.size w.heap.size 0 18 w1 hs (by omega) (by omega) (by omega)).mono ?_
  rintro e w2 ⟨r, rfl, r0, r1, -, hs2, hg2⟩
  have r1 := r1 (by omega)
  have HF : Hid (NumEndF w (.returned (.int .i64 (r - 1))) w2) := ⟨r - 1, rfl, by omega, hb.trans (gbelow hg2 hlt)⟩
  clear hs hs2 hg2 hb
  go_wp2
  go_ret
  exact HF.out

/-- The names that are asked for. -/
def nq6 (i : Nat) : ByteArray := [⟨#[105, 110]⟩, ⟨#[111, 108, 100]⟩, ⟨#[98, 111, 120]⟩, ⟨#[105, 110]⟩, ⟨#[110, 111, 110, 101]⟩, ⟨#[]⟩].getD i ⟨#[]⟩
theorem nq6_cells (w : World) (i : Nat) (hi : i < 6) : (w.alloc (.cells #[.string ⟨#[105, 110]⟩, .string ⟨#[111, 108, 100]⟩, .string ⟨#[98, 111, 120]⟩, .string ⟨#[105, 110]⟩, .string ⟨#[110, 111, 110, 101]⟩, .string ⟨#[]⟩] 9)).cell? ⟨w.heap.size, i, none⟩ = some (.string (nq6 i)) := by
  obtain rfl | rfl | rfl | rfl | rfl | rfl : i = 0 ∨ i = 1 ∨ i = 2 ∨ i = 3 ∨ i = 4 ∨ i = 5 := by omega
  all_goals simp [nq6]
def NameEnd (B b M : Nat) (w : World) (e : Ending) (w' : World) : Prop := ∃ i : Nat, e = .returned (.string (nq6 i)) ∧ Go.Proofs.YtilepbbcinbmhaaDoor.Src w' B b M ∧ Kb b w w'
set_option maxHeartbeats 1600000 in
set_option maxRecDepth 100000 in
theorem l7DrawName_any (B b M : Nat) (w : World) (hs : Go.Proofs.YtilepbbcinbmhaaDoor.Src w B b M) (hM : M ≤ 90000) :
    Calls Tryd.prog 31 #[.pointer (some ⟨b, 0, none⟩)] w fun e w' => NameEnd B b (M + 1) w e w' := by
  have hbw : b < w.heap.size := hs.2.1
  have hbA : Below w.heap.size w (w.alloc (.cells #[.string ⟨#[105, 110]⟩, .string ⟨#[111, 108, 100]⟩, .string ⟨#[98, 111, 120]⟩, .string ⟨#[105, 110]⟩, .string ⟨#[110, 111, 110, 101]⟩, .string ⟨#[]⟩] 9)) := (Below.refl _ _).alloc (Nat.le_refl _) _
  have hN := nq6_cells w
  have hsA := hs.below (hbA.mono hbw)
  have hKA : Kb b w (w.alloc (.cells #[.string ⟨#[105, 110]⟩, .string ⟨#[111, 108, 100]⟩, .string ⟨#[98, 111, 120]⟩, .string ⟨#[105, 110]⟩, .string ⟨#[110, 111, 110, 101]⟩, .string ⟨#[]⟩] 9)) := (Kb.refl b w).below hbA
  go_enter Tryd.func31, Tryd.ntmps31
  go_wp2_with fail
  generalize w.alloc (.cells #[.string ⟨#[105, 110]⟩, .string ⟨#[111, 108, 100]⟩, .string ⟨#[98, 111, 120]⟩, .string ⟨#[105, 110]⟩, .string ⟨#[110, 111, 110, 101]⟩, .string ⟨#[]⟩] 9) = WA at *
  refine (l1Next_any B b M 6 WA hsA (by omega) (by omega) (by omega)).mono ?_
  rintro e w2 ⟨r, rfl, r0, r1, -, hs2, hg2⟩
  have r1 := r1 (by omega)
  obtain ⟨i, rfl⟩ := Int.eq_ofNat_of_zero_le r0
  have hi6 : i < 6 := by omega
  have hN2 : w2.cell? ⟨w.heap.size, i, none⟩ = some (.string (nq6 i)) := (World.grownBy.cell_far hg2 ⟨w.heap.size, i, none⟩ (World.block_lt_of_cell? _ _ (hN i hi6)) (fun e => by injection e with e; dsimp only at e; omega)).trans (hN i hi6)
  have HF : Hid (NameEnd B b (M + 1) w (.returned (.string (nq6 i))) w2) := ⟨i, rfl, hs2, hKA.grown hg2⟩
  clear hs hs2 hg2 hN hKA hsA hbA r0
  go_wp2
  go_ret
  exact HF.out

/-- How the draw of a store and a name ends. -/
def StNm (w : World) (e : Ending) (w' : World) : Prop := ∃ (x : Int) (s : SlQ) (l : List Bx) (i : Nat), e = .returned (.tuple #[.agg #[.int .i64 x, slW s], .string (nq6 i)]) ∧ l.length ≤ 4 ∧ DS w.heap.size w' s l ∧ Below w.heap.size w w'
set_option maxHeartbeats 1600000 in
set_option maxRecDepth 100000 in
theorem drawBoxOf_any (a : Option Addr) (n cap : Nat) (l : List Nat) (w : World) (hl : l.length = n) (hr : Rd w a l) (hB : IsB l) (hn : n ≤ 1048576) :
    Calls Tryd.prog 10 #[.slice a n cap] w fun e w' => StNm w e w' := by
  have hbA : Below w.heap.size w (w.alloc (.cells #[.int .i64 0, .slice none 0 0] 33)) := (Below.refl _ _).alloc (Nat.le_refl _) _
  have hzA : (w.alloc (.cells #[.int .i64 0, .slice none 0 0] 33)).heap.size = w.heap.size + 1 := by simp
  have hR : Df (w.alloc (.cells #[.int .i64 0, .slice none 0 0] 33)) w.heap.size (.int .i64 0, .slice none 0 0) := Df.new w _ _ _
  have hrA := hr.below hbA
  go_enter Tryd.func10, Tryd.ntmps10
  go_wp2_with fail
  generalize w.alloc (.cells #[.int .i64 0, .slice none 0 0] 33) = WA at *
  refine (l1Source_any a n cap l _ hl hrA hB hn).mono ?_
  rintro e w1 ⟨rfl, hs1, hb1⟩
  rw [hzA] at hs1
  have hR1 := hR.below hb1 hR.lt
  have hB1 : Below w.heap.size w w1 := hbA.trans (hb1.mono hbA.size)
  rw [hzA]
  clear hR hbA hb1 hrA
  go_wp2_with fail
  refine (l7Bent_any (w.heap.size + 1) (w.heap.size + 1) 0 w1 hs1 (by omega)).mono ?_
  rintro e w2 ⟨x, s, bl, rfl, hbl, hd2, hs2, hk2⟩
  obtain ⟨sa, sn, sc⟩ := s
  dsimp only [slW] at hd2 ⊢
  have hR2 := hR1.grown hk2 (fun e => by injection e with e; omega)
  have hz1 : w.heap.size + 1 < w1.heap.size := hs1.2.1
  have hz2 := World.grownBy.size hk2
  have hB2 : Below w.heap.size w w2 := hB1.trans ((gbelow hk2 hz1).mono (by omega))
  have hd2 := hd2.low (lo' := w.heap.size + 1 + 1) (by omega)
  clear hR1 hs1 hB1 hk2
  go_wp2_with fail
  refine (l7DrawName_any (w.heap.size + 1) (w.heap.size + 1) 4000 w2 hs2 (by omega)).mono ?_
  rintro e w3 ⟨i, rfl, hs3, hk3⟩
  have hR3 := hR2.grown hk3 (fun e => by injection e with e; omega)
  have hd3 := hd2.near (hk3.near (by omega))
  have hB3 : Below w.heap.size w w3 := hB2.trans ((gbelow hk3 (by omega)).mono (by omega))
  clear hR2 hd2 hs2 hB2 hk3 hs3
  obtain ⟨⟨z0, z1⟩, g0, g1⟩ := id hR3
  dsimp only at z0 z1
  have hR9 := (hR3.set0 (.int .i64 x)).set1 (.slice sa sn sc)
  obtain ⟨⟨q0, q1⟩, -, -⟩ := hR9
  dsimp only at q0 q1
  have HF : Hid (DS w.heap.size ((w3.setCell ⟨w.heap.size, 0, none⟩ (.int .i64 x)).setCell ⟨w.heap.size, 1, none⟩ (.slice sa sn sc)) (sa, sn, sc) bl ∧ Below w.heap.size w ((w3.setCell ⟨w.heap.size, 0, none⟩ (.int .i64 x)).setCell ⟨w.heap.size, 1, none⟩ (.slice sa sn sc))) :=
    ⟨(hd3.near ((Near.set _ (by omega)).trans (Near.set _ (by omega)))).low (by omega), (hB3.setCell (by simp) _).setCell (by simp) _⟩
  clear hd3 hB3 hR3
  go_wp2
  refine bodyPost_ret (v := .tuple #[.agg #[.int .i64 x, .slice sa sn sc], .string (nq6 i)]) (by simp [results, Tryd.results10, go_sem, q0, q1]) rfl ?_
  exact ⟨x, (sa, sn, sc), bl, i, rfl, hbl, HF.out.1, HF.out.2⟩

/-- How the draw of a mailbox and a number ends. -/
def BxNm (w : World) (e : Ending) (w' : World) : Prop := ∃ (x : Bx) (s : SlQ) (u : Int), e = .returned (.tuple #[bxX x s, .int .i64 u]) ∧ IsMs w.heap.size w' s x.m ∧ FtX x ∧ Below w.heap.size w w'
set_option maxHeartbeats 1600000 in
set_option maxRecDepth 100000 in
theorem drawSequenceOf_any (a : Option Addr) (n cap : Nat) (l : List Nat) (w : World) (hl : l.length = n) (hr : Rd w a l) (hB : IsB l) (hn : n ≤ 1048576) :
    Calls Tryd.prog 13 #[.slice a n cap] w fun e w' => BxNm w e w' := by
  have hbA : Below w.heap.size w (w.alloc (.cells #[.string ⟨#[]⟩, .int .i64 0, .int .i64 0, .slice none 0 0] 39)) := (Below.refl _ _).alloc (Nat.le_refl _) _
  have hzA : (w.alloc (.cells #[.string ⟨#[]⟩, .int .i64 0, .int .i64 0, .slice none 0 0] 39)).heap.size = w.heap.size + 1 := by simp
  have hR : Qf (w.alloc (.cells #[.string ⟨#[]⟩, .int .i64 0, .int .i64 0, .slice none 0 0] 39)) w.heap.size (.string ⟨#[]⟩, .int .i64 0, .int .i64 0, .slice none 0 0) := Qf.new w _ _ _ _ _
  have hrA := hr.below hbA
  go_enter Tryd.func13, Tryd.ntmps13
  go_wp2_with fail
  generalize w.alloc (.cells #[.string ⟨#[]⟩, .int .i64 0, .int .i64 0, .slice none 0 0] 39) = WA at *
  refine (l1Source_any a n cap l _ hl hrA hB hn).mono ?_
  rintro e w1 ⟨rfl, hs1, hb1⟩
  rw [hzA] at hs1
  have hR1 := hR.below hb1 hR.lt
  have hB1 : Below w.heap.size w w1 := hbA.trans (hb1.mono hbA.size)
  rw [hzA]
  clear hR hbA hb1 hrA
  go_wp2_with fail
  refine (l7BentBox_any (w.heap.size + 1) (w.heap.size + 1) 0 w1 hs1 (by omega)).mono ?_
  rintro e w2 ⟨x, s, rfl, hmn, hml, hd2, hs2, hk2⟩
  obtain ⟨mn, mv, mx, mm⟩ := x
  obtain ⟨sa, sn, sc⟩ := s
  dsimp only [slW, bxX] at hd2 hmn hml ⊢
  have hft : FtX ⟨mn, mv, mx, mm⟩ := ⟨by dsimp only; omega, hd2.ft hml⟩
  have hR2 := hR1.grown hk2 (fun e => by injection e with e; omega)
  have hz1 : w.heap.size + 1 < w1.heap.size := hs1.2.1
  have hz2 := World.grownBy.size hk2
  have hB2 : Below w.heap.size w w2 := hB1.trans ((gbelow hk2 hz1).mono (by omega))
  have hd2 := hd2.ms.low (lo' := w.heap.size + 1 + 1) (by omega)
  clear hR1 hs1 hB1 hk2
  go_wp2_with fail
  refine (l1Next_any (w.heap.size + 1) (w.heap.size + 1) 1000 7 w2 hs2 (by omega) (by omega) (by omega)).mono ?_
  rintro e w3 ⟨u, rfl, -, -, -, hs3, hk3⟩
  have hR3 := hR2.grown hk3 (fun e => by injection e with e; omega)
  have hd3 := hd2.near (Kb.near hk3 (by omega))
  have hB3 : Below w.heap.size w w3 := hB2.trans ((gbelow hk3 (by omega)).mono (by omega))
  clear hR2 hd2 hs2 hB2 hk3 hs3
  obtain ⟨⟨z0, z1, z2, z3⟩, g0, g1, g2, g3⟩ := id hR3
  dsimp only at z0 z1 z2 z3
  obtain ⟨q0, q1, q2, q3⟩ := qd_cells (sz := w.heap.size) z0 z1 z2 z3 (.string mn) (.int .i64 mv) (.int .i64 mx) (.slice sa sn sc)
  have HF : Hid (IsMs w.heap.size ((((w3.setCell ⟨w.heap.size, 0, none⟩ (.string mn)).setCell ⟨w.heap.size, 1, none⟩ (.int .i64 mv)).setCell ⟨w.heap.size, 2, none⟩ (.int .i64 mx)).setCell ⟨w.heap.size, 3, none⟩ (.slice sa sn sc)) (sa, sn, sc) mm ∧ FtX ⟨mn, mv, mx, mm⟩ ∧ Below w.heap.size w ((((w3.setCell ⟨w.heap.size, 0, none⟩ (.string mn)).setCell ⟨w.heap.size, 1, none⟩ (.int .i64 mv)).setCell ⟨w.heap.size, 2, none⟩ (.int .i64 mx)).setCell ⟨w.heap.size, 3, none⟩ (.slice sa sn sc))) :=
    ⟨(hd3.near ((((Near.set _ (by omega)).trans (Near.set _ (by omega))).trans (Near.set _ (by omega))).trans (Near.set _ (by omega)))).low (by omega), hft, (((hB3.setCell (by simp) _).setCell (by simp) _).setCell (by simp) _).setCell (by simp) _⟩
  clear hd3 hB3 hR3 hft
  go_wp2
  refine bodyPost_ret (v := .tuple #[.agg #[.string mn, .int .i64 mv, .int .i64 mx, .slice sa sn sc], .int .i64 u]) (by simp [results, Tryd.results13, go_sem, q0, q1, q2, q3]) rfl ?_
  exact ⟨⟨mn, mv, mx, mm⟩, (sa, sn, sc), u, rfl, HF.out.1, HF.out.2.1, HF.out.2.2⟩

/-- The texts that are read. -/
def tx7 (T : ByteArray) (i : Nat) : ByteArray := [T, T, T, ⟨#[]⟩, ⟨#[115, 101, 101, 110, 32, 110, 111, 110, 101]⟩, ⟨#[100, 101, 108, 101, 116, 101, 100, 32, 115, 101, 101, 110]⟩, T ++ ⟨#[32]⟩].getD i ⟨#[]⟩
theorem tx7_cells (w : World) (T : ByteArray) (i : Nat) (hi : i < 7) : (w.alloc (.cells #[.string T, .string T, .string T, .string ⟨#[]⟩, .string ⟨#[115, 101, 101, 110, 32, 110, 111, 110, 101]⟩, .string ⟨#[100, 101, 108, 101, 116, 101, 100, 32, 115, 101, 101, 110]⟩, .string (T ++ ⟨#[32]⟩)] 9)).cell? ⟨w.heap.size, i, none⟩ = some (.string (tx7 T i)) := by
  obtain rfl | rfl | rfl | rfl | rfl | rfl | rfl : i = 0 ∨ i = 1 ∨ i = 2 ∨ i = 3 ∨ i = 4 ∨ i = 5 ∨ i = 6 := by omega
  all_goals simp [tx7]
theorem fxL_len : ∀ k : Nat, k < 16 → (fxL k).length ≤ 60 := by decide +kernel
def TxEndF (w : World) (e : Ending) (w' : World) : Prop := ∃ s : ByteArray, e = .returned (.string s) ∧ Below w.heap.size w w'
set_option maxHeartbeats 1600000 in
set_option maxRecDepth 100000 in
theorem drawParseFlags_any (a : Option Addr) (n cap : Nat) (l : List Nat) (w : World) (hl : l.length = n) (hr : Rd w a l) (hB : IsB l) (hn : n ≤ 1048576) :
    Calls Tryd.prog 6 #[.slice a n cap] w fun e w' => TxEndF w e w' := by
  go_enter Tryd.func6, Tryd.ntmps6
  go_wp2_with fail
  refine (l1Source_any a n cap l _ hl hr hB hn).mono ?_
  rintro e w1 ⟨rfl, hs, hb⟩
  have hlt : w.heap.size < w1.heap.size := (id hs).2.1
  go_wp2_with fail
  refine (l1Next_any w.heap.size w.heap.size 0 16 w1 hs (by omega) (by omega) (by omega)).mono ?_
  rintro e w2 ⟨r, rfl, r0, r1, -, hs2, hg2⟩
  have r1 := r1 (by omega)
  obtain ⟨k, rfl⟩ := Int.eq_ofNat_of_zero_le r0
  have hk : k < 16 := by omega
  have hB2 : Below w.heap.size w w2 := hb.trans (gbelow hg2 hlt)
  clear hs hg2 hb r0 r1
  go_wp2_with fail
  refine (l7Flags_any k w2 hk).mono ?_
  rintro e w3 ⟨rfl, hb3⟩
  have hlen : (str (fxL k)).size ≤ 60 := by rw [str_size]; exact fxL_len k hk
  generalize str (fxL k) = T at *
  have hs3 := hs2.below (hb3.mono hs2.2.1)
  have hB3 := hB2.trans (hb3.mono hB2.size)
  have hbA : Below w3.heap.size w3 (w3.alloc (.cells #[.string T, .string T, .string T, .string ⟨#[]⟩, .string ⟨#[115, 101, 101, 110, 32, 110, 111, 110, 101]⟩, .string ⟨#[100, 101, 108, 101, 116, 101, 100, 32, 115, 101, 101, 110]⟩, .string (T ++ ⟨#[32]⟩)] 9)) := (Below.refl _ _).alloc (Nat.le_refl _) _
  have hN := tx7_cells w3 T
  have hs4 := hs3.below (hbA.mono hs3.2.1)
  have hB4 := hB3.trans (hbA.mono hB3.size)
  have hne : w3.heap.size ≠ w.heap.size := by have := hs3.2.1; omega
  have hz1 : ¬ 9223372036854775807 < T.size + 1 := by omega
  clear hs2 hb3 hB2 hs3 hB3 hbA
  go_wp2_with fail
  generalize w3.alloc (.cells #[.string T, .string T, .string T, .string ⟨#[]⟩, .string ⟨#[115, 101, 101, 110, 32, 110, 111, 110, 101]⟩, .string ⟨#[100, 101, 108, 101, 116, 101, 100, 32, 115, 101, 101, 110]⟩, .string (T ++ ⟨#[32]⟩)] 9) = W4 at *
  generalize w3.heap.size = gS at *
  refine (l1Next_any w.heap.size w.heap.size 1 7 W4 hs4 (by omega) (by omega) (by omega)).mono ?_
  rintro e w5 ⟨r, rfl, r0, r1, -, hs5, hg5⟩
  have r1 := r1 (by omega)
  obtain ⟨i, rfl⟩ := Int.eq_ofNat_of_zero_le r0
  have hi7 : i < 7 := by omega
  have hN5 : w5.cell? ⟨gS, i, none⟩ = some (.string (tx7 T i)) := (World.grownBy.cell_far hg5 ⟨gS, i, none⟩ (World.block_lt_of_cell? _ _ (hN i hi7)) (fun e => by injection e with e; dsimp only at e; omega)).trans (hN i hi7)
  have HF : Hid (TxEndF w (.returned (.string (tx7 T i))) w5) := ⟨_, rfl, hB4.trans (gbelow hg5 hs4.2.1)⟩
  clear hs4 hs5 hg5 hN hB4 r0
  go_wp2
  go_ret
  exact HF.out
end Go.Proofs.YtilepbbcinbmhaaDoor
