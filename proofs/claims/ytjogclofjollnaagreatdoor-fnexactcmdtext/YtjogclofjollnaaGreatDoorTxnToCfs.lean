/- The text of a term that is of two, the model's; no conditions beyond those that each fact names · The text of terms, the model's TermsText: at every terms; no conditions beyond those that each fact names · What a command of a kind has: the model's l14Form; no conditions beyond those that each fact names. -/
import Derived.Test.YtjogclofjollnaaGreatDoorEncB3ToTxm
import Derived.Test.YtjogclofjollnaaGreatDoorTphToTxy
import Derived.Test.YtjogclofjollnaaGreatDoorCfn
import Derived.Test.YtjogclofjollnaaGreatDoorCmuToCfp
namespace Go.Proofs.YtjogclofjollnaaGreatDoor
open Go.RowKit
set_option linter.unusedVariables false
set_option maxHeartbeats 1600000 in
set_option maxRecDepth 100000 in
theorem tail_two (b off n cap i : Nat) (w : World) (hi : i < n) (k : Int) (hk : k = 10 ∨ k = 11) (j j' : Nat) (x y : List Nat) (hx : x.length ≤ 9999000) (hy : y.length ≤ 9999000) (hbw : b < w.heap.size) (HX : Hid (∀ W, Below w.heap.size w W → Calls Tryz.prog 61 #[.slice (some ⟨b, off, none⟩) n cap, .int .i64 (j : Int)] W fun e w' => e = .returned (.string (str x)) ∧ Below W.heap.size W w')) (HD : Hid (∀ W, Below w.heap.size w W → Calls Tryz.prog 61 #[.slice (some ⟨b, off, none⟩) n cap, .int .i64 (j' : Int)] W fun e w' => e = .returned (.string (str y)) ∧ Below W.heap.size W w')) (c0 : w.cell? ⟨b, off + i * 6, none⟩ = some (.int .i64 k)) (c4 : w.cell? ⟨b, off + i * 6 + 4, none⟩ = some (.int .i64 (j : Int))) (c5 : w.cell? ⟨b, off + i * 6 + 5, none⟩ = some (.int .i64 (j' : Int))) :
  Calls Tryz.prog 91 #[.slice (some ⟨b, off, none⟩) n cap, .int .i64 (i : Int)] w fun e w' => e = .returned (.string (str ([32] ++ x ++ [32] ++ y))) ∧ Below w.heap.size w w' := by
 have hki : (i : Int) < (n : Int) := by omega
 have HS : Hid (∀ W, Below w.heap.size w W → W.cell? ⟨b, off + i * 6 + 4, none⟩ = some (.int .i64 (j : Int)) ∧ W.cell? ⟨b, off + i * 6 + 5, none⟩ = some (.int .i64 (j' : Int))) := fun W h => ⟨(h.cell (p := ⟨b, off + i * 6 + 4, none⟩) hbw).trans c4, (h.cell (p := ⟨b, off + i * 6 + 5, none⟩) hbw).trans c5⟩
 obtain ⟨y1, h1⟩ : ∃ y1, (⟨#[32]⟩ : ByteArray) ++ str x = y1 := ⟨_, rfl⟩
 obtain ⟨y2, h2⟩ : ∃ y2, y1 ++ (⟨#[32]⟩ : ByteArray) = y2 := ⟨_, rfl⟩
 obtain ⟨y3, h3⟩ : ∃ y3, y2 ++ str y = y3 := ⟨_, rfl⟩
 have e1 : y1 = str ([32] ++ x) := by rw [← h1, sp_str]
 have e2 : y2 = str ([32] ++ x ++ [32]) := by rw [← h2, e1]; exact str_plusY _ [32]
 have HY : Hid (y3 = str ([32] ++ x ++ [32] ++ y)) := by show _ = _; rw [← h3, e2]; exact str_plusY _ _
 have s1 : (str x).size = x.length := str_size _
 have s2 : y1.size = x.length + 1 := by rw [e1, str_size]; simp
 have s3 : y2.size = x.length + 2 := by rw [e2, str_size]; simp
 have s4 : (str y).size = y.length := str_size _
 have z1 : ¬ 9223372036854775807 < 1 + (str x).size := by omega
 have z2 : ¬ 9223372036854775807 < y1.size + 1 := by omega
 have z3 : ¬ 9223372036854775807 < y2.size + (str y).size := by omega
 clear e1 e2 s1 s2 s3 s4
 go_enter Tryz.func91, Tryz.ntmps91
 rcases hk with rfl | rfl
 ·go_wp2_with fail
  refine wp_region_held_drew (S := (fun w' => w'.cell? ⟨b, off + i * 6 + 4, none⟩ = some (.int .i64 (j : Int)) ∧ w'.cell? ⟨b, off + i * 6 + 5, none⟩ = some (.int .i64 (j' : Int)))) (by kernel_rfl) ?hS1 (fun hHeld => ?_)
  case hS1 => exact ⟨c4, c5⟩
  refine tk (i := 0) (v := ?_) rfl (Or.inl ⟨by rfl, ?hz1000⟩) ?tz1000
  case hz1000 => (intro w' hSw; obtain ⟨e4, e5⟩ := hSw; go_simp; all_goals with_reducible rfl)
  simp only [Act.put, J1, J2, J4, J5, J6]
  refine tk (i := 1) (v := ?_) rfl (Or.inl ⟨by rfl, ?hz1001⟩) ?tz1001
  case hz1001 => (intro w' hSw; obtain ⟨e4, e5⟩ := hSw; go_simp; all_goals with_reducible rfl)
  simp only [Act.put, J1, J2, J3, J4, J5, J6]
  refine tk (i := 2) (v := ?_) rfl (Or.inl ⟨by rfl, ?hz1002⟩) ?tz1002
  case hz1002 => (intro w' hSw; obtain ⟨e4, e5⟩ := hSw; go_simp; all_goals with_reducible rfl)
  simp only [Act.put, J1, J2, J3, J4, J5, J6]
  refine tk (i := 3) (v := ?_) rfl (Or.inl ⟨by rfl, ?hz1003⟩) ?tz1003
  case hz1003 => (intro w' hSw; obtain ⟨e4, e5⟩ := hSw; go_simp; all_goals with_reducible rfl)
  simp only [Act.put, J1, J2, J3, J4, J5, J6]
  refine tk (i := 4) (v := ?_) rfl (Or.inl ⟨by rfl, ?hz1004⟩) ?tz1004
  case hz1004 => (intro w' hSw; obtain ⟨e4, e5⟩ := hSw; go_simp; all_goals with_reducible rfl)
  simp only [Act.put, J1, J2, J3, J4, J5, J6]
  refine tk (i := 8) (v := ?_) rfl (Or.inl ⟨by rfl, ?hz1008⟩) ?tz1008
  case hz1008 => (intro w' hSw; obtain ⟨e4, e5⟩ := hSw; go_simp; all_goals with_reducible rfl)
  simp only [Act.put, J1, J2, J3, J4, J5, J6]
  refine tk (i := 9) (v := ?_) rfl (Or.inl ⟨by rfl, ?hz1009⟩) ?tz1009
  case hz1009 => (intro w' hSw; obtain ⟨e4, e5⟩ := hSw; go_simp; all_goals with_reducible rfl)
  simp only [Act.put, J1, J2, J3, J4, J5, J6]
  refine tk (i := 10) (v := ?_) rfl (Or.inl ⟨by rfl, ?hz1010⟩) ?tz1010
  case hz1010 => (intro w' hSw; obtain ⟨e4, e5⟩ := hSw; go_simp; all_goals with_reducible rfl)
  simp only [Act.put, J1, J2, J3, J4, J5, J6]
  refine tk (i := 11) (v := ?_) rfl (Or.inl ⟨by rfl, ?hz1011⟩) ?tz1011
  case hz1011 => (intro w' hSw; obtain ⟨e4, e5⟩ := hSw; go_simp; all_goals with_reducible rfl)
  simp only [Act.put, J1, J2, J3, J4, J5, J6]
  refine tk (i := 12) (v := ?_) rfl (Or.inl ⟨by rfl, ?hz1012⟩) ?tz1012
  case hz1012 => (intro w' hSw; obtain ⟨e4, e5⟩ := hSw; go_simp; all_goals with_reducible rfl)
  simp only [Act.put, J1, J2, J3, J4, J5, J6]
  refine wpAnyH_ready (rs := [5]) (by kernel_rfl) (by simp) ?_
  refine AllReadyH.cons rfl (fun K hK => ?_) AllReadyH.nil
  go_simp
  refine (HX.out _ (Below.refl _ _).drew).mono ?_
  rintro e w1 ⟨rfl, hb1⟩
  have hB1 : Below w.heap.size w w1 := (Below.refl _ _).drew.trans hb1
  have hS1 := HS.out _ hB1
  refine hK.out _ _ hS1 (fun hHeld => ?_)
  clear hK K
  try simp only [Act.put, J1, J2, J3, J4, J5, J6]
  refine tk (i := 6) (v := .string y1) rfl (Or.inl ⟨by rfl, ?hz1006⟩) ?tz1006
  case hz1006 => (intro w' hSw; obtain ⟨e4, e5⟩ := hSw; go_simp; all_goals with_reducible rfl)
  simp only [Act.put, J1, J2, J3, J4, J5, J6]
  refine tk (i := 7) (v := .string y2) rfl (Or.inl ⟨by rfl, ?hz1007⟩) ?tz1007
  case hz1007 => (intro w' hSw; obtain ⟨e4, e5⟩ := hSw; go_simp; all_goals with_reducible rfl)
  simp only [Act.put, J1, J2, J3, J4, J5, J6]
  refine wpAnyH_ready (rs := [13]) (by kernel_rfl) (by simp) ?_
  refine AllReadyH.cons rfl (fun K hK => ?_) AllReadyH.nil
  go_simp
  refine (HD.out _ hB1).mono ?_
  rintro e w2 ⟨rfl, hb2⟩
  have hB2 := hB1.trans (hb2.mono hB1.size)
  refine hK.out _ _ (HS.out _ hB2) (fun hHeld => ?_)
  clear hK K
  try simp only [Act.put, J1, J2, J3, J4, J5, J6]
  refine tk (i := 14) (v := .string y3) rfl (Or.inl ⟨by rfl, ?hz1014⟩) ?tz1014
  case hz1014 => (intro w' hSw; obtain ⟨e4, e5⟩ := hSw; go_simp; all_goals with_reducible rfl)
  simp only [Act.put, J1, J2, J3, J4, J5, J6]
  refine tk (i := 15) (v := ?_) rfl (Or.inl ⟨by rfl, ?hz1015⟩) ?tz1015
  case hz1015 => (intro w' hSw; obtain ⟨e4, e5⟩ := hSw; go_simp; all_goals with_reducible rfl)
  simp only [Act.put, J1, J2, J3, J4, J5, J6]
  refine wpAnyH_done (by kernel_rfl) ?_ _
  clear hHeld
  go_wp2
  go_ret
  exact ⟨by rw [HY.out]; rfl, hB2⟩
 ·go_wp2_with fail
  refine wp_region_held_drew (S := (fun w' => w'.cell? ⟨b, off + i * 6 + 4, none⟩ = some (.int .i64 (j : Int)) ∧ w'.cell? ⟨b, off + i * 6 + 5, none⟩ = some (.int .i64 (j' : Int)))) (by kernel_rfl) ?hR1 (fun hHeld => ?_)
  case hR1 => exact ⟨c4, c5⟩
  refine tk (i := 0) (v := ?_) rfl (Or.inl ⟨by rfl, ?hw1000⟩) ?tw1000
  case hw1000 => (intro w' hSw; obtain ⟨e4, e5⟩ := hSw; go_simp; all_goals with_reducible rfl)
  simp only [Act.put, J1, J2, J4, J5, J6]
  refine tk (i := 1) (v := ?_) rfl (Or.inl ⟨by rfl, ?hw1001⟩) ?tw1001
  case hw1001 => (intro w' hSw; obtain ⟨e4, e5⟩ := hSw; go_simp; all_goals with_reducible rfl)
  simp only [Act.put, J1, J2, J3, J4, J5, J6]
  refine tk (i := 2) (v := ?_) rfl (Or.inl ⟨by rfl, ?hw1002⟩) ?tw1002
  case hw1002 => (intro w' hSw; obtain ⟨e4, e5⟩ := hSw; go_simp; all_goals with_reducible rfl)
  simp only [Act.put, J1, J2, J3, J4, J5, J6]
  refine tk (i := 3) (v := ?_) rfl (Or.inl ⟨by rfl, ?hw1003⟩) ?tw1003
  case hw1003 => (intro w' hSw; obtain ⟨e4, e5⟩ := hSw; go_simp; all_goals with_reducible rfl)
  simp only [Act.put, J1, J2, J3, J4, J5, J6]
  refine tk (i := 4) (v := ?_) rfl (Or.inl ⟨by rfl, ?hw1004⟩) ?tw1004
  case hw1004 => (intro w' hSw; obtain ⟨e4, e5⟩ := hSw; go_simp; all_goals with_reducible rfl)
  simp only [Act.put, J1, J2, J3, J4, J5, J6]
  refine tk (i := 8) (v := ?_) rfl (Or.inl ⟨by rfl, ?hw1008⟩) ?tw1008
  case hw1008 => (intro w' hSw; obtain ⟨e4, e5⟩ := hSw; go_simp; all_goals with_reducible rfl)
  simp only [Act.put, J1, J2, J3, J4, J5, J6]
  refine tk (i := 9) (v := ?_) rfl (Or.inl ⟨by rfl, ?hw1009⟩) ?tw1009
  case hw1009 => (intro w' hSw; obtain ⟨e4, e5⟩ := hSw; go_simp; all_goals with_reducible rfl)
  simp only [Act.put, J1, J2, J3, J4, J5, J6]
  refine tk (i := 10) (v := ?_) rfl (Or.inl ⟨by rfl, ?hw1010⟩) ?tw1010
  case hw1010 => (intro w' hSw; obtain ⟨e4, e5⟩ := hSw; go_simp; all_goals with_reducible rfl)
  simp only [Act.put, J1, J2, J3, J4, J5, J6]
  refine tk (i := 11) (v := ?_) rfl (Or.inl ⟨by rfl, ?hw1011⟩) ?tw1011
  case hw1011 => (intro w' hSw; obtain ⟨e4, e5⟩ := hSw; go_simp; all_goals with_reducible rfl)
  simp only [Act.put, J1, J2, J3, J4, J5, J6]
  refine tk (i := 12) (v := ?_) rfl (Or.inl ⟨by rfl, ?hw1012⟩) ?tw1012
  case hw1012 => (intro w' hSw; obtain ⟨e4, e5⟩ := hSw; go_simp; all_goals with_reducible rfl)
  simp only [Act.put, J1, J2, J3, J4, J5, J6]
  refine wpAnyH_ready (rs := [5]) (by kernel_rfl) (by simp) ?_
  refine AllReadyH.cons rfl (fun K hK => ?_) AllReadyH.nil
  go_simp
  refine (HX.out _ (Below.refl _ _).drew).mono ?_
  rintro e w1 ⟨rfl, hb1⟩
  have hB1 : Below w.heap.size w w1 := (Below.refl _ _).drew.trans hb1
  have hS1 := HS.out _ hB1
  refine hK.out _ _ hS1 (fun hHeld => ?_)
  clear hK K
  try simp only [Act.put, J1, J2, J3, J4, J5, J6]
  refine tk (i := 6) (v := .string y1) rfl (Or.inl ⟨by rfl, ?hw1006⟩) ?tw1006
  case hw1006 => (intro w' hSw; obtain ⟨e4, e5⟩ := hSw; go_simp; all_goals with_reducible rfl)
  simp only [Act.put, J1, J2, J3, J4, J5, J6]
  refine tk (i := 7) (v := .string y2) rfl (Or.inl ⟨by rfl, ?hw1007⟩) ?tw1007
  case hw1007 => (intro w' hSw; obtain ⟨e4, e5⟩ := hSw; go_simp; all_goals with_reducible rfl)
  simp only [Act.put, J1, J2, J3, J4, J5, J6]
  refine wpAnyH_ready (rs := [13]) (by kernel_rfl) (by simp) ?_
  refine AllReadyH.cons rfl (fun K hK => ?_) AllReadyH.nil
  go_simp
  refine (HD.out _ hB1).mono ?_
  rintro e w2 ⟨rfl, hb2⟩
  have hB2 := hB1.trans (hb2.mono hB1.size)
  refine hK.out _ _ (HS.out _ hB2) (fun hHeld => ?_)
  clear hK K
  try simp only [Act.put, J1, J2, J3, J4, J5, J6]
  refine tk (i := 14) (v := .string y3) rfl (Or.inl ⟨by rfl, ?hw1014⟩) ?tw1014
  case hw1014 => (intro w' hSw; obtain ⟨e4, e5⟩ := hSw; go_simp; all_goals with_reducible rfl)
  simp only [Act.put, J1, J2, J3, J4, J5, J6]
  refine tk (i := 15) (v := ?_) rfl (Or.inl ⟨by rfl, ?hw1015⟩) ?tw1015
  case hw1015 => (intro w' hSw; obtain ⟨e4, e5⟩ := hSw; go_simp; all_goals with_reducible rfl)
  simp only [Act.put, J1, J2, J3, J4, J5, J6]
  refine wpAnyH_done (by kernel_rfl) ?_ _
  clear hHeld
  go_wp2
  go_ret
  exact ⟨by rw [HY.out]; rfl, hB2⟩
end Go.Proofs.YtjogclofjollnaaGreatDoor
namespace Go.Proofs.YtjogclofjollnaaGreatDoor
open Go.RowKit
set_option linter.unusedVariables false
set_option maxHeartbeats 1600000 in
set_option maxRecDepth 100000 in
theorem l12Text_step (b off n cap i : Nat) (k : Int) (hk : 1 ≤ k ∧ k ≤ 11) (x : List Nat) (hx : x.length ≤ 99990000) (w : World) (hbw : b < w.heap.size) (hi : i < n) (c0 : w.cell? ⟨b, off + i * 6, none⟩ = some (.int .i64 k))
  (HT : ∀ W, Below w.heap.size w W → Calls Tryz.prog 91 #[.slice (some ⟨b, off, none⟩) n cap, .int .i64 (i : Int)] W fun e w' => e = .returned (.string (str x)) ∧ Below W.heap.size W w') :
  Calls Tryz.prog 61 #[.slice (some ⟨b, off, none⟩) n cap, .int .i64 (i : Int)] w fun e w' => e = .returned (.string (str (twN k.toNat ++ x))) ∧ Below w.heap.size w w' := by
 have hki : (i : Int) < (n : Int) := by omega
 have HW := l12Word_any k w hk
 have HP : Hid (str (twN k.toNat) ++ str x = str (twN k.toNat ++ x)) := str_plusY _ _
 have hs : (str (twN k.toNat)).size ≤ 7 := by rw [str_size]; exact twN_len _
 have hs2 : (str x).size ≤ 99990000 := by rw [str_size]; exact hx
 have hz : ¬ 9223372036854775807 < (str (twN k.toNat)).size + (str x).size := by omega
 have HT : Hid _ := HT
 generalize str (twN k.toNat ++ x) = y at *
 generalize str (twN k.toNat) = u at *
 generalize str x = v at *
 clear hk hx
 go_enter Tryz.func61, Tryz.ntmps61
 go_wp2_with fail
 refine HW.mono ?_
 rintro e w1 ⟨rfl, hb1⟩
 go_wp2_with fail
 refine (HT.out w1 hb1).mono ?_
 rintro e w2 ⟨rfl, hb2⟩
 have hB2 := hb1.trans (hb2.mono hb1.size)
 clear HW HT
 go_wp2
 go_ret
 exact ⟨by rw [← HP.out]; rfl, hB2⟩
theorem tl_len {l : List TmR} (hG : ∀ j, j < l.length → GoodT l j) {f i : Nat} (hf : f + 1 ≤ 12) (hi : i < l.length) {x : List Nat} (h : txT l (f + 1) i = twN (nthTm l i).k.toNat ++ x) : x.length ≤ 99990000 := by
 have := txT_lt hG hf hi
 rw [h, List.length_append] at this
 omega
set_option maxRecDepth 100000 in
theorem l12Text_any (b off n cap : Nat) (l : List TmR) (ps : Nat → SlT) {lo : Nat} (w : World) (hl : l.length = n) (hbw : b < w.heap.size) (hc : ∀ i, i < l.length → Tc6 w b (off + i * 6) (ps i) (nthTm l i) ∧ IsTm lo w (ps i) (nthTm l i)) (hG : ∀ j, j < l.length → GoodT l j) :
  ∀ f, f ≤ 12 → ∀ i, i < f → i < l.length → ∀ W, Below w.heap.size w W → Calls Tryz.prog 61 #[.slice (some ⟨b, off, none⟩) n cap, .int .i64 (i : Int)] W fun e w' => e = .returned (.string (str (txT l f i))) ∧ Below W.heap.size W w' := by
 intro f
 induction f with
 | zero => intro _ i h; omega
 | succ f ih =>
  intro hf i hif hi W hb
  have ih := ih (by omega)
  obtain ⟨g1, g2, g3⟩ := hG i hi
  obtain ⟨hk, hy8, hbd⟩ := ow_bd g1
  obtain ⟨⟨c0, c1, c2, c3, c4, c5⟩, hI⟩ := hc i hi
  have hin : i < n := by omega
  have hbW : b < W.heap.size := Nat.lt_of_lt_of_le hbw hb.size
  have hle : leT (nthTm l i) = if (nthTm l i).k = 2 then fxL (nthTm l i).n.toNat else if (nthTm l i).k = 6 ∨ (nthTm l i).k = 7 then (encT 4 (nthTm l i).c).2 else if (nthTm l i).k = 8 then txY (nthTm l i).y else dgF 3 (nthTm l i).n.toNat := rfl
  have hcel : ∀ (o : Nat) (v : Value), w.cell? ⟨b, o, none⟩ = some v → ∀ W', Below W.heap.size W W' → W'.cell? ⟨b, o, none⟩ = some v := fun o v h W' h' => ((hb.trans (h'.mono hb.size)).cell (p := ⟨b, o, none⟩) hbw).trans h
  have key : ∀ x : List Nat, txT l (f + 1) i = twN (nthTm l i).k.toNat ++ x → (∀ W', Below W.heap.size W W' → Calls Tryz.prog 91 #[.slice (some ⟨b, off, none⟩) n cap, .int .i64 (i : Int)] W' fun e w' => e = .returned (.string (str x)) ∧ Below W'.heap.size W' w') →
    Calls Tryz.prog 61 #[.slice (some ⟨b, off, none⟩) n cap, .int .i64 (i : Int)] W fun e w' => e = .returned (.string (str (txT l (f + 1) i))) ∧ Below W.heap.size W w' := fun x hx HT => by
   rw [hx]
   exact l12Text_step b off n cap i (nthTm l i).k hk x (tl_len hG hf hi hx) W hbW hin (hcel _ _ c0 W (Below.refl _ _)) HT
  by_cases k1 : (nthTm l i).k = 1
  ·rw [k1] at c0
   exact key [] (by rw [tx_all k1, k1]; simp) fun W' h' => tail_1 b off n cap i W' hin (hcel _ _ c0 W' h')
  by_cases k2 : (nthTm l i).k = 2
  ·obtain ⟨j, hj, e⟩ := bdT_2 g1 k2
   rw [k2] at c0
   rw [e] at c1
   exact key ([32] ++ fxL j) (by rw [tx_leaf (by omega), hle, if_pos k2, e, Int.toNat_natCast, List.append_assoc]) fun W' h' => tail_2 b off n cap i W' hin j hj (hcel _ _ c0 W' h') (hcel _ _ c1 W' h')
  by_cases k3 : (nthTm l i).k = 3 ∨ (nthTm l i).k = 4 ∨ (nthTm l i).k = 5
  ·obtain ⟨j, hj, e⟩ := bdT_345 g1 k3
   rw [e] at c1
   exact key ([32] ++ dgF 3 j) (by rw [tx_leaf (by omega), hle, if_neg (by omega), if_neg (by omega), if_neg (by omega), e, Int.toNat_natCast, List.append_assoc]) fun W' h' => tail_345 b off n cap i W' hin _ k3 j hj (hcel _ _ c0 W' h') (hcel _ _ c1 W' h')
  by_cases k6 : (nthTm l i).k = 6 ∨ (nthTm l i).k = 7
  ·obtain ⟨hc20, hch⟩ := bdT_67 g1 k6
   have hx := hI.1
   generalize (ps i).1 = q at *
   obtain ⟨a, m, cc⟩ := q
   exact key ([32] ++ (encT 4 (nthTm l i).c).2) (by rw [tx_leaf (by omega), hle, if_neg (by omega), if_pos k6, List.append_assoc]) fun W' h' => tail_67 b off n cap i W' hin _ k6 a m cc _ hx.1 (by have := hx.1; dsimp only at this; omega) hch ((hx.below (hb.trans (h'.mono hb.size))).2.2.2.1) (hcel _ _ c0 W' h') (hcel _ _ c2 W' h')
  by_cases k8 : (nthTm l i).k = 8
  ·have hx := hI.2
   rw [k8] at c0
   generalize (ps i).2 = q at *
   obtain ⟨a, m, cc⟩ := q
   exact key ([32] ++ txY (nthTm l i).y) (by rw [tx_leaf (by omega), hle, if_neg (by omega), if_neg (by omega), if_pos k8, List.append_assoc]) fun W' h' => tail_8 b off n cap i W' hin a m cc _ hx.1 (hy8 k8) ((hx.below (hb.trans (h'.mono hb.size))).2.2.2.1) (hcel _ _ c0 W' h') (hcel _ _ c3 W' h')
  by_cases k9 : (nthTm l i).k = 9
  ·obtain ⟨j, hj, e⟩ := g2 k9
   rw [k9] at c0
   rw [e] at c4
   exact key ([32] ++ txT l f j) (by rw [tx_not k9, k9, e, Int.toNat_natCast, List.append_assoc]; rfl) fun W' h' => tail_9 b off n cap i W' hin j _ (txT_lt hG (by omega) (by omega)) (show Hid _ from fun W2 h2 => ih j (by omega) (by omega) W2 ((hb.trans (h'.mono hb.size)).trans (h2.mono (hb.trans (h'.mono hb.size)).size))) (hcel _ _ c0 W' h') (hcel _ _ c4 W' h')
  have k10 : (nthTm l i).k = 10 ∨ (nthTm l i).k = 11 := by omega
  obtain ⟨j, j', hj, hj', e, e'⟩ := g3 (twK_k k10)
  rw [e] at c4
  rw [e'] at c5
  exact key ([32] ++ txT l f j ++ [32] ++ txT l f j') (by rw [tx_two (twK_k k10), e, e', Int.toNat_natCast, Int.toNat_natCast]; simp) fun W' h' => tail_two b off n cap i W' hin _ k10 j j' _ _ (txT_lt hG (by omega) (by omega)) (txT_lt hG (by omega) (by omega)) (Nat.lt_of_lt_of_le hbW h'.size) (show Hid _ from fun W2 h2 => ih j (by omega) (by omega) W2 ((hb.trans (h'.mono hb.size)).trans (h2.mono (hb.trans (h'.mono hb.size)).size))) (show Hid _ from fun W2 h2 => ih j' (by omega) (by omega) W2 ((hb.trans (h'.mono hb.size)).trans (h2.mono (hb.trans (h'.mono hb.size)).size))) (hcel _ _ c0 W' h') (hcel _ _ c4 W' h') (hcel _ _ c5 W' h')
end Go.Proofs.YtjogclofjollnaaGreatDoor
namespace Go.Proofs.YtjogclofjollnaaGreatDoor
open Go.RowKit
set_option linter.unusedVariables false
set_option maxHeartbeats 3200000 in
set_option maxRecDepth 100000 in
theorem l14Pathed_any (h : Int) (w : World) : Calls Tryz.prog 47 #[.int .i64 h] w fun e w' => e = .returned (.bool (ptK h)) ∧ w = w' := by
 go_enter Tryz.func47, Tryz.ntmps47
 go_wp2_with fail
 refine (l1In_bt _ _ _ _).mono ?_
 rintro e w1 ⟨rfl, rfl⟩
 go_wp2
 go_ret
 exact ⟨rfl, rfl⟩
set_option maxHeartbeats 3200000 in
set_option maxRecDepth 100000 in
theorem l14Named_any (k : Int) (w : World) : Calls Tryz.prog 29 #[.int .i64 k] w fun e w' => e = .returned (.bool (nmK k)) ∧ w = w' := by
 by_cases h2 : k = 2
 ·subst h2
  go_enter Tryz.func29, Tryz.ntmps29
  go_wp2
  go_ret
  exact ⟨rfl, rfl⟩
 by_cases h3 : k = 3
 ·subst h3
  go_enter Tryz.func29, Tryz.ntmps29
  go_wp2
  go_ret
  exact ⟨rfl, rfl⟩
 by_cases h4 : k = 4
 ·subst h4
  go_enter Tryz.func29, Tryz.ntmps29
  go_wp2
  go_ret
  exact ⟨rfl, rfl⟩
 by_cases h6 : k = 6
 ·subst h6
  go_enter Tryz.func29, Tryz.ntmps29
  go_wp2
  go_ret
  exact ⟨rfl, rfl⟩
 by_cases h8 : k = 8
 ·subst h8
  go_enter Tryz.func29, Tryz.ntmps29
  go_wp2
  go_ret
  exact ⟨rfl, rfl⟩
 by_cases h9 : k = 9
 ·subst h9
  go_enter Tryz.func29, Tryz.ntmps29
  go_wp2
  go_ret
  exact ⟨rfl, rfl⟩
 have HR : Hid (nmK k = false) := by show _ = _; unfold nmK; simp [h2, h3, h4, h6, h8, h9]
 generalize nmK k = r at *
 go_enter Tryz.func29, Tryz.ntmps29
 go_wp2
 go_ret
 exact ⟨by rw [HR.out]; first | rfl | simp [h2, h3, h4, h6, h8, h9] | simp, rfl⟩
set_option maxHeartbeats 3200000 in
set_option maxRecDepth 100000 in
theorem l14Termed_any (k : Int) (w : World) : Calls Tryz.prog 34 #[.int .i64 k] w fun e w' => e = .returned (.bool (tmK k)) ∧ w = w' := by
 by_cases h12 : k = 12
 ·subst h12
  go_enter Tryz.func34, Tryz.ntmps34
  go_wp2
  go_ret
  exact ⟨rfl, rfl⟩
 by_cases h13 : k = 13
 ·subst h13
  go_enter Tryz.func34, Tryz.ntmps34
  go_wp2
  go_ret
  exact ⟨rfl, rfl⟩
 have HR : Hid (tmK k = false) := by show _ = _; unfold tmK; simp [h12, h13]
 generalize tmK k = r at *
 go_enter Tryz.func34, Tryz.ntmps34
 go_wp2
 go_ret
 exact ⟨by rw [HR.out]; first | rfl | simp [h12, h13] | simp, rfl⟩
set_option maxHeartbeats 3200000 in
set_option maxRecDepth 100000 in
theorem l14Ranged_any (k : Int) (w : World) : Calls Tryz.prog 31 #[.int .i64 k] w fun e w' => e = .returned (.bool (rgK k)) ∧ w = w' := by
 have HV : Hid (rgK k = (bt k 7 9 || decide (k = 11))) := by
  show _ = _
  unfold rgK bt
  by_cases h : k = 11
  ·subst h; rfl
  ·simp only [h, decide_false, Bool.or_false, or_false]
   exact decide_eq_decide.2 (by omega)
 have HC : Hid (∀ w, Calls Tryz.prog 46 #[.int .i64 k, .int .i64 7, .int .i64 9] w fun e w' => e = .returned (.bool (bt k 7 9)) ∧ w = w') := fun w => l1In_bt _ _ _ w
 generalize bt k 7 9 = b at *
 generalize rgK k = r at *
 cases b with
 | true =>
  have HR : Hid (r = true) := HV.out.trans (by simp)
  clear HV
  go_enter Tryz.func31, Tryz.ntmps31
  go_wp2_with fail
  refine (HC.out _).mono ?_
  rintro e w1 ⟨rfl, rfl⟩
  go_wp2
  go_ret
  exact ⟨by rw [HR.out]; rfl, rfl⟩
 | false =>
  by_cases h : k = 11
  ·have HR : Hid (r = true) := HV.out.trans (by simp [h])
   clear HV
   subst h
   go_enter Tryz.func31, Tryz.ntmps31
   go_wp2_with fail
   refine (HC.out _).mono ?_
   rintro e w1 ⟨rfl, rfl⟩
   go_wp2
   go_ret
   exact ⟨by rw [HR.out]; rfl, rfl⟩
  ·have HR : Hid (r = false) := HV.out.trans (by simp [h])
   clear HV
   go_enter Tryz.func31, Tryz.ntmps31
   go_wp2_with fail
   refine (HC.out _).mono ?_
   rintro e w1 ⟨rfl, rfl⟩
   go_wp2
   go_ret
   exact ⟨by rw [HR.out]; first | rfl | simp [h] | simp, rfl⟩
end Go.Proofs.YtjogclofjollnaaGreatDoor
