/- An op read from its bytes: the program's; no conditions beyond those that each fact names. -/
import Derived.Test.YtdcgihcjiiemdaaDoorRjaToOsw
import Derived.Test.YtdcgihcjiiemdaaDoorDrw2ToAppI
import Derived.OneCell
namespace Go.Proofs.YtdcgihcjiiemdaaDoor
open Go.RowKit
set_option linter.unusedVariables false
theorem OwnI.setR {w : World} {B R i : Nat} {v x : Value} {l : List Int} (h : OwnI w B v l) (hR : R < B) : OwnI (w.setCell ⟨R, i, none⟩ x) B v l :=
 ownsRow_setCell_other h (fun e => by have := (h.lt _ e).1; simp at this; omega) _
theorem Own.setR {w : World} {B R i : Nat} {v x : Value} {l : List Nat} (h : Own w B v l) (hR : R < B) : Own (w.setCell ⟨R, i, none⟩ x) B v l :=
 ownsRow_setCell_other h (fun e => by have := (h.lt _ e).1; simp at this; omega) _
theorem OwnI.wr {w : World} {B n c : Nat} {a : Option Addr} {l : List Int} (h : OwnI w B (.slice a n c) l) : WrQ B w (a, n, c) := by
 have hl := h.rd.1
 subst hl
 rcases h.2 with ⟨_, h0⟩ | ⟨g, cap', cur, e', hB', -⟩
 ·exact .inl h0
 ·injection e' with e1 e2 e3
  subst e1
  exact WrQ.own h hB'
theorem Own.wr {w : World} {B n c : Nat} {a : Option Addr} {l : List Nat} (h : Own w B (.slice a n c) l) : WrQ B w (a, n, c) := by
 have hl := h.rd.1
 subst hl
 rcases h.2 with ⟨_, h0⟩ | ⟨g, cap', cur, e', hB', -⟩
 ·exact .inl h0
 ·injection e' with e1 e2 e3
  subst e1
  exact WrQ.own h hB'
theorem OwnI.il {w : World} {B n c : Nat} {a : Option Addr} {l : List Int} (h : OwnI w B (.slice a n c) l) : IsIl B w (a, n, c) l := by
 obtain ⟨a', c', e, h1, h2⟩ := h.form
 injection e with e1 e2 e3
 subst e1 e2 e3
 exact ⟨rfl, h1, h2, h.rd.2, fun x hx => by
  have hx : a = some x := hx
  subst hx
  exact (h.lt x.block rfl).1⟩
theorem Own.sl {w : World} {B n c : Nat} {a : Option Addr} {l : List Nat} (h : Own w B (.slice a n c) l) (hb : IsB l) : IsSl B w (a, n, c) l := by
 obtain ⟨a', c', e, h1, h2⟩ := h.form
 injection e with e1 e2 e3
 subst e1 e2 e3
 exact ⟨rfl, h1, h2, hb, h.rd.2, fun x hx => by
  have hx : a = some x := hx
  subst hx
  exact (h.lt x.block rfl).1⟩
def UpJ (R : Nat) (w w' : World) : Prop := Below R w w' ∧ (∀ p : Addr, p.block ≠ R → w'.cell? p = w.cell? p) ∧ (∀ p : Addr, w'.frozen? p = w.frozen? p) ∧ ∀ (B : Nat) (v : Value) (l : List Int), R < B → OwnI w B v l → OwnI w' B v l
theorem UpJ.ow {R B : Nat} {w w' : World} {v : Value} {l : List Int} (h : UpJ R w w') (ho : OwnI w B v l) (hR : R < B) : OwnI w' B v l := h.2.2.2 B v l hR ho
theorem UpJ.set (R : Nat) (w : World) (v : Value) : UpJ R w (w.setCell ⟨R, 0, none⟩ v) := ⟨(Below.refl R w).setCell (p := ⟨R, 0, none⟩) (Nat.le_refl _) v, fun p hp => World.cell?_setCell_other _ _ _ _ (fun e => hp (by rw [← e])), fun p => World.frozen?_setCell _ _ _ _, fun _ _ _ hR ho => ho.setR hR⟩
theorem UpJ.trans {R : Nat} {w w' w'' : World} (h : UpJ R w w') (h' : UpJ R w' w'') : UpJ R w w'' := ⟨h.1.trans h'.1, fun p hp => (h'.2.1 p hp).trans (h.2.1 p hp), fun p => (h'.2.2.1 p).trans (h.2.2.1 p), fun B v l hR ho => h'.2.2.2 B v l hR (h.2.2.2 B v l hR ho)⟩
theorem UpJ.qo {R g : Nat} {w w' : World} {q : Oc} (h : UpJ R w w') (hg : g ≠ R) (hq : Qo w g q) : Qo w' g q := by
 obtain ⟨h0, h1, h2, h3, h4, h5, h6, h7⟩ := hq
 exact ⟨(h.2.1 _ hg).trans h0, (h.2.1 _ hg).trans h1, (h.2.1 _ hg).trans h2, (h.2.1 _ hg).trans h3, (h.2.1 _ hg).trans h4, (h.2.1 _ hg).trans h5, (h.2.1 _ hg).trans h6, (h.2.1 _ hg).trans h7⟩
theorem UpJ.fo {R g : Nat} {w w' : World} (h : UpJ R w w') (hq : Fo w g) : Fo w' g := by
 obtain ⟨h0, h1, h2, h3, h4, h5, h6, h7⟩ := hq
 exact ⟨(h.2.2.1 _).trans h0, (h.2.2.1 _).trans h1, (h.2.2.1 _).trans h2, (h.2.2.1 _).trans h3, (h.2.2.1 _).trans h4, (h.2.2.1 _).trans h5, (h.2.2.1 _).trans h6, (h.2.2.1 _).trans h7⟩
theorem UpJ.below {R B : Nat} {w w' : World} (h : UpJ R w w') (hB : B ≤ R) : Below B w w' := h.1.mono hB
def NumE (D R : Nat) (k : Nat) (r : List Nat) (w : World) (e : Ending) (w' : World) : Prop := ∃ v : Value, e = .returned (.int .i64 (k : Int)) ∧ UpJ R w w' ∧ RsJ D R w' r
def NamE (D R : Nat) (t r : List Nat) (w : World) (e : Ending) (w' : World) : Prop := ∃ v : Value, e = .returned (.string (str t)) ∧ UpJ R w w' ∧ RsJ D R w' r
theorem rdnumE (D R c : Nat) (l : List Nat) (w : World) (h : RsJ D R w l) (hD : D ≤ R) (hc : c ≤ 2) (hB : IsB l) :
  Calls Tryd.prog 47 #[.pointer (some ⟨R, 0, none⟩), .int .i64 (c : Int)] w fun e w' => NumE D R (nmJ (l.take c)) (l.drop c) w e w' :=
 (rdnum_any D R c l w h hD hc hB).mono fun e w' ⟨v, he, hw, hr⟩ => ⟨v, he, by rw [hw]; exact .set _ _ _, hr⟩
set_option maxHeartbeats 800000 in
set_option maxRecDepth 100000 in
theorem rdname_any (D R : Nat) (l : List Nat) (w : World) (h : RsJ D R w l) (hD : D ≤ R) (hB : IsB l) :
  Calls Tryd.prog 48 #[.pointer (some ⟨R, 0, none⟩)] w fun e w' => NamE D R ((l.drop 1).take (nmJ (l.take 1))) ((l.drop 1).drop (nmJ (l.take 1))) w e w' := by
 have HN := rdnumE D R 1 l w h hD (by omega) hB
 rw [show ((1 : Nat) : Int) = 1 from rfl] at HN
 have hk : nmJ (l.take 1) < 65536 := nmJ_lt 2 _ (isB_take hB 1) (by rw [List.length_take]; omega) (by omega)
 generalize l.drop 1 = r at *
 generalize nmJ (l.take 1) = k at *
 have HT : Hid (∀ w1, RsJ D R w1 r → Calls Tryd.prog 46 #[.pointer (some ⟨R, 0, none⟩), .int .i64 (k : Int)] w1 fun e w' => TkEnd D R (r.take k) (r.drop k) w1 e w') := fun w1 h => take_any D R k r w1 h hD (by omega)
 generalize r.take k = t at *
 generalize r.drop k = rr at *
 clear h
 go_enter Tryd.func48, Tryd.ntmps48
 go_wp2_with fail
 refine HN.mono ?_
 rintro e w1 ⟨-, rfl, hup, hr⟩
 clear HN
 go_wp2_with fail
 refine (HT.out w1 hr).mono ?_
 rintro e w2 ⟨a, cp, v, rfl, hw2, -, -, hrd, hrs⟩
 have hup2 : UpJ R w1 w2 := by rw [hw2]; exact .set _ _ _
 have hcv := run_str (cap := cp) (n := t.length) rfl (hrd.keep (hup2.below hD)).rd
 have HU : Hid (UpJ R w w2) := hup.trans hup2
 clear hw2 hup hup2 hrd hr
 go_wp2
 go_ret
 exact ⟨.bool false, rfl, HU.out, hrs⟩
theorem tkU_snoc : ∀ (j : Nat) (l : List Nat), tkU (j + 1) l = tkU j l ++ [(nmJ ((l.drop (2 * j)).take 2) : Int)]
 | 0, l => rfl
 | j + 1, l => by
  show (nmJ (l.take 2) : Int) :: tkU (j + 1) (l.drop 2) = ((nmJ (l.take 2) : Int) :: tkU j (l.drop 2)) ++ _
  rw [tkU_snoc j (l.drop 2), List.drop_drop, show 2 + 2 * j = 2 * (j + 1) by omega]
  rfl
theorem tkU_snoc' {j y : Nat} {l : List Nat} (h : nmJ ((l.drop (2 * j)).take 2) = y) : tkU (j + 1) l = tkU j l ++ [(y : Int)] := by rw [tkU_snoc, h]
theorem tkU_len : ∀ (j : Nat) (l : List Nat), (tkU j l).length = j
 | 0, _ => rfl
 | j + 1, l => by
  show (tkU j (l.drop 2)).length + 1 = _
  rw [tkU_len j]
def RfEnd (o : OpR) (w : World) (e : Ending) (w' : World) : Prop := ∃ p : SlO, e = .returned (opX o p) ∧ IsOp w.heap.size w' p o ∧ (WrQ w.heap.size w' p.1 ∧ WrQ w.heap.size w' p.2) ∧ (∀ x y, p.1.1 = some x → p.2.1 = some y → x.block ≠ y.block) ∧ Below w.heap.size w w'
set_option maxHeartbeats 3200000 in
set_option maxRecDepth 100000 in
theorem readFrom_any (a : Option Addr) (n cap : Nat) (l : List Nat) (w : World) (hl : l.length = n) (hnc : n ≤ cap) (hcm : cap ≤ maxLen) (hr : Rd w a l) (hB : IsB l) :
  Calls Tryd.prog 26 #[.slice a n cap] w fun e w' => RfEnd (rdP l) w e w' := by
 have hrD : RdD w.heap.size w a l := by
  rcases hr with h | ⟨b, off, e, hlt, hc⟩
  ·exact .inl h
  ·exact .inr ⟨b, off, e, hlt, hlt, hc⟩
 obtain ⟨l1, hl1⟩ : ∃ l1, l1 = l.drop 2 := ⟨_, rfl⟩
 obtain ⟨l2, hl2⟩ : ∃ l2, l2 = l1.drop 1 := ⟨_, rfl⟩
 obtain ⟨l3, hl3⟩ : ∃ l3, l3 = (l2.drop 1).drop (nmJ (l2.take 1)) := ⟨_, rfl⟩
 obtain ⟨l4, hl4⟩ : ∃ l4, l4 = (l3.drop 1).drop (nmJ (l3.take 1)) := ⟨_, rfl⟩
 obtain ⟨l5, hl5⟩ : ∃ l5, l5 = l4.drop 1 := ⟨_, rfl⟩
 obtain ⟨kN, hkN⟩ : ∃ kN, kN = nmJ (l1.take 1) := ⟨_, rfl⟩
 obtain ⟨xT, hxT⟩ : ∃ xT, xT = (l2.drop 1).take (nmJ (l2.take 1)) := ⟨_, rfl⟩
 obtain ⟨tT, htT⟩ : ∃ tT, tT = (l3.drop 1).take (nmJ (l3.take 1)) := ⟨_, rfl⟩
 obtain ⟨uN, huN⟩ : ∃ uN, uN = nmJ (l4.take 1) := ⟨_, rfl⟩
 have HRD : Hid (rdP l = rd5 kN xT tT (tkU uN l5) (l5.drop (2 * uN))) := by
  show _ = _
  unfold rdP rd2 rd3 rd4
  rw [huN, hl5, htT, hxT, hkN, hl4, hl3, hl2, hl1]
  simp only [List.drop_drop]
 have hB1 : IsB l1 := by rw [hl1]; exact isB_drop hB _
 have hB2 : IsB l2 := by rw [hl2]; exact isB_drop hB1 _
 have hB3' : IsB l3 := by rw [hl3]; exact isB_drop (isB_drop hB2 _) _
 have hB4 : IsB l4 := by rw [hl4]; exact isB_drop (isB_drop hB3' _) _
 have hB5 : IsB l5 := by rw [hl5]; exact isB_drop hB4 _
 have huN2 : uN < 65536 := by rw [huN]; exact nmJ_lt 2 _ (isB_take hB4 1) (by rw [List.length_take]; omega) (by omega)
 have C1 : Hid (∀ w' , RsJ w.heap.size (w.heap.size + 1) w' l1 → Calls Tryd.prog 47 #[.pointer (some ⟨w.heap.size + 1, 0, none⟩), .int .i64 1] w' fun e w'' => NumE w.heap.size (w.heap.size + 1) kN l2 w' e w'') := fun w' h => by rw [hkN, hl2]; exact rdnumE _ _ 1 _ _ h (by omega) (by omega) hB1
 have C2 : Hid (∀ w' , RsJ w.heap.size (w.heap.size + 1) w' l2 → Calls Tryd.prog 48 #[.pointer (some ⟨w.heap.size + 1, 0, none⟩)] w' fun e w'' => NamE w.heap.size (w.heap.size + 1) xT l3 w' e w'') := fun w' h => by rw [hxT, hl3]; exact rdname_any _ _ _ _ h (by omega) hB2
 have C3 : Hid (∀ w' , RsJ w.heap.size (w.heap.size + 1) w' l3 → Calls Tryd.prog 48 #[.pointer (some ⟨w.heap.size + 1, 0, none⟩)] w' fun e w'' => NamE w.heap.size (w.heap.size + 1) tT l4 w' e w'') := fun w' h => by rw [htT, hl4]; exact rdname_any _ _ _ _ h (by omega) hB3'
 have C4 : Hid (∀ w' , RsJ w.heap.size (w.heap.size + 1) w' l4 → Calls Tryd.prog 47 #[.pointer (some ⟨w.heap.size + 1, 0, none⟩), .int .i64 1] w' fun e w'' => NumE w.heap.size (w.heap.size + 1) uN l5 w' e w'') := fun w' h => by rw [huN, hl5]; exact rdnumE _ _ 1 _ _ h (by omega) (by omega) hB4
 generalize rdP l = o at *
 clear hkN hxT htT huN hl2 hl3 hl4 hl5 hB1 hB2 hB3' hB4
 obtain ⟨W1, hW1⟩ : ∃ W1, w.alloc (.cells #[.int .i64 0, .string ⟨#[]⟩, .string ⟨#[]⟩, .slice none 0 0, .int .i64 0, .int .i64 0, .int .i64 0, .slice none 0 0] 27) = W1 := ⟨_, rfl⟩
 have hs1 : W1.heap.size = w.heap.size + 1 := by rw [← hW1]; simp
 have b1 : Below w.heap.size w W1 := by rw [← hW1]; exact (Below.refl _ _).alloc (Nat.le_refl _) _
 have hQA1 : Qo W1 w.heap.size ⟨.int .i64 0, .string ⟨#[]⟩, .string ⟨#[]⟩, .slice none 0 0, .int .i64 0, .int .i64 0, .int .i64 0, .slice none 0 0⟩ := by rw [← hW1]; exact Qo.new _ _ _ _ _ _ _ _ _ _
 have fA1 : Fo W1 w.heap.size := by rw [← hW1]; exact Fo.new _ _ _ _ _ _ _ _ _ _
 obtain ⟨W2, hW2⟩ : ∃ W2, W1.alloc (.cells #[.slice a n cap] 74) = W2 := ⟨_, rfl⟩
 have hs2 : W2.heap.size = w.heap.size + 1 + 1 := by rw [← hW2]; simp [hs1]
 have b2 : Below W1.heap.size W1 W2 := by rw [← hW2]; exact (Below.refl _ _).alloc (Nat.le_refl _) _
 have hB2w : Below w.heap.size w W2 := b1.trans (b2.mono (by omega))
 have hRS2 : RsJ w.heap.size (w.heap.size + 1) W2 l := by
  refine ⟨a, n, cap, ?_, hl, hnc, hcm, hrD.keep hB2w, ?_⟩
  ·rw [← hW2, ← hs1]; simp
  ·rw [← hW2, ← hs1]; simp
 have hQA2 : Qo W2 w.heap.size _ := hQA1.below b2 (by omega)
 have fA2 : Fo W2 w.heap.size := fA1.below b2 (by omega)
 have CT := take_any w.heap.size (w.heap.size + 1) 2 l W2 hRS2 (by omega) (by omega)
 rw [← hl1, show ((2 : Nat) : Int) = 2 from rfl] at CT
 have hlk : (l.take 2).length ≤ 2 := by rw [List.length_take]; omega
 clear hl1 hrD b1 b2 hQA1 fA1 hr hRS2 hl hnc hcm hB
 generalize l.take 2 = lt at *
 go_enter Tryd.func26, Tryd.ntmps26
 go_wp2_with fail
 refine CT.mono ?_
 rintro e w2 ⟨ax, cx, vx, rfl, hwx, -, -, -, hRx⟩
 have hup : UpJ (w.heap.size + 1) W2 w2 := by rw [hwx]; exact .set _ _ _
 have hs2' : w2.heap.size = w.heap.size + 1 + 1 := by rw [hwx]; simpa using hs2
 have hQA2' := hup.qo (by omega) hQA2
 have fA2' := hup.fo fA2
 have hB2' : Below w.heap.size w w2 := hB2w.trans (hup.below (by omega))
 obtain ⟨W3, hW3⟩ : ∃ W3, w2.alloc (.cells #[.int .i64 0, .string ⟨#[]⟩, .string ⟨#[]⟩, .slice none 0 0, .int .i64 0, .int .i64 0, .int .i64 0, .slice none 0 0] 27) = W3 := ⟨_, rfl⟩
 have b3 : Below w2.heap.size w2 W3 := by rw [← hW3]; exact (Below.refl _ _).alloc (Nat.le_refl _) _
 have hQO3 : Qo W3 (w.heap.size + 1 + 1) ⟨.int .i64 0, .string ⟨#[]⟩, .string ⟨#[]⟩, .slice none 0 0, .int .i64 0, .int .i64 0, .int .i64 0, .slice none 0 0⟩ := by rw [← hW3, ← hs2']; exact Qo.new _ _ _ _ _ _ _ _ _ _
 have fO3 : Fo W3 (w.heap.size + 1 + 1) := by rw [← hW3, ← hs2']; exact Fo.new _ _ _ _ _ _ _ _ _ _
 have hQA3 := hQA2'.below b3 (by omega)
 have fA3 := fA2'.below b3 (by omega)
 have hB3 : Below w.heap.size w W3 := hB2'.trans (b3.mono (by omega))
 have hs3 : W3.heap.size = w.heap.size + 1 + 1 + 1 := by rw [← hW3]; simp [hs2']
 have hR3 : RsJ w.heap.size (w.heap.size + 1) W3 l1 := hRx.keep (b3.mono (by omega)) (b3.cell (p := ⟨w.heap.size + 1, 0, none⟩) (by show w.heap.size + 1 < _; omega)) (b3.frozen (p := ⟨w.heap.size + 1, 0, none⟩) (by show w.heap.size + 1 < _; omega))
 clear CT hwx hup hQA2 fA2 hQA2' fA2' hB2w hB2' b3 hRx hs2
 go_wp2_with fail
 refine (C1.out W3 hR3).mono ?_
 rintro e w4 ⟨v4, rfl, hup4, hR4⟩
 have hQA4 := hup4.qo (by omega) hQA3
 have fA4 := hup4.fo fA3
 have hQO4 := hup4.qo (by omega) hQO3
 have fO4 := hup4.fo fO3
 have hB4 : Below w.heap.size w w4 := hB3.trans (hup4.below (by omega))
 have hQO4n := hQO4.put0 (.int .i64 (kN : Int))
 have fO4n := fO4.set ⟨w.heap.size + 1 + 1, 0, none⟩ (.int .i64 (kN : Int))
 have hQA4n := hQA4.far (w.heap.size + 1 + 1) 0 (.int .i64 (kN : Int)) (by omega)
 have fA4n := fA4.set ⟨w.heap.size + 1 + 1, 0, none⟩ (.int .i64 (kN : Int))
 have hB4n : Below w.heap.size w (w4.setCell ⟨w.heap.size + 1 + 1, 0, none⟩ (.int .i64 (kN : Int))) := hB4.setCell (by simp; omega) _
 have hR4n : RsJ w.heap.size (w.heap.size + 1) (w4.setCell ⟨w.heap.size + 1 + 1, 0, none⟩ (.int .i64 (kN : Int))) l2 := hR4.keep ((Below.refl _ _).setCell (by simp; omega) _) (World.cell?_setCell_other _ _ _ _ (by simp)) (World.frozen?_setCell _ _ _ _)
 clear hQA3 fA3 hQO3 fO3 hB3 hR3 hQA4 fA4 hB4 hR4
 obtain ⟨q0, q1, q2, q3, q4, q5, q6, q7⟩ := hQO4
 obtain ⟨f0, f1, f2, f3, f4, f5, f6, f7⟩ := fO4
 (try dsimp only at q0 q1 q2 q3 q4 q5 q6 q7)
 have HK : Hid (_) := And.intro hQO4n (And.intro fO4n (And.intro hQA4n (And.intro fA4n (And.intro hB4n hR4n))))
 clear hQO4n fO4n hQA4n fA4n hB4n hR4n
 go_wp2_with fail
 obtain ⟨hQO4n, fO4n, hQA4n, fA4n, hB4n, hR4n⟩ := HK.out
 clear HK q0 q1 q2 q3 q4 q5 q6 q7 f0 f1 f2 f3 f4 f5 f6 f7
 (try dsimp only at hQO4n)
 generalize (w4.setCell ⟨w.heap.size + 1 + 1, 0, none⟩ (.int .i64 (kN : Int))) = W4 at *
 refine (C2.out W4 hR4n).mono ?_
 rintro e w5 ⟨v5, rfl, hup5, hR5⟩
 have hQA5 := hup5.qo (by omega) hQA4n
 have fA5 := hup5.fo fA4n
 have hQO5 := hup5.qo (by omega) hQO4n
 have fO5 := hup5.fo fO4n
 have hB5 : Below w.heap.size w w5 := hB4n.trans (hup5.below (by omega))
 have hQO5n := hQO5.put1 (.string (str xT))
 have fO5n := fO5.set ⟨w.heap.size + 1 + 1, 1, none⟩ (.string (str xT))
 have hQA5n := hQA5.far (w.heap.size + 1 + 1) 1 (.string (str xT)) (by omega)
 have fA5n := fA5.set ⟨w.heap.size + 1 + 1, 1, none⟩ (.string (str xT))
 have hB5n : Below w.heap.size w (w5.setCell ⟨w.heap.size + 1 + 1, 1, none⟩ (.string (str xT))) := hB5.setCell (by simp; omega) _
 have hR5n : RsJ w.heap.size (w.heap.size + 1) (w5.setCell ⟨w.heap.size + 1 + 1, 1, none⟩ (.string (str xT))) l3 := hR5.keep ((Below.refl _ _).setCell (by simp; omega) _) (World.cell?_setCell_other _ _ _ _ (by simp)) (World.frozen?_setCell _ _ _ _)
 clear hQA4n fA4n hQO4n fO4n hB4n hR4n hQA5 fA5 hB5 hR5
 obtain ⟨q0, q1, q2, q3, q4, q5, q6, q7⟩ := hQO5
 obtain ⟨f0, f1, f2, f3, f4, f5, f6, f7⟩ := fO5
 (try dsimp only at q0 q1 q2 q3 q4 q5 q6 q7)
 have HK : Hid (_) := And.intro hQO5n (And.intro fO5n (And.intro hQA5n (And.intro fA5n (And.intro hB5n hR5n))))
 clear hQO5n fO5n hQA5n fA5n hB5n hR5n
 go_wp2_with fail
 obtain ⟨hQO5n, fO5n, hQA5n, fA5n, hB5n, hR5n⟩ := HK.out
 clear HK q0 q1 q2 q3 q4 q5 q6 q7 f0 f1 f2 f3 f4 f5 f6 f7
 (try dsimp only at hQO5n)
 generalize (w5.setCell ⟨w.heap.size + 1 + 1, 1, none⟩ (.string (str xT))) = W5 at *
 refine (C3.out W5 hR5n).mono ?_
 rintro e w6 ⟨v6, rfl, hup6, hR6⟩
 have hQA6 := hup6.qo (by omega) hQA5n
 have fA6 := hup6.fo fA5n
 have hQO6 := hup6.qo (by omega) hQO5n
 have fO6 := hup6.fo fO5n
 have hB6 : Below w.heap.size w w6 := hB5n.trans (hup6.below (by omega))
 have hQO6n := hQO6.put2 (.string (str tT))
 have fO6n := fO6.set ⟨w.heap.size + 1 + 1, 2, none⟩ (.string (str tT))
 have hQA6n := hQA6.far (w.heap.size + 1 + 1) 2 (.string (str tT)) (by omega)
 have fA6n := fA6.set ⟨w.heap.size + 1 + 1, 2, none⟩ (.string (str tT))
 have hB6n : Below w.heap.size w (w6.setCell ⟨w.heap.size + 1 + 1, 2, none⟩ (.string (str tT))) := hB6.setCell (by simp; omega) _
 have hR6n : RsJ w.heap.size (w.heap.size + 1) (w6.setCell ⟨w.heap.size + 1 + 1, 2, none⟩ (.string (str tT))) l4 := hR6.keep ((Below.refl _ _).setCell (by simp; omega) _) (World.cell?_setCell_other _ _ _ _ (by simp)) (World.frozen?_setCell _ _ _ _)
 clear hQA5n fA5n hQO5n fO5n hB5n hR5n hQA6 fA6 hB6 hR6
 obtain ⟨q0, q1, q2, q3, q4, q5, q6, q7⟩ := hQO6
 obtain ⟨f0, f1, f2, f3, f4, f5, f6, f7⟩ := fO6
 (try dsimp only at q0 q1 q2 q3 q4 q5 q6 q7)
 have HK : Hid (_) := And.intro hQO6n (And.intro fO6n (And.intro hQA6n (And.intro fA6n (And.intro hB6n hR6n))))
 clear hQO6n fO6n hQA6n fA6n hB6n hR6n
 go_wp2_with fail
 obtain ⟨hQO6n, fO6n, hQA6n, fA6n, hB6n, hR6n⟩ := HK.out
 clear HK q0 q1 q2 q3 q4 q5 q6 q7 f0 f1 f2 f3 f4 f5 f6 f7
 (try dsimp only at hQO6n)
 generalize (w6.setCell ⟨w.heap.size + 1 + 1, 2, none⟩ (.string (str tT))) = W6 at *
 refine (C4.out W6 hR6n).mono ?_
 rintro e w7 ⟨v7, rfl, hup7, hR7⟩
 have hQA7 := hup7.qo (by omega) hQA6n
 have fA7 := hup7.fo fA6n
 have hQO7 := hup7.qo (by omega) hQO6n
 have fO7 := hup7.fo fO6n
 have hB7 : Below w.heap.size w w7 := hB6n.trans (hup7.below (by omega))
 clear hQA6n fA6n hQO6n fO6n hB6n hR6n hup7
 go_wp2_with fail
 have hOw7 : OwnI w7 (w.heap.size + 1 + 1 + 1) (.slice none 0 0) (tkU 0 l5) := OwnI.nil _ _
 clear C1 C2 C3 C4
 go_loopw [15] (fun i wr => ∃ (j : Nat) (v : Value), j ≤ uN ∧ i = .int .i64 j ∧ RsJ w.heap.size (w.heap.size + 1) wr (l5.drop (2 * j)) ∧ OwnI wr (w.heap.size + 1 + 1 + 1) v (tkU j l5) ∧ Qo wr (w.heap.size + 1 + 1) ⟨.int .i64 (kN : Int), .string (str xT), .string (str tT), v, .int .i64 0, .int .i64 0, .int .i64 0, .slice none 0 0⟩ ∧ Fo wr (w.heap.size + 1 + 1) ∧ Qo wr w.heap.size ⟨.int .i64 0, .string ⟨#[]⟩, .string ⟨#[]⟩, .slice none 0 0, .int .i64 0, .int .i64 0, .int .i64 0, .slice none 0 0⟩ ∧ Fo wr w.heap.size ∧ Below w.heap.size w wr) (fun i _ => uN - (intOf i).toNat)
 case atStart => exact ⟨0, _, Nat.zero_le _, rfl, hR7, hOw7, hQO7, fO7, hQA7, fA7, hB7⟩
 case round =>
  obtain ⟨j, v, hj, rfl, hRr, hOr, hQOr, fOr, hQAr, fAr, hBr⟩ := hrel
  clear hR7 hOw7 hQO7 fO7 hQA7 fA7 hB7
  by_cases hjn : j < uN
  ·have hji : (j : Int) < (uN : Int) := by omega
   obtain ⟨yN, hyN⟩ : ∃ yN, nmJ ((l5.drop (2 * j)).take 2) = yN := ⟨_, rfl⟩
   have CN : Hid (∀ x, RsJ w.heap.size (w.heap.size + 1) x (l5.drop (2 * j)) → Calls Tryd.prog 47 #[.pointer (some ⟨w.heap.size + 1, 0, none⟩), .int .i64 2] x fun e w'' => NmEnd w.heap.size (w.heap.size + 1) yN (l5.drop (2 * (j + 1))) x e w'') := fun x h => by
    have := rdnum_any w.heap.size (w.heap.size + 1) 2 _ x h (by omega) (by omega) (isB_drop hB5 _)
    rw [hyN, List.drop_drop] at this
    exact this
   have hRr' := hRr.keep (w' := wr.drew) (Below.refl _ _).drew rfl rfl
   have hOr' := hOr.drew
   have hd : Below wr.heap.size wr wr.drew := (Below.refl _ _).drew
   have hQOr' := hQOr.below hd hQOr.lt
   have hQAr' := hQAr.below hd hQAr.lt
   have fOr' := fOr.below hd hQOr.lt
   have fAr' := fAr.below hd hQAr.lt
   have hBr' := hBr.drew
   obtain ⟨ua0, uc0, rfl, -, -⟩ := hOr.form
   clear hRr hOr hQOr fOr hQAr fAr hBr hd
   generalize hvv : Value.slice ua0 (tkU j l5).length uc0 = v at *
   go_wp2_with fail
   refine wp_region_held_drew (S := fun _ => True) (by kernel_rfl) trivial (fun hHeld => ?_)
   generalize wr.drew = x0 at *
   refine wpAnyH_take (i := 0) (v := ?_) rfl (by kernel_rfl) (by kernel_rfl) (by kernel_rfl) (fun _ _ _ h => h) (Or.inl ⟨by rfl, ?hy501⟩) (by assumption) ?ty501
   case hy501 => (intro w5 hSw; go_simp; all_goals with_reducible rfl)
   simp only [Act.put, List.getElem_toArray, List.getElem_cons_zero, List.setIfInBounds_toArray, List.set_cons_zero, List.set_cons_succ]
   refine wpAnyH_ready (rs := [1, 2]) (by kernel_rfl) (by simp) ?_
   refine AllReadyH.cons rfl (fun K hK => ?_) (AllReadyH.cons rfl (fun K hK => ?_) AllReadyH.nil)
   ·obtain ⟨q0, q1, q2, q3, q4, q5, q6, q7⟩ := id hQOr'
    dsimp only at q0 q1 q2 q3 q4 q5 q6 q7
    go_simp
    clear q0 q1 q2 q3 q4 q5 q6 q7
    refine hK.out _ _ trivial (fun hHeld => ?_)
    clear hK K
    refine wpAnyH_ready (rs := [2]) (by kernel_rfl) (by simp) ?_
    refine AllReadyH.cons rfl (fun K hK => ?_) AllReadyH.nil
    go_simp
    refine (CN.out x0 hRr').mono ?_
    rintro e y2 ⟨vv2, rfl, hw2, hRS2⟩
    have hup2 : UpJ (w.heap.size + 1) x0 y2 := by rw [hw2]; exact .set _ _ _
    have hOw2 := hup2.ow hOr' (by omega)
    have hQO2 := hup2.qo (by omega) hQOr'
    have hQA2 := hup2.qo (by omega) hQAr'
    have fO2 := hup2.fo fOr'
    have fA2 := hup2.fo fAr'
    have HB2 : Below w.heap.size w y2 := hBr'.trans (hup2.below (by omega))
    clear hw2
    refine hK.out _ _ trivial (fun hHeld => ?_)
    clear hK K
    refine wpAnyH_ready (rs := [3]) (by kernel_rfl) (by simp) ?_
    refine AllReadyH.cons rfl (fun K hK => ?_) AllReadyH.nil
    have hb3 : Below y2.heap.size y2 (y2.alloc (.cells #[.int .i64 (yN : Int)] 2)) := (Below.refl _ _).alloc (Nat.le_refl _) _
    have hnew3 : ∀ i, i < 1 → (y2.alloc (.cells #[.int .i64 (yN : Int)] 2)).cell? ((⟨y2.heap.size, 0, none⟩ : Addr).add i) = some (.int .i64 (nthI [(yN : Int)] i)) := new_cellsI (cs := #[.int .i64 (yN : Int)]) (new := [(yN : Int)]) rfl 1 rfl
    have hOw3 := hOw2.alloc (.cells #[.int .i64 (yN : Int)] 2)
    go_simp
    generalize y2.alloc (.cells #[.int .i64 (yN : Int)] 2) = y3 at *
    have hQO3 := hQO2.below hb3 hQO2.lt
    have hQA3 := hQA2.below hb3 hQA2.lt
    have fO3 := fO2.below hb3 hQO2.lt
    have fA3 := fA2.below hb3 hQA2.lt
    have HB3 : Below w.heap.size w y3 := HB2.trans (hb3.mono HB2.size)
    have hRl3 : w.heap.size + 1 < y2.heap.size := by have := hQO2.lt; omega
    have hRS3 : RsJ w.heap.size (w.heap.size + 1) y3 (l5.drop (2 * (j + 1))) := hRS2.keep (hb3.mono HB2.size) (hb3.cell (p := ⟨w.heap.size + 1, 0, none⟩) hRl3) (hb3.frozen (p := ⟨w.heap.size + 1, 0, none⟩) hRl3)
    refine hK.out _ _ trivial (fun hHeld => ?_)
    clear hK K
    refine wpAnyH_ready (rs := [4]) (by kernel_rfl) (by simp) ?_
    refine AllReadyH.cons rfl (fun K hK => ?_) AllReadyH.nil
    refine step_appI rfl _ _ rfl (w.heap.size + 1 + 1 + 1) _ (tkU j l5) (by rfl) hOw3 ⟨y2.heap.size, 0, none⟩ 1 1 [(yN : Int)] (by rfl) rfl hnew3 (by rw [tkU_len]; omega) (by have := hQO3.lt; omega) ?_
    intro v4 y4 hOw4 hb4
    have hQO4 := hQO3.below hb4 (by omega)
    have hQA4 := hQA3.below hb4 (by omega)
    have fO4 := fO3.below hb4 (by omega)
    have fA4 := fA3.below hb4 (by omega)
    have HB4 : Below w.heap.size w y4 := HB3.trans (hb4.mono (by omega))
    have hRS4 : RsJ w.heap.size (w.heap.size + 1) y4 (l5.drop (2 * (j + 1))) := hRS3.keep (hb4.mono (by omega)) (hb4.cell (p := ⟨w.heap.size + 1, 0, none⟩) (by show w.heap.size + 1 < _; omega)) (hb4.frozen (p := ⟨w.heap.size + 1, 0, none⟩) (by show w.heap.size + 1 < _; omega))
    rw [← tkU_snoc' hyN] at hOw4
    obtain ⟨ua4, uc4, rfl, -, -⟩ := hOw4.form
    rw [tkU_len] at hOw4 ⊢
    refine hK.out _ _ trivial (fun hHeld => ?_)
    clear hK K
    refine wpAnyH_take (i := 5) (v := ?_) rfl (by kernel_rfl) (by kernel_rfl) (by kernel_rfl) (fun _ _ _ h => h) (Or.inl ⟨by rfl, ?hy502⟩) (by assumption) ?ty502
    case hy502 => (intro w5 hSw; go_simp; all_goals with_reducible rfl)
    simp only [Act.put, List.getElem_toArray, List.getElem_cons_zero, List.getElem_cons_succ, List.setIfInBounds_toArray, List.set_cons_zero, List.set_cons_succ]
    refine wpAnyH_ready (rs := [6]) (by kernel_rfl) (by simp) ?_
    refine AllReadyH.cons rfl (fun K hK => ?_) AllReadyH.nil
    have hQOf := hQO4.put3 (.slice ua4 (j + 1) uc4)
    have fOf := fO4.set ⟨w.heap.size + 1 + 1, 3, none⟩ (.slice ua4 (j + 1) uc4)
    have hQAf := hQA4.far (w.heap.size + 1 + 1) 3 (.slice ua4 (j + 1) uc4) (by omega)
    have fAf := fA4.set ⟨w.heap.size + 1 + 1, 3, none⟩ (.slice ua4 (j + 1) uc4)
    have hOwf : OwnI (y4.setCell ⟨w.heap.size + 1 + 1, 3, none⟩ (.slice ua4 (j + 1) uc4)) (w.heap.size + 1 + 1 + 1) (.slice ua4 (j + 1) uc4) (tkU (j + 1) l5) := OwnI.setR hOw4 (by omega)
    have hBf : Below w.heap.size w (y4.setCell ⟨w.heap.size + 1 + 1, 3, none⟩ (.slice ua4 (j + 1) uc4)) := HB4.setCell (by simp; omega) _
    have hRf : RsJ w.heap.size (w.heap.size + 1) (y4.setCell ⟨w.heap.size + 1 + 1, 3, none⟩ (.slice ua4 (j + 1) uc4)) (l5.drop (2 * (j + 1))) := hRS4.keep ((Below.refl _ _).setCell (by simp; omega) _) (World.cell?_setCell_other _ _ _ _ (by simp)) (World.frozen?_setCell _ _ _ _)
    obtain ⟨q0, q1, q2, q3, q4, q5, q6, q7⟩ := id hQO4
    obtain ⟨f0, f1, f2, f3, f4, f5, f6, f7⟩ := id fO4
    dsimp only at q0 q1 q2 q3 q4 q5 q6 q7
    go_simp
    refine hK.out _ _ trivial (fun hHeld => ?_)
    clear hK K
    clear q0 q1 q2 q3 q4 q5 q6 q7 f0 f1 f2 f3 f4 f5 f6 f7
    refine wpAnyH_done (by kernel_rfl) ?_ _
    clear hHeld
    (try dsimp only at hQOf)
    generalize y4.setCell ⟨w.heap.size + 1 + 1, 3, none⟩ (.slice ua4 (j + 1) uc4) = Wf at *
    go_wp2
    go_roundw
    case rel => exact ⟨j + 1, _, by omega, by go_num, hRf, hOwf, hQOf, fOf, hQAf, fAf, hBf⟩
    case measure => simp [intOf]; omega
   ·go_simp
    refine (CN.out x0 hRr').mono ?_
    rintro e y6 ⟨vv6, rfl, hw6, hRS6⟩
    have hup6 : UpJ (w.heap.size + 1) x0 y6 := by rw [hw6]; exact .set _ _ _
    have hOw6 := hup6.ow hOr' (by omega)
    have hQO6 := hup6.qo (by omega) hQOr'
    have hQA6 := hup6.qo (by omega) hQAr'
    have fO6 := hup6.fo fOr'
    have fA6 := hup6.fo fAr'
    have HB6 : Below w.heap.size w y6 := hBr'.trans (hup6.below (by omega))
    clear hw6
    refine hK.out _ _ trivial (fun hHeld => ?_)
    clear hK K
    refine wpAnyH_ready (rs := [1, 3]) (by kernel_rfl) (by simp) ?_
    refine AllReadyH.cons rfl (fun K hK => ?_) (AllReadyH.cons rfl (fun K hK => ?_) AllReadyH.nil)
    ·obtain ⟨q0, q1, q2, q3, q4, q5, q6, q7⟩ := id hQO6
     dsimp only at q0 q1 q2 q3 q4 q5 q6 q7
     go_simp
     clear q0 q1 q2 q3 q4 q5 q6 q7
     refine hK.out _ _ trivial (fun hHeld => ?_)
     clear hK K
     refine wpAnyH_ready (rs := [3]) (by kernel_rfl) (by simp) ?_
     refine AllReadyH.cons rfl (fun K hK => ?_) AllReadyH.nil
     have hb8 : Below y6.heap.size y6 (y6.alloc (.cells #[.int .i64 (yN : Int)] 2)) := (Below.refl _ _).alloc (Nat.le_refl _) _
     have hnew8 : ∀ i, i < 1 → (y6.alloc (.cells #[.int .i64 (yN : Int)] 2)).cell? ((⟨y6.heap.size, 0, none⟩ : Addr).add i) = some (.int .i64 (nthI [(yN : Int)] i)) := new_cellsI (cs := #[.int .i64 (yN : Int)]) (new := [(yN : Int)]) rfl 1 rfl
     have hOw8 := hOw6.alloc (.cells #[.int .i64 (yN : Int)] 2)
     go_simp
     generalize y6.alloc (.cells #[.int .i64 (yN : Int)] 2) = y8 at *
     have hQO8 := hQO6.below hb8 hQO6.lt
     have hQA8 := hQA6.below hb8 hQA6.lt
     have fO8 := fO6.below hb8 hQO6.lt
     have fA8 := fA6.below hb8 hQA6.lt
     have HB8 : Below w.heap.size w y8 := HB6.trans (hb8.mono HB6.size)
     have hRl8 : w.heap.size + 1 < y6.heap.size := by have := hQO6.lt; omega
     have hRS8 : RsJ w.heap.size (w.heap.size + 1) y8 (l5.drop (2 * (j + 1))) := hRS6.keep (hb8.mono HB6.size) (hb8.cell (p := ⟨w.heap.size + 1, 0, none⟩) hRl8) (hb8.frozen (p := ⟨w.heap.size + 1, 0, none⟩) hRl8)
     refine hK.out _ _ trivial (fun hHeld => ?_)
     clear hK K
     refine wpAnyH_ready (rs := [4]) (by kernel_rfl) (by simp) ?_
     refine AllReadyH.cons rfl (fun K hK => ?_) AllReadyH.nil
     refine step_appI rfl _ _ rfl (w.heap.size + 1 + 1 + 1) _ (tkU j l5) (by rfl) hOw8 ⟨y6.heap.size, 0, none⟩ 1 1 [(yN : Int)] (by rfl) rfl hnew8 (by rw [tkU_len]; omega) (by have := hQO8.lt; omega) ?_
     intro v9 y9 hOw9 hb9
     have hQO9 := hQO8.below hb9 (by omega)
     have hQA9 := hQA8.below hb9 (by omega)
     have fO9 := fO8.below hb9 (by omega)
     have fA9 := fA8.below hb9 (by omega)
     have HB9 : Below w.heap.size w y9 := HB8.trans (hb9.mono (by omega))
     have hRS9 : RsJ w.heap.size (w.heap.size + 1) y9 (l5.drop (2 * (j + 1))) := hRS8.keep (hb9.mono (by omega)) (hb9.cell (p := ⟨w.heap.size + 1, 0, none⟩) (by show w.heap.size + 1 < _; omega)) (hb9.frozen (p := ⟨w.heap.size + 1, 0, none⟩) (by show w.heap.size + 1 < _; omega))
     rw [← tkU_snoc' hyN] at hOw9
     obtain ⟨ua9, uc9, rfl, -, -⟩ := hOw9.form
     rw [tkU_len] at hOw9 ⊢
     refine hK.out _ _ trivial (fun hHeld => ?_)
     clear hK K
     refine wpAnyH_take (i := 5) (v := ?_) rfl (by kernel_rfl) (by kernel_rfl) (by kernel_rfl) (fun _ _ _ h => h) (Or.inl ⟨by rfl, ?hy503⟩) (by assumption) ?ty503
     case hy503 => (intro w5 hSw; go_simp; all_goals with_reducible rfl)
     simp only [Act.put, List.getElem_toArray, List.getElem_cons_zero, List.getElem_cons_succ, List.setIfInBounds_toArray, List.set_cons_zero, List.set_cons_succ]
     refine wpAnyH_ready (rs := [6]) (by kernel_rfl) (by simp) ?_
     refine AllReadyH.cons rfl (fun K hK => ?_) AllReadyH.nil
     have hQOf := hQO9.put3 (.slice ua9 (j + 1) uc9)
     have fOf := fO9.set ⟨w.heap.size + 1 + 1, 3, none⟩ (.slice ua9 (j + 1) uc9)
     have hQAf := hQA9.far (w.heap.size + 1 + 1) 3 (.slice ua9 (j + 1) uc9) (by omega)
     have fAf := fA9.set ⟨w.heap.size + 1 + 1, 3, none⟩ (.slice ua9 (j + 1) uc9)
     have hOwf : OwnI (y9.setCell ⟨w.heap.size + 1 + 1, 3, none⟩ (.slice ua9 (j + 1) uc9)) (w.heap.size + 1 + 1 + 1) (.slice ua9 (j + 1) uc9) (tkU (j + 1) l5) := OwnI.setR hOw9 (by omega)
     have hBf : Below w.heap.size w (y9.setCell ⟨w.heap.size + 1 + 1, 3, none⟩ (.slice ua9 (j + 1) uc9)) := HB9.setCell (by simp; omega) _
     have hRf : RsJ w.heap.size (w.heap.size + 1) (y9.setCell ⟨w.heap.size + 1 + 1, 3, none⟩ (.slice ua9 (j + 1) uc9)) (l5.drop (2 * (j + 1))) := hRS9.keep ((Below.refl _ _).setCell (by simp; omega) _) (World.cell?_setCell_other _ _ _ _ (by simp)) (World.frozen?_setCell _ _ _ _)
     obtain ⟨q0, q1, q2, q3, q4, q5, q6, q7⟩ := id hQO9
     obtain ⟨f0, f1, f2, f3, f4, f5, f6, f7⟩ := id fO9
     dsimp only at q0 q1 q2 q3 q4 q5 q6 q7
     go_simp
     refine hK.out _ _ trivial (fun hHeld => ?_)
     clear hK K
     clear q0 q1 q2 q3 q4 q5 q6 q7 f0 f1 f2 f3 f4 f5 f6 f7
     refine wpAnyH_done (by kernel_rfl) ?_ _
     clear hHeld
     (try dsimp only at hQOf)
     generalize y9.setCell ⟨w.heap.size + 1 + 1, 3, none⟩ (.slice ua9 (j + 1) uc9) = Wf at *
     go_wp2
     go_roundw
     case rel => exact ⟨j + 1, _, by omega, by go_num, hRf, hOwf, hQOf, fOf, hQAf, fAf, hBf⟩
     case measure => simp [intOf]; omega
    ·have hb11 : Below y6.heap.size y6 (y6.alloc (.cells #[.int .i64 (yN : Int)] 2)) := (Below.refl _ _).alloc (Nat.le_refl _) _
     have hnew11 : ∀ i, i < 1 → (y6.alloc (.cells #[.int .i64 (yN : Int)] 2)).cell? ((⟨y6.heap.size, 0, none⟩ : Addr).add i) = some (.int .i64 (nthI [(yN : Int)] i)) := new_cellsI (cs := #[.int .i64 (yN : Int)]) (new := [(yN : Int)]) rfl 1 rfl
     have hOw11 := hOw6.alloc (.cells #[.int .i64 (yN : Int)] 2)
     go_simp
     generalize y6.alloc (.cells #[.int .i64 (yN : Int)] 2) = y11 at *
     have hQO11 := hQO6.below hb11 hQO6.lt
     have hQA11 := hQA6.below hb11 hQA6.lt
     have fO11 := fO6.below hb11 hQO6.lt
     have fA11 := fA6.below hb11 hQA6.lt
     have HB11 : Below w.heap.size w y11 := HB6.trans (hb11.mono HB6.size)
     have hRl11 : w.heap.size + 1 < y6.heap.size := by have := hQO6.lt; omega
     have hRS11 : RsJ w.heap.size (w.heap.size + 1) y11 (l5.drop (2 * (j + 1))) := hRS6.keep (hb11.mono HB6.size) (hb11.cell (p := ⟨w.heap.size + 1, 0, none⟩) hRl11) (hb11.frozen (p := ⟨w.heap.size + 1, 0, none⟩) hRl11)
     refine hK.out _ _ trivial (fun hHeld => ?_)
     clear hK K
     refine wpAnyH_ready (rs := [1]) (by kernel_rfl) (by simp) ?_
     refine AllReadyH.cons rfl (fun K hK => ?_) AllReadyH.nil
     obtain ⟨q0, q1, q2, q3, q4, q5, q6, q7⟩ := id hQO11
     dsimp only at q0 q1 q2 q3 q4 q5 q6 q7
     go_simp
     clear q0 q1 q2 q3 q4 q5 q6 q7
     refine hK.out _ _ trivial (fun hHeld => ?_)
     clear hK K
     refine wpAnyH_ready (rs := [4]) (by kernel_rfl) (by simp) ?_
     refine AllReadyH.cons rfl (fun K hK => ?_) AllReadyH.nil
     refine step_appI rfl _ _ rfl (w.heap.size + 1 + 1 + 1) _ (tkU j l5) (by rfl) hOw11 ⟨y6.heap.size, 0, none⟩ 1 1 [(yN : Int)] (by rfl) rfl hnew11 (by rw [tkU_len]; omega) (by have := hQO11.lt; omega) ?_
     intro v13 y13 hOw13 hb13
     have hQO13 := hQO11.below hb13 (by omega)
     have hQA13 := hQA11.below hb13 (by omega)
     have fO13 := fO11.below hb13 (by omega)
     have fA13 := fA11.below hb13 (by omega)
     have HB13 : Below w.heap.size w y13 := HB11.trans (hb13.mono (by omega))
     have hRS13 : RsJ w.heap.size (w.heap.size + 1) y13 (l5.drop (2 * (j + 1))) := hRS11.keep (hb13.mono (by omega)) (hb13.cell (p := ⟨w.heap.size + 1, 0, none⟩) (by show w.heap.size + 1 < _; omega)) (hb13.frozen (p := ⟨w.heap.size + 1, 0, none⟩) (by show w.heap.size + 1 < _; omega))
     rw [← tkU_snoc' hyN] at hOw13
     obtain ⟨ua13, uc13, rfl, -, -⟩ := hOw13.form
     rw [tkU_len] at hOw13 ⊢
     refine hK.out _ _ trivial (fun hHeld => ?_)
     clear hK K
     refine wpAnyH_take (i := 5) (v := ?_) rfl (by kernel_rfl) (by kernel_rfl) (by kernel_rfl) (fun _ _ _ h => h) (Or.inl ⟨by rfl, ?hy504⟩) (by assumption) ?ty504
     case hy504 => (intro w5 hSw; go_simp; all_goals with_reducible rfl)
     simp only [Act.put, List.getElem_toArray, List.getElem_cons_zero, List.getElem_cons_succ, List.setIfInBounds_toArray, List.set_cons_zero, List.set_cons_succ]
     refine wpAnyH_ready (rs := [6]) (by kernel_rfl) (by simp) ?_
     refine AllReadyH.cons rfl (fun K hK => ?_) AllReadyH.nil
     have hQOf := hQO13.put3 (.slice ua13 (j + 1) uc13)
     have fOf := fO13.set ⟨w.heap.size + 1 + 1, 3, none⟩ (.slice ua13 (j + 1) uc13)
     have hQAf := hQA13.far (w.heap.size + 1 + 1) 3 (.slice ua13 (j + 1) uc13) (by omega)
     have fAf := fA13.set ⟨w.heap.size + 1 + 1, 3, none⟩ (.slice ua13 (j + 1) uc13)
     have hOwf : OwnI (y13.setCell ⟨w.heap.size + 1 + 1, 3, none⟩ (.slice ua13 (j + 1) uc13)) (w.heap.size + 1 + 1 + 1) (.slice ua13 (j + 1) uc13) (tkU (j + 1) l5) := OwnI.setR hOw13 (by omega)
     have hBf : Below w.heap.size w (y13.setCell ⟨w.heap.size + 1 + 1, 3, none⟩ (.slice ua13 (j + 1) uc13)) := HB13.setCell (by simp; omega) _
     have hRf : RsJ w.heap.size (w.heap.size + 1) (y13.setCell ⟨w.heap.size + 1 + 1, 3, none⟩ (.slice ua13 (j + 1) uc13)) (l5.drop (2 * (j + 1))) := hRS13.keep ((Below.refl _ _).setCell (by simp; omega) _) (World.cell?_setCell_other _ _ _ _ (by simp)) (World.frozen?_setCell _ _ _ _)
     obtain ⟨q0, q1, q2, q3, q4, q5, q6, q7⟩ := id hQO13
     obtain ⟨f0, f1, f2, f3, f4, f5, f6, f7⟩ := id fO13
     dsimp only at q0 q1 q2 q3 q4 q5 q6 q7
     go_simp
     refine hK.out _ _ trivial (fun hHeld => ?_)
     clear hK K
     clear q0 q1 q2 q3 q4 q5 q6 q7 f0 f1 f2 f3 f4 f5 f6 f7
     refine wpAnyH_done (by kernel_rfl) ?_ _
     clear hHeld
     (try dsimp only at hQOf)
     generalize y13.setCell ⟨w.heap.size + 1 + 1, 3, none⟩ (.slice ua13 (j + 1) uc13) = Wf at *
     go_wp2
     go_roundw
     case rel => exact ⟨j + 1, _, by omega, by go_num, hRf, hOwf, hQOf, fOf, hQAf, fAf, hBf⟩
     case measure => simp [intOf]; omega
  ·have hji : ¬ (j : Int) < (uN : Int) := by omega
   obtain rfl : j = uN := by omega
   obtain ⟨ua, uc, rfl, -, -⟩ := hOr.form
   rw [tkU_len] at hOr hQOr
   have HUL := tkU_len j l5
   have HB6 : Hid (IsB (l5.drop (2 * j))) := isB_drop hB5 _
   generalize tkU j l5 = us at *
   generalize l5.drop (2 * j) = l6 at *
   obtain ⟨l7, hl7⟩ : ∃ l7, l7 = l6.drop 1 := ⟨_, rfl⟩
   obtain ⟨l8, hl8⟩ : ∃ l8, l8 = l7.drop 1 := ⟨_, rfl⟩
   obtain ⟨l9, hl9⟩ : ∃ l9, l9 = l8.drop 2 := ⟨_, rfl⟩
   obtain ⟨l10, hl10⟩ : ∃ l10, l10 = l9.drop 2 := ⟨_, rfl⟩
   obtain ⟨mN, hmN⟩ : ∃ mN, mN = nmJ (l6.take 1) := ⟨_, rfl⟩
   obtain ⟨fN, hfN⟩ : ∃ fN, fN = nmJ (l7.take 1) := ⟨_, rfl⟩
   obtain ⟨dN, hdN⟩ : ∃ dN, dN = nmJ (l8.take 2) := ⟨_, rfl⟩
   obtain ⟨bN, hbN⟩ : ∃ bN, bN = nmJ (l9.take 2) := ⟨_, rfl⟩
   obtain ⟨bT, hbT⟩ : ∃ bT, bT = l10.take bN := ⟨_, rfl⟩
   have HO : Hid (o = ⟨(kN : Int), str xT, str tT, us, (mN : Int), (fN : Int), (dN : Int), bT⟩) := by
    show _ = _
    rw [HRD.out, hbT, hbN, hdN, hfN, hmN, hl10, hl9, hl8, hl7]
    simp only [rd5, List.drop_drop]
   have hB6 : IsB l6 := HB6.out
   have hB7 : IsB l7 := by rw [hl7]; exact isB_drop hB6 _
   have hB8 : IsB l8 := by rw [hl8]; exact isB_drop hB7 _
   have hB9 : IsB l9 := by rw [hl9]; exact isB_drop hB8 _
   have HBT : Hid (IsB bT) := by show IsB _; rw [hbT, hl10]; exact isB_take (isB_drop hB9 _) _
   have hbN2 : bN < 65536 := by rw [hbN]; exact nmJ_lt 2 _ (isB_take hB9 2) (by rw [List.length_take]; omega) (by omega)
   have hbTl : bT.length ≤ 65536 := by rw [hbT, List.length_take]; omega
   have C5 : Hid (∀ w' , RsJ w.heap.size (w.heap.size + 1) w' l6 → Calls Tryd.prog 47 #[.pointer (some ⟨w.heap.size + 1, 0, none⟩), .int .i64 1] w' fun e w'' => NumE w.heap.size (w.heap.size + 1) mN l7 w' e w'') := fun w' h => by rw [hmN, hl7]; exact rdnumE _ _ 1 _ _ h (by omega) (by omega) hB6
   have C6 : Hid (∀ w' , RsJ w.heap.size (w.heap.size + 1) w' l7 → Calls Tryd.prog 47 #[.pointer (some ⟨w.heap.size + 1, 0, none⟩), .int .i64 1] w' fun e w'' => NumE w.heap.size (w.heap.size + 1) fN l8 w' e w'') := fun w' h => by rw [hfN, hl8]; exact rdnumE _ _ 1 _ _ h (by omega) (by omega) hB7
   have C7 : Hid (∀ w' , RsJ w.heap.size (w.heap.size + 1) w' l8 → Calls Tryd.prog 47 #[.pointer (some ⟨w.heap.size + 1, 0, none⟩), .int .i64 2] w' fun e w'' => NumE w.heap.size (w.heap.size + 1) dN l9 w' e w'') := fun w' h => by rw [hdN, hl9]; exact rdnumE _ _ 2 _ _ h (by omega) (by omega) hB8
   have C8 : Hid (∀ w' , RsJ w.heap.size (w.heap.size + 1) w' l9 → Calls Tryd.prog 47 #[.pointer (some ⟨w.heap.size + 1, 0, none⟩), .int .i64 2] w' fun e w'' => NumE w.heap.size (w.heap.size + 1) bN l10 w' e w'') := fun w' h => by rw [hbN, hl10]; exact rdnumE _ _ 2 _ _ h (by omega) (by omega) hB9
   have C9 : Hid (∀ w' , RsJ w.heap.size (w.heap.size + 1) w' l10 → Calls Tryd.prog 46 #[.pointer (some ⟨w.heap.size + 1, 0, none⟩), .int .i64 (bN : Int)] w' fun e w'' => TkEnd w.heap.size (w.heap.size + 1) bT (l10.drop bN) w' e w'') := fun w' h => by rw [hbT]; exact take_any _ _ bN _ _ h (by omega) (by omega)
   generalize l10.drop bN = l11 at *
   clear hmN hfN hdN hbN hbT hl7 hl8 hl9 hl10 HRD hB6 hB7 hB8 hB9
   go_wp2_with fail
   refine (C5.out wr hRr).mono ?_
   rintro e w8 ⟨v8, rfl, hup8, hR8⟩
   have hQA8 := hup8.qo (by omega) hQAr
   have fA8 := hup8.fo fAr
   have hQO8 := hup8.qo (by omega) hQOr
   have fO8 := hup8.fo fOr
   have hB8 : Below w.heap.size w w8 := hBr.trans (hup8.below (by omega))
   have hOw8 := hup8.ow hOr (by omega)
   have hOw8n : OwnI (w8.setCell ⟨w.heap.size + 1 + 1, 4, none⟩ (.int .i64 (mN : Int))) (w.heap.size + 1 + 1 + 1) (.slice ua j uc) us := hOw8.setR (by omega)
   have hQO8n := hQO8.put4 (.int .i64 (mN : Int))
   have fO8n := fO8.set ⟨w.heap.size + 1 + 1, 4, none⟩ (.int .i64 (mN : Int))
   have hQA8n := hQA8.far (w.heap.size + 1 + 1) 4 (.int .i64 (mN : Int)) (by omega)
   have fA8n := fA8.set ⟨w.heap.size + 1 + 1, 4, none⟩ (.int .i64 (mN : Int))
   have hB8n : Below w.heap.size w (w8.setCell ⟨w.heap.size + 1 + 1, 4, none⟩ (.int .i64 (mN : Int))) := hB8.setCell (by simp; omega) _
   have hR8n : RsJ w.heap.size (w.heap.size + 1) (w8.setCell ⟨w.heap.size + 1 + 1, 4, none⟩ (.int .i64 (mN : Int))) l7 := hR8.keep ((Below.refl _ _).setCell (by simp; omega) _) (World.cell?_setCell_other _ _ _ _ (by simp)) (World.frozen?_setCell _ _ _ _)
   clear hOr hOw8 hQAr fAr hQOr fOr hBr hRr hQA8 fA8 hB8 hR8
   obtain ⟨q0, q1, q2, q3, q4, q5, q6, q7⟩ := hQO8
   obtain ⟨f0, f1, f2, f3, f4, f5, f6, f7⟩ := fO8
   (try dsimp only at q0 q1 q2 q3 q4 q5 q6 q7)
   have HK : Hid (_) := And.intro hQO8n (And.intro fO8n (And.intro hQA8n (And.intro fA8n (And.intro hB8n (And.intro hOw8n hR8n)))))
   clear hQO8n fO8n hQA8n fA8n hB8n hOw8n hR8n
   go_wp2_with fail
   obtain ⟨hQO8n, fO8n, hQA8n, fA8n, hB8n, hOw8n, hR8n⟩ := HK.out
   clear HK q0 q1 q2 q3 q4 q5 q6 q7 f0 f1 f2 f3 f4 f5 f6 f7
   (try dsimp only at hQO8n)
   generalize (w8.setCell ⟨w.heap.size + 1 + 1, 4, none⟩ (.int .i64 (mN : Int))) = W8 at *
   refine (C6.out W8 hR8n).mono ?_
   rintro e w9 ⟨v9, rfl, hup9, hR9⟩
   have hQA9 := hup9.qo (by omega) hQA8n
   have fA9 := hup9.fo fA8n
   have hQO9 := hup9.qo (by omega) hQO8n
   have fO9 := hup9.fo fO8n
   have hB9 : Below w.heap.size w w9 := hB8n.trans (hup9.below (by omega))
   have hOw9 := hup9.ow hOw8n (by omega)
   have hOw9n : OwnI (w9.setCell ⟨w.heap.size + 1 + 1, 5, none⟩ (.int .i64 (fN : Int))) (w.heap.size + 1 + 1 + 1) (.slice ua j uc) us := hOw9.setR (by omega)
   have hQO9n := hQO9.put5 (.int .i64 (fN : Int))
   have fO9n := fO9.set ⟨w.heap.size + 1 + 1, 5, none⟩ (.int .i64 (fN : Int))
   have hQA9n := hQA9.far (w.heap.size + 1 + 1) 5 (.int .i64 (fN : Int)) (by omega)
   have fA9n := fA9.set ⟨w.heap.size + 1 + 1, 5, none⟩ (.int .i64 (fN : Int))
   have hB9n : Below w.heap.size w (w9.setCell ⟨w.heap.size + 1 + 1, 5, none⟩ (.int .i64 (fN : Int))) := hB9.setCell (by simp; omega) _
   have hR9n : RsJ w.heap.size (w.heap.size + 1) (w9.setCell ⟨w.heap.size + 1 + 1, 5, none⟩ (.int .i64 (fN : Int))) l8 := hR9.keep ((Below.refl _ _).setCell (by simp; omega) _) (World.cell?_setCell_other _ _ _ _ (by simp)) (World.frozen?_setCell _ _ _ _)
   clear hOw8n hOw9 hQA8n fA8n hQO8n fO8n hB8n hR8n hQA9 fA9 hB9 hR9
   obtain ⟨q0, q1, q2, q3, q4, q5, q6, q7⟩ := hQO9
   obtain ⟨f0, f1, f2, f3, f4, f5, f6, f7⟩ := fO9
   (try dsimp only at q0 q1 q2 q3 q4 q5 q6 q7)
   have HK : Hid (_) := And.intro hQO9n (And.intro fO9n (And.intro hQA9n (And.intro fA9n (And.intro hB9n (And.intro hOw9n hR9n)))))
   clear hQO9n fO9n hQA9n fA9n hB9n hOw9n hR9n
   go_wp2_with fail
   obtain ⟨hQO9n, fO9n, hQA9n, fA9n, hB9n, hOw9n, hR9n⟩ := HK.out
   clear HK q0 q1 q2 q3 q4 q5 q6 q7 f0 f1 f2 f3 f4 f5 f6 f7
   (try dsimp only at hQO9n)
   generalize (w9.setCell ⟨w.heap.size + 1 + 1, 5, none⟩ (.int .i64 (fN : Int))) = W9 at *
   refine (C7.out W9 hR9n).mono ?_
   rintro e w10 ⟨v10, rfl, hup10, hR10⟩
   have hQA10 := hup10.qo (by omega) hQA9n
   have fA10 := hup10.fo fA9n
   have hQO10 := hup10.qo (by omega) hQO9n
   have fO10 := hup10.fo fO9n
   have hB10 : Below w.heap.size w w10 := hB9n.trans (hup10.below (by omega))
   have hOw10 := hup10.ow hOw9n (by omega)
   have hOw10n : OwnI (w10.setCell ⟨w.heap.size + 1 + 1, 6, none⟩ (.int .i64 (dN : Int))) (w.heap.size + 1 + 1 + 1) (.slice ua j uc) us := hOw10.setR (by omega)
   have hQO10n := hQO10.put6 (.int .i64 (dN : Int))
   have fO10n := fO10.set ⟨w.heap.size + 1 + 1, 6, none⟩ (.int .i64 (dN : Int))
   have hQA10n := hQA10.far (w.heap.size + 1 + 1) 6 (.int .i64 (dN : Int)) (by omega)
   have fA10n := fA10.set ⟨w.heap.size + 1 + 1, 6, none⟩ (.int .i64 (dN : Int))
   have hB10n : Below w.heap.size w (w10.setCell ⟨w.heap.size + 1 + 1, 6, none⟩ (.int .i64 (dN : Int))) := hB10.setCell (by simp; omega) _
   have hR10n : RsJ w.heap.size (w.heap.size + 1) (w10.setCell ⟨w.heap.size + 1 + 1, 6, none⟩ (.int .i64 (dN : Int))) l9 := hR10.keep ((Below.refl _ _).setCell (by simp; omega) _) (World.cell?_setCell_other _ _ _ _ (by simp)) (World.frozen?_setCell _ _ _ _)
   clear hOw9n hOw10 hQA9n fA9n hQO9n fO9n hB9n hR9n hQA10 fA10 hB10 hR10
   obtain ⟨q0, q1, q2, q3, q4, q5, q6, q7⟩ := hQO10
   obtain ⟨f0, f1, f2, f3, f4, f5, f6, f7⟩ := fO10
   (try dsimp only at q0 q1 q2 q3 q4 q5 q6 q7)
   have HK : Hid (_) := And.intro hQO10n (And.intro fO10n (And.intro hQA10n (And.intro fA10n (And.intro hB10n (And.intro hOw10n hR10n)))))
   clear hQO10n fO10n hQA10n fA10n hB10n hOw10n hR10n
   go_wp2_with fail
   obtain ⟨hQO10n, fO10n, hQA10n, fA10n, hB10n, hOw10n, hR10n⟩ := HK.out
   clear HK q0 q1 q2 q3 q4 q5 q6 q7 f0 f1 f2 f3 f4 f5 f6 f7
   (try dsimp only at hQO10n)
   generalize (w10.setCell ⟨w.heap.size + 1 + 1, 6, none⟩ (.int .i64 (dN : Int))) = W10 at *
   refine (C8.out W10 hR10n).mono ?_
   rintro e z1 ⟨-, rfl, hup1, hRz1⟩
   have hQA1 := hup1.qo (by omega) hQA10n
   have fA1 := hup1.fo fA10n
   have hQO1 := hup1.qo (by omega) hQO10n
   have fO1 := hup1.fo fO10n
   have hB1 : Below w.heap.size w z1 := hB10n.trans (hup1.below (by omega))
   have hO1 := hup1.ow hOw10n (by omega)
   clear hQA10n fA10n hQO10n fO10n hB10n hR10n hOw10n
   go_wp2_with fail
   refine (C9.out z1 hRz1).mono ?_
   rintro e z2 ⟨ax2, cx2, vx2, rfl, hwx2, -, -, hrd2, -⟩
   have hup2 : UpJ (w.heap.size + 1) z1 z2 := by rw [hwx2]; exact .set _ _ _
   have hQA2 := hup2.qo (by omega) hQA1
   have fA2 := hup2.fo fA1
   have hQO2 := hup2.qo (by omega) hQO1
   have fO2 := hup2.fo fO1
   have hB2 : Below w.heap.size w z2 := hB1.trans (hup2.below (by omega))
   have hO2 := hup2.ow hO1 (by omega)
   have hrd2' := (hrd2.keep (hup2.below (by omega))).rd
   clear hQA1 fA1 hQO1 fO1 hB1 hO1 hrd2 hwx2 hRz1
   go_wp2_with fail
   refine (copiedJ ax2 bT.length cx2 bT z2 rfl hrd2' (by omega)).mono ?_
   rintro e z3 ⟨v3, rfl, hOb, hb3⟩
   have hzz : w.heap.size + 1 + 1 + 1 ≤ z2.heap.size := hQO2.lt
   have hQA3 := hQA2.below hb3 hQA2.lt
   have fA3 := fA2.below hb3 hQA2.lt
   have hQO3 := hQO2.below hb3 hQO2.lt
   have fO3 := fO2.below hb3 hQO2.lt
   have hB3 : Below w.heap.size w z3 := hB2.trans (hb3.mono hB2.size)
   have hO3 := hO2.below hb3 (Nat.le_refl _)
   have hUlt : ∀ x, ua = some x → x.block < z2.heap.size := fun x hx => by
    subst hx
    exact (hO2.lt x.block rfl).2
   obtain ⟨ab, cb, rfl, hcb1, hcb2⟩ := id hOb.form
   have hBge : ∀ x, ab = some x → z2.heap.size ≤ x.block := fun x hx => by
    subst hx
    exact (hOb.lt x.block rfl).1
   have HSP : Hid (∀ x y, ua = some x → ab = some y → x.block ≠ y.block) := fun x y hx hy => by
    have := hUlt x hx
    have := hBge y hy
    omega
   clear hQA2 fA2 hQO2 fO2 hB2 hO2 hrd2' hb3 hUlt hBge
   have HOb : Hid (Own z3 (w.heap.size + 1 + 1 + 1) (.slice ab bT.length cb) bT) := ⟨hOb.1, hOb.2.imp id (fun ⟨g, c, cu, h1, h2, h3⟩ => ⟨g, c, cu, h1, by omega, h3⟩)⟩
   have HFI : Hid (OwnI (((((((((z3.setCell ⟨w.heap.size + 1 + 1, 7, none⟩ (.slice ab bT.length cb)).setCell ⟨w.heap.size, 0, none⟩ (.int .i64 (kN : Int))).setCell ⟨w.heap.size, 1, none⟩ (.string (str xT))).setCell ⟨w.heap.size, 2, none⟩ (.string (str tT))).setCell ⟨w.heap.size, 3, none⟩ (.slice ua j uc)).setCell ⟨w.heap.size, 4, none⟩ (.int .i64 (mN : Int))).setCell ⟨w.heap.size, 5, none⟩ (.int .i64 (fN : Int))).setCell ⟨w.heap.size, 6, none⟩ (.int .i64 (dN : Int))).setCell ⟨w.heap.size, 7, none⟩ (.slice ab bT.length cb)) (w.heap.size + 1 + 1 + 1) (.slice ua j uc) us) := ((((((((hO3.setR (by omega)).setR (by omega)).setR (by omega)).setR (by omega)).setR (by omega)).setR (by omega)).setR (by omega)).setR (by omega)).setR (by omega)
   have HFB : Hid (Own (((((((((z3.setCell ⟨w.heap.size + 1 + 1, 7, none⟩ (.slice ab bT.length cb)).setCell ⟨w.heap.size, 0, none⟩ (.int .i64 (kN : Int))).setCell ⟨w.heap.size, 1, none⟩ (.string (str xT))).setCell ⟨w.heap.size, 2, none⟩ (.string (str tT))).setCell ⟨w.heap.size, 3, none⟩ (.slice ua j uc)).setCell ⟨w.heap.size, 4, none⟩ (.int .i64 (mN : Int))).setCell ⟨w.heap.size, 5, none⟩ (.int .i64 (fN : Int))).setCell ⟨w.heap.size, 6, none⟩ (.int .i64 (dN : Int))).setCell ⟨w.heap.size, 7, none⟩ (.slice ab bT.length cb)) (w.heap.size + 1 + 1 + 1) (.slice ab bT.length cb) bT) := ((((((((HOb.out.setR (by omega)).setR (by omega)).setR (by omega)).setR (by omega)).setR (by omega)).setR (by omega)).setR (by omega)).setR (by omega)).setR (by omega)
   have HBf : Hid (Below w.heap.size w (((((((((z3.setCell ⟨w.heap.size + 1 + 1, 7, none⟩ (.slice ab bT.length cb)).setCell ⟨w.heap.size, 0, none⟩ (.int .i64 (kN : Int))).setCell ⟨w.heap.size, 1, none⟩ (.string (str xT))).setCell ⟨w.heap.size, 2, none⟩ (.string (str tT))).setCell ⟨w.heap.size, 3, none⟩ (.slice ua j uc)).setCell ⟨w.heap.size, 4, none⟩ (.int .i64 (mN : Int))).setCell ⟨w.heap.size, 5, none⟩ (.int .i64 (fN : Int))).setCell ⟨w.heap.size, 6, none⟩ (.int .i64 (dN : Int))).setCell ⟨w.heap.size, 7, none⟩ (.slice ab bT.length cb))) := ((((((((hB3.setCell (by simp; omega) _).setCell (by simp) _).setCell (by simp) _).setCell (by simp) _).setCell (by simp) _).setCell (by simp) _).setCell (by simp) _).setCell (by simp) _).setCell (by simp) _
   have hO4 := hQO3.put7 (.slice ab bT.length cb)
   have hR4 := hQA3.far (w.heap.size + 1 + 1) 7 (.slice ab bT.length cb) (by omega)
   have hR5 := ((((((((hR4).put0 (.int .i64 (kN : Int))).put1 (.string (str xT))).put2 (.string (str tT))).put3 (.slice ua j uc)).put4 (.int .i64 (mN : Int))).put5 (.int .i64 (fN : Int))).put6 (.int .i64 (dN : Int))).put7 (.slice ab bT.length cb)
   obtain ⟨q0, q1, q2, q3, q4, q5, q6, q7⟩ := hR5
   obtain ⟨o0, o1, o2, o3, o4, o5, o6, o7⟩ := hQO3
   obtain ⟨f0, f1, f2, f3, f4, f5, f6, f7⟩ := fO3
   obtain ⟨r0, r1, r2, r3, r4, r5, r6, r7⟩ := hQA3
   obtain ⟨y0, y1, y2, y3, y4, y5, y6, y7⟩ := fA3
   obtain ⟨k0, k1, k2, k3, k4, k5, k6, k7⟩ := hO4
   dsimp only at q0 q1 q2 q3 q4 q5 q6 q7 o0 o1 o2 o3 o4 o5 o6 o7 r0 r1 r2 r3 r4 r5 r6 r7 k0 k1 k2 k3 k4 k5 k6 k7
   have hg1 : w.heap.size + 1 + 1 ≠ w.heap.size := by omega
   clear hO3 hOb hB3 hR4 HUL
   go_wp2
   refine bodyPost_ret (v := .agg #[.int .i64 (kN : Int), .string (str xT), .string (str tT), .slice ua j uc, .int .i64 (mN : Int), .int .i64 (fN : Int), .int .i64 (dN : Int), .slice ab bT.length cb]) (by simp [results, Tryd.results26, go_sem, q0, q1, q2, q3, q4, q5, q6, q7]) rfl ?_
   rw [HO.out]
   refine ⟨((ua, j, uc), (ab, bT.length, cb)), rfl, ⟨(HFI.out.il).low (by omega), (HFB.out.sl HBT.out).low (by omega)⟩, ⟨HFI.out.wr.low (by omega), HFB.out.wr.low (by omega)⟩, HSP.out, HBf.out⟩
end Go.Proofs.YtdcgihcjiiemdaaDoor
