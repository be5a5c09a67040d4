/- An op read from its bytes: the model's; no conditions beyond those that each fact names. -/
import Derived.Test.YtdcgihcjiiemdaaDoorRmb
import Derived.Test.YtdcgihcjiiemdaaDoorRjb
namespace Go.Proofs.YtdcgihcjiiemdaaDoor
open Go.RowKit
set_option linter.unusedVariables false
theorem usM_step {n : Nat} {s : RsM} (h : s.2 = false) : usM (n + 1) s = (((wM s).1 : Int) :: (usM n (wM s).2).1, (usM n (wM s).2).2) := by
 show (if s.2 = true then _ else _) = _
 rw [h]; rfl
theorem usM_stop {n : Nat} {s : RsM} (h : s.2 = true) : usM n s = ([], s) := by
 cases n with
 | zero => rfl
 | succ n =>
  show (if s.2 = true then _ else _) = _
  rw [if_pos h]
theorem usM_len : ∀ (n : Nat) (s : RsM), (usM n s).1.length ≤ n
 | 0, s => Nat.le_refl _
 | n + 1, s => by
  cases h : s.2 with
  | true => rw [usM_stop h]; simp
  | false =>
   rw [usM_step h]
   have := usM_len n (wM s).2
   simp; omega
theorem bsM_isB : ∀ (n : Nat) (s : RsM), IsB s.1 → IsB (bsM n s).1
 | 0, s, _ => fun b hb => by cases hb
 | n + 1, s, h => by
  cases hs : s.2 with
  | true => rw [bsM_stop hs]; exact fun b hb => by cases hb
  | false =>
   rw [bsM_step hs]
   have h1 := bM_lt h
   have h2 := bsM_isB n (bM s).2 h1.2
   intro b hb
   rcases List.mem_cons.1 hb with rfl | hb
   ·exact h1.1
   ·exact h2 b hb
set_option maxHeartbeats 3200000 in
set_option maxRecDepth 100000 in
theorem l9Read_any (a : Option Addr) (n cap : Nat) (d : List Nat) (w : World) (hl : d.length = n) (h2 : 2 ≤ n) (hd : n ≤ 1048576) (hr : Rd w a d) (hB : IsB d) :
  Calls Tryd.prog 28 #[.slice a n cap] w fun e w' => RfEnd (rdM d) w e w' := by
 have hrD : RdD w.heap.size w a d := by
  rcases hr with h | ⟨b, off, e, hlt, hc⟩
  ·exact .inl h
  ·exact .inr ⟨b, off, e, hlt, hlt, hc⟩
 have hdl : d.length ≤ 1048576 := by omega
 have CB : ∀ (s : RsM) (w' : World), RmS w.heap.size (w.heap.size + 1) w' d s → Calls Tryd.prog 51 #[.pointer (some ⟨w.heap.size + 1, 0, none⟩)] w' fun e w'' => BmE w.heap.size (w.heap.size + 1) d (bM s).1 (bM s).2 w' e w'' := fun s w' h => l9Byte_any _ _ d s w' h (by omega) hB hdl
 have CW : ∀ (s : RsM) (w' : World), RmS w.heap.size (w.heap.size + 1) w' d s → Calls Tryd.prog 53 #[.pointer (some ⟨w.heap.size + 1, 0, none⟩)] w' fun e w'' => BmE w.heap.size (w.heap.size + 1) d (wM s).1 (wM s).2 w' e w'' := fun s w' h => l9Word_any _ _ d s w' h (by omega) hB hdl
 have CS : ∀ (s : RsM) (k : Nat) (w' : World), k ≤ 65535 → RmS w.heap.size (w.heap.size + 1) w' d s → Calls Tryd.prog 52 #[.pointer (some ⟨w.heap.size + 1, 0, none⟩), .int .i64 (k : Int)] w' fun e w'' => BsE w.heap.size (w.heap.size + 1) d (bsM k s).1 (bsM k s).2 w' e w'' := fun s k w' hk h => l9Bytes_any _ _ k d s w' h (by omega) hB hdl hk
 have HIB : Hid (∀ (s : RsM) (w' : World), RmS w.heap.size (w.heap.size + 1) w' d s → IsB s.1) := fun s w' h => h.isB hB
 have b0 : IsB (d.drop 2) := isB_drop hB _
 obtain ⟨q1, e1⟩ : ∃ q, q = bM (d.drop 2, false) := ⟨_, rfl⟩
 have b1 := bM_lt (s := (d.drop 2, false)) b0
 rw [← e1] at b1
 obtain ⟨q2, e2⟩ : ∃ q, q = bM q1.2 := ⟨_, rfl⟩
 have b2 := bM_lt b1.2
 rw [← e2] at b2
 obtain ⟨q3, e3⟩ : ∃ q, q = bsM q2.1 q2.2 := ⟨_, rfl⟩
 obtain ⟨q4, e4⟩ : ∃ q, q = bM q3.2 := ⟨_, rfl⟩
 obtain ⟨q5, e5⟩ : ∃ q, q = bsM q4.1 q4.2 := ⟨_, rfl⟩
 obtain ⟨q6, e6⟩ : ∃ q, q = bM q5.2 := ⟨_, rfl⟩
 obtain ⟨q7, e7⟩ : ∃ q, q = usM q6.1 q6.2 := ⟨_, rfl⟩
 have HRD : Hid (rdM d = rm5 q1.1 q3.1 q5.1 q7.1 q7.2) := by
  show _ = _
  rw [e7, e6, e5, e4, e3, e2, e1]
  rfl
 have C1 : Hid (∀ w', RmS w.heap.size (w.heap.size + 1) w' d (d.drop 2, false) → Calls Tryd.prog 51 #[.pointer (some ⟨w.heap.size + 1, 0, none⟩)] w' fun e w'' => BmE w.heap.size (w.heap.size + 1) d q1.1 q1.2 w' e w'') := fun w' h => by rw [e1]; exact CB _ w' h
 have C2 : Hid (∀ w', RmS w.heap.size (w.heap.size + 1) w' d q1.2 → Calls Tryd.prog 51 #[.pointer (some ⟨w.heap.size + 1, 0, none⟩)] w' fun e w'' => BmE w.heap.size (w.heap.size + 1) d q2.1 q2.2 w' e w'') := fun w' h => by rw [e2]; exact CB _ w' h
 have C3 : Hid (∀ w', RmS w.heap.size (w.heap.size + 1) w' d q2.2 → Calls Tryd.prog 52 #[.pointer (some ⟨w.heap.size + 1, 0, none⟩), .int .i64 (q2.1 : Int)] w' fun e w'' => BsE w.heap.size (w.heap.size + 1) d q3.1 q3.2 w' e w'') := fun w' h => by
  rw [e3]; exact CS _ _ w' (by have := (bM_lt b1.2).1; rw [← e2] at this; omega) h
 have C4 : Hid (∀ w', RmS w.heap.size (w.heap.size + 1) w' d q3.2 → Calls Tryd.prog 51 #[.pointer (some ⟨w.heap.size + 1, 0, none⟩)] w' fun e w'' => BmE w.heap.size (w.heap.size + 1) d q4.1 q4.2 w' e w'') := fun w' h => by rw [e4]; exact CB _ w' h
 have C6 : Hid (∀ w', RmS w.heap.size (w.heap.size + 1) w' d q5.2 → Calls Tryd.prog 51 #[.pointer (some ⟨w.heap.size + 1, 0, none⟩)] w' fun e w'' => BmE w.heap.size (w.heap.size + 1) d q6.1 q6.2 w' e w'') := fun w' h => by rw [e6]; exact CB _ w' h
 have L4 : Hid (∀ w', RmS w.heap.size (w.heap.size + 1) w' d q3.2 → q4.1 < 256) := fun w' h => by rw [e4]; exact (bM_lt (h.isB hB)).1
 have L6 : Hid (∀ w', RmS w.heap.size (w.heap.size + 1) w' d q5.2 → q6.1 < 256) := fun w' h => by rw [e6]; exact (bM_lt (h.isB hB)).1
 have HU : Hid (q7 = usM q6.1 q6.2) := e7
 have C5 : Hid (q4.1 < 256 → ∀ w', RmS w.heap.size (w.heap.size + 1) w' d q4.2 → Calls Tryd.prog 52 #[.pointer (some ⟨w.heap.size + 1, 0, none⟩), .int .i64 (q4.1 : Int)] w' fun e w'' => BsE w.heap.size (w.heap.size + 1) d q5.1 q5.2 w' e w'') := fun hq w' h => by
  rw [e5]; exact CS _ _ w' (by omega) h
 clear e1 e2 e3 e4 e5 e6 e7 b0 b1 b2
 obtain ⟨kN, s1⟩ := q1
 obtain ⟨xn, s2⟩ := q2
 obtain ⟨xT, s3⟩ := q3
 obtain ⟨tn, s4⟩ := q4
 obtain ⟨tT, s5⟩ := q5
 obtain ⟨uN, s6⟩ := q6
 obtain ⟨us7, s7⟩ := q7
 dsimp only at C1 C2 C3 C4 C5 C6 L4 L6 HU HRD
 have CBh : Hid (∀ (s : RsM) (w' : World), RmS w.heap.size (w.heap.size + 1) w' d s → Calls Tryd.prog 51 #[.pointer (some ⟨w.heap.size + 1, 0, none⟩)] w' fun e w'' => BmE w.heap.size (w.heap.size + 1) d (bM s).1 (bM s).2 w' e w'') := CB
 have CWh : Hid (∀ (s : RsM) (w' : World), RmS w.heap.size (w.heap.size + 1) w' d s → Calls Tryd.prog 53 #[.pointer (some ⟨w.heap.size + 1, 0, none⟩)] w' fun e w'' => BmE w.heap.size (w.heap.size + 1) d (wM s).1 (wM s).2 w' e w'') := CW
 have CSh : Hid (∀ (s : RsM) (k : Nat) (w' : World), k ≤ 65535 → RmS w.heap.size (w.heap.size + 1) w' d s → Calls Tryd.prog 52 #[.pointer (some ⟨w.heap.size + 1, 0, none⟩), .int .i64 (k : Int)] w' fun e w'' => BsE w.heap.size (w.heap.size + 1) d (bsM k s).1 (bsM k s).2 w' e w'') := CS
 clear CB CW CS
 generalize rdM d = o at *
 obtain ⟨W1, hW1⟩ : ∃ W1, w.alloc (.cells #[.int .i64 0, .string ⟨#[]⟩, .string ⟨#[]⟩, .slice none 0 0, .int .i64 0, .int .i64 0, .int .i64 0, .slice none 0 0] 27) = W1 := ⟨_, rfl⟩
 have hs1 : W1.heap.size = w.heap.size + 1 := by rw [← hW1]; simp
 have b1 : Below w.heap.size w W1 := by rw [← hW1]; exact (Below.refl _ _).alloc (Nat.le_refl _) _
 have hQA1 : Qo W1 w.heap.size ⟨.int .i64 0, .string ⟨#[]⟩, .string ⟨#[]⟩, .slice none 0 0, .int .i64 0, .int .i64 0, .int .i64 0, .slice none 0 0⟩ := by rw [← hW1]; exact Qo.new _ _ _ _ _ _ _ _ _ _
 have fA1 : Fo W1 w.heap.size := by rw [← hW1]; exact Fo.new _ _ _ _ _ _ _ _ _ _
 obtain ⟨W2, hW2⟩ : ∃ W2, W1.alloc (.cells #[.slice a n cap, .int .i64 2, .bool false] 78) = W2 := ⟨_, rfl⟩
 have hs2 : W2.heap.size = w.heap.size + 1 + 1 := by rw [← hW2]; simp [hs1]
 have b2 : Below W1.heap.size W1 W2 := by rw [← hW2]; exact (Below.refl _ _).alloc (Nat.le_refl _) _
 have hB2w : Below w.heap.size w W2 := b1.trans (b2.mono (by omega))
 have hRS2 : RmS w.heap.size (w.heap.size + 1) W2 d (d.drop 2, false) := by
  refine ⟨2, a, cap, ⟨?_, ?_, ?_⟩, by omega, hrD.keep hB2w, ⟨?_, ?_⟩, rfl⟩
  ·rw [← hW2, ← hs1, hl]; simp
  ·rw [← hW2, ← hs1]; simp
  ·rw [← hW2, ← hs1]; simp
  ·rw [← hW2, ← hs1]; simp
  ·rw [← hW2, ← hs1]; simp
 have hQA2 : Qo W2 w.heap.size _ := hQA1.below b2 (by omega)
 have fA2 : Fo W2 w.heap.size := fA1.below b2 (by omega)
 clear hrD b1 b2 hQA1 fA1 hr hs1
 subst hW1
 subst hW2
 go_enter Tryd.func28, Tryd.ntmps28
 go_wp2_with fail
 generalize (w.alloc (.cells #[.int .i64 0, .string ⟨#[]⟩, .string ⟨#[]⟩, .slice none 0 0, .int .i64 0, .int .i64 0, .int .i64 0, .slice none 0 0] 27)).alloc (.cells #[.slice a n cap, .int .i64 2, .bool false] 78) = W2 at *
 refine (C1.out W2 hRS2).mono ?_
 rintro e w2 ⟨rfl, hup, hRx⟩
 have hs2' : w.heap.size + 1 < w2.heap.size := hRx.lt
 have hQA2' := hup.qo (by omega) hQA2
 have fA2' := hup.fo (by omega) hQA2.lt fA2
 have hB2' : Below w.heap.size w w2 := hB2w.trans (hup.1.mono (by omega))
 obtain ⟨W3, hW3⟩ : ∃ W3, w2.alloc (.cells #[.int .i64 (kN : Int), .string ⟨#[]⟩, .string ⟨#[]⟩, .slice none 0 0, .int .i64 0, .int .i64 0, .int .i64 0, .slice none 0 0] 27) = W3 := ⟨_, rfl⟩
 have b3 : Below w2.heap.size w2 W3 := by rw [← hW3]; exact (Below.refl _ _).alloc (Nat.le_refl _) _
 have hQO3 : Qo W3 w2.heap.size ⟨.int .i64 (kN : Int), .string ⟨#[]⟩, .string ⟨#[]⟩, .slice none 0 0, .int .i64 0, .int .i64 0, .int .i64 0, .slice none 0 0⟩ := by rw [← hW3]; exact Qo.new _ _ _ _ _ _ _ _ _ _
 have fO3 : Fo W3 w2.heap.size := by rw [← hW3]; exact Fo.new _ _ _ _ _ _ _ _ _ _
 have hQA3 := hQA2'.below b3 hQA2'.lt
 have fA3 := fA2'.below b3 hQA2'.lt
 have hB3 : Below w.heap.size w W3 := hB2'.trans (b3.mono (by omega))
 have hR3 : RmS w.heap.size (w.heap.size + 1) W3 d s1 := hRx.keep (b3.mono (by omega)) hs2' (b3.block _ hs2')
 clear hup hQA2 fA2 hQA2' fA2' hB2w hB2' b3 hRx hRS2 hs2 C1
 subst hW3
 go_wp2_with fail
 generalize w2.alloc (.cells #[.int .i64 (kN : Int), .string ⟨#[]⟩, .string ⟨#[]⟩, .slice none 0 0, .int .i64 0, .int .i64 0, .int .i64 0, .slice none 0 0] 27) = W3 at *
 generalize w2.heap.size = O at *
 refine (C2.out W3 hR3).mono ?_
 rintro e w4 ⟨rfl, hup4, hR4⟩
 have hQA4 := hup4.qo (by omega) hQA3
 have fA4 := hup4.fo (by omega) hQA3.lt fA3
 have hQO4 := hup4.qo (by omega) hQO3
 have fO4 := hup4.fo (by omega) hQO3.lt fO3
 have hB4 : Below w.heap.size w w4 := hB3.trans (hup4.1.mono (by omega))
 clear hQA3 fA3 hQO3 fO3 hB3 hR3 hup4
 go_wp2_with fail
 refine (C3.out w4 hR4).mono ?_
 rintro e w5 ⟨v5, rfl, hOs5, hup5, hR5⟩
 have hQA5 := hup5.qo (by omega) hQA4
 have fA5 := hup5.fo (by omega) hQA4.lt fA4
 have hQO5 := hup5.qo (by omega) hQO4
 have fO5 := hup5.fo (by omega) hQO4.lt fO4
 have hB5 : Below w.heap.size w w5 := hB4.trans (hup5.1.mono (by omega))
 clear hQA4 fA4 hQO4 fO4 hB4 hR4 hup5
 obtain ⟨as5, cs5, rfl, -, -⟩ := id hOs5.form
 have hcv := run_str (cap := cs5) (n := xT.length) rfl hOs5.rd.2
 clear hOs5
 have hQO6 := hQO5.put1 (.string (str xT))
 have fO6 := fO5.set ⟨O, 1, none⟩ (.string (str xT))
 have hQA6 := hQA5.far O 1 (.string (str xT)) (by omega)
 have fA6 := fA5.set ⟨O, 1, none⟩ (.string (str xT))
 have hB6 : Below w.heap.size w (w5.setCell ⟨O, 1, none⟩ (.string (str xT))) := hB5.setCell (by simp; omega) _
 have hR6 := hR5.keep (w' := (w5.setCell ⟨O, 1, none⟩ (.string (str xT)))) ((Below.refl _ _).setCell (by simp; omega) _) hR5.lt (Below.heap_setCell _ _ _ _ (by simp; omega))
 obtain ⟨q0, q1, q2, q3, q4, q5, q6, q7⟩ := id hQO5
 obtain ⟨f0, f1, f2, f3, f4, f5, f6, f7⟩ := id fO5
 (try dsimp only at q0 q1 q2 q3 q4 q5 q6 q7)
 have HK : Hid (_) := And.intro hQO6 (And.intro fO6 (And.intro hQA6 (And.intro fA6 (And.intro hB6 (hR6)))))
 clear hQO6 fO6 hQA6 fA6 hB6 hR6 hQA5 fA5 hB5 hR5 hQO5 fO5
 go_wp2_with fail
 obtain ⟨hQO6, fO6, hQA6, fA6, hB6, hR6⟩ := HK.out
 clear HK q0 q1 q2 q3 q4 q5 q6 q7 f0 f1 f2 f3 f4 f5 f6 f7
 (try dsimp only at hQO6)
 generalize (w5.setCell ⟨O, 1, none⟩ (.string (str xT))) = W6 at *
 clear hcv
 have hq4 := L4.out W6 hR6
 refine (C4.out W6 hR6).mono ?_
 rintro e w7 ⟨rfl, hup7, hR7⟩
 have hQA7 := hup7.qo (by omega) hQA6
 have fA7 := hup7.fo (by omega) hQA6.lt fA6
 have hQO7 := hup7.qo (by omega) hQO6
 have fO7 := hup7.fo (by omega) hQO6.lt fO6
 have hB7 : Below w.heap.size w w7 := hB6.trans (hup7.1.mono (by omega))
 clear hQA6 fA6 hQO6 fO6 hB6 hR6 hup7
 go_wp2_with fail
 refine (C5.out hq4 w7 hR7).mono ?_
 rintro e w8 ⟨v8, rfl, hOs8, hup8, hR8⟩
 have hQA8 := hup8.qo (by omega) hQA7
 have fA8 := hup8.fo (by omega) hQA7.lt fA7
 have hQO8 := hup8.qo (by omega) hQO7
 have fO8 := hup8.fo (by omega) hQO7.lt fO7
 have hB8 : Below w.heap.size w w8 := hB7.trans (hup8.1.mono (by omega))
 clear hQA7 fA7 hQO7 fO7 hB7 hR7 hup8
 obtain ⟨as8, cs8, rfl, -, -⟩ := id hOs8.form
 have hcv := run_str (cap := cs8) (n := tT.length) rfl hOs8.rd.2
 clear hOs8
 have hQO9 := hQO8.put2 (.string (str tT))
 have fO9 := fO8.set ⟨O, 2, none⟩ (.string (str tT))
 have hQA9 := hQA8.far O 2 (.string (str tT)) (by omega)
 have fA9 := fA8.set ⟨O, 2, none⟩ (.string (str tT))
 have hB9 : Below w.heap.size w (w8.setCell ⟨O, 2, none⟩ (.string (str tT))) := hB8.setCell (by simp; omega) _
 have hR9 := hR8.keep (w' := (w8.setCell ⟨O, 2, none⟩ (.string (str tT)))) ((Below.refl _ _).setCell (by simp; omega) _) hR8.lt (Below.heap_setCell _ _ _ _ (by simp; omega))
 obtain ⟨q0, q1, q2, q3, q4, q5, q6, q7⟩ := id hQO8
 obtain ⟨f0, f1, f2, f3, f4, f5, f6, f7⟩ := id fO8
 (try dsimp only at q0 q1 q2 q3 q4 q5 q6 q7)
 have HK : Hid (_) := And.intro hQO9 (And.intro fO9 (And.intro hQA9 (And.intro fA9 (And.intro hB9 (hR9)))))
 clear hQO9 fO9 hQA9 fA9 hB9 hR9 hQA8 fA8 hB8 hR8 hQO8 fO8
 go_wp2_with fail
 obtain ⟨hQO9, fO9, hQA9, fA9, hB9, hR9⟩ := HK.out
 clear HK q0 q1 q2 q3 q4 q5 q6 q7 f0 f1 f2 f3 f4 f5 f6 f7
 (try dsimp only at hQO9)
 generalize (w8.setCell ⟨O, 2, none⟩ (.string (str tT))) = W9 at *
 clear hcv
 have hq6 := L6.out W9 hR9
 refine (C6.out W9 hR9).mono ?_
 rintro e w10 ⟨rfl, hup10, hR10⟩
 have hQA10 := hup10.qo (by omega) hQA9
 have fA10 := hup10.fo (by omega) hQA9.lt fA9
 have hQO10 := hup10.qo (by omega) hQO9
 have fO10 := hup10.fo (by omega) hQO9.lt fO9
 have hB10 : Below w.heap.size w w10 := hB9.trans (hup10.1.mono (by omega))
 clear hQA9 fA9 hQO9 fO9 hB9 hR9 hup10
 go_wp2_with fail
 have hOw0 : OwnI w10 (O + 1) (.slice none 0 0) [] := OwnI.nil _ _
 have HUL : Hid (us7.length ≤ 256) := by
  have h := usM_len uN s6
  rw [← HU.out] at h
  show us7.length ≤ 256
  have h : us7.length ≤ uN := h
  omega
 clear C2 C3 C4 C5 C6 L4 L6
 go_loopw [5] (fun q wr => ∃ (j : Nat) (s' : RsM) (acc : List Int) (v : Value), j ≤ uN ∧ q = .int .i64 (j : Int) ∧ acc ++ (usM j s').1 = us7 ∧ (usM j s').2 = s7 ∧ acc.length + j ≤ 256 ∧ RmS w.heap.size (w.heap.size + 1) wr d s' ∧ OwnI wr (O + 1) v acc ∧ Qo wr O ⟨.int .i64 (kN : Int), .string (str xT), .string (str tT), v, .int .i64 0, .int .i64 0, .int .i64 0, .slice none 0 0⟩ ∧ Fo wr O ∧ Qo wr w.heap.size ⟨.int .i64 0, .string ⟨#[]⟩, .string ⟨#[]⟩, .slice none 0 0, .int .i64 0, .int .i64 0, .int .i64 0, .slice none 0 0⟩ ∧ Fo wr w.heap.size ∧ Below w.heap.size w wr) (fun q _ => (intOf q).toNat)
 case atStart => exact ⟨uN, s6, [], _, Nat.le_refl _, rfl, by rw [← HU.out]; rfl, by rw [← HU.out], by simp; omega, hR10, hOw0, hQO10, fO10, hQA10, fA10, hB10⟩
 case round =>
  obtain ⟨j, s', acc, v, hj, rfl, hacc, hend, hal, hRr, hOr, hQOr, fOr, hQAr, fAr, hBr⟩ := hrel
  clear hR10 hOw0 hQO10 fO10 hQA10 fA10 hB10
  have HACC : Hid (acc ++ (usM j s').1 = us7) := hacc
  have HEND : Hid ((usM j s').2 = s7) := hend
  clear hacc hend
  obtain ⟨pp, aa, cca, ⟨-, -, c2⟩, -⟩ := id hRr
  obtain ⟨sl, sf⟩ := s'
  dsimp only at c2
  by_cases hgo : 0 < j ∧ sf = false
  ·obtain ⟨hj0, rfl⟩ := hgo
   obtain ⟨j, rfl⟩ : ∃ j', j = j' + 1 := ⟨j - 1, by omega⟩
   have hji : ((j + 1 : Nat) : Int) > 0 := by omega
   have e1 : usM (j + 1) (sl, false) = (((wM (sl, false)).1 : Int) :: (usM j (wM (sl, false)).2).1, (usM j (wM (sl, false)).2).2) := usM_step rfl
   have HA2 : Hid ((acc ++ [((wM (sl, false)).1 : Int)]) ++ (usM j (wM (sl, false)).2).1 = us7) := by
    show _ = _
    have := HACC.out
    rw [e1] at this
    rw [← this]; simp
   have HE2 : Hid ((usM j (wM (sl, false)).2).2 = s7) := by
    show _ = _
    have := HEND.out
    rw [e1] at this
    exact this
   have CN : Hid (∀ w', RmS w.heap.size (w.heap.size + 1) w' d (sl, false) → Calls Tryd.prog 53 #[.pointer (some ⟨w.heap.size + 1, 0, none⟩)] w' fun e w'' => BmE w.heap.size (w.heap.size + 1) d (wM (sl, false)).1 (wM (sl, false)).2 w' e w'') := fun w' h => CWh.out _ w' h
   clear e1 HACC HEND
   generalize wM (sl, false) = qw at *
   obtain ⟨yN, s3'⟩ := qw
   dsimp only at HA2 HE2 CN
   have hl1 : (acc ++ [(yN : Int)]).length = acc.length + 1 := by simp
   have hd' : Below wr.heap.size wr wr.drew := (Below.refl _ _).drew
   have hRr' := hRr.keep (w' := wr.drew) (hd'.mono hBr.size) hRr.lt rfl
   have hOr' := hOr.drew
   have hQOr' := hQOr.below hd' hQOr.lt
   have hQAr' := hQAr.below hd' hQAr.lt
   have fOr' := fOr.below hd' hQOr.lt
   have fAr' := fAr.below hd' hQAr.lt
   have hBr' := hBr.drew
   obtain ⟨ua0, uc0, rfl, -, -⟩ := hOr.form
   clear hRr hOr hQOr fOr hQAr fAr hBr hd'
   generalize hvv : Value.slice ua0 acc.length uc0 = v at *
   go_wp2_with fail
   refine wp_region_held_drew (S := fun _ => True) (by kernel_rfl) trivial (fun hHeld => ?_)
   generalize wr.drew = x0 at *
   refine wpAnyH_take (i := 0) (v := ?_) rfl (by kernel_rfl) (by kernel_rfl) (by kernel_rfl) (fun _ _ _ h => h) (Or.inl ⟨by rfl, ?hy701⟩) (by assumption) ?ty701
   case hy701 => (intro w5 hSw; go_simp; all_goals with_reducible rfl)
   simp only [Act.put, List.getElem_toArray, List.getElem_cons_zero, List.setIfInBounds_toArray, List.set_cons_zero, List.set_cons_succ]
   refine wpAnyH_ready (rs := [1, 2]) (by kernel_rfl) (by simp) ?_
   refine AllReadyH.cons rfl (fun K hK => ?_) (AllReadyH.cons rfl (fun K hK => ?_) AllReadyH.nil)
   ·obtain ⟨q0, q1, q2, q3, q4, q5, q6, q7⟩ := id hQOr'
    dsimp only at q0 q1 q2 q3 q4 q5 q6 q7
    go_simp
    clear q0 q1 q2 q3 q4 q5 q6 q7
    refine hK.out _ _ trivial (fun hHeld => ?_)
    clear hK K
    refine wpAnyH_ready (rs := [2]) (by kernel_rfl) (by simp) ?_
    refine AllReadyH.cons rfl (fun K hK => ?_) AllReadyH.nil
    go_simp
    refine (CN.out x0 hRr').mono ?_
    rintro e y2 ⟨rfl, hup2, hRS2⟩
    have hOw2 : OwnI y2 (O + 1) v acc := UpH.ow hup2 hOr' (by omega)
    have hQO2 := hup2.qo (by omega) hQOr'
    have hQA2 := hup2.qo (by omega) hQAr'
    have fO2 := hup2.fo (by omega) hQOr'.lt fOr'
    have fA2 := hup2.fo (by omega) hQAr'.lt fAr'
    have HB2 : Below w.heap.size w y2 := hBr'.trans (hup2.1.mono (by omega))
    refine hK.out _ _ trivial (fun hHeld => ?_)
    clear hK K
    refine wpAnyH_ready (rs := [3]) (by kernel_rfl) (by simp) ?_
    refine AllReadyH.cons rfl (fun K hK => ?_) AllReadyH.nil
    have hb3 : Below y2.heap.size y2 (y2.alloc (.cells #[.int .i64 (yN : Int)] 2)) := (Below.refl _ _).alloc (Nat.le_refl _) _
    have hnew3 : ∀ i, i < 1 → (y2.alloc (.cells #[.int .i64 (yN : Int)] 2)).cell? ((⟨y2.heap.size, 0, none⟩ : Addr).add i) = some (.int .i64 (nthI [(yN : Int)] i)) := new_cellsI (cs := #[.int .i64 (yN : Int)]) (new := [(yN : Int)]) rfl 1 rfl
    have hOw3 := hOw2.alloc (.cells #[.int .i64 (yN : Int)] 2)
    go_simp
    generalize y2.alloc (.cells #[.int .i64 (yN : Int)] 2) = y3 at *
    have hQO3 := hQO2.below hb3 hQO2.lt
    have hQA3 := hQA2.below hb3 hQA2.lt
    have fO3 := fO2.below hb3 hQO2.lt
    have fA3 := fA2.below hb3 hQA2.lt
    have HB3 : Below w.heap.size w y3 := HB2.trans (hb3.mono HB2.size)
    have hRS3 := hRS2.keep (w' := y3) (hb3.mono HB2.size) hRS2.lt (hb3.block _ hRS2.lt)
    refine hK.out _ _ trivial (fun hHeld => ?_)
    clear hK K
    refine wpAnyH_ready (rs := [4]) (by kernel_rfl) (by simp) ?_
    refine AllReadyH.cons rfl (fun K hK => ?_) AllReadyH.nil
    refine step_appI rfl _ _ rfl (O + 1) _ acc (by rfl) hOw3 ⟨y2.heap.size, 0, none⟩ 1 1 [(yN : Int)] (by rfl) rfl hnew3 (by omega) (by have := hQO3.lt; omega) ?_
    intro v4 y4 hOw4 hb4
    have hQO4 := hQO3.below hb4 (by omega)
    have hQA4 := hQA3.below hb4 (by omega)
    have fO4 := fO3.below hb4 (by omega)
    have fA4 := fA3.below hb4 (by omega)
    have HB4 : Below w.heap.size w y4 := HB3.trans (hb4.mono (by omega))
    have hRS4 := hRS3.keep (w' := y4) (hb4.mono (by omega)) hRS3.lt (hb4.block _ (by omega))
    obtain ⟨ua4, uc4, rfl, -, -⟩ := hOw4.form
    rw [hl1] at hOw4 ⊢
    refine hK.out _ _ trivial (fun hHeld => ?_)
    clear hK K
    refine wpAnyH_take (i := 5) (v := ?_) rfl (by kernel_rfl) (by kernel_rfl) (by kernel_rfl) (fun _ _ _ h => h) (Or.inl ⟨by rfl, ?hy702⟩) (by assumption) ?ty702
    case hy702 => (intro w5 hSw; go_simp; all_goals with_reducible rfl)
    simp only [Act.put, List.getElem_toArray, List.getElem_cons_zero, List.getElem_cons_succ, List.setIfInBounds_toArray, List.set_cons_zero, List.set_cons_succ]
    refine wpAnyH_ready (rs := [6]) (by kernel_rfl) (by simp) ?_
    refine AllReadyH.cons rfl (fun K hK => ?_) AllReadyH.nil
    have hQOf := hQO4.put3 (.slice ua4 (acc.length + 1) uc4)
    have fOf := fO4.set ⟨O, 3, none⟩ (.slice ua4 (acc.length + 1) uc4)
    have hQAf := hQA4.far O 3 (.slice ua4 (acc.length + 1) uc4) (by omega)
    have fAf := fA4.set ⟨O, 3, none⟩ (.slice ua4 (acc.length + 1) uc4)
    have hOwf : OwnI (y4.setCell ⟨O, 3, none⟩ (.slice ua4 (acc.length + 1) uc4)) (O + 1) (.slice ua4 (acc.length + 1) uc4) (acc ++ [(yN : Int)]) := OwnI.setR hOw4 (by omega)
    have hBf : Below w.heap.size w (y4.setCell ⟨O, 3, none⟩ (.slice ua4 (acc.length + 1) uc4)) := HB4.setCell (by simp; omega) _
    have hRf := hRS4.keep (w' := y4.setCell ⟨O, 3, none⟩ (.slice ua4 (acc.length + 1) uc4)) ((Below.refl _ _).setCell (by simp; omega) _) hRS4.lt (Below.heap_setCell _ _ _ _ (by simp; omega))
    obtain ⟨q0, q1, q2, q3, q4, q5, q6, q7⟩ := id hQO4
    obtain ⟨f0, f1, f2, f3, f4, f5, f6, f7⟩ := id fO4
    dsimp only at q0 q1 q2 q3 q4 q5 q6 q7
    go_simp
    refine hK.out _ _ trivial (fun hHeld => ?_)
    clear hK K
    clear q0 q1 q2 q3 q4 q5 q6 q7 f0 f1 f2 f3 f4 f5 f6 f7
    refine wpAnyH_done (by kernel_rfl) ?_ _
    clear hHeld
    (try dsimp only at hQOf)
    generalize y4.setCell ⟨O, 3, none⟩ (.slice ua4 (acc.length + 1) uc4) = Wf at *
    go_wp2
    go_roundw
    case rel => exact ⟨j, _, acc ++ [(yN : Int)], _, by omega, by go_num, HA2.out, HE2.out, by omega, hRf, hOwf, hQOf, fOf, hQAf, fAf, hBf⟩
    case measure => simp [intOf]
   ·go_simp
    refine (CN.out x0 hRr').mono ?_
    rintro e y6 ⟨rfl, hup6, hRS6⟩
    have hOw6 : OwnI y6 (O + 1) v acc := UpH.ow hup6 hOr' (by omega)
    have hQO6 := hup6.qo (by omega) hQOr'
    have hQA6 := hup6.qo (by omega) hQAr'
    have fO6 := hup6.fo (by omega) hQOr'.lt fOr'
    have fA6 := hup6.fo (by omega) hQAr'.lt fAr'
    have HB6 : Below w.heap.size w y6 := hBr'.trans (hup6.1.mono (by omega))
    refine hK.out _ _ trivial (fun hHeld => ?_)
    clear hK K
    refine wpAnyH_ready (rs := [1, 3]) (by kernel_rfl) (by simp) ?_
    refine AllReadyH.cons rfl (fun K hK => ?_) (AllReadyH.cons rfl (fun K hK => ?_) AllReadyH.nil)
    ·obtain ⟨q0, q1, q2, q3, q4, q5, q6, q7⟩ := id hQO6
     dsimp only at q0 q1 q2 q3 q4 q5 q6 q7
     go_simp
     clear q0 q1 q2 q3 q4 q5 q6 q7
     refine hK.out _ _ trivial (fun hHeld => ?_)
     clear hK K
     refine wpAnyH_ready (rs := [3]) (by kernel_rfl) (by simp) ?_
     refine AllReadyH.cons rfl (fun K hK => ?_) AllReadyH.nil
     have hb8 : Below y6.heap.size y6 (y6.alloc (.cells #[.int .i64 (yN : Int)] 2)) := (Below.refl _ _).alloc (Nat.le_refl _) _
     have hnew8 : ∀ i, i < 1 → (y6.alloc (.cells #[.int .i64 (yN : Int)] 2)).cell? ((⟨y6.heap.size, 0, none⟩ : Addr).add i) = some (.int .i64 (nthI [(yN : Int)] i)) := new_cellsI (cs := #[.int .i64 (yN : Int)]) (new := [(yN : Int)]) rfl 1 rfl
     have hOw8 := hOw6.alloc (.cells #[.int .i64 (yN : Int)] 2)
     go_simp
     generalize y6.alloc (.cells #[.int .i64 (yN : Int)] 2) = y8 at *
     have hQO8 := hQO6.below hb8 hQO6.lt
     have hQA8 := hQA6.below hb8 hQA6.lt
     have fO8 := fO6.below hb8 hQO6.lt
     have fA8 := fA6.below hb8 hQA6.lt
     have HB8 : Below w.heap.size w y8 := HB6.trans (hb8.mono HB6.size)
     have hRS8 := hRS6.keep (w' := y8) (hb8.mono HB6.size) hRS6.lt (hb8.block _ hRS6.lt)
     refine hK.out _ _ trivial (fun hHeld => ?_)
     clear hK K
     refine wpAnyH_ready (rs := [4]) (by kernel_rfl) (by simp) ?_
     refine AllReadyH.cons rfl (fun K hK => ?_) AllReadyH.nil
     refine step_appI rfl _ _ rfl (O + 1) _ acc (by rfl) hOw8 ⟨y6.heap.size, 0, none⟩ 1 1 [(yN : Int)] (by rfl) rfl hnew8 (by omega) (by have := hQO8.lt; omega) ?_
     intro v9 y9 hOw9 hb9
     have hQO9 := hQO8.below hb9 (by omega)
     have hQA9 := hQA8.below hb9 (by omega)
     have fO9 := fO8.below hb9 (by omega)
     have fA9 := fA8.below hb9 (by omega)
     have HB9 : Below w.heap.size w y9 := HB8.trans (hb9.mono (by omega))
     have hRS9 := hRS8.keep (w' := y9) (hb9.mono (by omega)) hRS8.lt (hb9.block _ (by omega))
     obtain ⟨ua9, uc9, rfl, -, -⟩ := hOw9.form
     rw [hl1] at hOw9 ⊢
     refine hK.out _ _ trivial (fun hHeld => ?_)
     clear hK K
     refine wpAnyH_take (i := 5) (v := ?_) rfl (by kernel_rfl) (by kernel_rfl) (by kernel_rfl) (fun _ _ _ h => h) (Or.inl ⟨by rfl, ?hy703⟩) (by assumption) ?ty703
     case hy703 => (intro w5 hSw; go_simp; all_goals with_reducible rfl)
     simp only [Act.put, List.getElem_toArray, List.getElem_cons_zero, List.getElem_cons_succ, List.setIfInBounds_toArray, List.set_cons_zero, List.set_cons_succ]
     refine wpAnyH_ready (rs := [6]) (by kernel_rfl) (by simp) ?_
     refine AllReadyH.cons rfl (fun K hK => ?_) AllReadyH.nil
     have hQOf := hQO9.put3 (.slice ua9 (acc.length + 1) uc9)
     have fOf := fO9.set ⟨O, 3, none⟩ (.slice ua9 (acc.length + 1) uc9)
     have hQAf := hQA9.far O 3 (.slice ua9 (acc.length + 1) uc9) (by omega)
     have fAf := fA9.set ⟨O, 3, none⟩ (.slice ua9 (acc.length + 1) uc9)
     have hOwf : OwnI (y9.setCell ⟨O, 3, none⟩ (.slice ua9 (acc.length + 1) uc9)) (O + 1) (.slice ua9 (acc.length + 1) uc9) (acc ++ [(yN : Int)]) := OwnI.setR hOw9 (by omega)
     have hBf : Below w.heap.size w (y9.setCell ⟨O, 3, none⟩ (.slice ua9 (acc.length + 1) uc9)) := HB9.setCell (by simp; omega) _
     have hRf := hRS9.keep (w' := y9.setCell ⟨O, 3, none⟩ (.slice ua9 (acc.length + 1) uc9)) ((Below.refl _ _).setCell (by simp; omega) _) hRS9.lt (Below.heap_setCell _ _ _ _ (by simp; omega))
     obtain ⟨q0, q1, q2, q3, q4, q5, q6, q7⟩ := id hQO9
     obtain ⟨f0, f1, f2, f3, f4, f5, f6, f7⟩ := id fO9
     dsimp only at q0 q1 q2 q3 q4 q5 q6 q7
     go_simp
     refine hK.out _ _ trivial (fun hHeld => ?_)
     clear hK K
     clear q0 q1 q2 q3 q4 q5 q6 q7 f0 f1 f2 f3 f4 f5 f6 f7
     refine wpAnyH_done (by kernel_rfl) ?_ _
     clear hHeld
     (try dsimp only at hQOf)
     generalize y9.setCell ⟨O, 3, none⟩ (.slice ua9 (acc.length + 1) uc9) = Wf at *
     go_wp2
     go_roundw
     case rel => exact ⟨j, _, acc ++ [(yN : Int)], _, by omega, by go_num, HA2.out, HE2.out, by omega, hRf, hOwf, hQOf, fOf, hQAf, fAf, hBf⟩
     case measure => simp [intOf]
    ·have hb11 : Below y6.heap.size y6 (y6.alloc (.cells #[.int .i64 (yN : Int)] 2)) := (Below.refl _ _).alloc (Nat.le_refl _) _
     have hnew11 : ∀ i, i < 1 → (y6.alloc (.cells #[.int .i64 (yN : Int)] 2)).cell? ((⟨y6.heap.size, 0, none⟩ : Addr).add i) = some (.int .i64 (nthI [(yN : Int)] i)) := new_cellsI (cs := #[.int .i64 (yN : Int)]) (new := [(yN : Int)]) rfl 1 rfl
     have hOw11 := hOw6.alloc (.cells #[.int .i64 (yN : Int)] 2)
     go_simp
     generalize y6.alloc (.cells #[.int .i64 (yN : Int)] 2) = y11 at *
     have hQO11 := hQO6.below hb11 hQO6.lt
     have hQA11 := hQA6.below hb11 hQA6.lt
     have fO11 := fO6.below hb11 hQO6.lt
     have fA11 := fA6.below hb11 hQA6.lt
     have HB11 : Below w.heap.size w y11 := HB6.trans (hb11.mono HB6.size)
     have hRS11 := hRS6.keep (w' := y11) (hb11.mono HB6.size) hRS6.lt (hb11.block _ hRS6.lt)
     refine hK.out _ _ trivial (fun hHeld => ?_)
     clear hK K
     refine wpAnyH_ready (rs := [1]) (by kernel_rfl) (by simp) ?_
     refine AllReadyH.cons rfl (fun K hK => ?_) AllReadyH.nil
     obtain ⟨q0, q1, q2, q3, q4, q5, q6, q7⟩ := id hQO11
     dsimp only at q0 q1 q2 q3 q4 q5 q6 q7
     go_simp
     clear q0 q1 q2 q3 q4 q5 q6 q7
     refine hK.out _ _ trivial (fun hHeld => ?_)
     clear hK K
     refine wpAnyH_ready (rs := [4]) (by kernel_rfl) (by simp) ?_
     refine AllReadyH.cons rfl (fun K hK => ?_) AllReadyH.nil
     refine step_appI rfl _ _ rfl (O + 1) _ acc (by rfl) hOw11 ⟨y6.heap.size, 0, none⟩ 1 1 [(yN : Int)] (by rfl) rfl hnew11 (by omega) (by have := hQO11.lt; omega) ?_
     intro v13 y13 hOw13 hb13
     have hQO13 := hQO11.below hb13 (by omega)
     have hQA13 := hQA11.below hb13 (by omega)
     have fO13 := fO11.below hb13 (by omega)
     have fA13 := fA11.below hb13 (by omega)
     have HB13 : Below w.heap.size w y13 := HB11.trans (hb13.mono (by omega))
     have hRS13 := hRS11.keep (w' := y13) (hb13.mono (by omega)) hRS11.lt (hb13.block _ (by omega))
     obtain ⟨ua13, uc13, rfl, -, -⟩ := hOw13.form
     rw [hl1] at hOw13 ⊢
     refine hK.out _ _ trivial (fun hHeld => ?_)
     clear hK K
     refine wpAnyH_take (i := 5) (v := ?_) rfl (by kernel_rfl) (by kernel_rfl) (by kernel_rfl) (fun _ _ _ h => h) (Or.inl ⟨by rfl, ?hy704⟩) (by assumption) ?ty704
     case hy704 => (intro w5 hSw; go_simp; all_goals with_reducible rfl)
     simp only [Act.put, List.getElem_toArray, List.getElem_cons_zero, List.getElem_cons_succ, List.setIfInBounds_toArray, List.set_cons_zero, List.set_cons_succ]
     refine wpAnyH_ready (rs := [6]) (by kernel_rfl) (by simp) ?_
     refine AllReadyH.cons rfl (fun K hK => ?_) AllReadyH.nil
     have hQOf := hQO13.put3 (.slice ua13 (acc.length + 1) uc13)
     have fOf := fO13.set ⟨O, 3, none⟩ (.slice ua13 (acc.length + 1) uc13)
     have hQAf := hQA13.far O 3 (.slice ua13 (acc.length + 1) uc13) (by omega)
     have fAf := fA13.set ⟨O, 3, none⟩ (.slice ua13 (acc.length + 1) uc13)
     have hOwf : OwnI (y13.setCell ⟨O, 3, none⟩ (.slice ua13 (acc.length + 1) uc13)) (O + 1) (.slice ua13 (acc.length + 1) uc13) (acc ++ [(yN : Int)]) := OwnI.setR hOw13 (by omega)
     have hBf : Below w.heap.size w (y13.setCell ⟨O, 3, none⟩ (.slice ua13 (acc.length + 1) uc13)) := HB13.setCell (by simp; omega) _
     have hRf := hRS13.keep (w' := y13.setCell ⟨O, 3, none⟩ (.slice ua13 (acc.length + 1) uc13)) ((Below.refl _ _).setCell (by simp; omega) _) hRS13.lt (Below.heap_setCell _ _ _ _ (by simp; omega))
     obtain ⟨q0, q1, q2, q3, q4, q5, q6, q7⟩ := id hQO13
     obtain ⟨f0, f1, f2, f3, f4, f5, f6, f7⟩ := id fO13
     dsimp only at q0 q1 q2 q3 q4 q5 q6 q7
     go_simp
     refine hK.out _ _ trivial (fun hHeld => ?_)
     clear hK K
     clear q0 q1 q2 q3 q4 q5 q6 q7 f0 f1 f2 f3 f4 f5 f6 f7
     refine wpAnyH_done (by kernel_rfl) ?_ _
     clear hHeld
     (try dsimp only at hQOf)
     generalize y13.setCell ⟨O, 3, none⟩ (.slice ua13 (acc.length + 1) uc13) = Wf at *
     go_wp2
     go_roundw
     case rel => exact ⟨j, _, acc ++ [(yN : Int)], _, by omega, by go_num, HA2.out, HE2.out, by omega, hRf, hOwf, hQOf, fOf, hQAf, fAf, hBf⟩
     case measure => simp [intOf]
  ·have HXX : Hid (acc = us7 ∧ (sl, sf) = s7) := by
    have h1 : usM j (sl, sf) = ([], (sl, sf)) := by
     cases j with
     | zero => rfl
     | succ j =>
      cases sf with
      | true => exact usM_stop rfl
      | false => exact absurd ⟨Nat.succ_pos _, rfl⟩ hgo
    refine ⟨?_, ?_⟩
    ·have := HACC.out; rw [h1] at this; simpa using this
    ·have := HEND.out; rw [h1] at this; exact this
   obtain ⟨hx1, hx2⟩ := HXX.out
   rw [hx1] at hOr hal
   rw [hx2] at hRr
   obtain ⟨ua, uc, rfl, -, -⟩ := hOr.form
   obtain ⟨jl, hjl⟩ : ∃ jl, us7.length = jl := ⟨_, rfl⟩
   rw [hjl] at hOr hQOr hal
   have HJL : Hid (us7.length = jl) := hjl
   clear HXX HACC HEND hx1 hx2 hjl HU HUL
   have hdl' : d.length ≤ 1048576 := hdl
   obtain ⟨q8, e8⟩ : ∃ q, q = bM s7 := ⟨_, rfl⟩
   obtain ⟨q9, e9⟩ : ∃ q, q = bM q8.2 := ⟨_, rfl⟩
   obtain ⟨q10, e10⟩ : ∃ q, q = wM q9.2 := ⟨_, rfl⟩
   obtain ⟨q11, e11⟩ : ∃ q, q = wM q10.2 := ⟨_, rfl⟩
   obtain ⟨q12, e12⟩ : ∃ q, q = bsM q11.1 q11.2 := ⟨_, rfl⟩
   have HO : Hid (o = ⟨(kN : Int), str xT, str tT, us7, (q8.1 : Int), (q9.1 : Int), (q10.1 : Int), q12.1⟩) := by
    show _ = _
    rw [HRD.out, e12, e11, e10, e9, e8]
    rfl
   have C8 : Hid (∀ w', RmS w.heap.size (w.heap.size + 1) w' d s7 → Calls Tryd.prog 51 #[.pointer (some ⟨w.heap.size + 1, 0, none⟩)] w' fun e w'' => BmE w.heap.size (w.heap.size + 1) d q8.1 q8.2 w' e w'') := fun w' h => by rw [e8]; exact CBh.out _ w' h
   have C9 : Hid (∀ w', RmS w.heap.size (w.heap.size + 1) w' d q8.2 → Calls Tryd.prog 51 #[.pointer (some ⟨w.heap.size + 1, 0, none⟩)] w' fun e w'' => BmE w.heap.size (w.heap.size + 1) d q9.1 q9.2 w' e w'') := fun w' h => by rw [e9]; exact CBh.out _ w' h
   have C10 : Hid (∀ w', RmS w.heap.size (w.heap.size + 1) w' d q9.2 → Calls Tryd.prog 53 #[.pointer (some ⟨w.heap.size + 1, 0, none⟩)] w' fun e w'' => BmE w.heap.size (w.heap.size + 1) d q10.1 q10.2 w' e w'') := fun w' h => by rw [e10]; exact CWh.out _ w' h
   have C11 : Hid (∀ w', RmS w.heap.size (w.heap.size + 1) w' d q10.2 → Calls Tryd.prog 53 #[.pointer (some ⟨w.heap.size + 1, 0, none⟩)] w' fun e w'' => BmE w.heap.size (w.heap.size + 1) d q11.1 q11.2 w' e w'') := fun w' h => by rw [e11]; exact CWh.out _ w' h
   have L11 : Hid (∀ w', RmS w.heap.size (w.heap.size + 1) w' d q10.2 → q11.1 < 65536) := fun w' h => by rw [e11]; exact wM_lt (h.isB hB)
   have C12 : Hid (q11.1 < 65536 → ∀ w', RmS w.heap.size (w.heap.size + 1) w' d q11.2 → Calls Tryd.prog 52 #[.pointer (some ⟨w.heap.size + 1, 0, none⟩), .int .i64 (q11.1 : Int)] w' fun e w'' => BsE w.heap.size (w.heap.size + 1) d q12.1 q12.2 w' e w'') := fun hq w' h => by rw [e12]; exact CSh.out _ _ w' (by omega) h
   have L12 : Hid (∀ w', RmS w.heap.size (w.heap.size + 1) w' d q11.2 → IsB q12.1) := fun w' h => by rw [e12]; exact bsM_isB _ _ (h.isB hB)
   clear e8 e9 e10 e11 e12 HRD CBh CWh CSh
   obtain ⟨mN, s8⟩ := q8
   obtain ⟨fN, s9⟩ := q9
   obtain ⟨dN, s10⟩ := q10
   obtain ⟨bN, s11⟩ := q11
   obtain ⟨bT, s12⟩ := q12
   dsimp only at HO C8 C9 C10 C11 L11 C12 L12
   by_cases hj0 : 0 < j
   ·obtain rfl : sf = true := by
     cases sf
     ·exact absurd ⟨hj0, rfl⟩ hgo
     ·rfl
    have hji : (j : Int) > 0 := by omega
    go_wp2_with fail
    refine (C8.out wr hRr).mono ?_
    rintro e w11 ⟨rfl, hup11, hR11⟩
    have hQA11 := hup11.qo (by omega) hQAr
    have fA11 := hup11.fo (by omega) hQAr.lt fAr
    have hQO11 := hup11.qo (by omega) hQOr
    have fO11 := hup11.fo (by omega) hQOr.lt fOr
    have hB11 : Below w.heap.size w w11 := hBr.trans (hup11.1.mono (by omega))
    have hOw11 : OwnI w11 (O + 1) (.slice ua jl uc) us7 := UpH.ow hup11 hOr (by omega)
    clear hQAr fAr hQOr fOr hBr hOr hRr hup11
    have hQO12 := hQO11.put4 (.int .i64 (mN : Int))
    have fO12 := fO11.set ⟨O, 4, none⟩ (.int .i64 (mN : Int))
    have hQA12 := hQA11.far O 4 (.int .i64 (mN : Int)) (by omega)
    have fA12 := fA11.set ⟨O, 4, none⟩ (.int .i64 (mN : Int))
    have hB12 : Below w.heap.size w (w11.setCell ⟨O, 4, none⟩ (.int .i64 (mN : Int))) := hB11.setCell (by simp; omega) _
    have hR12 := hR11.keep (w' := (w11.setCell ⟨O, 4, none⟩ (.int .i64 (mN : Int)))) ((Below.refl _ _).setCell (by simp; omega) _) hR11.lt (Below.heap_setCell _ _ _ _ (by simp; omega))
    have hOw12 : OwnI (w11.setCell ⟨O, 4, none⟩ (.int .i64 (mN : Int))) (O + 1) (.slice ua jl uc) us7 := hOw11.setR (by omega)
    obtain ⟨q0, q1, q2, q3, q4, q5, q6, q7⟩ := id hQO11
    obtain ⟨f0, f1, f2, f3, f4, f5, f6, f7⟩ := id fO11
    (try dsimp only at q0 q1 q2 q3 q4 q5 q6 q7)
    have HK : Hid (_) := And.intro hQO12 (And.intro fO12 (And.intro hQA12 (And.intro fA12 (And.intro hB12 (And.intro hR12 (hOw12))))))
    clear hQO12 fO12 hQA12 fA12 hB12 hR12 hOw12 hQA11 fA11 hB11 hR11 hOw11 hQO11 fO11
    go_wp2_with fail
    obtain ⟨hQO12, fO12, hQA12, fA12, hB12, hR12, hOw12⟩ := HK.out
    clear HK q0 q1 q2 q3 q4 q5 q6 q7 f0 f1 f2 f3 f4 f5 f6 f7
    (try dsimp only at hQO12)
    generalize (w11.setCell ⟨O, 4, none⟩ (.int .i64 (mN : Int))) = W12 at *
    refine (C9.out W12 hR12).mono ?_
    rintro e w13 ⟨rfl, hup13, hR13⟩
    have hQA13 := hup13.qo (by omega) hQA12
    have fA13 := hup13.fo (by omega) hQA12.lt fA12
    have hQO13 := hup13.qo (by omega) hQO12
    have fO13 := hup13.fo (by omega) hQO12.lt fO12
    have hB13 : Below w.heap.size w w13 := hB12.trans (hup13.1.mono (by omega))
    have hOw13 : OwnI w13 (O + 1) (.slice ua jl uc) us7 := UpH.ow hup13 hOw12 (by omega)
    clear hQA12 fA12 hQO12 fO12 hB12 hOw12 hR12 hup13
    have hQO14 := hQO13.put5 (.int .i64 (fN : Int))
    have fO14 := fO13.set ⟨O, 5, none⟩ (.int .i64 (fN : Int))
    have hQA14 := hQA13.far O 5 (.int .i64 (fN : Int)) (by omega)
    have fA14 := fA13.set ⟨O, 5, none⟩ (.int .i64 (fN : Int))
    have hB14 : Below w.heap.size w (w13.setCell ⟨O, 5, none⟩ (.int .i64 (fN : Int))) := hB13.setCell (by simp; omega) _
    have hR14 := hR13.keep (w' := (w13.setCell ⟨O, 5, none⟩ (.int .i64 (fN : Int)))) ((Below.refl _ _).setCell (by simp; omega) _) hR13.lt (Below.heap_setCell _ _ _ _ (by simp; omega))
    have hOw14 : OwnI (w13.setCell ⟨O, 5, none⟩ (.int .i64 (fN : Int))) (O + 1) (.slice ua jl uc) us7 := hOw13.setR (by omega)
    obtain ⟨q0, q1, q2, q3, q4, q5, q6, q7⟩ := id hQO13
    obtain ⟨f0, f1, f2, f3, f4, f5, f6, f7⟩ := id fO13
    (try dsimp only at q0 q1 q2 q3 q4 q5 q6 q7)
    have HK : Hid (_) := And.intro hQO14 (And.intro fO14 (And.intro hQA14 (And.intro fA14 (And.intro hB14 (And.intro hR14 (hOw14))))))
    clear hQO14 fO14 hQA14 fA14 hB14 hR14 hOw14 hQA13 fA13 hB13 hR13 hOw13 hQO13 fO13
    go_wp2_with fail
    obtain ⟨hQO14, fO14, hQA14, fA14, hB14, hR14, hOw14⟩ := HK.out
    clear HK q0 q1 q2 q3 q4 q5 q6 q7 f0 f1 f2 f3 f4 f5 f6 f7
    (try dsimp only at hQO14)
    generalize (w13.setCell ⟨O, 5, none⟩ (.int .i64 (fN : Int))) = W14 at *
    refine (C10.out W14 hR14).mono ?_
    rintro e w15 ⟨rfl, hup15, hR15⟩
    have hQA15 := hup15.qo (by omega) hQA14
    have fA15 := hup15.fo (by omega) hQA14.lt fA14
    have hQO15 := hup15.qo (by omega) hQO14
    have fO15 := hup15.fo (by omega) hQO14.lt fO14
    have hB15 : Below w.heap.size w w15 := hB14.trans (hup15.1.mono (by omega))
    have hOw15 : OwnI w15 (O + 1) (.slice ua jl uc) us7 := UpH.ow hup15 hOw14 (by omega)
    clear hQA14 fA14 hQO14 fO14 hB14 hOw14 hR14 hup15
    have hQO16 := hQO15.put6 (.int .i64 (dN : Int))
    have fO16 := fO15.set ⟨O, 6, none⟩ (.int .i64 (dN : Int))
    have hQA16 := hQA15.far O 6 (.int .i64 (dN : Int)) (by omega)
    have fA16 := fA15.set ⟨O, 6, none⟩ (.int .i64 (dN : Int))
    have hB16 : Below w.heap.size w (w15.setCell ⟨O, 6, none⟩ (.int .i64 (dN : Int))) := hB15.setCell (by simp; omega) _
    have hR16 := hR15.keep (w' := (w15.setCell ⟨O, 6, none⟩ (.int .i64 (dN : Int)))) ((Below.refl _ _).setCell (by simp; omega) _) hR15.lt (Below.heap_setCell _ _ _ _ (by simp; omega))
    have hOw16 : OwnI (w15.setCell ⟨O, 6, none⟩ (.int .i64 (dN : Int))) (O + 1) (.slice ua jl uc) us7 := hOw15.setR (by omega)
    obtain ⟨q0, q1, q2, q3, q4, q5, q6, q7⟩ := id hQO15
    obtain ⟨f0, f1, f2, f3, f4, f5, f6, f7⟩ := id fO15
    (try dsimp only at q0 q1 q2 q3 q4 q5 q6 q7)
    have HK : Hid (_) := And.intro hQO16 (And.intro fO16 (And.intro hQA16 (And.intro fA16 (And.intro hB16 (And.intro hR16 (hOw16))))))
    clear hQO16 fO16 hQA16 fA16 hB16 hR16 hOw16 hQA15 fA15 hB15 hR15 hOw15 hQO15 fO15
    go_wp2_with fail
    obtain ⟨hQO16, fO16, hQA16, fA16, hB16, hR16, hOw16⟩ := HK.out
    clear HK q0 q1 q2 q3 q4 q5 q6 q7 f0 f1 f2 f3 f4 f5 f6 f7
    (try dsimp only at hQO16)
    generalize (w15.setCell ⟨O, 6, none⟩ (.int .i64 (dN : Int))) = W16 at *
    have hbN := L11.out _ hR16
    refine (C11.out W16 hR16).mono ?_
    rintro e w17 ⟨rfl, hup17, hR17⟩
    have hQA17 := hup17.qo (by omega) hQA16
    have fA17 := hup17.fo (by omega) hQA16.lt fA16
    have hQO17 := hup17.qo (by omega) hQO16
    have fO17 := hup17.fo (by omega) hQO16.lt fO16
    have hB17 : Below w.heap.size w w17 := hB16.trans (hup17.1.mono (by omega))
    have hOw17 : OwnI w17 (O + 1) (.slice ua jl uc) us7 := UpH.ow hup17 hOw16 (by omega)
    clear hQA16 fA16 hQO16 fO16 hB16 hOw16 hR16 hup17
    go_wp2_with fail
    have HBT : Hid (IsB bT) := L12.out _ hR17
    have hzz : O < w17.heap.size := hQO17.lt
    have hUlt : ∀ x, ua = some x → x.block < w17.heap.size := fun x hx => by
     subst hx
     exact (hOw17.lt x.block rfl).2
    refine (C12.out hbN w17 hR17).mono ?_
    rintro e w18 ⟨v18, rfl, hOs18, hup18, hR18⟩
    have hQA18 := hup18.qo (by omega) hQA17
    have fA18 := hup18.fo (by omega) hQA17.lt fA17
    have hQO18 := hup18.qo (by omega) hQO17
    have fO18 := hup18.fo (by omega) hQO17.lt fO17
    have hB18 : Below w.heap.size w w18 := hB17.trans (hup18.1.mono (by omega))
    have hOw18 : OwnI w18 (O + 1) (.slice ua jl uc) us7 := UpH.ow hup18 hOw17 (by omega)
    clear hQA17 fA17 hQO17 fO17 hB17 hOw17 hR17 hup18
    obtain ⟨ab, cb, rfl, -, -⟩ := id hOs18.form
    have hBge : ∀ x, ab = some x → w17.heap.size ≤ x.block := fun x hx => by
     subst hx
     exact (hOs18.lt x.block rfl).1
    have HSP : Hid (∀ x y, ua = some x → ab = some y → x.block ≠ y.block) := fun x y hx hy => by
     have := hUlt x hx
     have := hBge y hy
     omega
    have HOb : Hid (Own w18 (O + 1) (.slice ab bT.length cb) bT) := ⟨hOs18.1, hOs18.2.imp id (fun ⟨g, c, cu, h1, h2, h3⟩ => ⟨g, c, cu, h1, by omega, h3⟩)⟩
    have HFI : Hid (OwnI (((((((((w18.setCell ⟨O, 7, none⟩ (.slice ab bT.length cb)).setCell ⟨w.heap.size, 0, none⟩ (.int .i64 (kN : Int))).setCell ⟨w.heap.size, 1, none⟩ (.string (str xT))).setCell ⟨w.heap.size, 2, none⟩ (.string (str tT))).setCell ⟨w.heap.size, 3, none⟩ (.slice ua jl uc)).setCell ⟨w.heap.size, 4, none⟩ (.int .i64 (mN : Int))).setCell ⟨w.heap.size, 5, none⟩ (.int .i64 (fN : Int))).setCell ⟨w.heap.size, 6, none⟩ (.int .i64 (dN : Int))).setCell ⟨w.heap.size, 7, none⟩ (.slice ab bT.length cb)) (O + 1) (.slice ua jl uc) us7) := ((((((((hOw18.setR (by omega)).setR (by omega)).setR (by omega)).setR (by omega)).setR (by omega)).setR (by omega)).setR (by omega)).setR (by omega)).setR (by omega)
    have HFB : Hid (Own (((((((((w18.setCell ⟨O, 7, none⟩ (.slice ab bT.length cb)).setCell ⟨w.heap.size, 0, none⟩ (.int .i64 (kN : Int))).setCell ⟨w.heap.size, 1, none⟩ (.string (str xT))).setCell ⟨w.heap.size, 2, none⟩ (.string (str tT))).setCell ⟨w.heap.size, 3, none⟩ (.slice ua jl uc)).setCell ⟨w.heap.size, 4, none⟩ (.int .i64 (mN : Int))).setCell ⟨w.heap.size, 5, none⟩ (.int .i64 (fN : Int))).setCell ⟨w.heap.size, 6, none⟩ (.int .i64 (dN : Int))).setCell ⟨w.heap.size, 7, none⟩ (.slice ab bT.length cb)) (O + 1) (.slice ab bT.length cb) bT) := ((((((((HOb.out.setR (by omega)).setR (by omega)).setR (by omega)).setR (by omega)).setR (by omega)).setR (by omega)).setR (by omega)).setR (by omega)).setR (by omega)
    have HBf : Hid (Below w.heap.size w (((((((((w18.setCell ⟨O, 7, none⟩ (.slice ab bT.length cb)).setCell ⟨w.heap.size, 0, none⟩ (.int .i64 (kN : Int))).setCell ⟨w.heap.size, 1, none⟩ (.string (str xT))).setCell ⟨w.heap.size, 2, none⟩ (.string (str tT))).setCell ⟨w.heap.size, 3, none⟩ (.slice ua jl uc)).setCell ⟨w.heap.size, 4, none⟩ (.int .i64 (mN : Int))).setCell ⟨w.heap.size, 5, none⟩ (.int .i64 (fN : Int))).setCell ⟨w.heap.size, 6, none⟩ (.int .i64 (dN : Int))).setCell ⟨w.heap.size, 7, none⟩ (.slice ab bT.length cb))) := ((((((((hB18.setCell (by simp; omega) _).setCell (by simp) _).setCell (by simp) _).setCell (by simp) _).setCell (by simp) _).setCell (by simp) _).setCell (by simp) _).setCell (by simp) _).setCell (by simp) _
    have hO4 := hQO18.put7 (.slice ab bT.length cb)
    have hR4 := hQA18.far O 7 (.slice ab bT.length cb) (by omega)
    have hR5 := ((((((((hR4).put0 (.int .i64 (kN : Int))).put1 (.string (str xT))).put2 (.string (str tT))).put3 (.slice ua jl uc)).put4 (.int .i64 (mN : Int))).put5 (.int .i64 (fN : Int))).put6 (.int .i64 (dN : Int))).put7 (.slice ab bT.length cb)
    obtain ⟨q0, q1, q2, q3, q4, q5, q6, q7⟩ := hR5
    obtain ⟨o0, o1, o2, o3, o4, o5, o6, o7⟩ := hQO18
    obtain ⟨f0, f1, f2, f3, f4, f5, f6, f7⟩ := fO18
    obtain ⟨r0, r1, r2, r3, r4, r5, r6, r7⟩ := hQA18
    obtain ⟨y0, y1, y2, y3, y4, y5, y6, y7⟩ := fA18
    obtain ⟨k0, k1, k2, k3, k4, k5, k6, k7⟩ := hO4
    dsimp only at q0 q1 q2 q3 q4 q5 q6 q7 o0 o1 o2 o3 o4 o5 o6 o7 r0 r1 r2 r3 r4 r5 r6 r7 k0 k1 k2 k3 k4 k5 k6 k7
    have hg1 : O ≠ w.heap.size := by omega
    clear hOw18 hOs18 hB18 hR4 hUlt hBge hR18
    go_wp2
    refine bodyPost_ret (v := .agg #[.int .i64 (kN : Int), .string (str xT), .string (str tT), .slice ua jl uc, .int .i64 (mN : Int), .int .i64 (fN : Int), .int .i64 (dN : Int), .slice ab bT.length cb]) (by simp [results, Tryd.results28, go_sem, q0, q1, q2, q3, q4, q5, q6, q7]) rfl ?_
    rw [HO.out]
    refine ⟨((ua, jl, uc), (ab, bT.length, cb)), rfl, ⟨(HFI.out.il).low (by omega), (HFB.out.sl HBT.out).low (by omega)⟩, ⟨HFI.out.wr.low (by omega), HFB.out.wr.low (by omega)⟩, HSP.out, HBf.out⟩
   ·obtain rfl : j = 0 := by omega
    go_wp2_with fail
    refine (C8.out wr hRr).mono ?_
    rintro e w19 ⟨rfl, hup19, hR19⟩
    have hQA19 := hup19.qo (by omega) hQAr
    have fA19 := hup19.fo (by omega) hQAr.lt fAr
    have hQO19 := hup19.qo (by omega) hQOr
    have fO19 := hup19.fo (by omega) hQOr.lt fOr
    have hB19 : Below w.heap.size w w19 := hBr.trans (hup19.1.mono (by omega))
    have hOw19 : OwnI w19 (O + 1) (.slice ua jl uc) us7 := UpH.ow hup19 hOr (by omega)
    clear hQAr fAr hQOr fOr hBr hOr hRr hup19
    have hQO20 := hQO19.put4 (.int .i64 (mN : Int))
    have fO20 := fO19.set ⟨O, 4, none⟩ (.int .i64 (mN : Int))
    have hQA20 := hQA19.far O 4 (.int .i64 (mN : Int)) (by omega)
    have fA20 := fA19.set ⟨O, 4, none⟩ (.int .i64 (mN : Int))
    have hB20 : Below w.heap.size w (w19.setCell ⟨O, 4, none⟩ (.int .i64 (mN : Int))) := hB19.setCell (by simp; omega) _
    have hR20 := hR19.keep (w' := (w19.setCell ⟨O, 4, none⟩ (.int .i64 (mN : Int)))) ((Below.refl _ _).setCell (by simp; omega) _) hR19.lt (Below.heap_setCell _ _ _ _ (by simp; omega))
    have hOw20 : OwnI (w19.setCell ⟨O, 4, none⟩ (.int .i64 (mN : Int))) (O + 1) (.slice ua jl uc) us7 := hOw19.setR (by omega)
    obtain ⟨q0, q1, q2, q3, q4, q5, q6, q7⟩ := id hQO19
    obtain ⟨f0, f1, f2, f3, f4, f5, f6, f7⟩ := id fO19
    (try dsimp only at q0 q1 q2 q3 q4 q5 q6 q7)
    have HK : Hid (_) := And.intro hQO20 (And.intro fO20 (And.intro hQA20 (And.intro fA20 (And.intro hB20 (And.intro hR20 (hOw20))))))
    clear hQO20 fO20 hQA20 fA20 hB20 hR20 hOw20 hQA19 fA19 hB19 hR19 hOw19 hQO19 fO19
    go_wp2_with fail
    obtain ⟨hQO20, fO20, hQA20, fA20, hB20, hR20, hOw20⟩ := HK.out
    clear HK q0 q1 q2 q3 q4 q5 q6 q7 f0 f1 f2 f3 f4 f5 f6 f7
    (try dsimp only at hQO20)
    generalize (w19.setCell ⟨O, 4, none⟩ (.int .i64 (mN : Int))) = W20 at *
    refine (C9.out W20 hR20).mono ?_
    rintro e w21 ⟨rfl, hup21, hR21⟩
    have hQA21 := hup21.qo (by omega) hQA20
    have fA21 := hup21.fo (by omega) hQA20.lt fA20
    have hQO21 := hup21.qo (by omega) hQO20
    have fO21 := hup21.fo (by omega) hQO20.lt fO20
    have hB21 : Below w.heap.size w w21 := hB20.trans (hup21.1.mono (by omega))
    have hOw21 : OwnI w21 (O + 1) (.slice ua jl uc) us7 := UpH.ow hup21 hOw20 (by omega)
    clear hQA20 fA20 hQO20 fO20 hB20 hOw20 hR20 hup21
    have hQO22 := hQO21.put5 (.int .i64 (fN : Int))
    have fO22 := fO21.set ⟨O, 5, none⟩ (.int .i64 (fN : Int))
    have hQA22 := hQA21.far O 5 (.int .i64 (fN : Int)) (by omega)
    have fA22 := fA21.set ⟨O, 5, none⟩ (.int .i64 (fN : Int))
    have hB22 : Below w.heap.size w (w21.setCell ⟨O, 5, none⟩ (.int .i64 (fN : Int))) := hB21.setCell (by simp; omega) _
    have hR22 := hR21.keep (w' := (w21.setCell ⟨O, 5, none⟩ (.int .i64 (fN : Int)))) ((Below.refl _ _).setCell (by simp; omega) _) hR21.lt (Below.heap_setCell _ _ _ _ (by simp; omega))
    have hOw22 : OwnI (w21.setCell ⟨O, 5, none⟩ (.int .i64 (fN : Int))) (O + 1) (.slice ua jl uc) us7 := hOw21.setR (by omega)
    obtain ⟨q0, q1, q2, q3, q4, q5, q6, q7⟩ := id hQO21
    obtain ⟨f0, f1, f2, f3, f4, f5, f6, f7⟩ := id fO21
    (try dsimp only at q0 q1 q2 q3 q4 q5 q6 q7)
    have HK : Hid (_) := And.intro hQO22 (And.intro fO22 (And.intro hQA22 (And.intro fA22 (And.intro hB22 (And.intro hR22 (hOw22))))))
    clear hQO22 fO22 hQA22 fA22 hB22 hR22 hOw22 hQA21 fA21 hB21 hR21 hOw21 hQO21 fO21
    go_wp2_with fail
    obtain ⟨hQO22, fO22, hQA22, fA22, hB22, hR22, hOw22⟩ := HK.out
    clear HK q0 q1 q2 q3 q4 q5 q6 q7 f0 f1 f2 f3 f4 f5 f6 f7
    (try dsimp only at hQO22)
    generalize (w21.setCell ⟨O, 5, none⟩ (.int .i64 (fN : Int))) = W22 at *
    refine (C10.out W22 hR22).mono ?_
    rintro e w23 ⟨rfl, hup23, hR23⟩
    have hQA23 := hup23.qo (by omega) hQA22
    have fA23 := hup23.fo (by omega) hQA22.lt fA22
    have hQO23 := hup23.qo (by omega) hQO22
    have fO23 := hup23.fo (by omega) hQO22.lt fO22
    have hB23 : Below w.heap.size w w23 := hB22.trans (hup23.1.mono (by omega))
    have hOw23 : OwnI w23 (O + 1) (.slice ua jl uc) us7 := UpH.ow hup23 hOw22 (by omega)
    clear hQA22 fA22 hQO22 fO22 hB22 hOw22 hR22 hup23
    have hQO24 := hQO23.put6 (.int .i64 (dN : Int))
    have fO24 := fO23.set ⟨O, 6, none⟩ (.int .i64 (dN : Int))
    have hQA24 := hQA23.far O 6 (.int .i64 (dN : Int)) (by omega)
    have fA24 := fA23.set ⟨O, 6, none⟩ (.int .i64 (dN : Int))
    have hB24 : Below w.heap.size w (w23.setCell ⟨O, 6, none⟩ (.int .i64 (dN : Int))) := hB23.setCell (by simp; omega) _
    have hR24 := hR23.keep (w' := (w23.setCell ⟨O, 6, none⟩ (.int .i64 (dN : Int)))) ((Below.refl _ _).setCell (by simp; omega) _) hR23.lt (Below.heap_setCell _ _ _ _ (by simp; omega))
    have hOw24 : OwnI (w23.setCell ⟨O, 6, none⟩ (.int .i64 (dN : Int))) (O + 1) (.slice ua jl uc) us7 := hOw23.setR (by omega)
    obtain ⟨q0, q1, q2, q3, q4, q5, q6, q7⟩ := id hQO23
    obtain ⟨f0, f1, f2, f3, f4, f5, f6, f7⟩ := id fO23
    (try dsimp only at q0 q1 q2 q3 q4 q5 q6 q7)
    have HK : Hid (_) := And.intro hQO24 (And.intro fO24 (And.intro hQA24 (And.intro fA24 (And.intro hB24 (And.intro hR24 (hOw24))))))
    clear hQO24 fO24 hQA24 fA24 hB24 hR24 hOw24 hQA23 fA23 hB23 hR23 hOw23 hQO23 fO23
    go_wp2_with fail
    obtain ⟨hQO24, fO24, hQA24, fA24, hB24, hR24, hOw24⟩ := HK.out
    clear HK q0 q1 q2 q3 q4 q5 q6 q7 f0 f1 f2 f3 f4 f5 f6 f7
    (try dsimp only at hQO24)
    generalize (w23.setCell ⟨O, 6, none⟩ (.int .i64 (dN : Int))) = W24 at *
    have hbN := L11.out _ hR24
    refine (C11.out W24 hR24).mono ?_
    rintro e w25 ⟨rfl, hup25, hR25⟩
    have hQA25 := hup25.qo (by omega) hQA24
    have fA25 := hup25.fo (by omega) hQA24.lt fA24
    have hQO25 := hup25.qo (by omega) hQO24
    have fO25 := hup25.fo (by omega) hQO24.lt fO24
    have hB25 : Below w.heap.size w w25 := hB24.trans (hup25.1.mono (by omega))
    have hOw25 : OwnI w25 (O + 1) (.slice ua jl uc) us7 := UpH.ow hup25 hOw24 (by omega)
    clear hQA24 fA24 hQO24 fO24 hB24 hOw24 hR24 hup25
    go_wp2_with fail
    have HBT : Hid (IsB bT) := L12.out _ hR25
    have hzz : O < w25.heap.size := hQO25.lt
    have hUlt : ∀ x, ua = some x → x.block < w25.heap.size := fun x hx => by
     subst hx
     exact (hOw25.lt x.block rfl).2
    refine (C12.out hbN w25 hR25).mono ?_
    rintro e w26 ⟨v26, rfl, hOs26, hup26, hR26⟩
    have hQA26 := hup26.qo (by omega) hQA25
    have fA26 := hup26.fo (by omega) hQA25.lt fA25
    have hQO26 := hup26.qo (by omega) hQO25
    have fO26 := hup26.fo (by omega) hQO25.lt fO25
    have hB26 : Below w.heap.size w w26 := hB25.trans (hup26.1.mono (by omega))
    have hOw26 : OwnI w26 (O + 1) (.slice ua jl uc) us7 := UpH.ow hup26 hOw25 (by omega)
    clear hQA25 fA25 hQO25 fO25 hB25 hOw25 hR25 hup26
    obtain ⟨ab, cb, rfl, -, -⟩ := id hOs26.form
    have hBge : ∀ x, ab = some x → w25.heap.size ≤ x.block := fun x hx => by
     subst hx
     exact (hOs26.lt x.block rfl).1
    have HSP : Hid (∀ x y, ua = some x → ab = some y → x.block ≠ y.block) := fun x y hx hy => by
     have := hUlt x hx
     have := hBge y hy
     omega
    have HOb : Hid (Own w26 (O + 1) (.slice ab bT.length cb) bT) := ⟨hOs26.1, hOs26.2.imp id (fun ⟨g, c, cu, h1, h2, h3⟩ => ⟨g, c, cu, h1, by omega, h3⟩)⟩
    have HFI : Hid (OwnI (((((((((w26.setCell ⟨O, 7, none⟩ (.slice ab bT.length cb)).setCell ⟨w.heap.size, 0, none⟩ (.int .i64 (kN : Int))).setCell ⟨w.heap.size, 1, none⟩ (.string (str xT))).setCell ⟨w.heap.size, 2, none⟩ (.string (str tT))).setCell ⟨w.heap.size, 3, none⟩ (.slice ua jl uc)).setCell ⟨w.heap.size, 4, none⟩ (.int .i64 (mN : Int))).setCell ⟨w.heap.size, 5, none⟩ (.int .i64 (fN : Int))).setCell ⟨w.heap.size, 6, none⟩ (.int .i64 (dN : Int))).setCell ⟨w.heap.size, 7, none⟩ (.slice ab bT.length cb)) (O + 1) (.slice ua jl uc) us7) := ((((((((hOw26.setR (by omega)).setR (by omega)).setR (by omega)).setR (by omega)).setR (by omega)).setR (by omega)).setR (by omega)).setR (by omega)).setR (by omega)
    have HFB : Hid (Own (((((((((w26.setCell ⟨O, 7, none⟩ (.slice ab bT.length cb)).setCell ⟨w.heap.size, 0, none⟩ (.int .i64 (kN : Int))).setCell ⟨w.heap.size, 1, none⟩ (.string (str xT))).setCell ⟨w.heap.size, 2, none⟩ (.string (str tT))).setCell ⟨w.heap.size, 3, none⟩ (.slice ua jl uc)).setCell ⟨w.heap.size, 4, none⟩ (.int .i64 (mN : Int))).setCell ⟨w.heap.size, 5, none⟩ (.int .i64 (fN : Int))).setCell ⟨w.heap.size, 6, none⟩ (.int .i64 (dN : Int))).setCell ⟨w.heap.size, 7, none⟩ (.slice ab bT.length cb)) (O + 1) (.slice ab bT.length cb) bT) := ((((((((HOb.out.setR (by omega)).setR (by omega)).setR (by omega)).setR (by omega)).setR (by omega)).setR (by omega)).setR (by omega)).setR (by omega)).setR (by omega)
    have HBf : Hid (Below w.heap.size w (((((((((w26.setCell ⟨O, 7, none⟩ (.slice ab bT.length cb)).setCell ⟨w.heap.size, 0, none⟩ (.int .i64 (kN : Int))).setCell ⟨w.heap.size, 1, none⟩ (.string (str xT))).setCell ⟨w.heap.size, 2, none⟩ (.string (str tT))).setCell ⟨w.heap.size, 3, none⟩ (.slice ua jl uc)).setCell ⟨w.heap.size, 4, none⟩ (.int .i64 (mN : Int))).setCell ⟨w.heap.size, 5, none⟩ (.int .i64 (fN : Int))).setCell ⟨w.heap.size, 6, none⟩ (.int .i64 (dN : Int))).setCell ⟨w.heap.size, 7, none⟩ (.slice ab bT.length cb))) := ((((((((hB26.setCell (by simp; omega) _).setCell (by simp) _).setCell (by simp) _).setCell (by simp) _).setCell (by simp) _).setCell (by simp) _).setCell (by simp) _).setCell (by simp) _).setCell (by simp) _
    have hO4 := hQO26.put7 (.slice ab bT.length cb)
    have hR4 := hQA26.far O 7 (.slice ab bT.length cb) (by omega)
    have hR5 := ((((((((hR4).put0 (.int .i64 (kN : Int))).put1 (.string (str xT))).put2 (.string (str tT))).put3 (.slice ua jl uc)).put4 (.int .i64 (mN : Int))).put5 (.int .i64 (fN : Int))).put6 (.int .i64 (dN : Int))).put7 (.slice ab bT.length cb)
    obtain ⟨q0, q1, q2, q3, q4, q5, q6, q7⟩ := hR5
    obtain ⟨o0, o1, o2, o3, o4, o5, o6, o7⟩ := hQO26
    obtain ⟨f0, f1, f2, f3, f4, f5, f6, f7⟩ := fO26
    obtain ⟨r0, r1, r2, r3, r4, r5, r6, r7⟩ := hQA26
    obtain ⟨y0, y1, y2, y3, y4, y5, y6, y7⟩ := fA26
    obtain ⟨k0, k1, k2, k3, k4, k5, k6, k7⟩ := hO4
    dsimp only at q0 q1 q2 q3 q4 q5 q6 q7 o0 o1 o2 o3 o4 o5 o6 o7 r0 r1 r2 r3 r4 r5 r6 r7 k0 k1 k2 k3 k4 k5 k6 k7
    have hg1 : O ≠ w.heap.size := by omega
    clear hOw26 hOs26 hB26 hR4 hUlt hBge hR26
    go_wp2
    refine bodyPost_ret (v := .agg #[.int .i64 (kN : Int), .string (str xT), .string (str tT), .slice ua jl uc, .int .i64 (mN : Int), .int .i64 (fN : Int), .int .i64 (dN : Int), .slice ab bT.length cb]) (by simp [results, Tryd.results28, go_sem, q0, q1, q2, q3, q4, q5, q6, q7]) rfl ?_
    rw [HO.out]
    refine ⟨((ua, jl, uc), (ab, bT.length, cb)), rfl, ⟨(HFI.out.il).low (by omega), (HFB.out.sl HBT.out).low (by omega)⟩, ⟨HFI.out.wr.low (by omega), HFB.out.wr.low (by omega)⟩, HSP.out, HBf.out⟩
end Go.Proofs.YtdcgihcjiiemdaaDoor
