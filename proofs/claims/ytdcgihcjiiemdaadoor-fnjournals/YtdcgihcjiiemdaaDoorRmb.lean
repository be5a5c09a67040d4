/- Numbers and bytes out of the model's reader; no conditions beyond those that each fact names. -/
import Derived.Test.YtdcgihcjiiemdaaDoorRma
namespace Go.Proofs.YtdcgihcjiiemdaaDoor
open Go.RowKit
set_option linter.unusedVariables false
theorem bM_lt {s : RsM} (h : IsB s.1) : (bM s).1 < 256 ∧ IsB (bM s).2.1 := by
 obtain ⟨l, f⟩ := s
 cases l with
 | nil => exact ⟨by show 0 < 256; omega, h⟩
 | cons b r => exact ⟨h b (by simp), fun x hx => h x (List.mem_cons_of_mem _ hx)⟩
theorem RmS.isB {D R : Nat} {w : World} {d : List Nat} {s : RsM} (h : RmS D R w d s) (hB : IsB d) : IsB s.1 := by
 obtain ⟨p, a, cap, -, -, -, -, e⟩ := h
 rw [← e]; exact isB_drop hB _
theorem wM_lt {s : RsM} (h : IsB s.1) : (wM s).1 < 65536 := by
 have h1 := bM_lt h
 have h2 := bM_lt h1.2
 show (bM s).1 * 256 + (bM (bM s).2).1 < 65536
 omega
set_option maxHeartbeats 800000 in
set_option maxRecDepth 100000 in
theorem l9Word_any (D R : Nat) (d : List Nat) (s : RsM) (w : World) (h : RmS D R w d s) (hD : D ≤ R) (hB : IsB d) (hd : d.length ≤ 1048576) :
  Calls Tryd.prog 53 #[.pointer (some ⟨R, 0, none⟩)] w fun e w' => BmE D R d (wM s).1 (wM s).2 w e w' := by
 have h1 := bM_lt (h.isB hB)
 have h2 := bM_lt h1.2
 have C1 := l9Byte_any D R d s w h hD hB hd
 have C2 : Hid (∀ w', RmS D R w' d (bM s).2 → Calls Tryd.prog 51 #[.pointer (some ⟨R, 0, none⟩)] w' fun e w'' => BmE D R d (bM (bM s).2).1 (bM (bM s).2).2 w' e w'') := fun w' h' => l9Byte_any D R d _ w' h' hD hB hd
 have HV : Hid (wM s = ((bM s).1 * 256 + (bM (bM s).2).1, (bM (bM s).2).2)) := rfl
 generalize wM s = r at *
 generalize bM (bM s).2 = q2 at *
 generalize bM s = q1 at *
 obtain ⟨y1, s1⟩ := q1
 obtain ⟨y2, s2⟩ := q2
 dsimp only at *
 go_enter Tryd.func53, Tryd.ntmps53
 go_wp2_with fail
 refine C1.mono ?_
 rintro e w1 ⟨rfl, hu1, hs1⟩
 clear C1
 go_wp2_with fail
 refine (C2.out w1 hs1).mono ?_
 rintro e w2 ⟨rfl, hu2, hs2⟩
 have HU : Hid (UpH R w w2) := hu1.trans hu2
 clear C2 hu1 hu2 hs1
 go_wp2
 go_ret
 rw [HV.out]
 exact ⟨by rw [Int.natCast_add, Int.natCast_mul]; rfl, HU.out, hs2⟩
def BsE (D R : Nat) (d t : List Nat) (s : RsM) (w : World) (e : Ending) (w' : World) : Prop := ∃ v, e = .returned v ∧ Own w' w.heap.size v t ∧ UpH R w w' ∧ RmS D R w' d s
theorem bsM_step {n : Nat} {s : RsM} (h : s.2 = false) : bsM (n + 1) s = ((bM s).1 :: (bsM n (bM s).2).1, (bsM n (bM s).2).2) := by
 show (if s.2 = true then _ else _) = _
 rw [h]; rfl
theorem bsM_stop {n : Nat} {s : RsM} (h : s.2 = true) : bsM n s = ([], s) := by
 cases n with
 | zero => rfl
 | succ n =>
  show (if s.2 = true then _ else _) = _
  rw [if_pos h]
theorem bsM_len : ∀ (n : Nat) (s : RsM), (bsM n s).1.length ≤ n
 | 0, s => Nat.le_refl _
 | n + 1, s => by
  cases h : s.2 with
  | true => rw [bsM_stop h]; simp
  | false =>
   rw [bsM_step h]
   have := bsM_len n (bM s).2
   simp; omega
set_option maxHeartbeats 1600000 in
set_option maxRecDepth 100000 in
theorem l9Bytes_any (D R n : Nat) (d : List Nat) (s : RsM) (w : World) (h : RmS D R w d s) (hD : D ≤ R) (hB : IsB d) (hd : d.length ≤ 1048576) (hn : n ≤ 65535) :
  Calls Tryd.prog 52 #[.pointer (some ⟨R, 0, none⟩), .int .i64 (n : Int)] w fun e w' => BsE D R d (bsM n s).1 (bsM n s).2 w e w' := by
 have hRl := h.lt
 have HL : Hid ((bsM n s).1.length ≤ n) := bsM_len n s
 have hbA : Below w.heap.size w (w.alloc (.cells #[] 5)) := (Below.refl _ _).alloc (Nat.le_refl _) _
 have hO0 : Own (w.alloc (.cells #[] 5)) w.heap.size (.slice (some ⟨w.heap.size, 0, none⟩) 0 0) [] := Own.lit w w.heap.size (Nat.le_refl _) #[] [] rfl (Nat.zero_le _)
 have hu0 : UpH R w (w.alloc (.cells #[] 5)) := (UpH.refl R w).grow hbA (Nat.le_refl _) hRl
 have hs0 : RmS D R (w.alloc (.cells #[] 5)) d s := h.keep (hbA.mono (by omega)) hRl (hbA.block R hRl)
 have CB : Hid (∀ (s' : RsM) (w' : World), RmS D R w' d s' → Calls Tryd.prog 51 #[.pointer (some ⟨R, 0, none⟩)] w' fun e w'' => BmE D R d (bM s').1 (bM s').2 w' e w'') := fun s' w' h' => l9Byte_any D R d s' w' h' hD hB hd
 have HIB : Hid (∀ (s' : RsM) (w' : World), RmS D R w' d s' → (bM s').1 < 256) := fun s' w' h' => (bM_lt (h'.isB hB)).1
 clear h
 go_enter Tryd.func52, Tryd.ntmps52
 go_wp2
 generalize w.alloc (.cells #[] 5) = W0 at *
 go_loopw [1, 5] (fun q v wr => ∃ (j : Nat) (s' : RsM) (acc : List Nat), j ≤ n ∧ q = .int .i64 (j : Int) ∧ acc ++ (bsM j s').1 = (bsM n s).1 ∧ (bsM j s').2 = (bsM n s).2 ∧ Own wr w.heap.size v acc ∧ UpH R w wr ∧ RmS D R wr d s') (fun q _ _ => (intOf q).toNat)
 case atStart => exact ⟨n, s, [], Nat.le_refl _, rfl, rfl, rfl, hO0, hu0, hs0⟩
 case round =>
  obtain ⟨j, s', acc, hj, rfl, hacc, hend, hor, hur, hsr⟩ := hrel
  clear hO0 hu0 hs0 hbA
  have HACC : Hid (acc ++ (bsM j s').1 = (bsM n s).1) := hacc
  have HEND : Hid ((bsM j s').2 = (bsM n s).2) := hend
  clear hacc hend
  obtain ⟨p, a, cap, ⟨c0, c1, c2⟩, -⟩ := id hsr
  obtain ⟨s1, s2⟩ := s'
  dsimp only at c2
  by_cases hj0 : 0 < j
  ·have hji : (j : Int) > 0 := by omega
   cases s2 with
   | true =>
    have e1 : bsM j (s1, true) = ([], (s1, true)) := bsM_stop rfl
    go_wp2
    go_ret
    refine ⟨_, rfl, ?_, hur, ?_⟩
    ·have := HACC.out
     rw [e1] at this
     rw [← this]
     simpa using hor
    ·have := HEND.out
     rw [e1] at this
     rw [← this]
     exact hsr
   | false =>
    obtain ⟨j, rfl⟩ : ∃ j', j = j' + 1 := ⟨j - 1, by omega⟩
    have e1 : bsM (j + 1) (s1, false) = ((bM (s1, false)).1 :: (bsM j (bM (s1, false)).2).1, (bsM j (bM (s1, false)).2).2) := bsM_step rfl
    have HA2 : Hid ((acc ++ [(bM (s1, false)).1]) ++ (bsM j (bM (s1, false)).2).1 = (bsM n s).1) := by
     show _ = _
     have := HACC.out
     rw [e1] at this
     rw [← this]; simp
    have HE2 : Hid ((bsM j (bM (s1, false)).2).2 = (bsM n s).2) := by
     show _ = _
     have := HEND.out
     rw [e1] at this
     exact this
    have HY := HIB.out _ _ hsr
    have HC := CB.out _ _ hsr
    have hal : acc.length ≤ 65536 := by
     have h1 := congrArg List.length HACC.out
     rw [List.length_append] at h1
     have h2 := HL.out
     omega
    clear e1 HACC HEND
    generalize bM (s1, false) = q at *
    obtain ⟨y, s3⟩ := q
    dsimp only at HA2 HE2 HY HC
    go_wp2_with fail
    refine HC.mono ?_
    rintro e w2 ⟨rfl, hu2, hs2⟩
    have hor2 : Own w2 w.heap.size _ acc := hu2.ow hor (by omega)
    have hur2 := hur.trans hu2
    have hz2 : w.heap.size ≤ w2.heap.size := hur2.1.size
    have hRl2 := hs2.lt
    clear HC hor hur hu2 c0 c1 c2 hsr
    go_wp2_with (at_builtin; refine wpList_app_new rfl _ _ rfl w.heap.size _ acc rfl hor2 1 1 [y] rfl rfl rfl (by omega) hz2 ?_; intro v3 w3 hO3 hb3; have hu3 : UpH R w w3 := hur2.grow hb3 (Nat.le_refl _) hRl; have hs3 := hs2.keep (hb3.mono (by omega)) hRl2 (hb3.block R (by omega)))
    go_roundw
    case rel => exact ⟨j, s3, acc ++ [y], by omega, by go_num, HA2.out, HE2.out, hO3, hu3, hs3⟩
    case measure => simp [intOf]
  ·obtain rfl : j = 0 := by omega
   go_wp2
   go_ret
   refine ⟨_, rfl, ?_, hur, ?_⟩
   ·have := HACC.out
    rw [← this]
    simpa [bsM] using hor
   ·have := HEND.out
    rw [← this]
    exact hsr
end Go.Proofs.YtdcgihcjiiemdaaDoor
