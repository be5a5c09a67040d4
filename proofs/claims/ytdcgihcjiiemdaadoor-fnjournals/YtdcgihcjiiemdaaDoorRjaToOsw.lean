/- The reader of an op's bytes: the program's; no conditions beyond those that each fact names · Bytes copied into memory of the call's own: the program's; no conditions beyond those that each fact names · The laws' helpers that write marks into an answer's bytes, look for them again, and hold two answers with bytes against each other, do what their texts say; at most 1048576 bytes · The laws' helpers that write marks into an answer's numbers, look for them again, and hold two answers with numbers against each other, do what their texts say; at most 1048576 numbers · Ops: a copy by the law's helper may be written; marks of an op, of bytes; no conditions beyond those that each fact names. -/
import Derived.Test.YtdcgihcjiiemdaaDoorPkdToPke
import Derived.Test.YtdcgihcjiiemdaaDoorMemToApp
import Derived.Laws.CopyOwn
import Derived.Test.YtdcgihcjiiemdaaDoorMrk0ToDrw
import Derived.Test.YtdcgihcjiiemdaaDoorMathToEncB2
import Derived.Test.YtdcgihcjiiemdaaDoorDrw2ToAppI
import Derived.Handy
import Derived.Test.YtdcgihcjiiemdaaDoorDotToOsb
namespace Go.Proofs.YtdcgihcjiiemdaaDoor
open Go.RowKit
set_option linter.unusedVariables false
def RdD (D : Nat) (w : World) (a : Option Addr) (l : List Nat) : Prop := l = [] ∨ ∃ b off, a = some ⟨b, off, none⟩ ∧ b < D ∧ b < w.heap.size ∧ ∀ i, i < l.length → w.cell? ⟨b, off + i, none⟩ = some (.int .u8 (nth l i : Int))
theorem RdD.rd {D : Nat} {w : World} {a : Option Addr} {l : List Nat} (h : RdD D w a l) : Rd w a l := by
 rcases h with h | ⟨b, off, e, -, hlt, hc⟩
 ·exact .inl h
 ·exact .inr ⟨b, off, e, hlt, hc⟩
theorem RdD.keep {D : Nat} {w w' : World} {a : Option Addr} {l : List Nat} (h : RdD D w a l) (hb : Below D w w') : RdD D w' a l := by
 rcases h with h | ⟨b, off, e, hD, hlt, hc⟩
 ·exact .inl h
 ·exact .inr ⟨b, off, e, hD, Nat.lt_of_lt_of_le hlt hb.size, fun i hi => (hb.cell (p := ⟨b, off + i, none⟩) hD).trans (hc i hi)⟩
theorem RdD.take {D : Nat} {w : World} {a : Option Addr} {l : List Nat} (h : RdD D w a l) (c : Nat) : RdD D w a (l.take c) := by
 rcases h with h | ⟨b, off, e, hD, hlt, hc⟩
 ·left; rw [h]; simp
 ·refine .inr ⟨b, off, e, hD, hlt, fun i hi => ?_⟩
  have hi' : i < c ∧ i < l.length := by rw [List.length_take] at hi; omega
  rw [hc i hi'.2, nth_get hi'.2, nth_get hi, List.getElem_take]
def RsJ (D R : Nat) (w : World) (l : List Nat) : Prop := ∃ a n cap, w.cell? ⟨R, 0, none⟩ = some (.slice a n cap) ∧ l.length = n ∧ n ≤ cap ∧ cap ≤ maxLen ∧ RdD D w a l ∧ w.frozen? ⟨R, 0, none⟩ = false
theorem RdD.drop {D : Nat} {w : World} {a : Option Addr} {l : List Nat} (h : RdD D w a l) (c : Nat) : RdD D w (Option.map (fun x => x.add c) a) (l.drop c) := by
 rcases h with h | ⟨b, off, e, hD, hlt, hc⟩
 ·left; rw [h]; simp
 ·refine .inr ⟨b, off + c, by rw [e]; simp [Go.WideShapes.add_plain], hD, hlt, fun i hi => ?_⟩
  have hi' : c + i < l.length := by rw [List.length_drop] at hi; omega
  rw [Nat.add_assoc, hc (c + i) hi', nth_get hi', nth_get hi, List.getElem_drop]
theorem RsJ.put {D R : Nat} {w : World} {l : List Nat} {a : Option Addr} {n cap : Nat} {x : Value} (hx : w.cell? ⟨R, 0, none⟩ = some x) (hf : w.frozen? ⟨R, 0, none⟩ = false) (hD : D ≤ R) (hl : l.length = n) (hnc : n ≤ cap) (hcm : cap ≤ maxLen) (h : RdD D w a l) : RsJ D R (w.setCell ⟨R, 0, none⟩ (.slice a n cap)) l :=
 ⟨a, n, cap, World.cell?_setCell_same _ _ _ hx, hl, hnc, hcm, h.keep ((Below.refl _ _).setCell hD _), by rw [World.frozen?_setCell]; exact hf⟩
theorem RsJ.keep {D R : Nat} {w w' : World} {l : List Nat} (h : RsJ D R w l) (hb : Below D w w') (hc : w'.cell? ⟨R, 0, none⟩ = w.cell? ⟨R, 0, none⟩) (hf : w'.frozen? ⟨R, 0, none⟩ = w.frozen? ⟨R, 0, none⟩) : RsJ D R w' l := by
 obtain ⟨a, n, cap, h1, h2, h3, h4, h5, h6⟩ := h
 exact ⟨a, n, cap, hc.trans h1, h2, h3, h4, h5.keep hb, hf.trans h6⟩
def TkEnd (D R : Nat) (t r : List Nat) (w : World) (e : Ending) (w' : World) : Prop := ∃ a cp v, e = .returned (.slice a t.length cp) ∧ w' = w.setCell ⟨R, 0, none⟩ v ∧ t.length ≤ cp ∧ cp ≤ maxLen ∧ RdD D w a t ∧ RsJ D R w' r
set_option maxHeartbeats 800000 in
set_option maxRecDepth 100000 in
theorem take_any (D R c : Nat) (l : List Nat) (w : World) (h : RsJ D R w l) (hD : D ≤ R) (hc : c ≤ 65535) :
  Calls Tryd.prog 46 #[.pointer (some ⟨R, 0, none⟩), .int .i64 (c : Int)] w fun e w' => TkEnd D R (l.take c) (l.drop c) w e w' := by
 obtain ⟨a, n, cap, hcell, hl, hnc, hcm, hrd, hfz⟩ := h
 have HCM : Hid (cap ≤ maxLen) := hcm
 unfold maxLen at hcm
 have HL : Hid (l.length = n) := hl
 have HF : Hid (∀ s a', s ≤ n → RdD D w a' (l.drop s) → RsJ D R (w.setCell ⟨R, 0, none⟩ (.slice a' (n - s) (cap - s))) (l.drop s)) := fun s a' hs ha => RsJ.put hcell hfz hD (by rw [List.length_drop, hl]) (by omega) (Nat.le_trans (Nat.sub_le _ _) HCM.out) ha
 have HR : Hid (RdD D w a l) := hrd
 clear hl hrd
 by_cases hcn : c ≤ n
 ·have h1 : (c : Int) ≤ (n : Int) := by omega
  have hmn : min (c : Int) (n : Int) = (c : Int) := by omega
  have HT : Hid ((l.take c).length = c) := by show _ = _; rw [List.length_take, HL.out]; omega
  go_enter Tryd.func46, Tryd.ntmps46
  go_wp2
  case inl =>
   go_ret
   have hcc : cap = c := by assumption
   have hd : l.drop c = [] := List.drop_of_length_le (by rw [HL.out]; omega)
   have h := HF.out c a hcn (by rw [hd]; exact .inl rfl)
   rw [hcc, Nat.sub_self] at h
   exact ⟨a, c, _, by rw [HT.out]; rfl, rfl, by rw [HT.out]; omega, by rw [← hcc]; exact HCM.out, HR.out.take c, h⟩
  case inr =>
   go_ret
   exact ⟨a, cap, _, by rw [HT.out]; rfl, rfl, by rw [HT.out]; omega, HCM.out, HR.out.take c, HF.out c _ hcn (HR.out.drop c)⟩
 ·have h1 : ¬ (c : Int) ≤ (n : Int) := by omega
  have hmn : min (c : Int) (n : Int) = (n : Int) := by omega
  have h2 : (n : Int) < (c : Int) := by omega
  have hT : l.take c = l := List.take_of_length_le (by rw [HL.out]; omega)
  have hd : l.drop c = [] := List.drop_of_length_le (by rw [HL.out]; omega)
  have hd2 : l.drop n = [] := List.drop_of_length_le (by rw [HL.out]; omega)
  have HF2 : Hid (∀ a', RsJ D R (w.setCell ⟨R, 0, none⟩ (.slice a' 0 (cap - n))) []) := fun a' => by
   have h := HF.out n a' (Nat.le_refl _) (by rw [hd2]; exact .inl rfl)
   rw [Nat.sub_self, hd2] at h
   exact h
  rw [hT, hd]
  clear hT hd hd2 HF
  go_enter Tryd.func46, Tryd.ntmps46
  go_wp2
  case inl =>
   go_ret
   have hcc : cap = n := by assumption
   have h := HF2.out a
   rw [hcc, Nat.sub_self] at h
   exact ⟨a, n, _, by rw [HL.out]; rfl, rfl, by rw [HL.out]; omega, by rw [← hcc]; exact HCM.out, HR.out, h⟩
  case inr =>
   go_ret
   exact ⟨a, cap, _, by rw [HL.out]; rfl, rfl, by rw [HL.out]; omega, HCM.out, HR.out, HF2.out _⟩
theorem nmJ_snoc (l : List Nat) (k : Nat) (h : k < l.length) : nmJ (l.take (k + 1)) = nmJ (l.take k) * 256 + nth l k := by
 rw [take_snoc l k h]
 unfold nmJ
 rw [List.foldl_append]
 rfl
theorem nmJ_lt : ∀ (k : Nat) (l : List Nat), IsB l → l.length ≤ k → k ≤ 2 → nmJ l < 65536
 | k, [], _, _, _ => by simp [nmJ]
 | k, [b], h, _, _ => by
  have := h b (by simp)
  simp [nmJ]; omega
 | k, [b, c], h, _, _ => by
  have := h b (by simp)
  have := h c (by simp)
  simp [nmJ]; omega
 | k, _ :: _ :: _ :: _, _, h1, h2 => by simp at h1; omega
def NmEnd (D R : Nat) (k : Nat) (r : List Nat) (w : World) (e : Ending) (w' : World) : Prop := ∃ v, e = .returned (.int .i64 (k : Int)) ∧ w' = w.setCell ⟨R, 0, none⟩ v ∧ RsJ D R w' r
set_option maxHeartbeats 800000 in
set_option maxRecDepth 100000 in
theorem rdnum_any (D R c : Nat) (l : List Nat) (w : World) (h : RsJ D R w l) (hD : D ≤ R) (hc : c ≤ 2) (hB : IsB l) :
  Calls Tryd.prog 47 #[.pointer (some ⟨R, 0, none⟩), .int .i64 (c : Int)] w fun e w' => NmEnd D R (nmJ (l.take c)) (l.drop c) w e w' := by
 have HT := take_any D R c l w h hD (by omega)
 have hBt := isB_take hB c
 have HLT : Hid ((l.take c).length ≤ 2) := by show _ ≤ _; rw [List.length_take]; omega
 generalize l.take c = t at *
 generalize l.drop c = r at *
 clear h hB
 go_enter Tryd.func47, Tryd.ntmps47
 go_wp2_with fail
 refine HT.mono ?_
 rintro e w1 ⟨a, cp, v, rfl, hw1, hcp, hcm, hrd, hrs⟩
 obtain ⟨n, hn⟩ : ∃ n, t.length = n := ⟨_, rfl⟩
 have HN : Hid (t.length = n) := hn
 have hn2 : n ≤ 2 := by rw [← hn]; exact HLT.out
 have hrd1 := (hrd.keep (w' := w1) (by rw [hw1]; exact (Below.refl _ _).setCell hD _)).rd
 have HW : Hid (w1 = w.setCell ⟨R, 0, none⟩ v) := hw1
 rw [hn]
 clear HT hrd hn hw1 HLT
 go_wp2
 go_loop [5, 12] (fun q i => ∃ (j s : Nat), j ≤ n ∧ i = .int .i64 j ∧ q = .int .i64 (s : Int) ∧ s = nmJ (t.take j) ∧ s < 65536) (fun _ i => n - (intOf i).toNat)
 case atStart => exact ⟨0, 0, Nat.zero_le _, rfl, rfl, rfl, by omega⟩
 case round =>
  obtain ⟨j, s, hj, rfl, rfl, hs, hs1⟩ := hrel
  have HS : Hid (s = nmJ (t.take j)) := hs
  clear hs
  by_cases hjn : j < n
  ·have hji : (j : Int) < (n : Int) := by omega
   obtain ⟨b, off, ea, -, hcc⟩ := hrd1.at_ (by rw [HN.out]; omega)
   subst ea
   have hcj := hcc j (by rw [HN.out]; omega)
   have hby := nth_lt hBt j
   have HS2 : Hid (s * 256 + nth t j = nmJ (t.take (j + 1))) := by show _ = _; rw [nmJ_snoc t j (by rw [HN.out]; omega), ← HS.out]
   have HS3 : Hid (nmJ (t.take (j + 1)) < 65536) := nmJ_lt 2 _ (isB_take hBt _) (by rw [List.length_take, HN.out]; omega) (by omega)
   clear hcc
   generalize nth t j = y at *
   have eor := orJ256 s y (by omega) hby
   rw [Int.natCast_add, Int.natCast_mul] at eor
   go_wp2
   go_round
   case rel => exact ⟨j + 1, s * 256 + y, by omega, by go_num, by go_num, HS2.out, by rw [HS2.out]; exact HS3.out⟩
   case measure => simp [intOf]; omega
  ·have hjj : j = n := by omega
   have hji : ¬ (j : Int) < (n : Int) := by omega
   have HS2 : Hid (s = nmJ t) := by show _ = _; rw [HS.out, hjj, ← HN.out, List.take_length]
   clear HS
   go_wp2
   go_ret
   exact ⟨v, by rw [← HS2.out]; rfl, HW.out, hrs⟩
end Go.Proofs.YtdcgihcjiiemdaaDoor
namespace Go.Proofs.YtdcgihcjiiemdaaDoor
open Go.RowKit
theorem rowJ {w : World} {B e g n : Nat} {xs : List Value} (h : w.ownsRow B e 1 (.slice (some ⟨g, 0, none⟩) n n) n xs) : ∃ cur : List Value, w.heap[g]? = some (.cells cur.toArray e (0, 0)) ∧ cur.length = n := by
 rcases h.2 with ⟨h', _⟩ | ⟨g', cap, cur, h1, _, h3, _, _, h6, _⟩
 ·cases h'
 ·injection h1 with h1 _ h2
  injection h1 with h1
  injection h1 with h1
  subst h1 h2
  exact ⟨cur.toList, by simpa using h3, by simpa using h6⟩
set_option maxHeartbeats 800000 in
set_option maxRecDepth 100000 in
theorem copiedJ (a : Option Addr) (n cap : Nat) (l : List Nat) (w : World) (hl : l.length = n) (hr : Rd w a l) (hn : n ≤ 1048576) :
  Calls Tryd.prog 49 #[.slice a n cap] w fun e w' => ∃ v, e = .returned v ∧ Own w' w.heap.size v l ∧ Below w.heap.size w w' := by
 obtain ⟨i0, hi, hz0, hz1, hz2⟩ := info_parts infoB
 have hsz1 : (Tryd.prog.info? 5).map (·.size) = some 1 := by rw [hi]; simp [hz1]
 have HP : Hid (∀ w0, Below w.heap.size w w0 → 0 < (bc l).length → ∃ ad, a = some ad ∧ ∀ j v, (bc l)[j]? = some v → w0.cell? (ad.add j) = some v) := fun w0 hb hp => by
  rw [bc_len] at hp
  obtain ⟨b, off, rfl, hlt, hc⟩ := hr.at_ hp
  refine ⟨_, rfl, fun j v hj => ?_⟩
  have hjl : j < l.length := by
   rcases Nat.lt_or_ge j l.length with hlt | hge
   ·exact hlt
   ·rw [List.getElem?_eq_none (by rw [bc_len]; exact hge)] at hj; cases hj
  rw [bc_get hjl] at hj
  cases hj
  rw [Go.WideShapes.add_plain]
  exact (hb.cell (p := ⟨b, off + j, none⟩) hlt).trans (hc j hjl)
 have HS : Hid (∀ cur : List Value, cur.length = n → splice cur 0 (bc l) = bc l) := fun cur hc => by
  unfold splice
  rw [List.drop_of_length_le (by rw [bc_len]; omega)]; simp
 have hbl : (bc l).length = n := by rw [bc_len, hl]
 go_enter Tryd.func49, Tryd.ntmps49
 go_wp2_with (first
  | (at_make; refine wpList_make_full _ rfl _ _ 22 rfl w.heap.size 5 i0 (.int .u8 0) 1 Tryd.underlying22 hi hz0 hz1 .i64 .i64 _ _ n rfl rfl rfl rfl (by rw [hz2]; omega) (by unfold maxLen; omega) (Nat.le_refl _) ?_; intro w0 hown0 hgrow0; obtain ⟨cur, hg, hcl⟩ := rowJ hown0; have hb0 : Below w.heap.size w w0 := (Below.refl _ _).grown hgrow0 (Nat.le_refl _) (by intro k hk; cases hk); clear hown0 hgrow0)
  | (refine wpList_copy_splice rfl _ _ 22 22 rfl 5 Tryd.underlying22 hsz1 (some ⟨w.heap.size, 0, none⟩) a n n n cap rfl rfl w.heap.size 0 cur 5 hg (bc l) (by rw [hbl]; exact (Nat.min_self n).symm) (fun hp => ⟨rfl, HP.out _ hb0 hp⟩) (by omega) (bc_one l) w.heap.size w hb0 (Nat.le_refl _) ?_; intro w1 hg1 hb1; have hg1' := hg1.out; rw [HS.out cur hcl] at hg1'; have HO : Hid (Own w1 w.heap.size (.slice (some ⟨w.heap.size, 0, none⟩) n n) l) := (by unfold Hid Own; rw [hl]; exact ⟨by rw [hbl]; simp, .inr ⟨w.heap.size, n, (bc l).toArray, rfl, Nat.le_refl _, hg1', Nat.le_refl _, by unfold maxLen; omega, by simp [hbl], by rw [List.take_of_length_le (by simp [hbl])]⟩⟩); clear hg1 hg1' hg HP HS))
 go_wp2
 go_ret
 exact ⟨_, rfl, HO.out, hb1⟩
end Go.Proofs.YtdcgihcjiiemdaaDoor
namespace Go.Proofs.YtdcgihcjiiemdaaDoor
open Go.RowKit
def marks (n k : Nat) : List Nat := (List.range n).map fun i => (k + i) % 256
end Go.Proofs.YtdcgihcjiiemdaaDoor
namespace Go.Proofs.YtdcgihcjiiemdaaDoor
open Go.RowKit
end Go.Proofs.YtdcgihcjiiemdaaDoor
namespace Go.Proofs.YtdcgihcjiiemdaaDoor
open Go.RowKit
set_option linter.unusedVariables false
def WrQ (lo : Nat) (w : World) (s : SlQ) : Prop := s.2.1 = 0 ∨ ∃ g, s.1 = some ⟨g, 0, none⟩ ∧ lo ≤ g ∧ g < w.heap.size ∧ ∀ i, i < s.2.1 → (w.cell? ⟨g, i, none⟩).isSome = true ∧ w.frozen? ⟨g, i, none⟩ = false
theorem isSome_set (w : World) (p q : Addr) (v : Value) (h : (w.cell? q).isSome = true) : ((w.setCell p v).cell? q).isSome = true := by
 by_cases e : p = q
 ·subst e
  obtain ⟨u, hu⟩ := Option.isSome_iff_exists.1 h
  rw [World.cell?_setCell_same _ _ _ hu]; rfl
 ·rw [World.cell?_setCell_other _ _ _ _ e]; exact h
theorem WrQ.set {lo : Nat} {w : World} {s : SlQ} (h : WrQ lo w s) (p : Addr) (v : Value) : WrQ lo (w.setCell p v) s := by
 rcases h with h | ⟨g, h1, h2, h3, h4⟩
 ·exact .inl h
 ·exact .inr ⟨g, h1, h2, by simpa using h3, fun i hi => ⟨isSome_set _ _ _ _ (h4 i hi).1, by rw [World.frozen?_setCell]; exact (h4 i hi).2⟩⟩
theorem WrQ.below {lo : Nat} {w w' : World} {s : SlQ} (h : WrQ lo w s) (hb : Below w.heap.size w w') : WrQ lo w' s := by
 rcases h with h | ⟨g, h1, h2, h3, h4⟩
 ·exact .inl h
 ·exact .inr ⟨g, h1, h2, Nat.lt_of_lt_of_le h3 hb.size, fun i hi => ⟨by rw [hb.cell (p := ⟨g, i, none⟩) h3]; exact (h4 i hi).1, (hb.frozen (p := ⟨g, i, none⟩) h3).trans (h4 i hi).2⟩⟩
theorem WrQ.low {lo lo' : Nat} {w : World} {s : SlQ} (h : WrQ lo w s) (hl : lo' ≤ lo) : WrQ lo' w s := by
 rcases h with h | ⟨g, h1, h2, h3, h4⟩
 ·exact .inl h
 ·exact .inr ⟨g, h1, Nat.le_trans hl h2, h3, h4⟩
theorem WrQ.own {w : World} {B e n : Nat} {cap : Nat} {g : Nat} {l : List Value} (h : w.ownsRow B e 1 (.slice (some ⟨g, 0, none⟩) n cap) n l) (hB : B ≤ g) : WrQ B w (some ⟨g, 0, none⟩, n, cap) := by
 rcases h.2 with ⟨_, h0⟩ | ⟨g', cap', cur, e', hB', hg, hc1, hc2, hcs, htake⟩
 ·exact .inl h0
 ·injection e' with e1 e2 e3
  cases e1
  have hlt : g < w.heap.size := by
   rcases Nat.lt_or_ge g w.heap.size with hlt | hge
   ·exact hlt
   ·simp [Array.getElem?_eq_none hge] at hg
  refine .inr ⟨g, rfl, hB, hlt, fun i hi => ?_⟩
  have hi' : i < n := hi
  have hsz : i < cur.size := by omega
  constructor
  ·simp [World.cell?, hg, hsz]
  ·simp [World.frozen?, hg]
def MkJ (lo hi : Nat) (w w' : World) : Prop := Below lo w w' ∧ (∀ p : Addr, hi ≤ p.block → w'.cell? p = w.cell? p) ∧ (∀ p : Addr, (w.cell? p).isSome = true → (w'.cell? p).isSome = true) ∧ ∀ p : Addr, w'.frozen? p = w.frozen? p
theorem MkJ.refl (lo hi : Nat) (w : World) : MkJ lo hi w w := ⟨Below.refl _ _, fun _ _ => rfl, fun _ h => h, fun _ => rfl⟩
theorem MkJ.trans {lo hi : Nat} {w w' w'' : World} (h : MkJ lo hi w w') (h' : MkJ lo hi w' w'') : MkJ lo hi w w'' := ⟨h.1.trans h'.1, fun p hp => (h'.2.1 p hp).trans (h.2.1 p hp), fun p hp => h'.2.2.1 p (h.2.2.1 p hp), fun p => (h'.2.2.2 p).trans (h.2.2.2 p)⟩
theorem MkJ.set {lo hi : Nat} {w w' : World} (h : MkJ lo hi w w') {g j : Nat} (x : Value) (h1 : lo ≤ g) (h2 : g < hi) : MkJ lo hi w (w'.setCell ⟨g, j, none⟩ x) := by
 refine h.trans ⟨(Below.refl _ _).setCell h1 _, fun p hp => World.cell?_setCell_other _ _ _ _ (fun e => by subst e; exact absurd h2 (Nat.not_lt.2 hp)), fun p hp => ?_, fun p => World.frozen?_setCell _ _ _ _⟩
 by_cases e : (⟨g, j, none⟩ : Addr) = p
 ·subst e
  obtain ⟨u, hu⟩ := Option.isSome_iff_exists.1 hp
  rw [World.cell?_setCell_same _ _ _ hu]; rfl
 ·rw [World.cell?_setCell_other _ _ _ _ e]; exact hp
theorem WrQ.mk {lo B H : Nat} {w w' : World} {s : SlQ} (h : WrQ lo w s) (hm : MkJ B H w w') : WrQ lo w' s := by
 rcases h with h | ⟨g, h1, h2, h3, h4⟩
 ·exact .inl h
 ·exact .inr ⟨g, h1, h2, Nat.lt_of_lt_of_le h3 hm.1.size, fun i hi => ⟨hm.2.2.1 _ (h4 i hi).1, (hm.2.2.2 _).trans (h4 i hi).2⟩⟩
def WrH (lo hi : Nat) (w : World) (s : SlQ) : Prop := s.2.1 = 0 ∨ ∃ g, s.1 = some ⟨g, 0, none⟩ ∧ lo ≤ g ∧ g < hi ∧ g < w.heap.size ∧ ∀ i, i < s.2.1 → (w.cell? ⟨g, i, none⟩).isSome = true ∧ w.frozen? ⟨g, i, none⟩ = false
theorem WrQ.hi {lo : Nat} {w : World} {s : SlQ} (h : WrQ lo w s) : WrH lo w.heap.size w s := by
 rcases h with h | ⟨g, h1, h2, h3, h4⟩
 ·exact .inl h
 ·exact .inr ⟨g, h1, h2, h3, h3, h4⟩
theorem WrH.below {lo hi : Nat} {w w' : World} {s : SlQ} (h : WrH lo hi w s) (hb : Below w.heap.size w w') : WrH lo hi w' s := by
 rcases h with h | ⟨g, h1, h2, h2', h3, h4⟩
 ·exact .inl h
 ·exact .inr ⟨g, h1, h2, h2', Nat.lt_of_lt_of_le h3 hb.size, fun i hi => ⟨by rw [hb.cell (p := ⟨g, i, none⟩) h3]; exact (h4 i hi).1, (hb.frozen (p := ⟨g, i, none⟩) h3).trans (h4 i hi).2⟩⟩
theorem WrH.at_ {lo hi : Nat} {w : World} {s : SlQ} (h : WrH lo hi w s) (hl : lo < hi) : ∃ g, (s.2.1 = 0 ∨ s.1 = some ⟨g, 0, none⟩) ∧ lo ≤ g ∧ g < hi ∧ ∀ i, i < s.2.1 → (w.cell? ⟨g, i, none⟩).isSome = true ∧ w.frozen? ⟨g, i, none⟩ = false := by
 rcases h with h | ⟨g, h1, h2, h2', h3, h4⟩
 ·exact ⟨lo, .inl h, Nat.le_refl _, hl, fun i hi => by omega⟩
 ·exact ⟨g, .inr h1, h2, h2', h4⟩
end Go.Proofs.YtdcgihcjiiemdaaDoor
