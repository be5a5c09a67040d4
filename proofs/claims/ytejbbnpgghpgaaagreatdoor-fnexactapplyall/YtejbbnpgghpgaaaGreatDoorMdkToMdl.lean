/- A part of a row appended to another row; no conditions beyond those that each fact names · The model: an op done, of the kind 2; no conditions beyond those that each fact names. -/
import Derived.Test.YtejbbnpgghpgaaaGreatDoorMdj
namespace Go.Proofs.YtejbbnpgghpgaaaGreatDoor
open Go.RowKit
set_option linter.unusedVariables false
theorem appR {w : World} {ops : Array Oper} {rest : List Oper} {o : Oper} {a : Act} {Q : Exit → Act → World → Prop} (hgd : o.guard = none) (s x : Operand) (t e : TypeId)
    (ho : o.op = .call { callee := .builtin .append, args := #[s, x], argTypes := #[t, t] }) (z : Value) (nb : Nat) (hz4 : z.cells.size = 4) (hnb : nb ≤ 64)
    (ht : Tryz.prog.underlying t = some (.slice e)) (hinfo : (Tryz.prog.info? e).map (fun i => (i.zero, i.size, i.bytes)) = some (some z, 4, nb))
    (sl : SlQ) (l : List Qd) (hs : a.eval s = slW sl) (hown : w.ownsRow 0 e 4 (slW sl) l.length (qc l)) (g n cap c off : Nat) (A M C : List Qd) (hL : w.ownsRow 0 e 4 (.slice (some ⟨g, 0, none⟩) n cap) n (qc (A ++ (M ++ C)))) (hoff : off = A.length * 4) (m : Nat) (hm : M.length = m) (hx : a.eval x = .slice (some ⟨g, off, none⟩) m c) (h1 : ∀ q ∈ M, One4 q)
    (hsz : l.length + m ≤ 1048576)
    (h : ∀ (s' : SlQ) w1, w1.ownsRow 0 e 4 (slW s') (l ++ M).length (qc (l ++ M)) → w.grownBy w1 (slW sl).ownBlock → (blkS s' = blkS sl ∨ blkS s' = [w.heap.size]) → wpList Tryz.prog ops Q rest (a.put o.dst (slW s')) w1) : wpList Tryz.prog ops Q (o :: rest) a w := by
  obtain ⟨i0, hi, hz0, hz1, hz2⟩ := info_parts hinfo
  refine wpList_append_own_at w hgd s x t ho 0 e i0 z 4 nb ht hi hz0 hz1 hz2 hz4 (by decide) (slW sl) l.length (qc l) hs hown ⟨g, off, none⟩ m c (qc M) hx (by rw [qc_len, hm]) ?_ ?_ (by unfold maxLen; omega) (Nat.le_trans (Nat.mul_le_mul hsz hnb) (by decide)) (Nat.zero_le _) ?_
  · intro j u hj
    have hjl : j < (qc M).length := by
      rcases Nat.lt_or_ge j (qc M).length with hlt | hge
      · exact hlt
      · rw [List.getElem?_eq_none hge] at hj; cases hj
    have hn : (A ++ (M ++ C)).length = n := by have := hL.1; rw [qc_len] at this; omega
    rw [Go.WideShapes.add_plain, hoff, hL.cellAt (A.length * 4 + j) (by rw [qc_len] at hjl; rw [← hn]; simp only [List.length_append]; omega), qcA, List.getElem?_append_right (by rw [qc_len]; omega), qc_len, Nat.add_sub_cancel_left, qcA, List.getElem?_append_left hjl]
    exact hj
  · intro u hu
    obtain ⟨q, hq, hu'⟩ := List.mem_flatMap.1 hu
    have h1 := h1 q hq
    simp only [List.mem_cons, List.not_mem_nil, or_false] at hu'
    rcases hu' with rfl | rfl | rfl | rfl
    · exact h1.1
    · exact h1.2.1
    · exact h1.2.2.1
    · exact h1.2.2.2
  · intro v' w1 hown' hgr _ hat
    obtain ⟨s', rfl, -⟩ := row_form hown'
    refine h s' w1 ?_ hgr ?_
    · rw [qcA, List.length_append, hm]; exact hown'
    · rw [blkS_own, blkS_own]
      rcases hat with hat | hat
      · exact .inl (by rw [hat])
      · exact .inr (by rw [hat]; rfl)
end Go.Proofs.YtejbbnpgghpgaaaGreatDoor
namespace Go.Proofs.YtejbbnpgghpgaaaGreatDoor
open Go.RowKit
set_option linter.unusedVariables false
set_option maxHeartbeats 3200000 in
set_option maxRecDepth 100000 in
theorem l8Apply_2 (B : Nat) (v : Int) (s : SlQ) (xs0 : List Dx) (o : OpR) (p : SlO) (w : World) (hs : HX w s xs0) (hf : FtH xs0) (hG : GdS v (xs0.map Dx.bx)) (hQ : Qo w B (opQ o p)) (hI : o.u.length = p.1.2.1 ∧ RdI w p.1.1 o.u) (hIo : ∀ x, p.1.1 = some x → x.block < w.heap.size) (hul : o.u.length ≤ 6) (hk : o.k = 2) :
    Calls Tryz.prog 58 #[.agg #[.int .i64 v, slW s], .pointer (some ⟨B, 0, none⟩)] w fun e w' => SrEnd (if ixG (xs0.map Dx.bx).length (nmX (xs0.map Dx.bx) o.x) < 0 ∧ o.k ≠ 1 then badR 4 else kdR v (xs0.map Dx.bx) o (ixG (xs0.map Dx.bx).length (nmX (xs0.map Dx.bx) o.x))) w e w' := by
  obtain ⟨a, n, cap⟩ := s
  obtain ⟨⟨a', n', c'⟩, e, hl, hnc, hcm, -⟩ := row_form hs.1
  cases e
  dsimp only [slW] at hl hnc hcm ⊢
  replace hl := hl.symm
  rw [hl] at hnc
  unfold maxLen at hcm
  obtain ⟨l, hle⟩ : ∃ l, xs0.map Dx.bx = l := ⟨_, rfl⟩
  rw [hle] at hG ⊢
  have hln : l.length = n := by rw [← hle, List.length_map]; exact hl
  obtain ⟨W, hW⟩ : ∃ W, (w.alloc (.cells #[.int .i64 v, .slice a n cap] 33)).alloc (.cells #[.int .i64 0, .slice none 0 0, .int .i64 0, .slice none 0 0] 35) = W := ⟨_, rfl⟩
  have hbW : Below w.heap.size w W := by rw [← hW]; exact ((Below.refl _ _).alloc (Nat.le_refl _) _).alloc (by simp) _
  have hA : Dw W w.heap.size (.int .i64 v, .slice a n cap) := by
    rw [← hW]
    exact (Dw.new w (.int .i64 v) (.slice a n cap) 33).below ((Below.refl _ _).alloc (Nat.le_refl _) _) (by simp)
  have hZ : Qw W (w.heap.size + 1) (.int .i64 0, .slice none 0 0, .int .i64 0, .slice none 0 0) := by
    have h := Qw.new (w.alloc (.cells #[.int .i64 v, .slice a n cap] 33)) (.int .i64 0) (.slice none 0 0) (.int .i64 0) (.slice none 0 0) 35
    rw [hW] at h
    simpa using h
  have hzW : W.heap.size = w.heap.size + 2 := by rw [← hW]; simp
  have hBl := hQ.lt
  have hQ0 := hQ.below hbW hBl
  have HAT := l7At_any v l (a, n, cap) o.x w.heap.size (lo := 0) W (hle ▸ (hs.below hbW (Nat.le_refl _)).xs (fun _ _ => Nat.zero_le _)) hA.1
  have HCP : Hid (∀ W', Below w.heap.size w W' → Calls Tryz.prog 74 #[.agg #[.int .i64 v, .slice a n cap]] W' fun e w' => CpS v l W' e w') := fun W' hb => hle ▸ l7Copy_any v (a, n, cap) xs0 W' (hs.below hb (Nat.le_refl _)) hf
  have HIX : Hid (0 ≤ ixG l.length (nmX l o.x) → ∃ j : Nat, ixG l.length (nmX l o.x) = (j : Int) ∧ j < l.length) := fun h => by
    rcases ixG_cases l.length (nmX l o.x) with ⟨e, -⟩ | ⟨k, hk, e, -⟩
    · omega
    · exact ⟨k, e, hk⟩
  have HV4 : Hid (ixG l.length (nmX l o.x) < 0 → (if ixG l.length (nmX l o.x) < 0 ∧ o.k ≠ 1 then badR 4 else kdR v l o (ixG l.length (nmX l o.x))) = badR 4) := fun h => if_pos ⟨h, by rw [hk]; decide⟩
  have HV0 : Hid (¬ ixG l.length (nmX l o.x) < 0 → (if ixG l.length (nmX l o.x) < 0 ∧ o.k ≠ 1 then badR 4 else kdR v l o (ixG l.length (nmX l o.x))) = erR v l (ixG l.length (nmX l o.x)).toNat) := fun h => (if_neg (fun h' => h h'.1)).trans (by unfold kdR; rw [hk]; rfl)
  generalize (if ixG l.length (nmX l o.x) < 0 ∧ o.k ≠ 1 then badR 4 else kdR v l o (ixG l.length (nmX l o.x))) = rr at *
  obtain ⟨ok, ox, ot, ou, om, of, od, ob⟩ := o
  dsimp only at hk
  subst hk
  dsimp only [opQ, slW] at hQ0 HAT hI hul hQ HV4 HV0 HIX ⊢
  have HLN : Hid (_ = _) := hln
  have HW : Hid (_ = W) := hW
  obtain ⟨o0, o1, o2, o3, o4, o5, o6, o7⟩ := id hQ0
  dsimp only at o0 o1
  clear hW hs hle hl hln o2 o3 o4 o5 o6 o7
  go_enter Tryz.func58, Tryz.ntmps58
  have hW := HW.out
  go_wp2_with fail
  (try rw [hW])
  refine HAT.mono ?_
  rintro e W1 ⟨rfl, hb1⟩
  have hA1 := hA.below hb1 (by omega)
  have hQ1 := hQ0.below hb1 hQ0.lt
  have hZ1 := hZ.below hb1 (by omega)
  have hbw1 := hbW.trans (hb1.mono hbW.size)
  have hz1 : w.heap.size + 2 ≤ W1.heap.size := by rw [← hzW]; exact hb1.size
  clear HAT hA hQ0 hZ hbW hb1 HW hW hzW o0 o1
  obtain ⟨a0, a1⟩ := id hA1.1
  dsimp only at a0 a1
  by_cases h1 : ixG l.length (nmX l ox) < 0
  · have HV : Hid (rr = badR 4) := HV4.out h1
    clear HV4 HV0 HCP HIX
    go_wp2_with fail
    refine (l8Bad_any 4 W1).mono ?_
    rintro e Wb ⟨rfl, hbb⟩
    have hZb := hZ1.below hbb hZ1.lt
    have hbwb := hbw1.trans (hbb.mono hbw1.size)
    have hR := hZb.four (.int .i64 4) (.slice none 0 0) (.int .i64 0) (.slice none 0 0)
    have HB : Hid (_) := below_put (below_put (below_put (below_put hbwb (w.heap.size + 1) 0 (.int .i64 4) (by omega)) (w.heap.size + 1) 1 (.slice none 0 0) (by omega)) (w.heap.size + 1) 2 (.int .i64 0) (by omega)) (w.heap.size + 1) 3 (.slice none 0 0) (by omega)
    obtain ⟨z0, z1, z2, z3⟩ := id hZb.1
    have f0 := hZb.2 0
    have f1 := hZb.2 1
    have f2 := hZb.2 2
    have f3 := hZb.2 3
    obtain ⟨r0, r1, r2, r3⟩ := id hR.1
    dsimp only at z0 z1 z2 z3 r0 r1 r2 r3
    go_wp2
    refine bodyPost_ret (v := .agg #[.int .i64 4, .slice none 0 0, .int .i64 0, .slice none 0 0]) (by simp [results, Tryz.results58, go_sem, r0, r1, r2, r3]) rfl ?_
    rw [HV.out]
    exact .inl ⟨by decide, rfl, HB.out⟩
  · obtain ⟨i, hie, hi⟩ := HIX.out (by omega)
    rw [hie] at h1 HV0 ⊢
    have HV : Hid (_) := HV0.out (by omega)
    clear HV4 HV0 HIX
    go_wp2_with fail
    refine (HCP.out W1 hbw1).mono ?_
    rintro e W2 ⟨s2, xs, rfl, hC2, hb2⟩
    obtain ⟨a2, cap2, rfl, hxl, hlc, hcm2, ha2⟩ := hC2.form
    obtain ⟨gX, rfl⟩ : ∃ gX, a2 = some ⟨gX, 0, none⟩ := by
      rcases ha2 with ⟨-, h0⟩ | h0
      · rw [h0] at hi; simp at hi
      · exact h0
    unfold maxLen at hcm2
    dsimp only [slW]
    have hii : (i : Int) < (l.length : Int) := by omega
    have hb3 : Below W2.heap.size W2 (W2.alloc (.cells #[.int .i64 0, .slice none 0 0, .int .i64 v, .slice (some ⟨gX, 0, none⟩) l.length cap2] 35)) := (Below.refl _ _).alloc (Nat.le_refl _) _
    have hO3 := Qw.new W2 (.int .i64 0) (.slice none 0 0) (.int .i64 v) (.slice (some ⟨gX, 0, none⟩) l.length cap2) 35
    have hC3 := hC2.below hb3 (Nat.le_refl _)
    have hbN3 : Below W1.heap.size W1 (W2.alloc (.cells #[.int .i64 0, .slice none 0 0, .int .i64 v, .slice (some ⟨gX, 0, none⟩) l.length cap2] 35)) := hb2.trans (hb3.mono hb2.size)
    have hgO : W2.heap.size ∉ blkS ((some ⟨gX, 0, none⟩, l.length, cap2) : SlQ) ++ fpX xs := fun hc => absurd (hC2.1.lt _ hc) (Nat.lt_irrefl _)
    have hz2 := hb2.size
    have hQ3 := hQ1.below hbN3 (by omega)
    have k3 := hQ3.1
    dsimp only at k3
    clear HCP a0 a1 hC2 hb2 hb3 ha2 hA1
    have hix : i < xs.length := by omega
    have hl3 := hG.2.1
    have hsp : xs = xs.take i ++ ([xs[i]] ++ xs.drop (i + 1)) := by rw [List.singleton_append, ← List.drop_eq_getElem_cons hix, List.take_append_drop]
    have hsp2 : xs.eraseIdx i = xs.take i ++ xs.drop (i + 1) := List.eraseIdx_eq_take_drop_succ xs i
    have hz3 := hbN3.size
    have hb4 : Below (W2.alloc (.cells #[.int .i64 0, .slice none 0 0, .int .i64 v, .slice (some ⟨gX, 0, none⟩) l.length cap2] 35)).heap.size (W2.alloc (.cells #[.int .i64 0, .slice none 0 0, .int .i64 v, .slice (some ⟨gX, 0, none⟩) l.length cap2] 35)) ((W2.alloc (.cells #[.int .i64 0, .slice none 0 0, .int .i64 v, .slice (some ⟨gX, 0, none⟩) l.length cap2] 35)).alloc (.cells #[] 128)) := (Below.refl _ _).alloc (Nat.le_refl _) _
    have hC4 := hC3.below hb4 (Nat.le_refl _)
    have hO4 := hO3.below hb4 hO3.lt
    have hr4 := hC4.1.1
    have hbN4 := hbN3.trans (hb4.mono hz3)
    have hE4 := (CX.lit W1.heap.size (W2.alloc (.cells #[.int .i64 0, .slice none 0 0, .int .i64 v, .slice (some ⟨gX, 0, none⟩) l.length cap2] 35)) hz3).1.1
    have hzW3 : (W2.alloc (.cells #[.int .i64 0, .slice none 0 0, .int .i64 v, .slice (some ⟨gX, 0, none⟩) l.length cap2] 35)).heap.size = W2.heap.size + 1 := by simp
    obtain ⟨y0, y1, y2, y3⟩ := id hO4.1
    dsimp only at y0 y1 y2 y3
    rw [hxl] at hr4
    rw [hzW3] at hE4
    have hL1 : ((W2.alloc (.cells #[.int .i64 0, .slice none 0 0, .int .i64 v, .slice (some ⟨gX, 0, none⟩) l.length cap2] 35)).alloc (.cells #[] 128)).ownsRow 0 128 4 (.slice (some ⟨gX, 0, none⟩) l.length cap2) l.length (qc ([] ++ ((xs.take i).map Dx.q ++ (xs.drop i).map Dx.q))) := by rw [List.nil_append, ← List.map_append, List.take_append_drop]; exact hr4
    have hl1 : ((xs.take i).map Dx.q).length = i := by rw [List.length_map, List.length_take]; omega
    have hl2 : ((xs.drop (i + 1)).map Dx.q).length = l.length - (i + 1) := by rw [List.length_map, List.length_drop, hxl]
    have hl3' : ((xs.take (i + 1)).map Dx.q).length = i + 1 := by rw [List.length_map, List.length_take]; omega
    have hone : ∀ ys : List Dx, ∀ q ∈ ys.map Dx.q, One4 q := fun ys q hq => by obtain ⟨d, -, rfl⟩ := List.mem_map.1 hq; exact Dx.one d
    have hgXl := hC3.1.lt gX (List.mem_append_left _ (by simp [blkS]))
    have HSP : Hid (_) := hsp2
    clear hsp hsp2
    by_cases hcap : cap2 = i + 1
    · have Hcap : Hid (cap2 = i + 1) := hcap
      have hM0 : Hid ((xs.drop (i + 1)).map Dx.q = []) := (by rw [List.drop_of_length_le (by omega)]; rfl : (xs.drop (i + 1)).map Dx.q = [])
      have hcq : (cap2 = i + 1) = True := eq_true hcap
      clear hcap
      go_wp2_with (at_builtin; first
        | (go_loud (refine appR rfl _ _ 31 128 rfl _ 56 rfl (by decide) Tryz.underlying31 infoBox (some ⟨W2.heap.size + 1, 0, none⟩, 0, 0) [] rfl hE4 gX l.length cap2 _ 0 [] ((xs.take i).map Dx.q) ((xs.drop i).map Dx.q) hL1 rfl i hl1 rfl (hone _) (by simp; omega) ?_)
           intro s5 w5 hrow5 hgr5 hloc5
           have hO5 := hO4.grown hgr5 (fun e => by simp [Value.ownBlock] at e)
           have x3 := hO5.1.2.2.2
           dsimp only at x3
           have hL2 := row_keep hr4 (w' := w5) (fun g hg => hgr5.block g (hr4.lt g hg).2 (fun e => by have h1 := hgXl; simp [Value.ownBlock] at e hg; omega))
           have hb5 := (hzW3 ▸ hb4).grown hgr5 (hzW3 ▸ hb4.size) (fun g hg => by simp [Value.ownBlock] at hg; omega)
           have hge5 : ∀ g ∈ blkS s5, W2.heap.size + 1 ≤ g := fun g hg => by
             rcases hloc5 with e | e
             · rw [e] at hg; simp [blkS] at hg; omega
             · rw [e, List.mem_singleton] at hg; rw [hg]; exact hzW3 ▸ hb4.size
           have hz5 : W2.heap.size + 1 ≤ w5.heap.size := by have h5 := hb5.size; rw [hzW3] at h5; exact h5
           clear hgr5 hloc5)
        | go_loud (
           refine appR rfl _ _ 31 128 rfl _ 56 rfl (by decide) Tryz.underlying31 infoBox s5 ([] ++ (xs.take i).map Dx.q) rfl hrow5 gX l.length cap2 _ _ [] ((xs.drop (i + 1)).map Dx.q) (xs.map Dx.q) (by rw [hM0.out, List.nil_append, List.nil_append]; exact hL2) rfl (l.length - (i + 1)) hl2 rfl (hone _) (by rw [List.nil_append, hl1]; omega) ?_
           intro s6 w6 hrow6 hgr6 hloc6
           have hb6 := hb5.grown hgr6 hz5 (fun g hg => hge5 g (mem_blkS.2 hg))
           have hO6 := hO5.grown hgr6 (fun e => by have := hge5 _ (mem_blkS.2 e.symm); omega)
           have hge6 : ∀ g ∈ blkS s6, W2.heap.size + 1 ≤ g := fun g hg => by
             rcases hloc6 with e | e
             · exact hge5 g (e ▸ hg)
             · rw [e, List.mem_singleton] at hg; rw [hg]; exact hz5
           have hrow6' : w6.ownsRow 0 128 4 (slW s6) ((xs.eraseIdx i).map Dx.q).length (qc ((xs.eraseIdx i).map Dx.q)) := by rw [HSP.out, List.map_append]; rw [List.nil_append] at hrow6; exact hrow6
           have hC6 := hC3.sub (List.eraseIdx_sublist xs i) (hzW3.symm ▸ hb6) hz3 hrow6' (hzW3.symm ▸ hge6)
           rw [map_erase, hC3.2.1] at hC6
           have hne6 : W2.heap.size ∉ blkS s6 ++ fpX (xs.eraseIdx i) := fun hc => by
             rcases List.mem_append.1 hc with hc | hc
             · have := hge6 _ hc; omega
             · exact hgO (List.mem_append_right _ ((flat_sub (List.eraseIdx_sublist xs i)).subset hc))
           have hO7 := hO6.set3 (slW s6)
           have hC7 := hC6.far W2.heap.size 3 (slW s6) hne6
           have hbN7 := below_put (hbN3.trans (hb6.mono (by omega))) W2.heap.size 3 (slW s6) hz2
           have hU7 := OwZ.nil 2 (w6.setCell ⟨W2.heap.size, 3, none⟩ (slW s6))
           have huo : ∀ k ∈ blkS ((none, 0, 0) : SlQ), W1.heap.size ≤ k ∧ k ∉ blkS s6 ++ fpX (xs.eraseIdx i) := fun k hk => by simp [blkS] at hk
           obtain ⟨x0, x1, x2, x3⟩ := id hO6.1
           have fO := hO6.2 3
           dsimp only at x0 x1 x2 x3
           obtain ⟨Y5, hY5⟩ : ∃ Y5, w6.setCell ⟨W2.heap.size, 3, none⟩ (slW s6) = Y5 := ⟨_, rfl⟩
           rw [hY5] at hO7 hC7 hbN7 hU7
           have hZ6 := hZ1.below hbN7 (by omega)
           have hbw6 := hbw1.trans (hbN7.mono hbw1.size)
           have hR := hZ6.four (.int .i64 0) (slW ((none, 0, 0) : SlQ)) (.int .i64 v) (slW s6)
           have HB : Hid (_) := below_put (below_put (below_put (below_put hbw6 (w.heap.size + 1) 0 (.int .i64 0) (by omega)) (w.heap.size + 1) 1 (slW ((none, 0, 0) : SlQ)) (by omega)) (w.heap.size + 1) 2 (.int .i64 v) (by omega)) (w.heap.size + 1) 3 (slW s6) (by omega)
           have hno : w.heap.size + 1 ∉ blkS s6 ++ fpX (xs.eraseIdx i) := fun hc => by have := hC7.2.2.2 _ hc; omega
           have HC : Hid (_) := (((hC7.far (w.heap.size + 1) 0 (.int .i64 0) hno).far (w.heap.size + 1) 1 (slW ((none, 0, 0) : SlQ)) hno).far (w.heap.size + 1) 2 (.int .i64 v) hno).far (w.heap.size + 1) 3 (slW s6) hno
           have hnu : ∀ k ∈ blkS ((none, 0, 0) : SlQ), k ≠ w.heap.size + 1 := fun k hk => by have := (huo k hk).1; omega
           have HU : Hid (OwZ 2 ((((Y5.setCell ⟨w.heap.size + 1, 0, none⟩ (.int .i64 0)).setCell ⟨w.heap.size + 1, 1, none⟩ (slW ((none, 0, 0) : SlQ))).setCell ⟨w.heap.size + 1, 2, none⟩ (.int .i64 v)).setCell ⟨w.heap.size + 1, 3, none⟩ (slW s6)) ((none, 0, 0) : SlQ) _) := hU7.keep fun k hk => by
             have hne := hnu k hk
             rw [Below.heap_setCell _ _ _ _ hne, Below.heap_setCell _ _ _ _ hne, Below.heap_setCell _ _ _ _ hne, Below.heap_setCell _ _ _ _ hne]
           obtain ⟨z0, z1, z2, z3⟩ := id hZ6.1
           have f0 := hZ6.2 0
           have f1 := hZ6.2 1
           have f2 := hZ6.2 2
           have f3 := hZ6.2 3
           obtain ⟨r0, r1, r2, r3⟩ := id hR.1
           obtain ⟨q0, q1, q2, q3⟩ := id hO7.1
           dsimp only at z0 z1 z2 z3 r0 r1 r2 r3 q0 q1 q2 q3
           (try dsimp only [slW] at q3)
           rw [← hY5] at HB HC HU z0 z1 z2 z3 f0 f1 f2 f3 r0 r1 r2 r3
           dsimp only [slW] at HB HU r1
           have HUO : Hid (_) := huo
           clear hY5 hO7 hC7 hbN7 hU7 hR hZ6 hbw6 q0 q1 q2 q3 hO6 hC6 hrow6 hrow6' hgr6 hloc6 hb6))
      refine bodyPost_ret (v := .agg #[.int .i64 0, .slice none 0 0, .int .i64 v, slW s6]) (by simp [results, Tryz.results58, go_sem, r0, r1, r2, r3]) rfl ?_
      rw [HV.out]
      exact .inr ⟨rfl, (none, 0, 0), s6, _, rfl, HU.out, CX.low HC.out hbw1.size, fun k hk => by simp [blkS] at hk, HB.out⟩
    · have hcl : i + 1 < cap2 := by omega
      go_wp2_with (at_builtin; first
        | (go_loud (refine appR rfl _ _ 31 128 rfl _ 56 rfl (by decide) Tryz.underlying31 infoBox (some ⟨W2.heap.size + 1, 0, none⟩, 0, 0) [] rfl hE4 gX l.length cap2 _ 0 [] ((xs.take i).map Dx.q) ((xs.drop i).map Dx.q) hL1 rfl i hl1 rfl (hone _) (by simp; omega) ?_)
           intro s5 w5 hrow5 hgr5 hloc5
           have hO5 := hO4.grown hgr5 (fun e => by simp [Value.ownBlock] at e)
           have x3 := hO5.1.2.2.2
           dsimp only at x3
           have hL2 := row_keep hr4 (w' := w5) (fun g hg => hgr5.block g (hr4.lt g hg).2 (fun e => by have h1 := hgXl; simp [Value.ownBlock] at e hg; omega))
           have hb5 := (hzW3 ▸ hb4).grown hgr5 (hzW3 ▸ hb4.size) (fun g hg => by simp [Value.ownBlock] at hg; omega)
           have hge5 : ∀ g ∈ blkS s5, W2.heap.size + 1 ≤ g := fun g hg => by
             rcases hloc5 with e | e
             · rw [e] at hg; simp [blkS] at hg; omega
             · rw [e, List.mem_singleton] at hg; rw [hg]; exact hzW3 ▸ hb4.size
           have hz5 : W2.heap.size + 1 ≤ w5.heap.size := by have h5 := hb5.size; rw [hzW3] at h5; exact h5
           clear hgr5 hloc5)
        | go_loud (
           refine appR rfl _ _ 31 128 rfl _ 56 rfl (by decide) Tryz.underlying31 infoBox s5 ([] ++ (xs.take i).map Dx.q) rfl hrow5 gX l.length cap2 _ _ ((xs.take (i + 1)).map Dx.q) ((xs.drop (i + 1)).map Dx.q) [] (by rw [List.append_nil, ← List.map_append, List.take_append_drop]; exact hL2) (by rw [hl3']) (l.length - (i + 1)) hl2 rfl (hone _) (by rw [List.nil_append, hl1]; omega) ?_
           intro s6 w6 hrow6 hgr6 hloc6
           have hb6 := hb5.grown hgr6 hz5 (fun g hg => hge5 g (mem_blkS.2 hg))
           have hO6 := hO5.grown hgr6 (fun e => by have := hge5 _ (mem_blkS.2 e.symm); omega)
           have hge6 : ∀ g ∈ blkS s6, W2.heap.size + 1 ≤ g := fun g hg => by
             rcases hloc6 with e | e
             · exact hge5 g (e ▸ hg)
             · rw [e, List.mem_singleton] at hg; rw [hg]; exact hz5
           have hrow6' : w6.ownsRow 0 128 4 (slW s6) ((xs.eraseIdx i).map Dx.q).length (qc ((xs.eraseIdx i).map Dx.q)) := by rw [HSP.out, List.map_append]; rw [List.nil_append] at hrow6; exact hrow6
           have hC6 := hC3.sub (List.eraseIdx_sublist xs i) (hzW3.symm ▸ hb6) hz3 hrow6' (hzW3.symm ▸ hge6)
           rw [map_erase, hC3.2.1] at hC6
           have hne6 : W2.heap.size ∉ blkS s6 ++ fpX (xs.eraseIdx i) := fun hc => by
             rcases List.mem_append.1 hc with hc | hc
             · have := hge6 _ hc; omega
             · exact hgO (List.mem_append_right _ ((flat_sub (List.eraseIdx_sublist xs i)).subset hc))
           have hO7 := hO6.set3 (slW s6)
           have hC7 := hC6.far W2.heap.size 3 (slW s6) hne6
           have hbN7 := below_put (hbN3.trans (hb6.mono (by omega))) W2.heap.size 3 (slW s6) hz2
           have hU7 := OwZ.nil 2 (w6.setCell ⟨W2.heap.size, 3, none⟩ (slW s6))
           have huo : ∀ k ∈ blkS ((none, 0, 0) : SlQ), W1.heap.size ≤ k ∧ k ∉ blkS s6 ++ fpX (xs.eraseIdx i) := fun k hk => by simp [blkS] at hk
           obtain ⟨x0, x1, x2, x3⟩ := id hO6.1
           have fO := hO6.2 3
           dsimp only at x0 x1 x2 x3
           obtain ⟨Y5, hY5⟩ : ∃ Y5, w6.setCell ⟨W2.heap.size, 3, none⟩ (slW s6) = Y5 := ⟨_, rfl⟩
           rw [hY5] at hO7 hC7 hbN7 hU7
           have hZ6 := hZ1.below hbN7 (by omega)
           have hbw6 := hbw1.trans (hbN7.mono hbw1.size)
           have hR := hZ6.four (.int .i64 0) (slW ((none, 0, 0) : SlQ)) (.int .i64 v) (slW s6)
           have HB : Hid (_) := below_put (below_put (below_put (below_put hbw6 (w.heap.size + 1) 0 (.int .i64 0) (by omega)) (w.heap.size + 1) 1 (slW ((none, 0, 0) : SlQ)) (by omega)) (w.heap.size + 1) 2 (.int .i64 v) (by omega)) (w.heap.size + 1) 3 (slW s6) (by omega)
           have hno : w.heap.size + 1 ∉ blkS s6 ++ fpX (xs.eraseIdx i) := fun hc => by have := hC7.2.2.2 _ hc; omega
           have HC : Hid (_) := (((hC7.far (w.heap.size + 1) 0 (.int .i64 0) hno).far (w.heap.size + 1) 1 (slW ((none, 0, 0) : SlQ)) hno).far (w.heap.size + 1) 2 (.int .i64 v) hno).far (w.heap.size + 1) 3 (slW s6) hno
           have hnu : ∀ k ∈ blkS ((none, 0, 0) : SlQ), k ≠ w.heap.size + 1 := fun k hk => by have := (huo k hk).1; omega
           have HU : Hid (OwZ 2 ((((Y5.setCell ⟨w.heap.size + 1, 0, none⟩ (.int .i64 0)).setCell ⟨w.heap.size + 1, 1, none⟩ (slW ((none, 0, 0) : SlQ))).setCell ⟨w.heap.size + 1, 2, none⟩ (.int .i64 v)).setCell ⟨w.heap.size + 1, 3, none⟩ (slW s6)) ((none, 0, 0) : SlQ) _) := hU7.keep fun k hk => by
             have hne := hnu k hk
             rw [Below.heap_setCell _ _ _ _ hne, Below.heap_setCell _ _ _ _ hne, Below.heap_setCell _ _ _ _ hne, Below.heap_setCell _ _ _ _ hne]
           obtain ⟨z0, z1, z2, z3⟩ := id hZ6.1
           have f0 := hZ6.2 0
           have f1 := hZ6.2 1
           have f2 := hZ6.2 2
           have f3 := hZ6.2 3
           obtain ⟨r0, r1, r2, r3⟩ := id hR.1
           obtain ⟨q0, q1, q2, q3⟩ := id hO7.1
           dsimp only at z0 z1 z2 z3 r0 r1 r2 r3 q0 q1 q2 q3
           (try dsimp only [slW] at q3)
           rw [← hY5] at HB HC HU z0 z1 z2 z3 f0 f1 f2 f3 r0 r1 r2 r3
           dsimp only [slW] at HB HU r1
           have HUO : Hid (_) := huo
           clear hY5 hO7 hC7 hbN7 hU7 hR hZ6 hbw6 q0 q1 q2 q3 hO6 hC6 hrow6 hrow6' hgr6 hloc6 hb6))
      refine bodyPost_ret (v := .agg #[.int .i64 0, .slice none 0 0, .int .i64 v, slW s6]) (by simp [results, Tryz.results58, go_sem, r0, r1, r2, r3]) rfl ?_
      rw [HV.out]
      exact .inr ⟨rfl, (none, 0, 0), s6, _, rfl, HU.out, CX.low HC.out hbw1.size, fun k hk => by simp [blkS] at hk, HB.out⟩
end Go.Proofs.YtejbbnpgghpgaaaGreatDoor
