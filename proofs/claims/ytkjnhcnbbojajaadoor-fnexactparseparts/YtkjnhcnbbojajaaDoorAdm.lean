/- A part and all that is in it, the model's: at the last depth. -/
import Derived.Test.YtkjnhcnbbojajaaDoorSpw
import Derived.Test.YtkjnhcnbbojajaaDoorMemP
import Derived.Test.YtkjnhcnbbojajaaDoorRdp0
namespace Go.Proofs.YtkjnhcnbbojajaaDoor
open Go.RowKit

/-- An append of one part that tells which row it grew. -/
theorem wpList_appPG {w : World} {ops : Array Oper} {rest : List Oper} {o : Oper} {a : Act} {Q : Exit → Act → World → Prop} (hgd : o.guard = none) (s x : Operand)
    (ho : o.op = .call { callee := .builtin .append, args := #[s, x], argTypes := #[30, 30] })
    (B : Nat) (v : Value) (l : List PtP) (hs : a.eval s = v) (hown : OwnP w B v l) (ad : Addr) (y : PtP) (hx : a.eval x = .slice (some ad) 1 1)
    (hnew : ∀ j u, (pcl y)[j]? = some u → w.cell? (ad.add j) = some u) (hsz : l.length + 1 ≤ 1048576) (hB : B ≤ w.heap.size)
    (h : ∀ v' w1, OwnP w1 B v' (l ++ [y]) → w.grownBy w1 v.ownBlock → wpList Tryd.prog ops Q rest (a.put o.dst v') w1) : wpList Tryd.prog ops Q (o :: rest) a w := by
  obtain ⟨i0, hi, hz0, hz1, hz2⟩ := info_parts infoP
  refine wpList_append_own w hgd s x 30 ho B 35 i0 zeroP 7 56 Tryd.underlying30 hi hz0 hz1 hz2 rfl (by decide) v l.length (pc l) hs hown ad 1 1 (pc [y]) hx (by rw [pc_len]; rfl) ?_ (pc_one [y]) (by unfold maxLen; omega) (by omega) hB ?_
  · intro j u hj
    have e : pc [y] = pcl y := by simp [pc]
    rw [e] at hj
    exact hnew j u hj
  · intro v' w1 hown' hgr _
    refine h v' w1 ?_ hgr
    unfold OwnP
    rw [pc_app, List.length_append]
    exact hown'
theorem OwnP.row_lt {w : World} {B : Nat} {v : Value} {l : List PtP} (h : OwnP w B v l) {g : Nat} (hg : v.ownBlock = some g) : B ≤ g ∧ g < w.heap.size := World.ownsRow.lt h g hg

set_option maxHeartbeats 3200000 in
set_option maxRecDepth 100000 in
theorem l5Add_zero (b m B : Nat) (d : List Nat) (_hbB : b < B) (hB : IsB d) (hl : d.length = m) (hm : m ≤ 400) (fr tt : Nat) (u nu : Int) (v : Value) (acc : List PtP) (w : World) (hft : fr ≤ tt) (htt : tt ≤ m) (hr : Rd w (some ⟨b, 0, none⟩) d) (hBw : B ≤ w.heap.size) (hown : OwnP w B v acc) (ha8 : acc.length < 8) :
    Calls Tryd.prog 59 #[v, .slice (some ⟨b, 0, none⟩) m m, .int .i64 (fr : Int), .int .i64 (tt : Int), .int .i64 u, .int .i64 nu, .int .i64 3] w fun e w' => ∃ v', e = .returned v' ∧ OwnP w' B v' (adV d 0 fr tt u nu acc) ∧ Below B w w' := by
  have HO := l5One_any b m d w hr hB hl hm fr tt hft htt
  have HV : Hid (adV d 0 fr tt u nu acc = acc ++ [ptN d fr tt u nu]) := adV_zero (by omega)
  have HP : Hid (ptN d fr tt u nu = ((oneM (cutN d fr tt)).1, (((fr : Int) + ((oneM (cutN d fr tt)).2.1 : Int)), (tt : Int)), (u, nu))) := by
    show _ = _
    unfold ptN
    rw [oneV_M]
    simp
  generalize adV d 0 fr tt u nu acc = res at *
  generalize ptN d fr tt u nu = pt at *
  generalize oneM (cutN d fr tt) = one at *
  obtain ⟨⟨ok, oc, og⟩, oat, omk⟩ := one
  unfold onP at HO
  dsimp only at HO
  obtain ⟨av, cv, rfl, -, -⟩ := hown.form
  go_enter Tryd.func59, Tryd.ntmps59
  go_wp2_with fail
  refine HO.mono ?_
  rintro e w1 ⟨rfl, hb1⟩
  clear HO
  have hown1 := hown.below hb1 (Nat.le_refl _)
  have hz1 := hb1.size
  have HW : Hid (((ok, oc, og), (((fr : Int) + (oat : Int)), (tt : Int)), (u, nu)) = pt) := HP.out.symm
  have HPk : Hid (∀ w2, ((w1.alloc (.cells #[.int .i64 ok, .int .i64 oc, .int .i64 og, .int .i64 ((fr : Int) + (oat : Int)), .int .i64 (tt : Int), .int .i64 u, .int .i64 nu] 35)).alloc (.cells #[.int .i64 ok, .int .i64 oc, .int .i64 og, .int .i64 ((fr : Int) + (oat : Int)), .int .i64 (tt : Int), .int .i64 u, .int .i64 nu] 35)).grownBy w2 (Value.slice av acc.length cv).ownBlock → PtAt w2 w1.heap.size ok oc og ((fr : Int) + (oat : Int)) (tt : Int) u nu ∧ Below B w w2) := fun w2 hg => by
    refine ⟨(hg.block w1.heap.size (by simp; omega) (fun e => ?_)).trans ((Below.heap_alloc _ _ _ (by simp)).trans (heap_alloc_new w1 _)), ?_⟩
    · have := (hown1.row_lt e.symm).2; omega
    · have h0 : Below B w ((w1.alloc (.cells #[.int .i64 ok, .int .i64 oc, .int .i64 og, .int .i64 ((fr : Int) + (oat : Int)), .int .i64 (tt : Int), .int .i64 u, .int .i64 nu] 35)).alloc (.cells #[.int .i64 ok, .int .i64 oc, .int .i64 og, .int .i64 ((fr : Int) + (oat : Int)), .int .i64 (tt : Int), .int .i64 u, .int .i64 nu] 35)) := ((hb1.mono hBw).alloc (by omega) _).alloc (by simp; omega) _
      exact h0.trans ((Below.refl _ _).grown hg (by simp; omega) (fun k hk => (hown1.row_lt hk).1))
  by_cases hk : ok = 2
  · obtain rfl := hk
    go_wp2_with (at_builtin; refine wpList_appPG rfl _ _ rfl B _ acc rfl ((hown1.alloc _).alloc _) ⟨w1.heap.size + 1, 0, none⟩ ((2, oc, og), (((fr : Int) + (oat : Int)), (tt : Int)), (u, nu)) rfl (new_oneP (by simp) _) (by omega) (by simp; omega) ?_; intro v' w2 hown' hg'; obtain ⟨hpt2, hb2⟩ := HPk.out w2 hg'; obtain ⟨c0, c1, c2, c3, c4, c5, c6⟩ := hpt2.cells; obtain ⟨av', cv', rfl, -, -⟩ := hown'.form; rw [List.length_append, List.length_singleton] at hown'; have HE : Hid (OwnP w2 B (.slice av' (acc.length + 1) cv') (acc ++ [((2, oc, og), (((fr : Int) + (oat : Int)), (tt : Int)), (u, nu))]) ∧ Below B w w2) := ⟨hown', hb2⟩; clear hown' hg' HPk hpt2 hb2)
    go_ret
    exact ⟨_, rfl, by rw [HV.out, ← HW.out]; exact HE.out.1, HE.out.2⟩
  · have hk' : (ok == 2) = false := beq_eq_false_iff_ne.2 hk
    go_wp2_with (at_builtin; refine wpList_appPG rfl _ _ rfl B _ acc rfl ((hown1.alloc _).alloc _) ⟨w1.heap.size + 1, 0, none⟩ ((ok, oc, og), (((fr : Int) + (oat : Int)), (tt : Int)), (u, nu)) rfl (new_oneP (by simp) _) (by omega) (by simp; omega) ?_; intro v' w2 hown' hg'; obtain ⟨hpt2, hb2⟩ := HPk.out w2 hg'; obtain ⟨c0, c1, c2, c3, c4, c5, c6⟩ := hpt2.cells; obtain ⟨av', cv', rfl, -, -⟩ := hown'.form; rw [List.length_append, List.length_singleton] at hown'; have HE : Hid (OwnP w2 B (.slice av' (acc.length + 1) cv') (acc ++ [((ok, oc, og), (((fr : Int) + (oat : Int)), (tt : Int)), (u, nu))]) ∧ Below B w w2) := ⟨hown', hb2⟩; clear hown' hg' HPk hpt2 hb2)
    go_ret
    exact ⟨_, rfl, by rw [HV.out, ← HW.out]; exact HE.out.1, HE.out.2⟩
end Go.Proofs.YtkjnhcnbbojajaaDoor
