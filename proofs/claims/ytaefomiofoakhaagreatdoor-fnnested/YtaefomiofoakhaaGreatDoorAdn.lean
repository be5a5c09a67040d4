/- A part and all that is in it, the model's: at each depth. -/
import Derived.Test.YtaefomiofoakhaaGreatDoorSpwToAdm
namespace Go.Proofs.YtaefomiofoakhaaGreatDoor
open Go.RowKit

/-- A block that is no row of parts. -/
def NoP (W : World) (k : Nat) : Prop := ∀ c fz, W.heap[k]? ≠ some (.cells c 30 fz)
/-- What stays: all blocks that are no rows of parts. -/
def FrP (W W' : World) : Prop := W.heap.size ≤ W'.heap.size ∧ ∀ k, k < W.heap.size → NoP W k → W'.heap[k]? = W.heap[k]?
theorem FrP.trans {W W1 W2 : World} (h : FrP W W1) (k : FrP W1 W2) : FrP W W2 := ⟨Nat.le_trans h.1 k.1, fun q hq h3 => by
  have e := h.2 q hq h3
  exact (k.2 q (Nat.lt_of_lt_of_le hq h.1) (fun c fz => by rw [e]; exact h3 c fz)).trans e⟩
theorem FrP.below {W W1 : World} (k : Below W.heap.size W W1) : FrP W W1 := ⟨k.size, fun q hq _ => k.block q hq⟩
theorem FrP.grown {W W1 : World} {B : Nat} {v : Value} {l : List PtP} (h : OwnP W B v l) (k : W.grownBy W1 v.ownBlock) : FrP W W1 := ⟨k.size, fun q hq hn => k.block q hq (fun e => by
  rcases h.2 with ⟨h', _⟩ | ⟨g, cap, cur, h', _, h3, _⟩
  · rw [h'] at e; cases e
  · rw [h'] at e
    cases e
    exact hn _ _ h3)⟩
theorem adL_full (d : List Nat) (D b : Nat) (here : Int) : ∀ (l : List RngP) (i : Nat) (acc : List PtP), acc.length = 8 → adL (adV d D) b here l i acc = acc
  | [], _, _, _ => rfl
  | s :: r, i, acc, h => by rw [adL, adV_full h]; exact adL_full d D b here r (i + 1) acc h
theorem hidQ {p : Prop} (h : p) : Hid p := h
theorem OwnM.frp {w w' : World} {C : Nat} {v : Value} {l : List RngP} (h : OwnM w C v l) (hf : FrP w w') : OwnM w' C v l := by
  unfold OwnM at h ⊢
  refine ⟨h.1, ?_⟩
  rcases h.2 with h' | ⟨g, cap, cur, h1, h2, h3, h4⟩
  · exact .inl h'
  · exact .inr ⟨g, cap, cur, h1, h2, (hf.2 g (Array.getElem?_eq_some_iff.1 h3).1 (fun c fz e => by rw [h3] at e; simp at e)).trans h3, h4⟩
theorem OwnM.at2 {w : World} {C n c g f i q k : Nat} {sl : List RngP} (h : OwnM w C (.slice (some ⟨g, 0, none⟩) n c) (sl.map (sh f))) (hk : k < sl.length) (hs : nthR sl k = ((i : Int), (q : Int))) : w.cell? ⟨g, k * 2, none⟩ = some (.int .i64 ((i : Int) + (f : Int))) ∧ w.cell? ⟨g, k * 2 + 1, none⟩ = some (.int .i64 ((q : Int) + (f : Int))) := by
  have hr := h.rd.2
  rcases hr with h0 | ⟨b, off, e, hlt, hc⟩
  · have : (sl.map (sh f)).length = 0 := by rw [h0]; rfl
    rw [List.length_map] at this; omega
  · cases e
    have h1 := hc k (by rw [List.length_map]; exact hk)
    have e1 : nthR (sl.map (sh f)) k = ((i : Int) + (f : Int), (q : Int) + (f : Int)) := by
      unfold nthR at hs ⊢
      rw [List.getD_eq_getElem?_getD, List.getElem?_eq_getElem hk] at hs
      rw [List.getD_eq_getElem?_getD, List.getElem?_eq_getElem (by rw [List.length_map]; exact hk), Option.getD_some, List.getElem_map]
      rw [Option.getD_some] at hs
      rw [hs]; rfl
    rw [e1, Nat.zero_add] at h1
    exact h1
/-- How the model's adding ends. -/
def AdEnd (B : Nat) (r : List PtP) (w : World) (e : Ending) (w' : World) : Prop := ∃ v', e = .returned v' ∧ OwnP w' B v' r ∧ Below B w w' ∧ FrP w w'

set_option maxHeartbeats 6400000 in
set_option maxRecDepth 100000 in
theorem l5Add_any {cp : Nat} (b m B : Nat) (d : List Nat) (hbB : b < B) (hB : IsB d) (hl : d.length = m) (hm : m ≤ 400) (D : Nat) (hD : D ≤ 2) (hcp : m ≤ cp := by omega) : ∀ (fr tt : Nat) (u nu : Int) (v : Value) (acc : List PtP) (w : World), fr ≤ tt → tt ≤ m → Rd w (some ⟨b, 0, none⟩) d → B ≤ w.heap.size → OwnP w B v acc → acc.length < 8 →
    Calls Tryz.prog 31 #[v, .slice (some ⟨b, 0, none⟩) m cp, .int .i64 (fr : Int), .int .i64 (tt : Int), .int .i64 u, .int .i64 nu, .int .i64 (3 - (D : Int))] w (AdEnd B (adV d D fr tt u nu acc) w) := by
  induction D with
  | zero =>
    intro fr tt u nu v acc w hft htt hr hBw hown ha8
    rw [show (3 : Int) - ((0 : Nat) : Int) = 3 from rfl]
    have HO := l5One_any (cp := cp) b m d w hr hB hl hm fr tt hft htt
    have hcl : (cutN d fr tt).length = tt - fr := by unfold cutN; rw [List.length_drop, List.length_take]; omega
    have hat : (oneV (cutN d fr tt)).2.1 ≤ tt - fr := hcl ▸ oneV_at (cutN d fr tt)
    have HL : Hid (adV d 0 fr tt u nu acc = acc ++ [ptN d fr tt u nu]) := adV_zero (by omega)
    have HP : Hid (ptN d fr tt u nu = ((oneM (cutN d fr tt)).1, (((fr + (oneM (cutN d fr tt)).2.1 : Nat) : Int), (tt : Int)), (u, nu))) := by
      show _ = _
      unfold ptN
      rw [oneV_M]
    rw [oneV_M] at hat
    generalize adV d 0 fr tt u nu acc = res at *
    generalize ptN d fr tt u nu = pt at *
    generalize oneM (cutN d fr tt) = one at *
    obtain ⟨⟨ok, oc, og⟩, oat, omk⟩ := one
    unfold onP at HO
    dsimp only at HO hat
    rw [show (fr : Int) + (oat : Int) = ((fr + oat : Nat) : Int) from rfl] at HO
    have HW : Hid (((ok, oc, og), (((fr + oat : Nat) : Int), (tt : Int)), (u, nu)) = pt) := HP.out.symm
    have hfl : fr + oat ≤ tt := by omega
    generalize fr + oat = f at *
    obtain ⟨av, cv, rfl, -, -⟩ := hown.form
    go_enter Tryz.func31, Tryz.ntmps31
    go_wp2_with fail
    refine HO.mono ?_
    rintro e w1 ⟨rfl, hb1⟩
    clear HO HP
    have hown1 := hown.below hb1 (Nat.le_refl _)
    have hz1 := hb1.size
    have HPk : Hid (∀ w2, ((w1.alloc (.cells #[.int .i64 ok, .int .i64 oc, .int .i64 og, .int .i64 (f : Int), .int .i64 (tt : Int), .int .i64 u, .int .i64 nu] 30)).alloc (.cells #[.int .i64 ok, .int .i64 oc, .int .i64 og, .int .i64 (f : Int), .int .i64 (tt : Int), .int .i64 u, .int .i64 nu] 30)).grownBy w2 (Value.slice av acc.length cv).ownBlock → PtAt w2 w1.heap.size ok oc og (f : Int) (tt : Int) u nu ∧ Below B w w2 ∧ FrP w w2) := fun w2 hg => by
      refine ⟨(hg.block w1.heap.size (by simp; omega) (fun e => ?_)).trans ((Below.heap_alloc _ _ _ (by simp)).trans (heap_alloc_new w1 _)), ?_, ?_⟩
      · have := (hown1.row_lt e.symm).2; omega
      · have h0 : Below B w ((w1.alloc (.cells #[.int .i64 ok, .int .i64 oc, .int .i64 og, .int .i64 (f : Int), .int .i64 (tt : Int), .int .i64 u, .int .i64 nu] 30)).alloc (.cells #[.int .i64 ok, .int .i64 oc, .int .i64 og, .int .i64 (f : Int), .int .i64 (tt : Int), .int .i64 u, .int .i64 nu] 30)) := ((hb1.mono hBw).alloc (by omega) _).alloc (by simp; omega) _
        exact h0.trans ((Below.refl _ _).grown hg (by simp; omega) (fun k hk => (hown1.row_lt hk).1))
      · have h0 : Below w.heap.size w ((w1.alloc (.cells #[.int .i64 ok, .int .i64 oc, .int .i64 og, .int .i64 (f : Int), .int .i64 (tt : Int), .int .i64 u, .int .i64 nu] 30)).alloc (.cells #[.int .i64 ok, .int .i64 oc, .int .i64 og, .int .i64 (f : Int), .int .i64 (tt : Int), .int .i64 u, .int .i64 nu] 30)) := (hb1.alloc (by omega) _).alloc (by simp; omega) _
        exact (FrP.below h0).trans (FrP.grown ((hown1.alloc _).alloc _) hg)
    by_cases hk : ok = 2
    · obtain rfl := hk
      go_wp2_with (at_builtin; refine wpList_appPG rfl _ _ rfl B _ acc rfl ((hown1.alloc _).alloc _) ⟨w1.heap.size + 1, 0, none⟩ ((2, oc, og), ((f : Int), (tt : Int)), (u, nu)) rfl (new_oneP (by simp) _) (by omega) (by simp; omega) ?_; intro v' w2 hown' hg'; obtain ⟨hpt2, hb2⟩ := HPk.out w2 hg'; obtain ⟨c0, c1, c2, c3, c4, c5, c6⟩ := hpt2.cells; obtain ⟨av', cv', rfl, -, -⟩ := hown'.form; rw [List.length_append, List.length_singleton] at hown'; have HE : Hid (OwnP w2 B (.slice av' (acc.length + 1) cv') (acc ++ [((2, oc, og), ((f : Int), (tt : Int)), (u, nu))]) ∧ Below B w w2 ∧ FrP w w2) := ⟨hown', hb2⟩; clear hown' hg' HPk hpt2 hb2)
      go_ret
      exact ⟨_, rfl, by rw [HL.out, ← HW.out]; exact HE.out.1, HE.out.2⟩
    · have hk' : (ok == 2) = false := beq_eq_false_iff_ne.2 hk
      go_wp2_with (at_builtin; refine wpList_appPG rfl _ _ rfl B _ acc rfl ((hown1.alloc _).alloc _) ⟨w1.heap.size + 1, 0, none⟩ ((ok, oc, og), ((f : Int), (tt : Int)), (u, nu)) rfl (new_oneP (by simp) _) (by omega) (by simp; omega) ?_; intro v' w2 hown' hg'; obtain ⟨hpt2, hb2⟩ := HPk.out w2 hg'; obtain ⟨c0, c1, c2, c3, c4, c5, c6⟩ := hpt2.cells; obtain ⟨av', cv', rfl, -, -⟩ := hown'.form; rw [List.length_append, List.length_singleton] at hown'; have HE : Hid (OwnP w2 B (.slice av' (acc.length + 1) cv') (acc ++ [((ok, oc, og), ((f : Int), (tt : Int)), (u, nu))]) ∧ Below B w w2 ∧ FrP w w2) := ⟨hown', hb2⟩; clear hown' hg' HPk hpt2 hb2)
      go_ret
      exact ⟨_, rfl, by rw [HL.out, ← HW.out]; exact HE.out.1, HE.out.2⟩
  | succ D ih =>
    intro fr tt u nu v acc w hft htt hr hBw hown ha8
    have HO := l5One_any (cp := cp) b m d w hr hB hl hm fr tt hft htt
    have hcl : (cutN d fr tt).length = tt - fr := by unfold cutN; rw [List.length_drop, List.length_take]; omega
    have hat : (oneV (cutN d fr tt)).2.1 ≤ tt - fr := hcl ▸ oneV_at (cutN d fr tt)
    have HL : Hid (mkT (oneM (cutN d fr tt)) = [] → adV d (D + 1) fr tt u nu acc = acc ++ [ptN d fr tt u nu]) := fun h => adV_leaf (by omega) (by rw [oneV_M]; exact h)
    have HI : Hid (mkT (oneM (cutN d fr tt)) ≠ [] → adV d (D + 1) fr tt u nu acc = adL (adV d D) (fr + (oneM (cutN d fr tt)).2.1) (acc.length : Int) (spL (bgM (mkT (oneM (cutN d fr tt)))) (enM (mkT (oneM (cutN d fr tt)))) ((cutN d (fr + (oneM (cutN d fr tt)).2.1) tt).length : Int) (lns (cutN d (fr + (oneM (cutN d fr tt)).2.1) tt))) 0 (acc ++ [ptN d fr tt u nu])) := fun h => by
      have := adV_in (d := d) (D := D) (fr := fr) (tt := tt) (u := u) (nu := nu) (acc := acc) (by omega) (by rw [oneV_M]; exact h)
      rw [oneV_M] at this
      exact this
    have HP : Hid (ptN d fr tt u nu = ((oneM (cutN d fr tt)).1, (((fr + (oneM (cutN d fr tt)).2.1 : Nat) : Int), (tt : Int)), (u, nu))) := by
      show _ = _
      unfold ptN
      rw [oneV_M]
    rw [oneV_M] at hat
    generalize adV d (D + 1) fr tt u nu acc = res at *
    generalize ptN d fr tt u nu = pt at *
    generalize oneM (cutN d fr tt) = one at *
    obtain ⟨⟨ok, oc, og⟩, oat, omk⟩ := one
    unfold onP at HO
    dsimp only at HO hat
    rw [show (fr : Int) + (oat : Int) = ((fr + oat : Nat) : Int) from rfl] at HO
    have HW : Hid (((ok, oc, og), (((fr + oat : Nat) : Int), (tt : Int)), (u, nu)) = pt) := HP.out.symm
    have hfl : fr + oat ≤ tt := by omega
    generalize fr + oat = f at *
    obtain ⟨av, cv, rfl, -, -⟩ := hown.form
    go_enter Tryz.func31, Tryz.ntmps31
    go_wp2_with fail
    refine HO.mono ?_
    rintro e w1 ⟨rfl, hb1⟩
    clear HO HP
    have hown1 := hown.below hb1 (Nat.le_refl _)
    have hz1 := hb1.size
    have HPk : Hid (∀ w2, ((w1.alloc (.cells #[.int .i64 ok, .int .i64 oc, .int .i64 og, .int .i64 (f : Int), .int .i64 (tt : Int), .int .i64 u, .int .i64 nu] 30)).alloc (.cells #[.int .i64 ok, .int .i64 oc, .int .i64 og, .int .i64 (f : Int), .int .i64 (tt : Int), .int .i64 u, .int .i64 nu] 30)).grownBy w2 (Value.slice av acc.length cv).ownBlock → PtAt w2 w1.heap.size ok oc og (f : Int) (tt : Int) u nu ∧ Below B w w2 ∧ FrP w w2) := fun w2 hg => by
      refine ⟨(hg.block w1.heap.size (by simp; omega) (fun e => ?_)).trans ((Below.heap_alloc _ _ _ (by simp)).trans (heap_alloc_new w1 _)), ?_, ?_⟩
      · have := (hown1.row_lt e.symm).2; omega
      · have h0 : Below B w ((w1.alloc (.cells #[.int .i64 ok, .int .i64 oc, .int .i64 og, .int .i64 (f : Int), .int .i64 (tt : Int), .int .i64 u, .int .i64 nu] 30)).alloc (.cells #[.int .i64 ok, .int .i64 oc, .int .i64 og, .int .i64 (f : Int), .int .i64 (tt : Int), .int .i64 u, .int .i64 nu] 30)) := ((hb1.mono hBw).alloc (by omega) _).alloc (by simp; omega) _
        exact h0.trans ((Below.refl _ _).grown hg (by simp; omega) (fun k hk => (hown1.row_lt hk).1))
      · have h0 : Below w.heap.size w ((w1.alloc (.cells #[.int .i64 ok, .int .i64 oc, .int .i64 og, .int .i64 (f : Int), .int .i64 (tt : Int), .int .i64 u, .int .i64 nu] 30)).alloc (.cells #[.int .i64 ok, .int .i64 oc, .int .i64 og, .int .i64 (f : Int), .int .i64 (tt : Int), .int .i64 u, .int .i64 nu] 30)) := (hb1.alloc (by omega) _).alloc (by simp; omega) _
        exact (FrP.below h0).trans (FrP.grown ((hown1.alloc _).alloc _) hg)
    by_cases hk : ok = 2
    · obtain rfl := hk
      have hsz := str_size omk
      go_wp2_with (at_builtin; refine wpList_appPG rfl _ _ rfl B _ acc rfl ((hown1.alloc _).alloc _) ⟨w1.heap.size + 1, 0, none⟩ ((2, oc, og), ((f : Int), (tt : Int)), (u, nu)) rfl (new_oneP (by simp) _) (by omega) (by simp; omega) ?_; intro v' w2 hown' hg'; obtain ⟨hpt2, hb2⟩ := HPk.out w2 hg'; obtain ⟨c0, c1, c2, c3, c4, c5, c6⟩ := hpt2.cells; obtain ⟨av', cv', rfl, -, -⟩ := hown'.form; rw [List.length_append, List.length_singleton] at hown'; have HE : Hid (OwnP w2 B (.slice av' (acc.length + 1) cv') (acc ++ [((2, oc, og), ((f : Int), (tt : Int)), (u, nu))]) ∧ Below B w w2 ∧ FrP w w2) := ⟨hown', hb2⟩; clear hown' hg' HPk hpt2 hb2)
      refine (l1In_any _ _ _ _).mono ?_
      rintro _ _ ⟨rfl, rfl⟩
      have hdp : ¬ (3 : Int) ≤ 3 - ((D : Int) + 1) := by omega
      by_cases hin : 1 ≤ omk.length ∧ omk.length ≤ 20
      · have hdec : decide ((1 : Int) ≤ (omk.length : Int) ∧ (omk.length : Int) ≤ 20) = true := decide_eq_true ⟨by omega, by omega⟩
        have hmk : mkT ((2, oc, og), oat, omk) = omk := if_pos ⟨rfl, hin.2⟩
        have hne : omk ≠ [] := fun h => by rw [h] at hin; simp at hin
        have HR : Hid (res = _) := HI.out (by rw [hmk]; exact hne)
        rw [hmk] at HR
        obtain ⟨hownE, hbE, hfE⟩ := HE.out
        have hr2 : Rd w2 (some ⟨b, 0, none⟩) d := by
          rcases hr with h | ⟨b', off, e, hlt, hc⟩
          · exact .inl h
          · cases e
            exact .inr ⟨b, 0, rfl, Nat.lt_of_lt_of_le hlt hfE.1, fun i hi => (hbE.cell (p := ⟨b, 0 + i, none⟩) hbB).trans (hc i hi)⟩
        have HSp := l5Spans_any (cp := cp) b m d (str omk) (bgM omk) (enM omk) w2 hr2 hB hl hm f tt hfl htt (by rw [hsz]; omega) rfl rfl
        have hcl2 : (cutN d f tt).length = tt - f := by unfold cutN; rw [List.length_drop, List.length_take]; omega
        have hs0 := spF_same (d := d) (fr := f) (tt := tt) (bg := bgM omk) (en := enM omk) (fun e => by
          have := congrArg ByteArray.size e
          unfold enM at this
          rw [ByteArray.size_append] at this
          have h2 : (⟨#[45, 45]⟩ : ByteArray).size = 2 := rfl
          omega) hfl (by omega) (by omega) (tt - f) (tt - f) 0 [] [] none (by omega) (by omega) (by omega) (.inl ⟨rfl, rfl, rfl⟩)
        have hlu : (upE (enM omk) (lnsF (cutN d f tt) (tt - f) 0)).foldl (stpL (bgM omk) (enM omk) ((tt - f : Nat) : Int)) [] = spL (bgM omk) (enM omk) ((tt - f : Nat) : Int) (lns (cutN d f tt)) := by unfold spL lns; rw [hcl2]
        rw [hlu, Nat.add_zero] at hs0
        rw [hs0] at HSp
        have hsin := spL_in (bgM omk) (enM omk) (cutN d f tt) (by omega)
        rw [hcl2] at HR hsin
        have hsl : (spL (bgM omk) (enM omk) ((tt - f : Nat) : Int) (lns (cutN d f tt))).length ≤ 400 := Nat.le_trans (spL_len _ _ _ _) (Nat.le_trans (lns_len _) (by omega))
        generalize spL (bgM omk) (enM omk) ((tt - f : Nat) : Int) (lns (cutN d f tt)) = sl at *
        clear hs0 hlu HI HL HE
        rw [hdec]
        go_wp2_with fail
        refine HSp.mono ?_
        rintro e w3 ⟨v3, rfl, hown3, hb3⟩
        obtain ⟨a3, c3', rfl, -, -⟩ := hown3.form
        rw [List.length_map] at hown3
        have hz2 := hfE.1
        have hownE3 := hownE.below hb3 (Nat.le_refl _)
        have hbE3 : Below B w w3 := hbE.trans (hb3.mono (by omega))
        have hfE3 : FrP w w3 := hfE.trans (FrP.below hb3)
        have HR0 : Hid (adL (adV d D) f (acc.length : Int) (sl.drop 0) 0 (acc ++ [((2, oc, og), ((f : Int), (tt : Int)), (u, nu))]) = res) := by show _ = _; rw [HR.out, ← HW.out]; rfl
        have HIH : Hid (∀ (fr tt : Nat) (u nu : Int) (v : Value) (acc : List PtP) (w : World), fr ≤ tt → tt ≤ m → Rd w (some ⟨b, 0, none⟩) d → B ≤ w.heap.size → OwnP w B v acc → acc.length < 8 → Calls Tryz.prog 31 #[v, .slice (some ⟨b, 0, none⟩) m cp, .int .i64 (fr : Int), .int .i64 (tt : Int), .int .i64 u, .int .i64 nu, .int .i64 (3 - (D : Int))] w (AdEnd B (adV d D fr tt u nu acc) w)) := ih (by omega)
        clear HR HW ih HSp hownE hbE hfE hb3 c0 c1 c2 c3 c4 c5 c6
        generalize w2.heap.size = B3 at *
        go_wp2
        go_loopw [0, 19] (fun v c wr => ∃ (k : Nat) (ak : List PtP), k ≤ sl.length ∧ c = .int .i64 k ∧ OwnP wr B v ak ∧ ak.length ≤ 8 ∧ Below B w wr ∧ FrP w wr ∧ OwnM wr B3 (.slice a3 sl.length c3') (sl.map (sh f)) ∧ Hid (adL (adV d D) f (acc.length : Int) (sl.drop k) k ak = res)) (fun _ c _ => sl.length - (intOf c).toNat)
        case atStart => exact ⟨0, _, Nat.zero_le _, rfl, hownE3, by rw [List.length_append, List.length_singleton]; omega, hbE3, hfE3, hown3, HR0⟩
        case round =>
          obtain ⟨k, ak, hk, rfl, hownk, hk8, hbk, hfk, hMk, HRk⟩ := hrel
          obtain ⟨avk, cvk, rfl, -, -⟩ := hownk.form
          by_cases hkn : k < sl.length
          · have hki : (k : Int) < (sl.length : Int) := by omega
            have hkb : (k : Int) < 400 := by omega
            by_cases h8 : ak.length < 8
            · have h8i : (ak.length : Int) < 8 := by omega
              obtain ⟨i, q, hs, hiq, hqL⟩ := hsin (nthR sl k) (by unfold nthR; rw [List.getD_eq_getElem?_getD, List.getElem?_eq_getElem hkn]; exact List.getElem_mem _)
              have HAd : Hid (adL (adV d D) f (acc.length : Int) (sl.drop (k + 1)) (k + 1) (adV d D (i + f) (q + f) (acc.length : Int) ((k + 1 : Nat) : Int) ak) = res) := by
                show _ = _
                rw [← HRk.out, adL_step hkn, hs]
                rfl
              obtain ⟨g, rfl⟩ : ∃ g, a3 = some ⟨g, 0, none⟩ := by
                rcases hMk.2 with ⟨h', h0⟩ | ⟨g, cap, cur, h', _⟩
                · rw [List.length_map] at h0; omega
                · simp only [Value.slice.injEq] at h'
                  exact ⟨g, h'.1⟩
              obtain ⟨hcf, hct⟩ := OwnM.at2 hMk hkn hs
              have hrk : Rd wr.drew (some ⟨b, 0, none⟩) d := by
                rcases hr with h | ⟨b', off, e, hlt, hc⟩
                · exact .inl h
                · cases e
                  exact .inr ⟨b, 0, rfl, Nat.lt_of_lt_of_le hlt hfk.1, fun i hi => (hbk.cell (p := ⟨b, 0 + i, none⟩) hbB).trans (hc i hi)⟩
              have HC := HIH.out (i + f) (q + f) (acc.length : Int) ((k : Int) + 1) (.slice avk ak.length cvk) ak wr.drew (by omega) (by omega) hrk (Nat.le_trans hBw hfk.1) hownk h8
              rw [show ((i + f : Nat) : Int) = (i : Int) + (f : Int) from Int.natCast_add i f, show ((q + f : Nat) : Int) = (q : Int) + (f : Int) from Int.natCast_add q f, show (3 : Int) - (D : Int) = 3 - ((D : Int) + 1) + 1 by omega] at HC
              have HCH := hidQ HC
              clear HC
              go_wp2_with fail
              have HC := HCH.out
              clear HCH
              refine wp_region_held_drew (S := (fun w' => w'.cell? ⟨g, k * 2, none⟩ = some (.int .i64 ((i : Int) + (f : Int))) ∧ w'.cell? ⟨g, k * 2 + 1, none⟩ = some (.int .i64 ((q : Int) + (f : Int))))) (by kernel_rfl) ?hS1 (fun hHeld => ?_)
              case hS1 => exact ⟨hcf, hct⟩
              refine wpAnyH_take (i := 0) (v := ?_) rfl (by kernel_rfl) (by kernel_rfl) (by kernel_rfl) (fun _ _ _ h => h) (Or.inl ⟨by rfl, ?hy2⟩) (by assumption) ?ty2
              case hy2 => (intro w hSw; (try dsimp only at hSw); obtain ⟨hS0, hS1⟩ := hSw; go_simp; all_goals with_reducible rfl)
              simp only [Act.put, List.getElem_toArray, List.getElem_cons_zero, List.setIfInBounds_toArray, List.set_cons_zero, List.set_cons_succ]
              refine wpAnyH_take (i := 1) (v := ?_) rfl (by kernel_rfl) (by kernel_rfl) (by kernel_rfl) (fun _ _ _ h => h) (Or.inl ⟨by rfl, ?hy3⟩) (by assumption) ?ty3
              case hy3 => (intro w hSw; (try dsimp only at hSw); obtain ⟨hS0, hS1⟩ := hSw; go_simp; all_goals with_reducible rfl)
              simp only [Act.put, List.getElem_toArray, List.getElem_cons_zero, List.getElem_cons_succ, List.setIfInBounds_toArray, List.set_cons_zero, List.set_cons_succ]
              refine wpAnyH_take (i := 2) (v := ?_) rfl (by kernel_rfl) (by kernel_rfl) (by kernel_rfl) (fun _ _ _ h => h) (Or.inl ⟨by rfl, ?hy4⟩) (by assumption) ?ty4
              case hy4 => (intro w hSw; (try dsimp only at hSw); obtain ⟨hS0, hS1⟩ := hSw; go_simp; all_goals with_reducible rfl)
              simp only [Act.put, List.getElem_toArray, List.getElem_cons_zero, List.getElem_cons_succ, List.setIfInBounds_toArray, List.set_cons_zero, List.set_cons_succ]
              refine wpAnyH_take (i := 3) (v := ?_) rfl (by kernel_rfl) (by kernel_rfl) (by kernel_rfl) (fun _ _ _ h => h) (Or.inl ⟨by rfl, ?hy5⟩) (by assumption) ?ty5
              case hy5 => (intro w hSw; (try dsimp only at hSw); obtain ⟨hS0, hS1⟩ := hSw; go_simp; all_goals with_reducible rfl)
              simp only [Act.put, List.getElem_toArray, List.getElem_cons_zero, List.getElem_cons_succ, List.setIfInBounds_toArray, List.set_cons_zero, List.set_cons_succ]
              refine wpAnyH_take (i := 4) (v := ?_) rfl (by kernel_rfl) (by kernel_rfl) (by kernel_rfl) (fun _ _ _ h => h) (Or.inl ⟨by rfl, ?hy6⟩) (by assumption) ?ty6
              case hy6 => (intro w hSw; (try dsimp only at hSw); obtain ⟨hS0, hS1⟩ := hSw; go_simp; all_goals with_reducible rfl)
              simp only [Act.put, List.getElem_toArray, List.getElem_cons_zero, List.getElem_cons_succ, List.setIfInBounds_toArray, List.set_cons_zero, List.set_cons_succ]
              refine wpAnyH_take (i := 5) (v := ?_) rfl (by kernel_rfl) (by kernel_rfl) (by kernel_rfl) (fun _ _ _ h => h) (Or.inl ⟨by rfl, ?hy7⟩) (by assumption) ?ty7
              case hy7 => (intro w hSw; (try dsimp only at hSw); obtain ⟨hS0, hS1⟩ := hSw; go_simp; all_goals with_reducible rfl)
              simp only [Act.put, List.getElem_toArray, List.getElem_cons_zero, List.getElem_cons_succ, List.setIfInBounds_toArray, List.set_cons_zero, List.set_cons_succ]
              refine wpAnyH_take (i := 6) (v := ?_) rfl (by kernel_rfl) (by kernel_rfl) (by kernel_rfl) (fun _ _ _ h => h) (Or.inl ⟨by rfl, ?hy8⟩) (by assumption) ?ty8
              case hy8 => (intro w hSw; (try dsimp only at hSw); obtain ⟨hS0, hS1⟩ := hSw; go_simp; all_goals with_reducible rfl)
              simp only [Act.put, List.getElem_toArray, List.getElem_cons_zero, List.getElem_cons_succ, List.setIfInBounds_toArray, List.set_cons_zero, List.set_cons_succ]
              refine wpAnyH_take (i := 7) (v := ?_) rfl (by kernel_rfl) (by kernel_rfl) (by kernel_rfl) (fun _ _ _ h => h) (Or.inl ⟨by rfl, ?hy9⟩) (by assumption) ?ty9
              case hy9 => (intro w hSw; (try dsimp only at hSw); obtain ⟨hS0, hS1⟩ := hSw; go_simp; all_goals with_reducible rfl)
              simp only [Act.put, List.getElem_toArray, List.getElem_cons_zero, List.getElem_cons_succ, List.setIfInBounds_toArray, List.set_cons_zero, List.set_cons_succ]
              refine wpAnyH_take (i := 8) (v := ?_) rfl (by kernel_rfl) (by kernel_rfl) (by kernel_rfl) (fun _ _ _ h => h) (Or.inl ⟨by rfl, ?hy10⟩) (by assumption) ?ty10
              case hy10 => (intro w hSw; (try dsimp only at hSw); obtain ⟨hS0, hS1⟩ := hSw; go_simp; all_goals with_reducible rfl)
              simp only [Act.put, List.getElem_toArray, List.getElem_cons_zero, List.getElem_cons_succ, List.setIfInBounds_toArray, List.set_cons_zero, List.set_cons_succ]
              refine wpAnyH_take (i := 9) (v := ?_) rfl (by kernel_rfl) (by kernel_rfl) (by kernel_rfl) (fun _ _ _ h => h) (Or.inl ⟨by rfl, ?hy11⟩) (by assumption) ?ty11
              case hy11 => (intro w hSw; (try dsimp only at hSw); obtain ⟨hS0, hS1⟩ := hSw; go_simp; all_goals with_reducible rfl)
              simp only [Act.put, List.getElem_toArray, List.getElem_cons_zero, List.getElem_cons_succ, List.setIfInBounds_toArray, List.set_cons_zero, List.set_cons_succ]
              refine wpAnyH_take (i := 10) (v := ?_) rfl (by kernel_rfl) (by kernel_rfl) (by kernel_rfl) (fun _ _ _ h => h) (Or.inl ⟨by rfl, ?hy12⟩) (by assumption) ?ty12
              case hy12 => (intro w hSw; (try dsimp only at hSw); obtain ⟨hS0, hS1⟩ := hSw; go_simp; all_goals with_reducible rfl)
              simp only [Act.put, List.getElem_toArray, List.getElem_cons_zero, List.getElem_cons_succ, List.setIfInBounds_toArray, List.set_cons_zero, List.set_cons_succ]
              refine wpAnyH_take (i := 11) (v := ?_) rfl (by kernel_rfl) (by kernel_rfl) (by kernel_rfl) (fun _ _ _ h => h) (Or.inl ⟨by rfl, ?hy13⟩) (by assumption) ?ty13
              case hy13 => (intro w hSw; (try dsimp only at hSw); obtain ⟨hS0, hS1⟩ := hSw; go_simp; all_goals with_reducible rfl)
              simp only [Act.put, List.getElem_toArray, List.getElem_cons_zero, List.getElem_cons_succ, List.setIfInBounds_toArray, List.set_cons_zero, List.set_cons_succ]
              refine wpAnyH_take (i := 12) (v := ?_) rfl (by kernel_rfl) (by kernel_rfl) (by kernel_rfl) (fun _ _ _ h => h) (Or.inl ⟨by rfl, ?hy14⟩) (by assumption) ?ty14
              case hy14 => (intro w hSw; (try dsimp only at hSw); obtain ⟨hS0, hS1⟩ := hSw; go_simp; all_goals with_reducible rfl)
              simp only [Act.put, List.getElem_toArray, List.getElem_cons_zero, List.getElem_cons_succ, List.setIfInBounds_toArray, List.set_cons_zero, List.set_cons_succ]
              refine wpAnyH_take (i := 13) (v := ?_) rfl (by kernel_rfl) (by kernel_rfl) (by kernel_rfl) (fun _ _ _ h => h) (Or.inl ⟨by rfl, ?hy15⟩) (by assumption) ?ty15
              case hy15 => (intro w hSw; (try dsimp only at hSw); obtain ⟨hS0, hS1⟩ := hSw; go_simp; all_goals with_reducible rfl)
              simp only [Act.put, List.getElem_toArray, List.getElem_cons_zero, List.getElem_cons_succ, List.setIfInBounds_toArray, List.set_cons_zero, List.set_cons_succ]
              refine wpAnyH_take (i := 14) (v := .int .i64 ((k : Int) + 1)) rfl (by kernel_rfl) (by kernel_rfl) (by kernel_rfl) (fun _ _ _ h => h) (Or.inl ⟨by rfl, ?hy16⟩) (by assumption) ?ty16
              case hy16 => (intro w hSw; (try dsimp only at hSw); obtain ⟨hS0, hS1⟩ := hSw; go_simp; all_goals rw [Go.IntWalk.i64_left, Go.IntWalk.wrap64_in _ (by omega)])
              simp only [Act.put, List.getElem_toArray, List.getElem_cons_zero, List.getElem_cons_succ, List.setIfInBounds_toArray, List.set_cons_zero, List.set_cons_succ]
              refine wpAnyH_take (i := 15) (v := ?_) rfl (by kernel_rfl) (by kernel_rfl) (by kernel_rfl) (fun _ _ _ h => h) (Or.inl ⟨by rfl, ?hy17⟩) (by assumption) ?ty17
              case hy17 => (intro w hSw; (try dsimp only at hSw); obtain ⟨hS0, hS1⟩ := hSw; go_simp; all_goals with_reducible rfl)
              simp only [Act.put, List.getElem_toArray, List.getElem_cons_zero, List.getElem_cons_succ, List.setIfInBounds_toArray, List.set_cons_zero, List.set_cons_succ]
              refine wpAnyH_take (i := 16) (v := .int .i64 (3 - ((D : Int) + 1) + 1)) rfl (by kernel_rfl) (by kernel_rfl) (by kernel_rfl) (fun _ _ _ h => h) (Or.inl ⟨by rfl, ?hy18⟩) (by assumption) ?ty18
              case hy18 => (intro w hSw; (try dsimp only at hSw); obtain ⟨hS0, hS1⟩ := hSw; go_simp; all_goals rw [Go.IntWalk.i64_left, Go.IntWalk.wrap64_in _ (by omega)])
              simp only [Act.put, List.getElem_toArray, List.getElem_cons_zero, List.getElem_cons_succ, List.setIfInBounds_toArray, List.set_cons_zero, List.set_cons_succ]
              refine wpAnyH_ready (rs := [17]) (by kernel_rfl) (by simp) ?_
              refine AllReadyH.cons rfl (fun K hK => ?_) AllReadyH.nil
              go_simp
              refine HC.mono ?_
              rintro e w5 ⟨v5, rfl, hown5, hb5, hf5⟩
              have hM5 := OwnM.frp hMk hf5
              obtain ⟨hcf5, hct5⟩ := OwnM.at2 hM5 hkn hs
              refine hK.out _ _ ⟨hcf5, hct5⟩ (fun hHeld => ?_)
              clear hK K
              refine wpAnyH_take (i := 18) (v := ?_) rfl (by kernel_rfl) (by kernel_rfl) (by kernel_rfl) (fun _ _ _ h => h) (Or.inl ⟨by rfl, ?hy19⟩) (by assumption) ?ty19
              case hy19 => (intro w hSw; (try dsimp only at hSw); obtain ⟨hS0, hS1⟩ := hSw; go_simp; all_goals with_reducible rfl)
              simp only [Act.put, List.getElem_toArray, List.getElem_cons_zero, List.getElem_cons_succ, List.setIfInBounds_toArray, List.set_cons_zero]
              refine wpAnyH_done (by kernel_rfl) ?_ _
              have hl5 := adV_le d D (i + f) (q + f) (acc.length : Int) ((k : Int) + 1) ak hk8
              go_wp2
              go_roundw
              case rel => exact ⟨k + 1, _, by omega, by go_num, hown5, hl5, hbk.drew.trans hb5, FrP.trans (W1 := wr.drew) hfk hf5, hM5, HAd⟩
              case measure => simp [intOf]; omega
            · have h8i : ¬ (ak.length : Int) < 8 := by omega
              have HM : Hid (ak = res) := (adL_full d D f (acc.length : Int) (sl.drop k) k ak (by omega)).symm.trans HRk.out
              go_wp2
              go_ret
              exact ⟨_, rfl, by rw [← HM.out]; exact hownk, hbk, hfk⟩
          · have hki : ¬ (k : Int) < (sl.length : Int) := by omega
            have HM : Hid (ak = res) := (adL_end (by omega)).symm.trans HRk.out
            go_wp2
            go_ret
            exact ⟨_, rfl, by rw [← HM.out]; exact hownk, hbk, hfk⟩
      · have hdec : decide ((1 : Int) ≤ (omk.length : Int) ∧ (omk.length : Int) ≤ 20) = false := decide_eq_false (fun h => hin ⟨by omega, by omega⟩)
        have HR : Hid (res = _) := HL.out (by
          unfold mkT
          split
          · rename_i h
            have h2 : omk.length ≤ 20 := h.2
            show omk = []
            exact List.length_eq_zero_iff.1 (by omega)
          · rfl)
        rw [hdec]
        go_wp2
        go_ret
        exact ⟨_, rfl, by rw [HR.out, ← HW.out]; exact HE.out.1, HE.out.2⟩
    · have hk' : (ok == 2) = false := beq_eq_false_iff_ne.2 hk
      have HR : Hid (res = _) := HL.out (if_neg (fun h => hk h.1))
      go_wp2_with (at_builtin; refine wpList_appPG rfl _ _ rfl B _ acc rfl ((hown1.alloc _).alloc _) ⟨w1.heap.size + 1, 0, none⟩ ((ok, oc, og), ((f : Int), (tt : Int)), (u, nu)) rfl (new_oneP (by simp) _) (by omega) (by simp; omega) ?_; intro v' w2 hown' hg'; obtain ⟨hpt2, hb2⟩ := HPk.out w2 hg'; obtain ⟨c0, c1, c2, c3, c4, c5, c6⟩ := hpt2.cells; obtain ⟨av', cv', rfl, -, -⟩ := hown'.form; rw [List.length_append, List.length_singleton] at hown'; have HE : Hid (OwnP w2 B (.slice av' (acc.length + 1) cv') (acc ++ [((ok, oc, og), ((f : Int), (tt : Int)), (u, nu))]) ∧ Below B w w2 ∧ FrP w w2) := ⟨hown', hb2⟩; clear hown' hg' HPk hpt2 hb2)
      go_ret
      exact ⟨_, rfl, by rw [HR.out, ← HW.out]; exact HE.out.1, HE.out.2⟩
end Go.Proofs.YtaefomiofoakhaaGreatDoor
