/- The reading of parts, the program's: by a plain function, at each depth. -/
import Derived.Test.YtaefomiofoakhaaGreatDoorRdp0ToPth
namespace Go.Proofs.YtaefomiofoakhaaGreatDoor
open Go.RowKit

theorem new_oneQ {wr : World} {s : Nat} (e : wr.heap.size = s) (P : Nat) : ∀ j, j < 1 → (wr.alloc (.cells #[.pointer (some ⟨P, 0, none⟩)] 49)).cell? ((⟨s, 0, none⟩ : Addr).add j) = some (.pointer (some ⟨nthZq [P] j, 0, none⟩)) := by
  subst e
  exact new_cellsQ (new := [P]) rfl 1 rfl

set_option maxHeartbeats 6400000 in
set_option maxRecDepth 100000 in
theorem read_any {cp : Nat} (b m : Nat) (d : List Nat) (w0 : World) (hr : Rd w0 (some ⟨b, 0, none⟩) d) (hT : TabC w0) (hB : IsB d) (hl : d.length = m) (hm : m ≤ 400) (D : Nat) (hD : D ≤ 2) (hcp : m ≤ cp := by omega) : ∀ (R P fr tt : Nat) (u nu : Int) (v : Value) (l : List (Nat × PtP)) (w : World), fr ≤ tt → tt ≤ m → RSt w0 w R b m cp v l → l.length ≤ 8 → w0.heap.size ≤ P → PtAt w P 0 0 0 0 0 u nu → (∀ p ∈ l, p.1 ≠ P) →
    Calls Tryz.prog 15 #[.pointer (some ⟨R, 0, none⟩), .agg #[.int .i64 (fr : Int), .int .i64 (tt : Int)], .pointer (some ⟨P, 0, none⟩), .int .i64 (3 - (D : Int))] w (RdEnd w0 R b m cp P (adV d D fr tt u nu (l.map (·.2))) w) := by
  induction D with
  | zero =>
    intro R P fr tt u nu v l w hft htt hS hl8 hP hp hlP
    rw [show (3 : Int) - ((0 : Nat) : Int) = 3 from rfl]
    have hR := hS.2.2.1
    have hRw := hR.lt
    have hPw := hp.lt
    obtain ⟨r0, r1⟩ := hR.cells
    have rf1 := hR.frozen 1
    obtain ⟨av, cv, hv, hcv, -⟩ := OwnQ.form hS.2.2.2.1
    have hlm : (l.map (·.1)).length = l.length := by simp
    rw [hlm] at hv hcv
    subst hv
    have HF : Hid (l.length = 8 → adV d 0 fr tt u nu (l.map (·.2)) = l.map (·.2)) := fun h => adV_full (by simp; exact h)
    have HL : Hid (l.length ≠ 8 → adV d 0 fr tt u nu (l.map (·.2)) = l.map (·.2) ++ [ptN d fr tt u nu]) := fun h => adV_zero (by simp; exact h)
    generalize adV d 0 fr tt u nu (l.map (·.2)) = res at *
    go_enter Tryz.func15, Tryz.ntmps15
    by_cases h8 : l.length = 8
    · have h8' : ((l.length : Int) == 8) = true := by rw [h8]; rfl
      have HM : Hid (_) := HF.out h8
      have hS1 := hS.alloc (.cells #[.int .i64 (fr : Int), .int .i64 (tt : Int)] 48)
      have HE : Hid (RSt w0 (w.alloc (.cells #[.int .i64 (fr : Int), .int .i64 (tt : Int)] 48)) R b m cp _ l) := hS1
      have hfr : Hid (Fr w (w.alloc (.cells #[.int .i64 (fr : Int), .int .i64 (tt : Int)] 48)) R P) := (Fr.refl w R P).below ((Below.refl _ _).alloc (Nat.le_refl _) _)
      clear hS1 hS
      go_wp2
      refine bodyPost_ret (v := .tuple #[]) (by simp [results, Tryz.results15, go_sem]) rfl ?_
      exact ⟨_, _, rfl, HE.out, HM.out.symm, hfr.out⟩
    · have h8' : ((l.length : Int) == 8) = false := by rw [beq_eq_false_iff_ne]; omega
      have HA : Hid (RSt w0 (w.alloc (.cells #[.int .i64 (fr : Int), .int .i64 (tt : Int)] 48)) R b m cp _ l) := hS.alloc _
      have HA2 : Hid (RSt w0 ((w.alloc (.cells #[.int .i64 (fr : Int), .int .i64 (tt : Int)] 48)).alloc (.cells #[.pointer (some ⟨P, 0, none⟩)] 49)) R b m cp (.slice av l.length cv) l) := HA.out.alloc _
      have HRk : Hid (∀ w1, ((w.alloc (.cells #[.int .i64 (fr : Int), .int .i64 (tt : Int)] 48)).alloc (.cells #[.pointer (some ⟨P, 0, none⟩)] 49)).grownBy w1 (Value.slice av l.length cv).ownBlock → RdrAt w1 R b m cp (.slice av l.length cv)) := fun w1 hg => (hg.block R HA2.out.2.2.1.lt ((NoQ.rdr HA2.out.2.2.1).row HA2.out.2.2.2.1)).trans HA2.out.2.2.1
      go_wp2_with (at_builtin; go_loud (refine wpList_appQ rfl _ _ rfl w0.heap.size _ (l.map (·.1)) rfl (HA.out.2.2.2.1.alloc _) ⟨w.heap.size + 1, 0, none⟩ 1 1 [P] rfl rfl (new_oneQ (by simp) P) (by first | (rw [hlm]; omega) | (simp; omega) | simp) HA2.out.1.size ?_; intro v' w1 hown' hg'; have hR1 := HRk.out w1 hg'; obtain ⟨q0, q1⟩ := hR1.cells; have qf := hR1.frozen 1; obtain ⟨av', cv', hv2, -, -⟩ := OwnQ.form hown'; have hlm2 : (l.map (·.1) ++ [P]).length = l.length + 1 := (by simp); rw [hlm2] at hv2; subst hv2))
      have S2 : RSt w0 (w1.setCell ⟨R, 1, none⟩ (.slice av' (l.length + 1) cv')) R b m cp _ (l ++ [(P, ((0, 0, 0), (0, 0), (u, nu)))]) := RSt.appended HA2.out (x := ((0, 0, 0), (0, 0), (u, nu))) (PtAt.alloc (PtAt.alloc hp _) _) hP hg' hown'
      have hfr2 : Hid (Fr w (w1.setCell ⟨R, 1, none⟩ (.slice av' (l.length + 1) cv')) R P) := (((((Fr.refl w R P).below ((Below.refl _ _).alloc (Nat.le_refl _) _)).below ((Below.refl _ _).alloc (Nat.le_refl _) _)).grown hg' (fun q hq => .inr (.inr (row_isQ HA2.out.2.2.2.1 hq)))).grown (gset (World.grownBy.refl _ _)) (fun q hq => .inl (by cases hq; rfl)))
      have hsp : (w1.setCell ⟨R, 1, none⟩ (.slice av' (l.length + 1) cv')).heap[w.heap.size]? = some (.cells #[.int .i64 (fr : Int), .int .i64 (tt : Int)] 48 (0, 0)) := by
        have e0 : ((w.alloc (.cells #[.int .i64 (fr : Int), .int .i64 (tt : Int)] 48)).alloc (.cells #[.pointer (some ⟨P, 0, none⟩)] 49)).heap[w.heap.size]? = some (.cells #[.int .i64 (fr : Int), .int .i64 (tt : Int)] 48 (0, 0)) := (Below.heap_alloc _ _ _ (by simp)).trans (heap_alloc_new w _)
        have hn : NoQ ((w.alloc (.cells #[.int .i64 (fr : Int), .int .i64 (tt : Int)] 48)).alloc (.cells #[.pointer (some ⟨P, 0, none⟩)] 49)) w.heap.size := fun c fz e => by rw [e0] at e; simp at e
        rw [Below.heap_setCell w1 ⟨R, 1, none⟩ _ w.heap.size (fun e => by have e' : w.heap.size = R := e; omega), hg'.block w.heap.size (by simp; omega) (hn.row HA2.out.2.2.2.1)]
        exact e0
      generalize w1.setCell ⟨R, 1, none⟩ (.slice av' (l.length + 1) cv') = W2 at *
      clear q0 q1 qf r0 r1 rf1 hg' hown' hR1 HRk HA HA2
      obtain ⟨s0, s1⟩ : W2.cell? ⟨w.heap.size, 0, none⟩ = some (.int .i64 (fr : Int)) ∧ W2.cell? ⟨w.heap.size, 1, none⟩ = some (.int .i64 (tt : Int)) := by simp [World.cell?, hsp]
      obtain ⟨q0, q1⟩ := S2.2.2.1.cells
      have hp2 : PtAt W2 P 0 0 0 0 0 u nu := (S2.2.2.2.2 (P, ((0, 0, 0), (0, 0), (u, nu))) (by simp)).2
      have HFl := fillPart_any (cp := cp) b m d w0 hr hT hB hl hm P fr tt u nu hft htt W2.drew S2.1.drew hP hp2
      refine wp_region_held_drew (S := (fun w' => w'.cell? ⟨R, 0, none⟩ = some (.slice (some ⟨b, 0, none⟩) m cp) ∧ w'.cell? ⟨w.heap.size, 0, none⟩ = some (.int .i64 (fr : Int)) ∧ w'.cell? ⟨w.heap.size, 1, none⟩ = some (.int .i64 (tt : Int)))) (by kernel_rfl) ?hS34 (fun hHeld => ?_)
      case hS34 => exact ⟨q0, s0, s1⟩
      refine wpAnyH_take (i := 0) (v := ?_) rfl (by kernel_rfl) (by kernel_rfl) (by kernel_rfl) (fun _ _ _ h => h) (Or.inl ⟨by rfl, ?hy35⟩) (by assumption) ?ty35
      case hy35 => (intro w hSw; (try dsimp only at hSw); obtain ⟨hS0, hS1, hS2⟩ := hSw; go_simp; all_goals with_reducible rfl)
      simp only [Act.put, List.getElem_toArray, List.getElem_cons_zero, List.setIfInBounds_toArray, List.set_cons_zero, List.set_cons_succ]
      refine wpAnyH_take (i := 1) (v := ?_) rfl (by kernel_rfl) (by kernel_rfl) (by kernel_rfl) (fun _ _ _ h => h) (Or.inl ⟨by rfl, ?hy36⟩) (by assumption) ?ty36
      case hy36 => (intro w hSw; (try dsimp only at hSw); obtain ⟨hS0, hS1, hS2⟩ := hSw; go_simp; all_goals with_reducible rfl)
      simp only [Act.put, List.getElem_toArray, List.getElem_cons_zero, List.getElem_cons_succ, List.setIfInBounds_toArray, List.set_cons_zero, List.set_cons_succ]
      refine wpAnyH_take (i := 2) (v := ?_) rfl (by kernel_rfl) (by kernel_rfl) (by kernel_rfl) (fun _ _ _ h => h) (Or.inl ⟨by rfl, ?hy37⟩) (by assumption) ?ty37
      case hy37 => (intro w hSw; (try dsimp only at hSw); obtain ⟨hS0, hS1, hS2⟩ := hSw; go_simp; all_goals with_reducible rfl)
      simp only [Act.put, List.getElem_toArray, List.getElem_cons_zero, List.getElem_cons_succ, List.setIfInBounds_toArray, List.set_cons_zero, List.set_cons_succ]
      refine wpAnyH_take (i := 3) (v := ?_) rfl (by kernel_rfl) (by kernel_rfl) (by kernel_rfl) (fun _ _ _ h => h) (Or.inl ⟨by rfl, ?hy38⟩) (by assumption) ?ty38
      case hy38 => (intro w hSw; (try dsimp only at hSw); obtain ⟨hS0, hS1, hS2⟩ := hSw; go_simp; all_goals with_reducible rfl)
      simp only [Act.put, List.getElem_toArray, List.getElem_cons_zero, List.getElem_cons_succ, List.setIfInBounds_toArray, List.set_cons_zero, List.set_cons_succ]
      refine wpAnyH_take (i := 4) (v := ?_) rfl (by kernel_rfl) (by kernel_rfl) (by kernel_rfl) (fun _ _ _ h => h) (Or.inl ⟨by rfl, ?hy39⟩) (by assumption) ?ty39
      case hy39 => (intro w hSw; (try dsimp only at hSw); obtain ⟨hS0, hS1, hS2⟩ := hSw; go_simp; all_goals with_reducible rfl)
      simp only [Act.put, List.getElem_toArray, List.getElem_cons_zero, List.getElem_cons_succ, List.setIfInBounds_toArray, List.set_cons_zero, List.set_cons_succ]
      refine wpAnyH_take (i := 5) (v := ?_) rfl (by kernel_rfl) (by kernel_rfl) (by kernel_rfl) (fun _ _ _ h => h) (Or.inl ⟨by rfl, ?hy40⟩) (by assumption) ?ty40
      case hy40 => (intro w hSw; (try dsimp only at hSw); obtain ⟨hS0, hS1, hS2⟩ := hSw; go_simp; all_goals with_reducible rfl)
      simp only [Act.put, List.getElem_toArray, List.getElem_cons_zero, List.getElem_cons_succ, List.setIfInBounds_toArray, List.set_cons_zero, List.set_cons_succ]
      refine wpAnyH_ready (rs := [6]) (by kernel_rfl) (by simp) ?_
      refine AllReadyH.cons rfl (fun K hK => ?_) AllReadyH.nil
      go_simp
      refine HFl.mono ?_
      rintro e w3 ⟨rfl, hp3r, hg3, hb3⟩
      have hp3 : PtAt w3 P (oneV (cutN d fr tt)).1.1 (oneV (cutN d fr tt)).1.2.1 (oneV (cutN d fr tt)).1.2.2 ((fr + (oneV (cutN d fr tt)).2.1 : Nat) : Int) (tt : Int) u nu := hp3r
      clear hp3r
      have S3 : RSt w0 w3 R b m cp _ (l ++ [(P, ptN d fr tt u nu)]) := S2.drew.filled hlP hb3 hg3 hp3
      have hfr3 : Hid (Fr w w3 R P) := (hfr2.out.trans ⟨Nat.le_refl _, fun _ _ _ _ _ => rfl⟩ : Fr w W2.drew R P).grown hg3 (fun q hq => .inr (.inl (by cases hq; rfl)))
      have hsp3 : w3.heap[w.heap.size]? = some (.cells #[.int .i64 (fr : Int), .int .i64 (tt : Int)] 48 (0, 0)) := (hg3.block w.heap.size (Array.getElem?_eq_some_iff.1 hsp).1 (fun e => by have e' : w.heap.size = P := (Option.some.inj e); omega)).trans hsp
      refine hK.out _ _ ⟨S3.2.2.1.cells.1, by simp [World.cell?, hsp3], by simp [World.cell?, hsp3]⟩ (fun hHeld => ?_)
      clear hK K
      refine wpAnyH_take (i := 7) (v := ?_) rfl (by kernel_rfl) (by kernel_rfl) (by kernel_rfl) (fun _ _ _ h => h) (Or.inl ⟨by rfl, ?hy41⟩) (by assumption) ?ty41
      case hy41 => (intro w hSw; (try dsimp only at hSw); obtain ⟨hS0, hS1, hS2⟩ := hSw; go_simp; all_goals with_reducible rfl)
      simp only [Act.put, List.getElem_toArray, List.getElem_cons_zero, List.getElem_cons_succ, List.setIfInBounds_toArray, List.set_cons_zero, List.set_cons_succ]
      refine wpAnyH_done (by kernel_rfl) ?_ _
      clear HFl hg3 s0 s1 hsp q0 q1 S2 hp2 hfr2
      have hcl : (cutN d fr tt).length = tt - fr := by unfold cutN; rw [List.length_drop, List.length_take]; omega
      have hat : (oneV (cutN d fr tt)).2.1 ≤ tt - fr := hcl ▸ oneV_at (cutN d fr tt)
      have hmk := oneV_mark (cutN d fr tt)
      generalize ptN d fr tt u nu = pt at *
      have hxe : (d.take tt).drop fr = cutN d fr tt := rfl
      rw [hxe] at *
      generalize oneV (cutN d fr tt) = one at *
      obtain ⟨o1, oat, omk⟩ := one
      dsimp only at hat hmk HL hp3 ⊢
      by_cases hme : omk = []
      · subst hme
        have HR : Hid (res = _) := HL.out h8
        have hse : (str []).toList.isEmpty = true := by rw [ByteArray.toList_eq]; rfl
        go_wp2
        refine bodyPost_ret (v := .tuple #[]) (by simp [results, Tryz.results15, go_sem]) rfl ?_
        exact ⟨_, _, rfl, S3, by rw [HR.out]; simp, hfr3.out⟩
      · have hse : (str omk).toList.isEmpty = false := by rw [ByteArray.toList_eq]; cases omk with
          | nil => exact absurd rfl hme
          | cons x y => rfl
        have HR : Hid (res = _) := HL.out h8
        go_wp2
        refine bodyPost_ret (v := .tuple #[]) (by simp [results, Tryz.results15, go_sem]) rfl ?_
        exact ⟨_, _, rfl, S3, by rw [HR.out]; simp, hfr3.out⟩
  | succ D ih =>
    intro R P fr tt u nu v l w hft htt hS hl8 hP hp hlP
    have hR := hS.2.2.1
    have hRw := hR.lt
    have hPw := hp.lt
    obtain ⟨r0, r1⟩ := hR.cells
    have rf1 := hR.frozen 1
    obtain ⟨av, cv, hv, hcv, -⟩ := OwnQ.form hS.2.2.2.1
    have hlm : (l.map (·.1)).length = l.length := by simp
    rw [hlm] at hv hcv
    subst hv
    have HF : Hid (l.length = 8 → adV d (D + 1) fr tt u nu (l.map (·.2)) = l.map (·.2)) := fun h => adV_full (by simp; exact h)
    have HL : Hid (l.length ≠ 8 → (oneV (cutN d fr tt)).2.2 = [] → adV d (D + 1) fr tt u nu (l.map (·.2)) = l.map (·.2) ++ [ptN d fr tt u nu]) := fun h h1 => adV_leaf (by simp; exact h) h1
    have HI : Hid (l.length ≠ 8 → (oneV (cutN d fr tt)).2.2 ≠ [] → adV d (D + 1) fr tt u nu (l.map (·.2)) = adL (adV d D) (fr + (oneV (cutN d fr tt)).2.1) ((l.map (·.2)).length : Int) (spL (bgM (oneV (cutN d fr tt)).2.2) (enM (oneV (cutN d fr tt)).2.2) ((cutN d (fr + (oneV (cutN d fr tt)).2.1) tt).length : Int) (lns (cutN d (fr + (oneV (cutN d fr tt)).2.1) tt))) 0 (l.map (·.2) ++ [ptN d fr tt u nu])) := fun h h1 => adV_in (by simp; exact h) h1
    generalize adV d (D + 1) fr tt u nu (l.map (·.2)) = res at *
    go_enter Tryz.func15, Tryz.ntmps15
    by_cases h8 : l.length = 8
    · have h8' : ((l.length : Int) == 8) = true := by rw [h8]; rfl
      have HM : Hid (_) := HF.out h8
      have hS1 := hS.alloc (.cells #[.int .i64 (fr : Int), .int .i64 (tt : Int)] 48)
      have HE : Hid (RSt w0 (w.alloc (.cells #[.int .i64 (fr : Int), .int .i64 (tt : Int)] 48)) R b m cp _ l) := hS1
      have hfr : Hid (Fr w (w.alloc (.cells #[.int .i64 (fr : Int), .int .i64 (tt : Int)] 48)) R P) := (Fr.refl w R P).below ((Below.refl _ _).alloc (Nat.le_refl _) _)
      clear hS1 hS
      go_wp2
      refine bodyPost_ret (v := .tuple #[]) (by simp [results, Tryz.results15, go_sem]) rfl ?_
      exact ⟨_, _, rfl, HE.out, HM.out.symm, hfr.out⟩
    · have h8' : ((l.length : Int) == 8) = false := by rw [beq_eq_false_iff_ne]; omega
      have HA : Hid (RSt w0 (w.alloc (.cells #[.int .i64 (fr : Int), .int .i64 (tt : Int)] 48)) R b m cp _ l) := hS.alloc _
      have HA2 : Hid (RSt w0 ((w.alloc (.cells #[.int .i64 (fr : Int), .int .i64 (tt : Int)] 48)).alloc (.cells #[.pointer (some ⟨P, 0, none⟩)] 49)) R b m cp (.slice av l.length cv) l) := HA.out.alloc _
      have HRk : Hid (∀ w1, ((w.alloc (.cells #[.int .i64 (fr : Int), .int .i64 (tt : Int)] 48)).alloc (.cells #[.pointer (some ⟨P, 0, none⟩)] 49)).grownBy w1 (Value.slice av l.length cv).ownBlock → RdrAt w1 R b m cp (.slice av l.length cv)) := fun w1 hg => (hg.block R HA2.out.2.2.1.lt ((NoQ.rdr HA2.out.2.2.1).row HA2.out.2.2.2.1)).trans HA2.out.2.2.1
      go_wp2_with (at_builtin; go_loud (refine wpList_appQ rfl _ _ rfl w0.heap.size _ (l.map (·.1)) rfl (HA.out.2.2.2.1.alloc _) ⟨w.heap.size + 1, 0, none⟩ 1 1 [P] rfl rfl (new_oneQ (by simp) P) (by first | (rw [hlm]; omega) | (simp; omega) | simp) HA2.out.1.size ?_; intro v' w1 hown' hg'; have hR1 := HRk.out w1 hg'; obtain ⟨q0, q1⟩ := hR1.cells; have qf := hR1.frozen 1; obtain ⟨av', cv', hv2, -, -⟩ := OwnQ.form hown'; have hlm2 : (l.map (·.1) ++ [P]).length = l.length + 1 := (by simp); rw [hlm2] at hv2; subst hv2))
      have S2 : RSt w0 (w1.setCell ⟨R, 1, none⟩ (.slice av' (l.length + 1) cv')) R b m cp _ (l ++ [(P, ((0, 0, 0), (0, 0), (u, nu)))]) := RSt.appended HA2.out (x := ((0, 0, 0), (0, 0), (u, nu))) (PtAt.alloc (PtAt.alloc hp _) _) hP hg' hown'
      have hfr2 : Hid (Fr w (w1.setCell ⟨R, 1, none⟩ (.slice av' (l.length + 1) cv')) R P) := (((((Fr.refl w R P).below ((Below.refl _ _).alloc (Nat.le_refl _) _)).below ((Below.refl _ _).alloc (Nat.le_refl _) _)).grown hg' (fun q hq => .inr (.inr (row_isQ HA2.out.2.2.2.1 hq)))).grown (gset (World.grownBy.refl _ _)) (fun q hq => .inl (by cases hq; rfl)))
      have hsp : (w1.setCell ⟨R, 1, none⟩ (.slice av' (l.length + 1) cv')).heap[w.heap.size]? = some (.cells #[.int .i64 (fr : Int), .int .i64 (tt : Int)] 48 (0, 0)) := by
        have e0 : ((w.alloc (.cells #[.int .i64 (fr : Int), .int .i64 (tt : Int)] 48)).alloc (.cells #[.pointer (some ⟨P, 0, none⟩)] 49)).heap[w.heap.size]? = some (.cells #[.int .i64 (fr : Int), .int .i64 (tt : Int)] 48 (0, 0)) := (Below.heap_alloc _ _ _ (by simp)).trans (heap_alloc_new w _)
        have hn : NoQ ((w.alloc (.cells #[.int .i64 (fr : Int), .int .i64 (tt : Int)] 48)).alloc (.cells #[.pointer (some ⟨P, 0, none⟩)] 49)) w.heap.size := fun c fz e => by rw [e0] at e; simp at e
        rw [Below.heap_setCell w1 ⟨R, 1, none⟩ _ w.heap.size (fun e => by have e' : w.heap.size = R := e; omega), hg'.block w.heap.size (by simp; omega) (hn.row HA2.out.2.2.2.1)]
        exact e0
      generalize w1.setCell ⟨R, 1, none⟩ (.slice av' (l.length + 1) cv') = W2 at *
      clear q0 q1 qf r0 r1 rf1 hg' hown' hR1 HRk HA HA2
      obtain ⟨s0, s1⟩ : W2.cell? ⟨w.heap.size, 0, none⟩ = some (.int .i64 (fr : Int)) ∧ W2.cell? ⟨w.heap.size, 1, none⟩ = some (.int .i64 (tt : Int)) := by simp [World.cell?, hsp]
      obtain ⟨q0, q1⟩ := S2.2.2.1.cells
      have hp2 : PtAt W2 P 0 0 0 0 0 u nu := (S2.2.2.2.2 (P, ((0, 0, 0), (0, 0), (u, nu))) (by simp)).2
      have HFl := fillPart_any (cp := cp) b m d w0 hr hT hB hl hm P fr tt u nu hft htt W2.drew S2.1.drew hP hp2
      refine wp_region_held_drew (S := (fun w' => w'.cell? ⟨R, 0, none⟩ = some (.slice (some ⟨b, 0, none⟩) m cp) ∧ w'.cell? ⟨w.heap.size, 0, none⟩ = some (.int .i64 (fr : Int)) ∧ w'.cell? ⟨w.heap.size, 1, none⟩ = some (.int .i64 (tt : Int)))) (by kernel_rfl) ?hS42 (fun hHeld => ?_)
      case hS42 => exact ⟨q0, s0, s1⟩
      refine wpAnyH_take (i := 0) (v := ?_) rfl (by kernel_rfl) (by kernel_rfl) (by kernel_rfl) (fun _ _ _ h => h) (Or.inl ⟨by rfl, ?hy43⟩) (by assumption) ?ty43
      case hy43 => (intro w hSw; (try dsimp only at hSw); obtain ⟨hS0, hS1, hS2⟩ := hSw; go_simp; all_goals with_reducible rfl)
      simp only [Act.put, List.getElem_toArray, List.getElem_cons_zero, List.setIfInBounds_toArray, List.set_cons_zero, List.set_cons_succ]
      refine wpAnyH_take (i := 1) (v := ?_) rfl (by kernel_rfl) (by kernel_rfl) (by kernel_rfl) (fun _ _ _ h => h) (Or.inl ⟨by rfl, ?hy44⟩) (by assumption) ?ty44
      case hy44 => (intro w hSw; (try dsimp only at hSw); obtain ⟨hS0, hS1, hS2⟩ := hSw; go_simp; all_goals with_reducible rfl)
      simp only [Act.put, List.getElem_toArray, List.getElem_cons_zero, List.getElem_cons_succ, List.setIfInBounds_toArray, List.set_cons_zero, List.set_cons_succ]
      refine wpAnyH_take (i := 2) (v := ?_) rfl (by kernel_rfl) (by kernel_rfl) (by kernel_rfl) (fun _ _ _ h => h) (Or.inl ⟨by rfl, ?hy45⟩) (by assumption) ?ty45
      case hy45 => (intro w hSw; (try dsimp only at hSw); obtain ⟨hS0, hS1, hS2⟩ := hSw; go_simp; all_goals with_reducible rfl)
      simp only [Act.put, List.getElem_toArray, List.getElem_cons_zero, List.getElem_cons_succ, List.setIfInBounds_toArray, List.set_cons_zero, List.set_cons_succ]
      refine wpAnyH_take (i := 3) (v := ?_) rfl (by kernel_rfl) (by kernel_rfl) (by kernel_rfl) (fun _ _ _ h => h) (Or.inl ⟨by rfl, ?hy46⟩) (by assumption) ?ty46
      case hy46 => (intro w hSw; (try dsimp only at hSw); obtain ⟨hS0, hS1, hS2⟩ := hSw; go_simp; all_goals with_reducible rfl)
      simp only [Act.put, List.getElem_toArray, List.getElem_cons_zero, List.getElem_cons_succ, List.setIfInBounds_toArray, List.set_cons_zero, List.set_cons_succ]
      refine wpAnyH_take (i := 4) (v := ?_) rfl (by kernel_rfl) (by kernel_rfl) (by kernel_rfl) (fun _ _ _ h => h) (Or.inl ⟨by rfl, ?hy47⟩) (by assumption) ?ty47
      case hy47 => (intro w hSw; (try dsimp only at hSw); obtain ⟨hS0, hS1, hS2⟩ := hSw; go_simp; all_goals with_reducible rfl)
      simp only [Act.put, List.getElem_toArray, List.getElem_cons_zero, List.getElem_cons_succ, List.setIfInBounds_toArray, List.set_cons_zero, List.set_cons_succ]
      refine wpAnyH_take (i := 5) (v := ?_) rfl (by kernel_rfl) (by kernel_rfl) (by kernel_rfl) (fun _ _ _ h => h) (Or.inl ⟨by rfl, ?hy48⟩) (by assumption) ?ty48
      case hy48 => (intro w hSw; (try dsimp only at hSw); obtain ⟨hS0, hS1, hS2⟩ := hSw; go_simp; all_goals with_reducible rfl)
      simp only [Act.put, List.getElem_toArray, List.getElem_cons_zero, List.getElem_cons_succ, List.setIfInBounds_toArray, List.set_cons_zero, List.set_cons_succ]
      refine wpAnyH_ready (rs := [6]) (by kernel_rfl) (by simp) ?_
      refine AllReadyH.cons rfl (fun K hK => ?_) AllReadyH.nil
      go_simp
      refine HFl.mono ?_
      rintro e w3 ⟨rfl, hp3r, hg3, hb3⟩
      have hp3 : PtAt w3 P (oneV (cutN d fr tt)).1.1 (oneV (cutN d fr tt)).1.2.1 (oneV (cutN d fr tt)).1.2.2 ((fr + (oneV (cutN d fr tt)).2.1 : Nat) : Int) (tt : Int) u nu := hp3r
      clear hp3r
      have S3 : RSt w0 w3 R b m cp _ (l ++ [(P, ptN d fr tt u nu)]) := S2.drew.filled hlP hb3 hg3 hp3
      have hfr3 : Hid (Fr w w3 R P) := (hfr2.out.trans ⟨Nat.le_refl _, fun _ _ _ _ _ => rfl⟩ : Fr w W2.drew R P).grown hg3 (fun q hq => .inr (.inl (by cases hq; rfl)))
      have hsp3 : w3.heap[w.heap.size]? = some (.cells #[.int .i64 (fr : Int), .int .i64 (tt : Int)] 48 (0, 0)) := (hg3.block w.heap.size (Array.getElem?_eq_some_iff.1 hsp).1 (fun e => by have e' : w.heap.size = P := (Option.some.inj e); omega)).trans hsp
      refine hK.out _ _ ⟨S3.2.2.1.cells.1, by simp [World.cell?, hsp3], by simp [World.cell?, hsp3]⟩ (fun hHeld => ?_)
      clear hK K
      refine wpAnyH_take (i := 7) (v := ?_) rfl (by kernel_rfl) (by kernel_rfl) (by kernel_rfl) (fun _ _ _ h => h) (Or.inl ⟨by rfl, ?hy49⟩) (by assumption) ?ty49
      case hy49 => (intro w hSw; (try dsimp only at hSw); obtain ⟨hS0, hS1, hS2⟩ := hSw; go_simp; all_goals with_reducible rfl)
      simp only [Act.put, List.getElem_toArray, List.getElem_cons_zero, List.getElem_cons_succ, List.setIfInBounds_toArray, List.set_cons_zero, List.set_cons_succ]
      refine wpAnyH_done (by kernel_rfl) ?_ _
      clear HFl hg3 s0 s1 hsp q0 q1 S2 hp2 hfr2
      have hcl : (cutN d fr tt).length = tt - fr := by unfold cutN; rw [List.length_drop, List.length_take]; omega
      have hat : (oneV (cutN d fr tt)).2.1 ≤ tt - fr := hcl ▸ oneV_at (cutN d fr tt)
      have hmk := oneV_mark (cutN d fr tt)
      generalize ptN d fr tt u nu = pt at *
      have hxe : (d.take tt).drop fr = cutN d fr tt := rfl
      rw [hxe] at *
      generalize oneV (cutN d fr tt) = one at *
      obtain ⟨o1, oat, omk⟩ := one
      dsimp only at hat hmk HL HI hp3 ⊢
      by_cases hme : omk = []
      · subst hme
        have HR : Hid (res = _) := HL.out h8 rfl
        have hse : (str []).toList.isEmpty = true := by rw [ByteArray.toList_eq]; rfl
        go_wp2
        refine bodyPost_ret (v := .tuple #[]) (by simp [results, Tryz.results15, go_sem]) rfl ?_
        exact ⟨_, _, rfl, S3, by rw [HR.out]; simp, hfr3.out⟩
      · have hse : (str omk).toList.isEmpty = false := by rw [ByteArray.toList_eq]; cases omk with
          | nil => exact absurd rfl hme
          | cons x y => rfl
        have HR : Hid (res = _) := HI.out h8 hme
        have hdp : ¬ (3 : Int) ≤ 3 - ((D : Int) + 1) := by omega
        clear HL HI HF
        obtain ⟨-, -, -, p3, p4, -, -⟩ := hp3.cells
        have hcl2 : (cutN d (fr + oat) tt).length = tt - (fr + oat) := by unfold cutN; rw [List.length_drop, List.length_take]; omega
        have hsin := spL_in (bgM omk) (enM omk) (cutN d (fr + oat) tt) (by omega)
        have hfl : fr + oat ≤ tt := by omega
        have hBc : IsB (cutN d (fr + oat) tt) := isB_drop (isB_take hB _) _
        have hlq : (lns (cutN d (fr + oat) tt)).length ≤ tt - (fr + oat) := hcl2 ▸ lns_len _
        generalize hfe : fr + oat = f at *
        obtain ⟨f0, hf0⟩ : ∃ f0, (cp = f ∧ f0 = 0) ∨ (f < cp ∧ f0 = f) := by
          rcases Nat.lt_or_ge f cp with h | h
          · exact ⟨f, .inr ⟨h, rfl⟩⟩
          · exact ⟨0, .inl ⟨by omega, rfl⟩⟩
        have hrc : Rd w3.drew (some ⟨b, f0, none⟩) (cutN d f tt) := by
          rcases hf0 with ⟨h1, h2⟩ | ⟨h1, h2⟩
          · exact .inl (List.length_eq_zero_iff.1 (by rw [hcl2]; omega))
          · have h := (rd_takeH (hr.below S3.1.drew) tt).drop f
            rw [Nat.zero_add] at h
            rw [h2]; exact h
        have HIn := innerSpans_any (some ⟨b, f0, none⟩) (tt - f) (cp - f) (cutN d f tt) (str omk) (bgM omk) (enM omk) w3.drew hcl2 hrc hBc (by omega) (by omega) (fun _ => ⟨_, _, rfl⟩) (by rw [str_size]; omega) rfl rfl
        rw [hcl2] at HR hsin
        clear hrc hBc
        have hsl : (spL (bgM omk) (enM omk) ((tt - f : Nat) : Int) (lns (cutN d f tt))).length ≤ 400 := Nat.le_trans (spL_len _ _ _ _) (by omega)
        generalize spL (bgM omk) (enM omk) ((tt - f : Nat) : Int) (lns (cutN d f tt)) = sp at *
        have hi1 : (f : Int) ≤ (tt : Int) := by omega
        have hi2 : (tt : Int) ≤ (m : Int) := by omega
        have hi3 : (tt : Int) ≤ (cp : Int) := by omega
        go_wp2_with fail
        refine wp_region_held_drew (S := (fun w' => w'.cell? ⟨R, 0, none⟩ = some (.slice (some ⟨b, 0, none⟩) m cp) ∧ w'.cell? ⟨P, 3, none⟩ = some (.int .i64 (f : Int)) ∧ w'.cell? ⟨P, 4, none⟩ = some (.int .i64 (tt : Int)))) (by kernel_rfl) ?hS17 (fun hHeld => ?_)
        case hS17 => exact ⟨S3.2.2.1.cells.1, p3, p4⟩
        refine wpAnyH_take (i := 0) (v := ?_) rfl (by kernel_rfl) (by kernel_rfl) (by kernel_rfl) (fun _ _ _ h => h) (Or.inl ⟨by rfl, ?hy18⟩) (by assumption) ?ty18
        case hy18 => (intro w hSw; (try dsimp only at hSw); obtain ⟨hS0, hS1, hS2⟩ := hSw; go_simp; all_goals with_reducible rfl)
        simp only [Act.put, List.getElem_toArray, List.getElem_cons_zero, List.setIfInBounds_toArray, List.set_cons_zero, List.set_cons_succ]
        refine wpAnyH_take (i := 1) (v := ?_) rfl (by kernel_rfl) (by kernel_rfl) (by kernel_rfl) (fun _ _ _ h => h) (Or.inl ⟨by rfl, ?hy19⟩) (by assumption) ?ty19
        case hy19 => (intro w hSw; (try dsimp only at hSw); obtain ⟨hS0, hS1, hS2⟩ := hSw; go_simp; all_goals with_reducible rfl)
        simp only [Act.put, List.getElem_toArray, List.getElem_cons_zero, List.getElem_cons_succ, List.setIfInBounds_toArray, List.set_cons_zero, List.set_cons_succ]
        refine wpAnyH_take (i := 2) (v := ?_) rfl (by kernel_rfl) (by kernel_rfl) (by kernel_rfl) (fun _ _ _ h => h) (Or.inl ⟨by rfl, ?hy20⟩) (by assumption) ?ty20
        case hy20 => (intro w hSw; (try dsimp only at hSw); obtain ⟨hS0, hS1, hS2⟩ := hSw; go_simp; all_goals with_reducible rfl)
        simp only [Act.put, List.getElem_toArray, List.getElem_cons_zero, List.getElem_cons_succ, List.setIfInBounds_toArray, List.set_cons_zero, List.set_cons_succ]
        refine wpAnyH_take (i := 3) (v := ?_) rfl (by kernel_rfl) (by kernel_rfl) (by kernel_rfl) (fun _ _ _ h => h) (Or.inl ⟨by rfl, ?hy21⟩) (by assumption) ?ty21
        case hy21 => (intro w hSw; (try dsimp only at hSw); obtain ⟨hS0, hS1, hS2⟩ := hSw; go_simp; all_goals with_reducible rfl)
        simp only [Act.put, List.getElem_toArray, List.getElem_cons_zero, List.getElem_cons_succ, List.setIfInBounds_toArray, List.set_cons_zero, List.set_cons_succ]
        refine wpAnyH_take (i := 4) (v := ?_) rfl (by kernel_rfl) (by kernel_rfl) (by kernel_rfl) (fun _ _ _ h => h) (Or.inl ⟨by rfl, ?hy22⟩) (by assumption) ?ty22
        case hy22 => (intro w hSw; (try dsimp only at hSw); obtain ⟨hS0, hS1, hS2⟩ := hSw; go_simp; all_goals with_reducible rfl)
        simp only [Act.put, List.getElem_toArray, List.getElem_cons_zero, List.getElem_cons_succ, List.setIfInBounds_toArray, List.set_cons_zero, List.set_cons_succ]
        refine wpAnyH_take (i := 5) (v := ?_) rfl (by kernel_rfl) (by kernel_rfl) (by kernel_rfl) (fun _ _ _ h => h) (Or.inl ⟨by rfl, ?hy23⟩) (by assumption) ?ty23
        case hy23 => (intro w hSw; (try dsimp only at hSw); obtain ⟨hS0, hS1, hS2⟩ := hSw; go_simp; all_goals with_reducible rfl)
        simp only [Act.put, List.getElem_toArray, List.getElem_cons_zero, List.getElem_cons_succ, List.setIfInBounds_toArray, List.set_cons_zero, List.set_cons_succ]
        refine wpAnyH_take (i := 6) (v := ?_) rfl (by kernel_rfl) (by kernel_rfl) (by kernel_rfl) (fun _ _ _ h => h) (Or.inl ⟨by rfl, ?hy24⟩) (by assumption) ?ty24
        case hy24 => (intro w hSw; (try dsimp only at hSw); obtain ⟨hS0, hS1, hS2⟩ := hSw; go_simp; all_goals with_reducible rfl)
        simp only [Act.put, List.getElem_toArray, List.getElem_cons_zero, List.getElem_cons_succ, List.setIfInBounds_toArray, List.set_cons_zero, List.set_cons_succ]
        refine wpAnyH_take (i := 7) (v := ?_) rfl (by kernel_rfl) (by kernel_rfl) (by kernel_rfl) (fun _ _ _ h => h) (Or.inl ⟨by rfl, ?hy25⟩) (by assumption) ?ty25
        case hy25 => (intro w hSw; (try dsimp only at hSw); obtain ⟨hS0, hS1, hS2⟩ := hSw; go_simp; all_goals with_reducible rfl)
        simp only [Act.put, List.getElem_toArray, List.getElem_cons_zero, List.getElem_cons_succ, List.setIfInBounds_toArray, List.set_cons_zero, List.set_cons_succ]
        refine wpAnyH_take (i := 8) (v := ?_) rfl (by kernel_rfl) (by kernel_rfl) (by kernel_rfl) (fun _ _ _ h => h) (Or.inl ⟨by rfl, ?hy26⟩) (by assumption) ?ty26
        case hy26 => (intro w hSw; (try dsimp only at hSw); obtain ⟨hS0, hS1, hS2⟩ := hSw; go_simp; all_goals with_reducible rfl)
        simp only [Act.put, List.getElem_toArray, List.getElem_cons_zero, List.getElem_cons_succ, List.setIfInBounds_toArray, List.set_cons_zero, List.set_cons_succ]
        refine wpAnyH_take (i := 9) (v := ?_) rfl (by kernel_rfl) (by kernel_rfl) (by kernel_rfl) (fun _ _ _ h => h) (Or.inl ⟨by rfl, ?hy27⟩) (by assumption) ?ty27
        case hy27 => (intro w hSw; (try dsimp only at hSw); obtain ⟨hS0, hS1, hS2⟩ := hSw; go_simp; all_goals with_reducible rfl)
        simp only [Act.put, List.getElem_toArray, List.getElem_cons_zero, List.getElem_cons_succ, List.setIfInBounds_toArray, List.set_cons_zero, List.set_cons_succ]
        refine wpAnyH_take (i := 10) (v := ?_) rfl (by kernel_rfl) (by kernel_rfl) (by kernel_rfl) (fun _ _ _ h => h) (Or.inl ⟨by rfl, ?hy28⟩) (by assumption) ?ty28
        case hy28 => (intro w hSw; (try dsimp only at hSw); obtain ⟨hS0, hS1, hS2⟩ := hSw; go_simp; all_goals with_reducible rfl)
        simp only [Act.put, List.getElem_toArray, List.getElem_cons_zero, List.getElem_cons_succ, List.setIfInBounds_toArray, List.set_cons_zero, List.set_cons_succ]
        refine wpAnyH_take (i := 11) (v := ?_) rfl (by kernel_rfl) (by kernel_rfl) (by kernel_rfl) (fun _ _ _ h => h) (Or.inl ⟨by rfl, ?hy29⟩) (by assumption) ?ty29
        case hy29 => (intro w hSw; (try dsimp only at hSw); obtain ⟨hS0, hS1, hS2⟩ := hSw; go_simp; all_goals with_reducible rfl)
        simp only [Act.put, List.getElem_toArray, List.getElem_cons_zero, List.getElem_cons_succ, List.setIfInBounds_toArray, List.set_cons_zero, List.set_cons_succ]
        refine wpAnyH_take (i := 12) (v := .slice (some ⟨b, f0, none⟩) (tt - f) (cp - f)) rfl (by kernel_rfl) (by kernel_rfl) (by kernel_rfl) (fun _ _ _ h => h) (Or.inl ⟨by rfl, ?hy30⟩) (by assumption) ?ty30
        case hy30 => (intro w hSw; (try dsimp only at hSw); obtain ⟨hS0, hS1, hS2⟩ := hSw; go_simp; all_goals (rcases hf0 with ⟨h1, h2⟩ | ⟨h1, h2⟩; (rw [if_pos h1, h2]); (rw [if_neg (by omega), h2])))
        simp only [Act.put, List.getElem_toArray, List.getElem_cons_zero, List.getElem_cons_succ, List.setIfInBounds_toArray, List.set_cons_zero, List.set_cons_succ]
        refine wpAnyH_take (i := 13) (v := ?_) rfl (by kernel_rfl) (by kernel_rfl) (by kernel_rfl) (fun _ _ _ h => h) (Or.inl ⟨by rfl, ?hy31⟩) (by assumption) ?ty31
        case hy31 => (intro w hSw; (try dsimp only at hSw); obtain ⟨hS0, hS1, hS2⟩ := hSw; go_simp; all_goals with_reducible rfl)
        simp only [Act.put, List.getElem_toArray, List.getElem_cons_zero, List.getElem_cons_succ, List.setIfInBounds_toArray, List.set_cons_zero, List.set_cons_succ]
        refine wpAnyH_take (i := 16) (v := ?_) rfl (by kernel_rfl) (by kernel_rfl) (by kernel_rfl) (fun _ _ _ h => h) (Or.inl ⟨by rfl, ?hy32⟩) (by assumption) ?ty32
        case hy32 => (intro w hSw; (try dsimp only at hSw); obtain ⟨hS0, hS1, hS2⟩ := hSw; go_simp; all_goals with_reducible rfl)
        simp only [Act.put, List.getElem_toArray, List.getElem_cons_zero, List.getElem_cons_succ, List.setIfInBounds_toArray, List.set_cons_zero, List.set_cons_succ]
        refine wpAnyH_ready (rs := [14]) (by kernel_rfl) (by simp) ?_
        refine AllReadyH.cons rfl (fun K hK => ?_) AllReadyH.nil
        go_simp
        refine HIn.mono ?_
        rintro e w4 ⟨v4, rfl, hsp4, hb4⟩
        obtain ⟨a4, c4, rfl, -, -⟩ := OwnR.form hsp4
        have S4 := S3.drew.below hb4
        have hp4 : PtAt w4 P o1.1 o1.2.1 o1.2.2 (f : Int) (tt : Int) u nu := hp3.kept (hb4.block P hp3.lt)
        refine hK.out _ _ ⟨S4.2.2.1.cells.1, hp4.cells.2.2.2.1, hp4.cells.2.2.2.2.1⟩ (fun hHeld => ?_)
        clear hK K
        refine wpAnyH_take (i := 15) (v := ?_) rfl (by kernel_rfl) (by kernel_rfl) (by kernel_rfl) (fun _ _ _ h => h) (Or.inl ⟨by rfl, ?hy33⟩) (by assumption) ?ty33
        case hy33 => (intro w hSw; (try dsimp only at hSw); obtain ⟨hS0, hS1, hS2⟩ := hSw; go_simp; all_goals with_reducible rfl)
        simp only [Act.put, List.getElem_toArray, List.getElem_cons_zero, List.getElem_cons_succ, List.setIfInBounds_toArray, List.set_cons_zero, List.set_cons_succ]
        refine wpAnyH_done (by kernel_rfl) ?_ _
        have hfr4 : Fr w w4 R P := (hfr3.out.trans ⟨Nat.le_refl _, fun _ _ _ _ _ => rfl⟩ : Fr w w3.drew R P).below hb4
        have hl18 : (l ++ [(P, pt)]).length ≤ 8 := by rw [List.length_append]; simp; omega
        have HR0 : Hid (adL (adV d D) f ((l.map (·.2)).length : Int) (sp.drop 0) 0 ((l ++ [(P, pt)]).map (·.2)) = res) := by show _ = _; rw [HR.out]; simp
        have hll : (l.map (·.2)).length = l.length := by simp
        rw [hll] at HR0
        generalize hB4 : w3.drew.heap.size = B4 at *
        have hB4' : w.heap.size ≤ B4 := by rw [← hB4]; exact hfr3.out.1
        clear HR hHeld hfr3 HIn p3 p4 hp3 S3 hb4 hll
        have HIH : Hid (∀ (R P fr tt : Nat) (u nu : Int) (v : Value) (l : List (Nat × PtP)) (w : World), fr ≤ tt → tt ≤ m → RSt w0 w R b m cp v l → l.length ≤ 8 → w0.heap.size ≤ P → PtAt w P 0 0 0 0 0 u nu → (∀ p ∈ l, p.1 ≠ P) → Calls Tryz.prog 15 #[.pointer (some ⟨R, 0, none⟩), .agg #[.int .i64 (fr : Int), .int .i64 (tt : Int)], .pointer (some ⟨P, 0, none⟩), .int .i64 (3 - (D : Int))] w (RdEnd w0 R b m cp P (adV d D fr tt u nu (l.map (·.2))) w)) := ih (by omega)
        clear ih
        go_wp2
        go_loopw [62] (fun v wr => ∃ k : Nat, k ≤ sp.length ∧ v = .int .i64 k ∧ Hid (∃ vk lk, RSt w0 wr R b m cp vk lk ∧ lk.length ≤ 8 ∧ PtAt wr P o1.1 o1.2.1 o1.2.2 (f : Int) (tt : Int) u nu ∧ OwnR wr B4 (.slice a4 sp.length c4) sp ∧ Fr w wr R P ∧ adL (adV d D) f (l.length : Int) (sp.drop k) k (lk.map (·.2)) = res)) (fun v _ => sp.length - (intOf v).toNat)
        case atStart => exact ⟨0, Nat.zero_le _, rfl, ⟨_, _, S4, hl18, hp4, hsp4, hfr4, HR0.out⟩⟩
        case round =>
          obtain ⟨k, hk, rfl, HH⟩ := hrel
          obtain ⟨vk, lk, Sk, hk8, hpk, hspk, hfrk, hadk⟩ := HH.out
          clear HH
          by_cases hkn : k < sp.length
          · have hki : (k : Int) < (sp.length : Int) := by omega
            have hkb : (k : Int) < 400 := by omega
            obtain ⟨i, q, hs, hiq, hqL⟩ := hsin (nthR sp k) (by unfold nthR; rw [List.getD_eq_getElem?_getD, List.getElem?_eq_getElem hkn]; exact List.getElem_mem _)
            have HAd : Hid (adL (adV d D) f (l.length : Int) (sp.drop (k + 1)) (k + 1) (adV d D (i + f) (q + f) (l.length : Int) ((k + 1 : Nat) : Int) (lk.map (·.2))) = res) := by
              show _ = _
              rw [← hadk, adL_step hkn, hs]
              rfl
            obtain ⟨r1, r2⟩ := rc_get sp k hkn
            rw [hs] at r1 r2
            dsimp only at r1 r2
            obtain ⟨n1, hn1⟩ : ∃ n1, sp.length = n1 + 1 := ⟨sp.length - 1, by omega⟩
            have hown := hspk
            unfold OwnR at hown
            have hown2 := hown
            rw [hn1] at hown2
            obtain ⟨g, cv4, ev⟩ := ownsRow_succ hown2
            cases ev
            have hcf : wr.cell? ⟨g, k * 2, none⟩ = some (.int .i64 (i : Int)) := by rw [hown2.cellAt (k * 2) (by omega)]; exact r1
            have hct : wr.cell? ⟨g, k * 2 + 1, none⟩ = some (.int .i64 (q : Int)) := by rw [hown2.cellAt (k * 2 + 1) (by omega)]; exact r2
            obtain ⟨-, -, -, p3, -, -, -⟩ := hpk.cells
            have hPk := hpk.lt
            have HK : Hid (RSt w0 wr R b m cp vk lk ∧ PtAt wr P o1.1 o1.2.1 o1.2.2 (f : Int) (tt : Int) u nu ∧ OwnR wr B4 (.slice (some ⟨g, 0, none⟩) sp.length c4) sp ∧ Fr w wr R P) := ⟨Sk, hpk, hspk, hfrk⟩
            have hwz : w.heap.size ≤ wr.heap.size := hfrk.1
            clear Sk hpk hspk hfrk hadk hown hown2 r1 r2 hn1
            go_wp2_with fail
            refine wp_region_held_drew (S := (fun w' => w'.cell? ⟨P, 3, none⟩ = some (.int .i64 (f : Int)) ∧ True)) (by kernel_rfl) ?hS1 (fun hHeld => ?_)
            case hS1 => exact ⟨by go_simp, trivial⟩
            refine wpAnyH_take (i := 0) (v := ?_) rfl (by kernel_rfl) (by kernel_rfl) (by kernel_rfl) (fun _ _ _ h => h) (Or.inl ⟨by rfl, ?hy2⟩) (by assumption) ?ty2
            case hy2 => (intro w hSw; (try dsimp only at hSw); obtain ⟨hS0, hS1⟩ := hSw; go_simp; all_goals with_reducible rfl)
            simp only [Act.put, List.getElem_toArray, List.getElem_cons_zero, List.setIfInBounds_toArray, List.set_cons_zero, List.set_cons_succ]
            refine wpAnyH_take (i := 2) (v := ?_) rfl (by kernel_rfl) (by kernel_rfl) (by kernel_rfl) (fun _ _ _ h => h) (Or.inl ⟨by rfl, ?hy3⟩) (by assumption) ?ty3
            case hy3 => (intro w hSw; (try dsimp only at hSw); obtain ⟨hS0, hS1⟩ := hSw; go_simp; all_goals with_reducible rfl)
            simp only [Act.put, List.getElem_toArray, List.getElem_cons_zero, List.getElem_cons_succ, List.setIfInBounds_toArray, List.set_cons_zero, List.set_cons_succ]
            refine wpAnyH_take (i := 3) (v := ?_) rfl (by kernel_rfl) (by kernel_rfl) (by kernel_rfl) (fun _ _ _ h => h) (Or.inl ⟨by rfl, ?hy4⟩) (by assumption) ?ty4
            case hy4 => (intro w hSw; (try dsimp only at hSw); obtain ⟨hS0, hS1⟩ := hSw; go_simp; all_goals with_reducible rfl)
            simp only [Act.put, List.getElem_toArray, List.getElem_cons_zero, List.getElem_cons_succ, List.setIfInBounds_toArray, List.set_cons_zero, List.set_cons_succ]
            refine wpAnyH_take (i := 4) (v := ?_) rfl (by kernel_rfl) (by kernel_rfl) (by kernel_rfl) (fun _ _ _ h => h) (Or.inl ⟨by rfl, ?hy5⟩) (by assumption) ?ty5
            case hy5 => (intro w hSw; (try dsimp only at hSw); obtain ⟨hS0, hS1⟩ := hSw; go_simp; all_goals with_reducible rfl)
            simp only [Act.put, List.getElem_toArray, List.getElem_cons_zero, List.getElem_cons_succ, List.setIfInBounds_toArray, List.set_cons_zero, List.set_cons_succ]
            refine wpAnyH_take (i := 5) (v := ?_) rfl (by kernel_rfl) (by kernel_rfl) (by kernel_rfl) (fun _ _ _ h => h) (Or.inl ⟨by rfl, ?hy6⟩) (by assumption) ?ty6
            case hy6 => (intro w hSw; (try dsimp only at hSw); obtain ⟨hS0, hS1⟩ := hSw; go_simp; all_goals with_reducible rfl)
            simp only [Act.put, List.getElem_toArray, List.getElem_cons_zero, List.getElem_cons_succ, List.setIfInBounds_toArray, List.set_cons_zero, List.set_cons_succ]
            refine wpAnyH_ready (rs := [1]) (by kernel_rfl) (by simp) ?_
            refine AllReadyH.cons rfl (fun K hK => ?_) AllReadyH.nil
            go_simp
            refine hK.out _ _ ⟨by go_simp, trivial⟩ (fun hHeld => ?_)
            clear hK K
            refine wpAnyH_take (i := 6) (v := .int .i64 ((i : Int) + (f : Int))) rfl (by kernel_rfl) (by kernel_rfl) (by kernel_rfl) (fun _ _ _ h => h) (Or.inl ⟨by rfl, ?hy7⟩) (by assumption) ?ty7
            case hy7 => (intro w hSw; (try dsimp only at hSw); obtain ⟨hS0, hS1⟩ := hSw; go_simp; all_goals rw [Go.IntWalk.i64_left, Go.IntWalk.wrap64_in _ (by omega)])
            simp only [Act.put, List.getElem_toArray, List.getElem_cons_zero, List.getElem_cons_succ, List.setIfInBounds_toArray, List.set_cons_zero, List.set_cons_succ]
            refine wpAnyH_take (i := 7) (v := ?_) rfl (by kernel_rfl) (by kernel_rfl) (by kernel_rfl) (fun _ _ _ h => h) (Or.inl ⟨by rfl, ?hy8⟩) (by assumption) ?ty8
            case hy8 => (intro w hSw; (try dsimp only at hSw); obtain ⟨hS0, hS1⟩ := hSw; go_simp; all_goals with_reducible rfl)
            simp only [Act.put, List.getElem_toArray, List.getElem_cons_zero, List.getElem_cons_succ, List.setIfInBounds_toArray, List.set_cons_zero, List.set_cons_succ]
            refine wpAnyH_ready (rs := [8]) (by kernel_rfl) (by simp) ?_
            refine AllReadyH.cons rfl (fun K hK => ?_) AllReadyH.nil
            go_simp
            refine hK.out _ _ ⟨by go_simp, trivial⟩ (fun hHeld => ?_)
            clear hK K
            refine wpAnyH_done (by kernel_rfl) ?_ _
            go_wp2_with fail
            refine wp_region_held_drew (S := (fun w' => w'.cell? ⟨P, 3, none⟩ = some (.int .i64 (f : Int)) ∧ True)) (by kernel_rfl) ?hS9 (fun hHeld => ?_)
            case hS9 => exact ⟨by go_simp, trivial⟩
            refine wpAnyH_take (i := 0) (v := ?_) rfl (by kernel_rfl) (by kernel_rfl) (by kernel_rfl) (fun _ _ _ h => h) (Or.inl ⟨by rfl, ?hy10⟩) (by assumption) ?ty10
            case hy10 => (intro w hSw; (try dsimp only at hSw); obtain ⟨hS0, hS1⟩ := hSw; go_simp; all_goals with_reducible rfl)
            simp only [Act.put, List.getElem_toArray, List.getElem_cons_zero, List.setIfInBounds_toArray, List.set_cons_zero, List.set_cons_succ]
            refine wpAnyH_take (i := 2) (v := ?_) rfl (by kernel_rfl) (by kernel_rfl) (by kernel_rfl) (fun _ _ _ h => h) (Or.inl ⟨by rfl, ?hy11⟩) (by assumption) ?ty11
            case hy11 => (intro w hSw; (try dsimp only at hSw); obtain ⟨hS0, hS1⟩ := hSw; go_simp; all_goals with_reducible rfl)
            simp only [Act.put, List.getElem_toArray, List.getElem_cons_zero, List.getElem_cons_succ, List.setIfInBounds_toArray, List.set_cons_zero, List.set_cons_succ]
            refine wpAnyH_take (i := 3) (v := ?_) rfl (by kernel_rfl) (by kernel_rfl) (by kernel_rfl) (fun _ _ _ h => h) (Or.inl ⟨by rfl, ?hy12⟩) (by assumption) ?ty12
            case hy12 => (intro w hSw; (try dsimp only at hSw); obtain ⟨hS0, hS1⟩ := hSw; go_simp; all_goals with_reducible rfl)
            simp only [Act.put, List.getElem_toArray, List.getElem_cons_zero, List.getElem_cons_succ, List.setIfInBounds_toArray, List.set_cons_zero, List.set_cons_succ]
            refine wpAnyH_take (i := 4) (v := ?_) rfl (by kernel_rfl) (by kernel_rfl) (by kernel_rfl) (fun _ _ _ h => h) (Or.inl ⟨by rfl, ?hy13⟩) (by assumption) ?ty13
            case hy13 => (intro w hSw; (try dsimp only at hSw); obtain ⟨hS0, hS1⟩ := hSw; go_simp; all_goals with_reducible rfl)
            simp only [Act.put, List.getElem_toArray, List.getElem_cons_zero, List.getElem_cons_succ, List.setIfInBounds_toArray, List.set_cons_zero, List.set_cons_succ]
            refine wpAnyH_take (i := 5) (v := ?_) rfl (by kernel_rfl) (by kernel_rfl) (by kernel_rfl) (fun _ _ _ h => h) (Or.inl ⟨by rfl, ?hy14⟩) (by assumption) ?ty14
            case hy14 => (intro w hSw; (try dsimp only at hSw); obtain ⟨hS0, hS1⟩ := hSw; go_simp; all_goals with_reducible rfl)
            simp only [Act.put, List.getElem_toArray, List.getElem_cons_zero, List.getElem_cons_succ, List.setIfInBounds_toArray, List.set_cons_zero, List.set_cons_succ]
            refine wpAnyH_ready (rs := [1]) (by kernel_rfl) (by simp) ?_
            refine AllReadyH.cons rfl (fun K hK => ?_) AllReadyH.nil
            go_simp
            refine hK.out _ _ ⟨by go_simp, trivial⟩ (fun hHeld => ?_)
            clear hK K
            refine wpAnyH_take (i := 6) (v := .int .i64 ((q : Int) + (f : Int))) rfl (by kernel_rfl) (by kernel_rfl) (by kernel_rfl) (fun _ _ _ h => h) (Or.inl ⟨by rfl, ?hy15⟩) (by assumption) ?ty15
            case hy15 => (intro w hSw; (try dsimp only at hSw); obtain ⟨hS0, hS1⟩ := hSw; go_simp; all_goals rw [Go.IntWalk.i64_left, Go.IntWalk.wrap64_in _ (by omega)])
            simp only [Act.put, List.getElem_toArray, List.getElem_cons_zero, List.getElem_cons_succ, List.setIfInBounds_toArray, List.set_cons_zero, List.set_cons_succ]
            refine wpAnyH_take (i := 7) (v := ?_) rfl (by kernel_rfl) (by kernel_rfl) (by kernel_rfl) (fun _ _ _ h => h) (Or.inl ⟨by rfl, ?hy16⟩) (by assumption) ?ty16
            case hy16 => (intro w hSw; (try dsimp only at hSw); obtain ⟨hS0, hS1⟩ := hSw; go_simp; all_goals with_reducible rfl)
            simp only [Act.put, List.getElem_toArray, List.getElem_cons_zero, List.getElem_cons_succ, List.setIfInBounds_toArray, List.set_cons_zero, List.set_cons_succ]
            refine wpAnyH_ready (rs := [8]) (by kernel_rfl) (by simp) ?_
            refine AllReadyH.cons rfl (fun K hK => ?_) AllReadyH.nil
            go_simp
            refine hK.out _ _ ⟨by go_simp, trivial⟩ (fun hHeld => ?_)
            clear hK K
            refine wpAnyH_done (by kernel_rfl) ?_ _
            go_wp2_with fail
            obtain ⟨Sk, hpk, hspk, hfrk⟩ := HK.out
            have hb7 : Below wr.heap.size wr ((wr.alloc (.cells #[.int .i64 ((i : Int) + (f : Int)), .int .i64 ((q : Int) + (f : Int))] 48)).alloc (.cells #[.int .i64 0, .int .i64 0, .int .i64 0, .int .i64 0, .int .i64 0, .int .i64 (l.length : Int), .int .i64 ((k : Int) + 1)] 30)).drew.drew := ((((Below.refl _ wr).alloc (Nat.le_refl _) _).alloc (by simp) _).drew).drew
            have hp7 : PtAt ((wr.alloc (.cells #[.int .i64 ((i : Int) + (f : Int)), .int .i64 ((q : Int) + (f : Int))] 48)).alloc (.cells #[.int .i64 0, .int .i64 0, .int .i64 0, .int .i64 0, .int .i64 0, .int .i64 (l.length : Int), .int .i64 ((k : Int) + 1)] 30)).drew.drew (wr.heap.size + 1) 0 0 0 0 0 (l.length : Int) ((k : Int) + 1) := by
              have h := heap_alloc_new (wr.alloc (.cells #[.int .i64 ((i : Int) + (f : Int)), .int .i64 ((q : Int) + (f : Int))] 48)) (.cells #[.int .i64 0, .int .i64 0, .int .i64 0, .int .i64 0, .int .i64 0, .int .i64 (l.length : Int), .int .i64 ((k : Int) + 1)] 30)
              rw [World.size_alloc] at h
              exact h
            have hz7 : ((wr.alloc (.cells #[.int .i64 ((i : Int) + (f : Int)), .int .i64 ((q : Int) + (f : Int))] 48)).alloc (.cells #[.int .i64 0, .int .i64 0, .int .i64 0, .int .i64 0, .int .i64 0, .int .i64 (l.length : Int), .int .i64 ((k : Int) + 1)] 30)).drew.drew.heap.size = wr.heap.size + 1 + 1 := by simp
            generalize ((wr.alloc (.cells #[.int .i64 ((i : Int) + (f : Int)), .int .i64 ((q : Int) + (f : Int))] 48)).alloc (.cells #[.int .i64 0, .int .i64 0, .int .i64 0, .int .i64 0, .int .i64 0, .int .i64 (l.length : Int), .int .i64 ((k : Int) + 1)] 30)).drew.drew = X7 at *
            have S7 := Sk.below hb7
            have hw0 : w0.heap.size ≤ wr.heap.size := Sk.1.size
            have HC := HIH.out R (wr.heap.size + 1) (i + f) (q + f) (l.length : Int) ((k : Int) + 1) vk lk X7 (by omega) (by omega) S7 hk8 (by omega) hp7 (fun p hp => by have := (Sk.2.2.2.2 p hp).2.lt; omega)
            rw [show ((i + f : Nat) : Int) = (i : Int) + (f : Int) from Int.natCast_add i f, show ((q + f : Nat) : Int) = (q : Int) + (f : Int) from Int.natCast_add q f, show (3 : Int) - (D : Int) = 3 - ((D : Int) + 1) + 1 by omega] at HC
            refine HC.mono ?_
            rintro e w8 ⟨v8, l8, rfl, S8, hm8, hfr8⟩
            have hl8b : l8.length ≤ 8 := by
              have h := adV_le d D (i + f) (q + f) (l.length : Int) ((k : Int) + 1) (lk.map (·.2)) (by simp; exact hk8)
              rw [← hm8] at h
              simp at h; exact h
            have hp7P : PtAt X7 P o1.1 o1.2.1 o1.2.2 (f : Int) (tt : Int) u nu := hpk.kept (hb7.block P hpk.lt)
            have hp8 : PtAt w8 P o1.1 o1.2.1 o1.2.2 (f : Int) (tt : Int) u nu := hp7P.kept (hfr8.2 P hp7P.lt (part_apart hp7P S7.2.2.1) (by omega) (NoQ.part hp7P))
            have hsp7 : OwnR X7 B4 (.slice (some ⟨g, 0, none⟩) sp.length c4) sp := hspk.below hb7 (Nat.le_refl _)
            have hsp8 : OwnR w8 B4 (.slice (some ⟨g, 0, none⟩) sp.length c4) sp := hsp7.blk (fun g' hg' => by
              obtain ⟨h1, h2, h3⟩ := hsp7.apart S7.2.2.1 hg'
              obtain ⟨h4, -, -⟩ := hspk.apart Sk.2.2.1 hg'
              exact hfr8.2 g' h1 h2 (by omega) h3)
            have hfr9 : Fr w w8 R P := (hfrk.below hb7).inner hfr8 (by omega)
            have HN : Hid (∃ vk lk, RSt w0 w8 R b m cp vk lk ∧ lk.length ≤ 8 ∧ PtAt w8 P o1.1 o1.2.1 o1.2.2 (f : Int) (tt : Int) u nu ∧ OwnR w8 B4 (.slice (some ⟨g, 0, none⟩) sp.length c4) sp ∧ Fr w w8 R P ∧ adL (adV d D) f (l.length : Int) (sp.drop (k + 1)) (k + 1) (lk.map (·.2)) = res) := ⟨v8, l8, S8, hl8b, hp8, hsp8, hfr9, by rw [hm8]; exact HAd.out⟩
            clear S8 hm8 hfr8 hp8 hsp7 hsp8 hfr9 HC S7 hp7 hp7P hb7 Sk hpk hspk hfrk HAd HK p3 hcf hct
            go_wp2
            go_roundw
            case rel => exact ⟨k + 1, by omega, by go_num, HN⟩
            case measure => simp [intOf]; omega
          · have hki : ¬ (k : Int) < (sp.length : Int) := by omega
            have HM : Hid (lk.map (·.2) = res) := by show _ = _; rw [← hadk, adL_end (by omega)]
            have HK : Hid (RSt w0 wr R b m cp vk lk ∧ Fr w wr R P) := ⟨Sk, hfrk⟩
            clear Sk hpk hspk hfrk hadk
            go_wp2
            refine bodyPost_ret (v := .tuple #[]) (by simp [results, Tryz.results15, go_sem]) rfl ?_
            exact ⟨_, _, rfl, HK.out.1, HM.out, HK.out.2⟩
end Go.Proofs.YtaefomiofoakhaaGreatDoor
