/- A line of a header with a field of its own, the model's. -/
import Derived.Test.YtaefomiofoakhaaGreatDoorHdr2ToHdr5
import Derived.Deep.RegionHeld3
namespace Go.Proofs.YtaefomiofoakhaaGreatDoor
open Go.RowKit

theorem clN_here : ∀ {t : List Nat} {k : Nat}, k < t.length → (∀ i, i < k → nth t i ≠ 58) → nth t k = 58 → clN t = k
  | [], _, h, _, _ => by simp at h
  | c :: t, 0, _, _, h2 => by
    have : c = 58 := h2
    subst this
    rfl
  | c :: t, k + 1, h, h1, h2 => by
    have hc : c ≠ 58 := h1 0 (by omega)
    have := clN_here (t := t) (k := k) (by simpa using h) (fun i hi => h1 (i + 1) (by omega)) h2
    unfold clN at this ⊢
    rw [List.takeWhile_cons, if_pos (by simp [noCl, hc]), List.length_cons, this]
theorem clN_all : ∀ {t : List Nat}, (∀ i, i < t.length → nth t i ≠ 58) → clN t = t.length
  | [], _ => rfl
  | c :: t, h => by
    have hc : c ≠ 58 := h 0 (by simp)
    have := clN_all (t := t) (fun i hi => h (i + 1) (by simpa using hi))
    unfold clN at this ⊢
    rw [List.takeWhile_cons, if_pos (by simp [noCl, hc]), List.length_cons, this, List.length_cons]
theorem ext_str (t : List Nat) (a b : Nat) : (str t).extract a b = str ((t.take b).drop a) := by
  apply ByteArray.ext
  rw [ByteArray.data_extract]
  simp only [str]
  rw [List.extract_toArray, List.extract_eq_take_drop, ← List.map_drop, ← List.map_take]
  congr 2
  rw [List.drop_take]

theorem OwnF.lit0g (w : World) (B g : Nat) (e : w.heap.size = g) (hB : B ≤ g) : OwnF (w.alloc (.cells #[] 122)) B (.slice (some ⟨g, 0, none⟩) 0 0) [] := by
  subst e
  exact OwnF.lit0 w B hB
/-- A block with one field. -/
def FCell (w : World) (h : Nat) (x y : ByteArray) : Prop := h < w.heap.size ∧ w.cell? ⟨h, 0, none⟩ = some (.string x) ∧ w.cell? ⟨h, 1, none⟩ = some (.string y)
theorem FCell.new (w : World) (h : Nat) (e : w.heap.size = h) (x y : ByteArray) : FCell (w.alloc (.cells #[.string x, .string y] 122)) h x y := by
  subst e
  refine ⟨by simp, ?_, ?_⟩ <;> simp
theorem FCell.alloc {w : World} {h : Nat} {x y : ByteArray} (H : FCell w h x y) (o : Obj) : FCell (w.alloc o) h x y := by
  have hb : Below w.heap.size w (w.alloc o) := (Below.refl _ _).alloc (Nat.le_refl _) _
  exact ⟨Nat.lt_of_lt_of_le H.1 hb.size, (hb.cell (p := ⟨h, 0, none⟩) H.1).trans H.2.1, (hb.cell (p := ⟨h, 1, none⟩) H.1).trans H.2.2⟩
theorem FCell.far {w w' : World} {h : Nat} {x y : ByteArray} {row : Option Nat} (H : FCell w h x y) (hg : w.grownBy w' row) (hne : some h ≠ row) : FCell w' h x y :=
  ⟨Nat.lt_of_lt_of_le H.1 hg.size, (hg.cell_far ⟨h, 0, none⟩ H.1 hne).trans H.2.1, (hg.cell_far ⟨h, 1, none⟩ H.1 hne).trans H.2.2⟩
theorem FCell.nw {w : World} {h : Nat} {x y : ByteArray} (H : FCell w h x y) : ∀ j, j < 1 → w.cell? ((⟨h, 0, none⟩ : Addr).add (j * 2)) = some (.string (nthF [(x, y)] j).1) ∧ w.cell? ((⟨h, 0, none⟩ : Addr).add (j * 2 + 1)) = some (.string (nthF [(x, y)] j).2) := by
  intro j hj
  obtain rfl : j = 0 := by omega
  rw [Go.WideShapes.add_plain, Go.WideShapes.add_plain]
  exact H.2

set_option maxHeartbeats 1600000 in
set_option maxRecDepth 100000 in
theorem l4Line_new (b off n cap : Nat) (l : List FldP) (t : List Nat) (w : World) (hl : l.length = n) (hr : RdF w (some ⟨b, off, none⟩) l) (hn : n ≤ 1048000) (hB : IsB t) (ht0 : 0 < t.length) (ht : t.length ≤ 1048576) (hx : ¬ (nth t 0 = 32 ∨ nth t 0 = 9)) :
    Calls Tryz.prog 95 #[.slice (some ⟨b, off, none⟩) n cap, .string (str t)] w fun e w' => LnEnd (if clN t < t.length then some (l ++ [fdL t]) else none) w e w' := by
  have hsz : (str t).size = t.length := str_size t
  have hsp : 0 < (str t).size := by omega
  have g0 := str_get hB (i := 0) hsp
  have HL : Hid (l.length = n) := hl
  have x1 : ((nth t 0 : Int) == 32) = false := by simp; omega
  have x2 : ((nth t 0 : Int) == 9) = false := by simp; omega
  have HY : Hid (clN t < t.length → (if clN t < t.length then some (l ++ [fdL t]) else none) = some (l ++ [fdL t])) := fun h => if_pos h
  have HZ : Hid (¬ clN t < t.length → (if clN t < t.length then some (l ++ [fdL t]) else none) = none) := fun h => if_neg h
  generalize (if clN t < t.length then some (l ++ [fdL t]) else none) = o at *
  have hnew : ∀ wx, Below w.heap.size w wx → ∀ j, j < n → wx.cell? ((⟨b, off, none⟩ : Addr).add (j * 2)) = some (.string (nthF l j).1) ∧ wx.cell? ((⟨b, off, none⟩ : Addr).add (j * 2 + 1)) = some (.string (nthF l j).2) := by
    intro wx hbx j hj
    obtain ⟨b', off', e, hblt, hcell⟩ := hr.at_ (by omega)
    cases e
    rw [Go.WideShapes.add_plain, Go.WideShapes.add_plain]
    exact ⟨(hbx.cell (p := ⟨b, off + j * 2, none⟩) hblt).trans (hcell j (by omega)).1, (hbx.cell (p := ⟨b, off + (j * 2 + 1), none⟩) hblt).trans (hcell j (by omega)).2⟩
  clear hl hr
  go_enter Tryz.func95, Tryz.ntmps95
  go_wp2
  go_loop [8] (fun v => ∃ k : Nat, k ≤ t.length ∧ v = .int .i64 k ∧ ∀ i, i < k → nth t i ≠ 58) (fun v => t.length - (intOf v).toNat)
  case atStart => exact ⟨0, Nat.zero_le _, rfl, fun i hi => absurd hi (Nat.not_lt_zero _)⟩
  case round =>
    obtain ⟨k, hk, rfl, hall⟩ := hrel
    by_cases hkn : k < t.length
    · have hki : (k : Int) < (t.length : Int) := by omega
      have gk := str_get hB (i := k) (by rw [hsz]; exact hkn)
      by_cases h58 : nth t k = 58
      · have HC : Hid (clN t = k) := clN_here hkn hall h58
        rw [h58] at gk
        have hcl : clN t < t.length := by rw [HC.out]; exact hkn
        have HO : Hid (_) := HY.out hcl
        clear hall hcl HY HZ
        have hk1 : (k : Int) + 1 ≤ (t.length : Int) := by omega
        have hex0 : (str t).extract 0 k = str (t.take k) := by rw [ext_str]; rfl
        have hex : (str t).extract (k + 1) t.length = str (t.drop (k + 1)) := by rw [ext_str, List.take_length]
        have HF0 : Hid (fdL t = (str (t.take k), str (oneOff (t.drop (k + 1))))) := by
          show _ = _
          unfold fdL; rw [HC.out]
        have hBu := isB_drop hB (k + 1)
        have hkt : (k : Int) ≤ (t.length : Int) := by omega
        have hlu : (t.drop (k + 1)).length = t.length - (k + 1) := List.length_drop
        generalize t.drop (k + 1) = u at *
        generalize str (t.take k) = x at *
        have hbA : Below w.heap.size w (w.drew.alloc (.cells #[] 122)) := ((Below.refl _ _).drew).alloc (Nat.le_refl _) _
        have hbB : ∀ y : ByteArray, Below w.heap.size w (w.drew.alloc (.cells #[.string x, .string y] 122)) := fun y => ((Below.refl _ _).drew).alloc (Nat.le_refl _) _
        have hsu : (str u).size = u.length := str_size u
        by_cases hu : u.length = 0
        · have hu0 : u = [] := List.length_eq_zero_iff.1 hu
          subst hu0
          have HF : Hid (fdL t = (x, (⟨#[]⟩ : ByteArray))) := HF0.out
          have hy : str [] = (⟨#[]⟩ : ByteArray) := rfl
          rw [hy] at hex
          generalize hyv : (⟨#[]⟩ : ByteArray) = y at HF
          rw [hyv] at hex
          have hbAB : Below w.heap.size w ((w.drew.alloc (.cells #[] 122)).alloc (.cells #[.string x, .string y] 122)) := hbA.alloc hbA.size _
          have hbBA : Below w.heap.size w ((w.drew.alloc (.cells #[.string x, .string y] 122)).alloc (.cells #[] 122)) := (hbB y).alloc (hbB y).size _
          go_wp2_with fail
          refine wp_region_held_drew (S := fun _ => True) (by kernel_rfl) ?hS1 (fun hHeld => ?_)
          case hS1 => exact trivial
          refine wpAnyH_take (i := 1) (v := ?_) rfl (by kernel_rfl) (by kernel_rfl) (by kernel_rfl) (fun _ _ _ h => h) (Or.inl ⟨by rfl, ?hy2⟩) (by assumption) ?ty2
          case hy2 => (intro w hSw; (try dsimp only at hSw); go_simp; all_goals with_reducible rfl)
          simp only [Act.put, List.getElem_toArray, List.getElem_cons_zero, List.getElem_cons_succ, List.setIfInBounds_toArray, List.set_cons_zero, List.set_cons_succ]
          refine wpAnyH_take (i := 3) (v := ?_) rfl (by kernel_rfl) (by kernel_rfl) (by kernel_rfl) (fun _ _ _ h => h) (Or.inl ⟨by rfl, ?hy3⟩) (by assumption) ?ty3
          case hy3 => (intro w hSw; (try dsimp only at hSw); go_simp; all_goals with_reducible rfl)
          simp only [Act.put, List.getElem_toArray, List.getElem_cons_zero, List.getElem_cons_succ, List.setIfInBounds_toArray, List.set_cons_zero, List.set_cons_succ]
          refine wpAnyH_take (i := 4) (v := ?_) rfl (by kernel_rfl) (by kernel_rfl) (by kernel_rfl) (fun _ _ _ h => h) (Or.inl ⟨by rfl, ?hy4⟩) (by assumption) ?ty4
          case hy4 => (intro w hSw; (try dsimp only at hSw); go_simp; all_goals with_reducible rfl)
          simp only [Act.put, List.getElem_toArray, List.getElem_cons_zero, List.getElem_cons_succ, List.setIfInBounds_toArray, List.set_cons_zero, List.set_cons_succ]
          refine wpAnyH_take (i := 5) (v := ?_) rfl (by kernel_rfl) (by kernel_rfl) (by kernel_rfl) (fun _ _ _ h => h) (Or.inl ⟨by rfl, ?hy5⟩) (by assumption) ?ty5
          case hy5 => (intro w hSw; (try dsimp only at hSw); go_simp; all_goals with_reducible rfl)
          simp only [Act.put, List.getElem_toArray, List.getElem_cons_zero, List.getElem_cons_succ, List.setIfInBounds_toArray, List.set_cons_zero, List.set_cons_succ]
          refine wpAnyH_take (i := 6) (v := ?_) rfl (by kernel_rfl) (by kernel_rfl) (by kernel_rfl) (fun _ _ _ h => h) (Or.inl ⟨by rfl, ?hy6⟩) (by assumption) ?ty6
          case hy6 => (intro w hSw; (try dsimp only at hSw); go_simp; all_goals with_reducible rfl)
          simp only [Act.put, List.getElem_toArray, List.getElem_cons_zero, List.getElem_cons_succ, List.setIfInBounds_toArray, List.set_cons_zero, List.set_cons_succ]
          refine wpAnyH_take (i := 7) (v := ?_) rfl (by kernel_rfl) (by kernel_rfl) (by kernel_rfl) (fun _ _ _ h => h) (Or.inl ⟨by rfl, ?hy7⟩) (by assumption) ?ty7
          case hy7 => (intro w hSw; (try dsimp only at hSw); go_simp; all_goals with_reducible rfl)
          simp only [Act.put, List.getElem_toArray, List.getElem_cons_zero, List.getElem_cons_succ, List.setIfInBounds_toArray, List.set_cons_zero, List.set_cons_succ]
          refine wpAnyH_ready (rs := [0, 8]) (by kernel_rfl) (by simp) ?_
          refine AllReadyH.cons rfl (fun K hK => ?_) (AllReadyH.cons rfl (fun K hK => ?_) AllReadyH.nil)
          · go_simp
            refine hK.out _ _ trivial (fun hHeld => ?_)
            clear hK K
            refine wpAnyH_ready (rs := [2, 8]) (by kernel_rfl) (by simp) ?_
            refine AllReadyH.cons rfl (fun K hK => ?_) (AllReadyH.cons rfl (fun K hK => ?_) AllReadyH.nil)
            · refine step_appF (by rfl) _ _ (by rfl) w.heap.size _ [] (by rfl) (OwnF.lit0 w.drew _ (Nat.le_refl _)) ⟨b, off, none⟩ n cap l (by rfl) HL.out (hnew _ (hbA)) (by simp; omega) (hbA).size ?_
              intro v1 w1 ho1 hb1 hg1
              rw [List.nil_append] at ho1
              have hb1w := (hbA).trans hb1
              refine hK.out _ _ trivial (fun hHeld => ?_)
              clear hK K
              refine wpAnyH_ready (rs := [8]) (by kernel_rfl) (by simp) ?_
              refine AllReadyH.cons rfl (fun K hK => ?_) AllReadyH.nil
              go_simp
              refine hK.out _ _ trivial (fun hHeld => ?_)
              clear hK K
              refine wpAnyH_ready (rs := [9]) (by kernel_rfl) (by simp) ?_
              refine AllReadyH.cons rfl (fun K hK => ?_) AllReadyH.nil
              refine step_appF (by rfl) _ _ (by rfl) w.heap.size _ l (by rfl) (ho1.alloc _) ⟨w1.heap.size, 0, none⟩ 1 1 [(x, y)] (by rfl) (by rfl) ((FCell.new w1 _ rfl x y).nw) (by have := HL.out; omega) (hb1w.alloc hb1w.size _).size ?_
              intro v2 w2 ho2 hb2 _
              have hb2w := (hb1w.alloc hb1w.size _).trans hb2
              refine hK.out _ _ trivial (fun hHeld => ?_)
              clear hK K
              refine wpAnyH_take (i := 10) (v := ?_) rfl (by kernel_rfl) (by kernel_rfl) (by kernel_rfl) (fun _ _ _ h => h) (Or.inl ⟨by rfl, ?hy8⟩) (by assumption) ?ty8
              case hy8 => (intro w hSw; (try dsimp only at hSw); go_simp; all_goals with_reducible rfl)
              simp only [Act.put, List.getElem_toArray, List.getElem_cons_zero, List.getElem_cons_succ, List.setIfInBounds_toArray, List.set_cons_zero, List.set_cons_succ]
              refine wpAnyH_take (i := 11) (v := ?_) rfl (by kernel_rfl) (by kernel_rfl) (by kernel_rfl) (fun _ _ _ h => h) (Or.inl ⟨by rfl, ?hy9⟩) (by assumption) ?ty9
              case hy9 => (intro w hSw; (try dsimp only at hSw); go_simp; all_goals with_reducible rfl)
              simp only [Act.put, List.getElem_toArray, List.getElem_cons_zero, List.getElem_cons_succ, List.setIfInBounds_toArray, List.set_cons_zero, List.set_cons_succ]
              refine wpAnyH_done (by kernel_rfl) ?_ _
              go_wp2
              go_ret2
              rw [HO.out]
              exact ⟨hb2w, v2, rfl, by rw [HF.out]; exact ho2⟩
            · go_simp
              refine hK.out _ _ trivial (fun hHeld => ?_)
              clear hK K
              refine wpAnyH_ready (rs := [2]) (by kernel_rfl) (by simp) ?_
              refine AllReadyH.cons rfl (fun K hK => ?_) AllReadyH.nil
              refine step_appF (by rfl) _ _ (by rfl) w.heap.size _ [] (by rfl) ((OwnF.lit0 w.drew _ (Nat.le_refl _)).alloc _) ⟨b, off, none⟩ n cap l (by rfl) HL.out (hnew _ (hbAB)) (by simp; omega) (hbAB).size ?_
              intro v1 w1 ho1 hb1 hg1
              rw [List.nil_append] at ho1
              have hb1w := (hbAB).trans hb1
              refine hK.out _ _ trivial (fun hHeld => ?_)
              clear hK K
              refine wpAnyH_ready (rs := [9]) (by kernel_rfl) (by simp) ?_
              refine AllReadyH.cons rfl (fun K hK => ?_) AllReadyH.nil
              refine step_appF (by rfl) _ _ (by rfl) w.heap.size _ l (by rfl) (ho1) ⟨w.heap.size + 1, 0, none⟩ 1 1 [(x, y)] (by rfl) (by rfl) (((FCell.new (w.drew.alloc (.cells #[] 122)) (w.heap.size + 1) (by simp) x y).far hg1 (by simp [Value.ownBlock])).nw) (by have := HL.out; omega) (hb1w).size ?_
              intro v2 w2 ho2 hb2 _
              have hb2w := (hb1w).trans hb2
              refine hK.out _ _ trivial (fun hHeld => ?_)
              clear hK K
              refine wpAnyH_take (i := 10) (v := ?_) rfl (by kernel_rfl) (by kernel_rfl) (by kernel_rfl) (fun _ _ _ h => h) (Or.inl ⟨by rfl, ?hy10⟩) (by assumption) ?ty10
              case hy10 => (intro w hSw; (try dsimp only at hSw); go_simp; all_goals with_reducible rfl)
              simp only [Act.put, List.getElem_toArray, List.getElem_cons_zero, List.getElem_cons_succ, List.setIfInBounds_toArray, List.set_cons_zero, List.set_cons_succ]
              refine wpAnyH_take (i := 11) (v := ?_) rfl (by kernel_rfl) (by kernel_rfl) (by kernel_rfl) (fun _ _ _ h => h) (Or.inl ⟨by rfl, ?hy11⟩) (by assumption) ?ty11
              case hy11 => (intro w hSw; (try dsimp only at hSw); go_simp; all_goals with_reducible rfl)
              simp only [Act.put, List.getElem_toArray, List.getElem_cons_zero, List.getElem_cons_succ, List.setIfInBounds_toArray, List.set_cons_zero, List.set_cons_succ]
              refine wpAnyH_done (by kernel_rfl) ?_ _
              go_wp2
              go_ret2
              rw [HO.out]
              exact ⟨hb2w, v2, rfl, by rw [HF.out]; exact ho2⟩
          · go_simp
            refine hK.out _ _ trivial (fun hHeld => ?_)
            clear hK K
            refine wpAnyH_ready (rs := [0]) (by kernel_rfl) (by simp) ?_
            refine AllReadyH.cons rfl (fun K hK => ?_) AllReadyH.nil
            go_simp
            refine hK.out _ _ trivial (fun hHeld => ?_)
            clear hK K
            refine wpAnyH_ready (rs := [2]) (by kernel_rfl) (by simp) ?_
            refine AllReadyH.cons rfl (fun K hK => ?_) AllReadyH.nil
            refine step_appF (by rfl) _ _ (by rfl) w.heap.size _ [] (by rfl) (OwnF.lit0g (w.drew.alloc (.cells #[.string x, .string y] 122)) _ (w.heap.size + 1) (by simp) (by simp)) ⟨b, off, none⟩ n cap l (by rfl) HL.out (hnew _ (hbBA)) (by simp; omega) (hbBA).size ?_
            intro v1 w1 ho1 hb1 hg1
            rw [List.nil_append] at ho1
            have hb1w := (hbBA).trans hb1
            refine hK.out _ _ trivial (fun hHeld => ?_)
            clear hK K
            refine wpAnyH_ready (rs := [9]) (by kernel_rfl) (by simp) ?_
            refine AllReadyH.cons rfl (fun K hK => ?_) AllReadyH.nil
            refine step_appF (by rfl) _ _ (by rfl) w.heap.size _ l (by rfl) (ho1) ⟨w.heap.size, 0, none⟩ 1 1 [(x, y)] (by rfl) (by rfl) ((((FCell.new w.drew w.heap.size rfl x y).alloc _).far hg1 (by simp [Value.ownBlock])).nw) (by have := HL.out; omega) (hb1w).size ?_
            intro v2 w2 ho2 hb2 _
            have hb2w := (hb1w).trans hb2
            refine hK.out _ _ trivial (fun hHeld => ?_)
            clear hK K
            refine wpAnyH_take (i := 10) (v := ?_) rfl (by kernel_rfl) (by kernel_rfl) (by kernel_rfl) (fun _ _ _ h => h) (Or.inl ⟨by rfl, ?hy12⟩) (by assumption) ?ty12
            case hy12 => (intro w hSw; (try dsimp only at hSw); go_simp; all_goals with_reducible rfl)
            simp only [Act.put, List.getElem_toArray, List.getElem_cons_zero, List.getElem_cons_succ, List.setIfInBounds_toArray, List.set_cons_zero, List.set_cons_succ]
            refine wpAnyH_take (i := 11) (v := ?_) rfl (by kernel_rfl) (by kernel_rfl) (by kernel_rfl) (fun _ _ _ h => h) (Or.inl ⟨by rfl, ?hy13⟩) (by assumption) ?ty13
            case hy13 => (intro w hSw; (try dsimp only at hSw); go_simp; all_goals with_reducible rfl)
            simp only [Act.put, List.getElem_toArray, List.getElem_cons_zero, List.getElem_cons_succ, List.setIfInBounds_toArray, List.set_cons_zero, List.set_cons_succ]
            refine wpAnyH_done (by kernel_rfl) ?_ _
            go_wp2
            go_ret2
            rw [HO.out]
            exact ⟨hb2w, v2, rfl, by rw [HF.out]; exact ho2⟩
        · have hup : 0 < (str u).size := by omega
          have gu := str_get hBu (i := 0) hup
          have h1u : (1 : Int) ≤ (u.length : Int) := by omega
          have hnu : ((str u).toList == ByteArray.toList ⟨#[]⟩) = false := texts_ne (fun e => by rw [e] at hup; exact absurd hup (by decide))
          have hn2 : ¬ (str u).toList = [] := fun e => by
            have h0 : (⟨#[]⟩ : ByteArray).toList = [] := by rw [ByteArray.toList_eq]
            rw [e, h0] at hnu
            cases hnu
          have hn3 : (str u).toList.isEmpty = false := List.isEmpty_eq_false_iff.2 hn2
          have hn4 : 0 < u.length := by omega
          clear hlu
          by_cases h32 : nth u 0 = 32
          · have HF : Hid (fdL t = (x, str (u.drop 1))) := by
              have h := HF0.out
              unfold oneOff at h
              rw [if_pos h32] at h
              exact h
            have hey : (str u).extract 1 u.length = str (u.drop 1) := by rw [ext_str, List.take_length]
            rw [h32] at gu
            generalize str (u.drop 1) = y at *
            have hbAB : Below w.heap.size w ((w.drew.alloc (.cells #[] 122)).alloc (.cells #[.string x, .string y] 122)) := hbA.alloc hbA.size _
            have hbBA : Below w.heap.size w ((w.drew.alloc (.cells #[.string x, .string y] 122)).alloc (.cells #[] 122)) := (hbB y).alloc (hbB y).size _
            go_wp2_with fail
            refine wp_region_held_drew (S := fun _ => True) (by kernel_rfl) ?hS14 (fun hHeld => ?_)
            case hS14 => exact trivial
            refine wpAnyH_take (i := 1) (v := ?_) rfl (by kernel_rfl) (by kernel_rfl) (by kernel_rfl) (fun _ _ _ h => h) (Or.inl ⟨by rfl, ?hy15⟩) (by assumption) ?ty15
            case hy15 => (intro w hSw; (try dsimp only at hSw); go_simp; all_goals with_reducible rfl)
            simp only [Act.put, List.getElem_toArray, List.getElem_cons_zero, List.getElem_cons_succ, List.setIfInBounds_toArray, List.set_cons_zero, List.set_cons_succ]
            refine wpAnyH_take (i := 3) (v := ?_) rfl (by kernel_rfl) (by kernel_rfl) (by kernel_rfl) (fun _ _ _ h => h) (Or.inl ⟨by rfl, ?hy16⟩) (by assumption) ?ty16
            case hy16 => (intro w hSw; (try dsimp only at hSw); go_simp; all_goals with_reducible rfl)
            simp only [Act.put, List.getElem_toArray, List.getElem_cons_zero, List.getElem_cons_succ, List.setIfInBounds_toArray, List.set_cons_zero, List.set_cons_succ]
            refine wpAnyH_take (i := 4) (v := ?_) rfl (by kernel_rfl) (by kernel_rfl) (by kernel_rfl) (fun _ _ _ h => h) (Or.inl ⟨by rfl, ?hy17⟩) (by assumption) ?ty17
            case hy17 => (intro w hSw; (try dsimp only at hSw); go_simp; all_goals with_reducible rfl)
            simp only [Act.put, List.getElem_toArray, List.getElem_cons_zero, List.getElem_cons_succ, List.setIfInBounds_toArray, List.set_cons_zero, List.set_cons_succ]
            refine wpAnyH_take (i := 5) (v := ?_) rfl (by kernel_rfl) (by kernel_rfl) (by kernel_rfl) (fun _ _ _ h => h) (Or.inl ⟨by rfl, ?hy18⟩) (by assumption) ?ty18
            case hy18 => (intro w hSw; (try dsimp only at hSw); go_simp; all_goals with_reducible rfl)
            simp only [Act.put, List.getElem_toArray, List.getElem_cons_zero, List.getElem_cons_succ, List.setIfInBounds_toArray, List.set_cons_zero, List.set_cons_succ]
            refine wpAnyH_take (i := 6) (v := ?_) rfl (by kernel_rfl) (by kernel_rfl) (by kernel_rfl) (fun _ _ _ h => h) (Or.inl ⟨by rfl, ?hy19⟩) (by assumption) ?ty19
            case hy19 => (intro w hSw; (try dsimp only at hSw); go_simp; all_goals with_reducible rfl)
            simp only [Act.put, List.getElem_toArray, List.getElem_cons_zero, List.getElem_cons_succ, List.setIfInBounds_toArray, List.set_cons_zero, List.set_cons_succ]
            refine wpAnyH_take (i := 7) (v := ?_) rfl (by kernel_rfl) (by kernel_rfl) (by kernel_rfl) (fun _ _ _ h => h) (Or.inl ⟨by rfl, ?hy20⟩) (by assumption) ?ty20
            case hy20 => (intro w hSw; (try dsimp only at hSw); go_simp; all_goals with_reducible rfl)
            simp only [Act.put, List.getElem_toArray, List.getElem_cons_zero, List.getElem_cons_succ, List.setIfInBounds_toArray, List.set_cons_zero, List.set_cons_succ]
            refine wpAnyH_ready (rs := [0, 8]) (by kernel_rfl) (by simp) ?_
            refine AllReadyH.cons rfl (fun K hK => ?_) (AllReadyH.cons rfl (fun K hK => ?_) AllReadyH.nil)
            · go_simp
              refine hK.out _ _ trivial (fun hHeld => ?_)
              clear hK K
              refine wpAnyH_ready (rs := [2, 8]) (by kernel_rfl) (by simp) ?_
              refine AllReadyH.cons rfl (fun K hK => ?_) (AllReadyH.cons rfl (fun K hK => ?_) AllReadyH.nil)
              · refine step_appF (by rfl) _ _ (by rfl) w.heap.size _ [] (by rfl) (OwnF.lit0 w.drew _ (Nat.le_refl _)) ⟨b, off, none⟩ n cap l (by rfl) HL.out (hnew _ (hbA)) (by simp; omega) (hbA).size ?_
                intro v1 w1 ho1 hb1 hg1
                rw [List.nil_append] at ho1
                have hb1w := (hbA).trans hb1
                refine hK.out _ _ trivial (fun hHeld => ?_)
                clear hK K
                refine wpAnyH_ready (rs := [8]) (by kernel_rfl) (by simp) ?_
                refine AllReadyH.cons rfl (fun K hK => ?_) AllReadyH.nil
                go_simp
                refine hK.out _ _ trivial (fun hHeld => ?_)
                clear hK K
                refine wpAnyH_ready (rs := [9]) (by kernel_rfl) (by simp) ?_
                refine AllReadyH.cons rfl (fun K hK => ?_) AllReadyH.nil
                refine step_appF (by rfl) _ _ (by rfl) w.heap.size _ l (by rfl) (ho1.alloc _) ⟨w1.heap.size, 0, none⟩ 1 1 [(x, y)] (by rfl) (by rfl) ((FCell.new w1 _ rfl x y).nw) (by have := HL.out; omega) (hb1w.alloc hb1w.size _).size ?_
                intro v2 w2 ho2 hb2 _
                have hb2w := (hb1w.alloc hb1w.size _).trans hb2
                refine hK.out _ _ trivial (fun hHeld => ?_)
                clear hK K
                refine wpAnyH_take (i := 10) (v := ?_) rfl (by kernel_rfl) (by kernel_rfl) (by kernel_rfl) (fun _ _ _ h => h) (Or.inl ⟨by rfl, ?hy21⟩) (by assumption) ?ty21
                case hy21 => (intro w hSw; (try dsimp only at hSw); go_simp; all_goals with_reducible rfl)
                simp only [Act.put, List.getElem_toArray, List.getElem_cons_zero, List.getElem_cons_succ, List.setIfInBounds_toArray, List.set_cons_zero, List.set_cons_succ]
                refine wpAnyH_take (i := 11) (v := ?_) rfl (by kernel_rfl) (by kernel_rfl) (by kernel_rfl) (fun _ _ _ h => h) (Or.inl ⟨by rfl, ?hy22⟩) (by assumption) ?ty22
                case hy22 => (intro w hSw; (try dsimp only at hSw); go_simp; all_goals with_reducible rfl)
                simp only [Act.put, List.getElem_toArray, List.getElem_cons_zero, List.getElem_cons_succ, List.setIfInBounds_toArray, List.set_cons_zero, List.set_cons_succ]
                refine wpAnyH_done (by kernel_rfl) ?_ _
                go_wp2
                go_ret2
                rw [HO.out]
                exact ⟨hb2w, v2, rfl, by rw [HF.out]; exact ho2⟩
              · go_simp
                refine hK.out _ _ trivial (fun hHeld => ?_)
                clear hK K
                refine wpAnyH_ready (rs := [2]) (by kernel_rfl) (by simp) ?_
                refine AllReadyH.cons rfl (fun K hK => ?_) AllReadyH.nil
                refine step_appF (by rfl) _ _ (by rfl) w.heap.size _ [] (by rfl) ((OwnF.lit0 w.drew _ (Nat.le_refl _)).alloc _) ⟨b, off, none⟩ n cap l (by rfl) HL.out (hnew _ (hbAB)) (by simp; omega) (hbAB).size ?_
                intro v1 w1 ho1 hb1 hg1
                rw [List.nil_append] at ho1
                have hb1w := (hbAB).trans hb1
                refine hK.out _ _ trivial (fun hHeld => ?_)
                clear hK K
                refine wpAnyH_ready (rs := [9]) (by kernel_rfl) (by simp) ?_
                refine AllReadyH.cons rfl (fun K hK => ?_) AllReadyH.nil
                refine step_appF (by rfl) _ _ (by rfl) w.heap.size _ l (by rfl) (ho1) ⟨w.heap.size + 1, 0, none⟩ 1 1 [(x, y)] (by rfl) (by rfl) (((FCell.new (w.drew.alloc (.cells #[] 122)) (w.heap.size + 1) (by simp) x y).far hg1 (by simp [Value.ownBlock])).nw) (by have := HL.out; omega) (hb1w).size ?_
                intro v2 w2 ho2 hb2 _
                have hb2w := (hb1w).trans hb2
                refine hK.out _ _ trivial (fun hHeld => ?_)
                clear hK K
                refine wpAnyH_take (i := 10) (v := ?_) rfl (by kernel_rfl) (by kernel_rfl) (by kernel_rfl) (fun _ _ _ h => h) (Or.inl ⟨by rfl, ?hy23⟩) (by assumption) ?ty23
                case hy23 => (intro w hSw; (try dsimp only at hSw); go_simp; all_goals with_reducible rfl)
                simp only [Act.put, List.getElem_toArray, List.getElem_cons_zero, List.getElem_cons_succ, List.setIfInBounds_toArray, List.set_cons_zero, List.set_cons_succ]
                refine wpAnyH_take (i := 11) (v := ?_) rfl (by kernel_rfl) (by kernel_rfl) (by kernel_rfl) (fun _ _ _ h => h) (Or.inl ⟨by rfl, ?hy24⟩) (by assumption) ?ty24
                case hy24 => (intro w hSw; (try dsimp only at hSw); go_simp; all_goals with_reducible rfl)
                simp only [Act.put, List.getElem_toArray, List.getElem_cons_zero, List.getElem_cons_succ, List.setIfInBounds_toArray, List.set_cons_zero, List.set_cons_succ]
                refine wpAnyH_done (by kernel_rfl) ?_ _
                go_wp2
                go_ret2
                rw [HO.out]
                exact ⟨hb2w, v2, rfl, by rw [HF.out]; exact ho2⟩
            · go_simp
              refine hK.out _ _ trivial (fun hHeld => ?_)
              clear hK K
              refine wpAnyH_ready (rs := [0]) (by kernel_rfl) (by simp) ?_
              refine AllReadyH.cons rfl (fun K hK => ?_) AllReadyH.nil
              go_simp
              refine hK.out _ _ trivial (fun hHeld => ?_)
              clear hK K
              refine wpAnyH_ready (rs := [2]) (by kernel_rfl) (by simp) ?_
              refine AllReadyH.cons rfl (fun K hK => ?_) AllReadyH.nil
              refine step_appF (by rfl) _ _ (by rfl) w.heap.size _ [] (by rfl) (OwnF.lit0g (w.drew.alloc (.cells #[.string x, .string y] 122)) _ (w.heap.size + 1) (by simp) (by simp)) ⟨b, off, none⟩ n cap l (by rfl) HL.out (hnew _ (hbBA)) (by simp; omega) (hbBA).size ?_
              intro v1 w1 ho1 hb1 hg1
              rw [List.nil_append] at ho1
              have hb1w := (hbBA).trans hb1
              refine hK.out _ _ trivial (fun hHeld => ?_)
              clear hK K
              refine wpAnyH_ready (rs := [9]) (by kernel_rfl) (by simp) ?_
              refine AllReadyH.cons rfl (fun K hK => ?_) AllReadyH.nil
              refine step_appF (by rfl) _ _ (by rfl) w.heap.size _ l (by rfl) (ho1) ⟨w.heap.size, 0, none⟩ 1 1 [(x, y)] (by rfl) (by rfl) ((((FCell.new w.drew w.heap.size rfl x y).alloc _).far hg1 (by simp [Value.ownBlock])).nw) (by have := HL.out; omega) (hb1w).size ?_
              intro v2 w2 ho2 hb2 _
              have hb2w := (hb1w).trans hb2
              refine hK.out _ _ trivial (fun hHeld => ?_)
              clear hK K
              refine wpAnyH_take (i := 10) (v := ?_) rfl (by kernel_rfl) (by kernel_rfl) (by kernel_rfl) (fun _ _ _ h => h) (Or.inl ⟨by rfl, ?hy25⟩) (by assumption) ?ty25
              case hy25 => (intro w hSw; (try dsimp only at hSw); go_simp; all_goals with_reducible rfl)
              simp only [Act.put, List.getElem_toArray, List.getElem_cons_zero, List.getElem_cons_succ, List.setIfInBounds_toArray, List.set_cons_zero, List.set_cons_succ]
              refine wpAnyH_take (i := 11) (v := ?_) rfl (by kernel_rfl) (by kernel_rfl) (by kernel_rfl) (fun _ _ _ h => h) (Or.inl ⟨by rfl, ?hy26⟩) (by assumption) ?ty26
              case hy26 => (intro w hSw; (try dsimp only at hSw); go_simp; all_goals with_reducible rfl)
              simp only [Act.put, List.getElem_toArray, List.getElem_cons_zero, List.getElem_cons_succ, List.setIfInBounds_toArray, List.set_cons_zero, List.set_cons_succ]
              refine wpAnyH_done (by kernel_rfl) ?_ _
              go_wp2
              go_ret2
              rw [HO.out]
              exact ⟨hb2w, v2, rfl, by rw [HF.out]; exact ho2⟩
          · have HF : Hid (fdL t = (x, str u)) := by
              have h := HF0.out
              unfold oneOff at h
              rw [if_neg h32] at h
              exact h
            have h32' : ((nth u 0 : Int) == 32) = false := by simp; omega
            generalize nth u 0 = z at *
            have hbAB : Below w.heap.size w ((w.drew.alloc (.cells #[] 122)).alloc (.cells #[.string x, .string (str u)] 122)) := hbA.alloc hbA.size _
            have hbBA : Below w.heap.size w ((w.drew.alloc (.cells #[.string x, .string (str u)] 122)).alloc (.cells #[] 122)) := (hbB (str u)).alloc (hbB (str u)).size _
            go_wp2_with fail
            refine wp_region_held_drew (S := fun _ => True) (by kernel_rfl) ?hS27 (fun hHeld => ?_)
            case hS27 => exact trivial
            refine wpAnyH_take (i := 1) (v := ?_) rfl (by kernel_rfl) (by kernel_rfl) (by kernel_rfl) (fun _ _ _ h => h) (Or.inl ⟨by rfl, ?hy28⟩) (by assumption) ?ty28
            case hy28 => (intro w hSw; (try dsimp only at hSw); go_simp; all_goals with_reducible rfl)
            simp only [Act.put, List.getElem_toArray, List.getElem_cons_zero, List.getElem_cons_succ, List.setIfInBounds_toArray, List.set_cons_zero, List.set_cons_succ]
            refine wpAnyH_take (i := 3) (v := ?_) rfl (by kernel_rfl) (by kernel_rfl) (by kernel_rfl) (fun _ _ _ h => h) (Or.inl ⟨by rfl, ?hy29⟩) (by assumption) ?ty29
            case hy29 => (intro w hSw; (try dsimp only at hSw); go_simp; all_goals with_reducible rfl)
            simp only [Act.put, List.getElem_toArray, List.getElem_cons_zero, List.getElem_cons_succ, List.setIfInBounds_toArray, List.set_cons_zero, List.set_cons_succ]
            refine wpAnyH_take (i := 4) (v := ?_) rfl (by kernel_rfl) (by kernel_rfl) (by kernel_rfl) (fun _ _ _ h => h) (Or.inl ⟨by rfl, ?hy30⟩) (by assumption) ?ty30
            case hy30 => (intro w hSw; (try dsimp only at hSw); go_simp; all_goals with_reducible rfl)
            simp only [Act.put, List.getElem_toArray, List.getElem_cons_zero, List.getElem_cons_succ, List.setIfInBounds_toArray, List.set_cons_zero, List.set_cons_succ]
            refine wpAnyH_take (i := 5) (v := ?_) rfl (by kernel_rfl) (by kernel_rfl) (by kernel_rfl) (fun _ _ _ h => h) (Or.inl ⟨by rfl, ?hy31⟩) (by assumption) ?ty31
            case hy31 => (intro w hSw; (try dsimp only at hSw); go_simp; all_goals with_reducible rfl)
            simp only [Act.put, List.getElem_toArray, List.getElem_cons_zero, List.getElem_cons_succ, List.setIfInBounds_toArray, List.set_cons_zero, List.set_cons_succ]
            refine wpAnyH_take (i := 6) (v := ?_) rfl (by kernel_rfl) (by kernel_rfl) (by kernel_rfl) (fun _ _ _ h => h) (Or.inl ⟨by rfl, ?hy32⟩) (by assumption) ?ty32
            case hy32 => (intro w hSw; (try dsimp only at hSw); go_simp; all_goals with_reducible rfl)
            simp only [Act.put, List.getElem_toArray, List.getElem_cons_zero, List.getElem_cons_succ, List.setIfInBounds_toArray, List.set_cons_zero, List.set_cons_succ]
            refine wpAnyH_take (i := 7) (v := ?_) rfl (by kernel_rfl) (by kernel_rfl) (by kernel_rfl) (fun _ _ _ h => h) (Or.inl ⟨by rfl, ?hy33⟩) (by assumption) ?ty33
            case hy33 => (intro w hSw; (try dsimp only at hSw); go_simp; all_goals with_reducible rfl)
            simp only [Act.put, List.getElem_toArray, List.getElem_cons_zero, List.getElem_cons_succ, List.setIfInBounds_toArray, List.set_cons_zero, List.set_cons_succ]
            refine wpAnyH_ready (rs := [0, 8]) (by kernel_rfl) (by simp) ?_
            refine AllReadyH.cons rfl (fun K hK => ?_) (AllReadyH.cons rfl (fun K hK => ?_) AllReadyH.nil)
            · go_simp
              refine hK.out _ _ trivial (fun hHeld => ?_)
              clear hK K
              refine wpAnyH_ready (rs := [2, 8]) (by kernel_rfl) (by simp) ?_
              refine AllReadyH.cons rfl (fun K hK => ?_) (AllReadyH.cons rfl (fun K hK => ?_) AllReadyH.nil)
              · refine step_appF (by rfl) _ _ (by rfl) w.heap.size _ [] (by rfl) (OwnF.lit0 w.drew _ (Nat.le_refl _)) ⟨b, off, none⟩ n cap l (by rfl) HL.out (hnew _ (hbA)) (by simp; omega) (hbA).size ?_
                intro v1 w1 ho1 hb1 hg1
                rw [List.nil_append] at ho1
                have hb1w := (hbA).trans hb1
                refine hK.out _ _ trivial (fun hHeld => ?_)
                clear hK K
                refine wpAnyH_ready (rs := [8]) (by kernel_rfl) (by simp) ?_
                refine AllReadyH.cons rfl (fun K hK => ?_) AllReadyH.nil
                go_simp
                refine hK.out _ _ trivial (fun hHeld => ?_)
                clear hK K
                refine wpAnyH_ready (rs := [9]) (by kernel_rfl) (by simp) ?_
                refine AllReadyH.cons rfl (fun K hK => ?_) AllReadyH.nil
                refine step_appF (by rfl) _ _ (by rfl) w.heap.size _ l (by rfl) (ho1.alloc _) ⟨w1.heap.size, 0, none⟩ 1 1 [(x, str u)] (by rfl) (by rfl) ((FCell.new w1 _ rfl x (str u)).nw) (by have := HL.out; omega) (hb1w.alloc hb1w.size _).size ?_
                intro v2 w2 ho2 hb2 _
                have hb2w := (hb1w.alloc hb1w.size _).trans hb2
                refine hK.out _ _ trivial (fun hHeld => ?_)
                clear hK K
                refine wpAnyH_take (i := 10) (v := ?_) rfl (by kernel_rfl) (by kernel_rfl) (by kernel_rfl) (fun _ _ _ h => h) (Or.inl ⟨by rfl, ?hy34⟩) (by assumption) ?ty34
                case hy34 => (intro w hSw; (try dsimp only at hSw); go_simp; all_goals with_reducible rfl)
                simp only [Act.put, List.getElem_toArray, List.getElem_cons_zero, List.getElem_cons_succ, List.setIfInBounds_toArray, List.set_cons_zero, List.set_cons_succ]
                refine wpAnyH_take (i := 11) (v := ?_) rfl (by kernel_rfl) (by kernel_rfl) (by kernel_rfl) (fun _ _ _ h => h) (Or.inl ⟨by rfl, ?hy35⟩) (by assumption) ?ty35
                case hy35 => (intro w hSw; (try dsimp only at hSw); go_simp; all_goals with_reducible rfl)
                simp only [Act.put, List.getElem_toArray, List.getElem_cons_zero, List.getElem_cons_succ, List.setIfInBounds_toArray, List.set_cons_zero, List.set_cons_succ]
                refine wpAnyH_done (by kernel_rfl) ?_ _
                go_wp2
                go_ret2
                rw [HO.out]
                exact ⟨hb2w, v2, rfl, by rw [HF.out]; exact ho2⟩
              · go_simp
                refine hK.out _ _ trivial (fun hHeld => ?_)
                clear hK K
                refine wpAnyH_ready (rs := [2]) (by kernel_rfl) (by simp) ?_
                refine AllReadyH.cons rfl (fun K hK => ?_) AllReadyH.nil
                refine step_appF (by rfl) _ _ (by rfl) w.heap.size _ [] (by rfl) ((OwnF.lit0 w.drew _ (Nat.le_refl _)).alloc _) ⟨b, off, none⟩ n cap l (by rfl) HL.out (hnew _ (hbAB)) (by simp; omega) (hbAB).size ?_
                intro v1 w1 ho1 hb1 hg1
                rw [List.nil_append] at ho1
                have hb1w := (hbAB).trans hb1
                refine hK.out _ _ trivial (fun hHeld => ?_)
                clear hK K
                refine wpAnyH_ready (rs := [9]) (by kernel_rfl) (by simp) ?_
                refine AllReadyH.cons rfl (fun K hK => ?_) AllReadyH.nil
                refine step_appF (by rfl) _ _ (by rfl) w.heap.size _ l (by rfl) (ho1) ⟨w.heap.size + 1, 0, none⟩ 1 1 [(x, str u)] (by rfl) (by rfl) (((FCell.new (w.drew.alloc (.cells #[] 122)) (w.heap.size + 1) (by simp) x (str u)).far hg1 (by simp [Value.ownBlock])).nw) (by have := HL.out; omega) (hb1w).size ?_
                intro v2 w2 ho2 hb2 _
                have hb2w := (hb1w).trans hb2
                refine hK.out _ _ trivial (fun hHeld => ?_)
                clear hK K
                refine wpAnyH_take (i := 10) (v := ?_) rfl (by kernel_rfl) (by kernel_rfl) (by kernel_rfl) (fun _ _ _ h => h) (Or.inl ⟨by rfl, ?hy36⟩) (by assumption) ?ty36
                case hy36 => (intro w hSw; (try dsimp only at hSw); go_simp; all_goals with_reducible rfl)
                simp only [Act.put, List.getElem_toArray, List.getElem_cons_zero, List.getElem_cons_succ, List.setIfInBounds_toArray, List.set_cons_zero, List.set_cons_succ]
                refine wpAnyH_take (i := 11) (v := ?_) rfl (by kernel_rfl) (by kernel_rfl) (by kernel_rfl) (fun _ _ _ h => h) (Or.inl ⟨by rfl, ?hy37⟩) (by assumption) ?ty37
                case hy37 => (intro w hSw; (try dsimp only at hSw); go_simp; all_goals with_reducible rfl)
                simp only [Act.put, List.getElem_toArray, List.getElem_cons_zero, List.getElem_cons_succ, List.setIfInBounds_toArray, List.set_cons_zero, List.set_cons_succ]
                refine wpAnyH_done (by kernel_rfl) ?_ _
                go_wp2
                go_ret2
                rw [HO.out]
                exact ⟨hb2w, v2, rfl, by rw [HF.out]; exact ho2⟩
            · go_simp
              refine hK.out _ _ trivial (fun hHeld => ?_)
              clear hK K
              refine wpAnyH_ready (rs := [0]) (by kernel_rfl) (by simp) ?_
              refine AllReadyH.cons rfl (fun K hK => ?_) AllReadyH.nil
              go_simp
              refine hK.out _ _ trivial (fun hHeld => ?_)
              clear hK K
              refine wpAnyH_ready (rs := [2]) (by kernel_rfl) (by simp) ?_
              refine AllReadyH.cons rfl (fun K hK => ?_) AllReadyH.nil
              refine step_appF (by rfl) _ _ (by rfl) w.heap.size _ [] (by rfl) (OwnF.lit0g (w.drew.alloc (.cells #[.string x, .string (str u)] 122)) _ (w.heap.size + 1) (by simp) (by simp)) ⟨b, off, none⟩ n cap l (by rfl) HL.out (hnew _ (hbBA)) (by simp; omega) (hbBA).size ?_
              intro v1 w1 ho1 hb1 hg1
              rw [List.nil_append] at ho1
              have hb1w := (hbBA).trans hb1
              refine hK.out _ _ trivial (fun hHeld => ?_)
              clear hK K
              refine wpAnyH_ready (rs := [9]) (by kernel_rfl) (by simp) ?_
              refine AllReadyH.cons rfl (fun K hK => ?_) AllReadyH.nil
              refine step_appF (by rfl) _ _ (by rfl) w.heap.size _ l (by rfl) (ho1) ⟨w.heap.size, 0, none⟩ 1 1 [(x, str u)] (by rfl) (by rfl) ((((FCell.new w.drew w.heap.size rfl x (str u)).alloc _).far hg1 (by simp [Value.ownBlock])).nw) (by have := HL.out; omega) (hb1w).size ?_
              intro v2 w2 ho2 hb2 _
              have hb2w := (hb1w).trans hb2
              refine hK.out _ _ trivial (fun hHeld => ?_)
              clear hK K
              refine wpAnyH_take (i := 10) (v := ?_) rfl (by kernel_rfl) (by kernel_rfl) (by kernel_rfl) (fun _ _ _ h => h) (Or.inl ⟨by rfl, ?hy38⟩) (by assumption) ?ty38
              case hy38 => (intro w hSw; (try dsimp only at hSw); go_simp; all_goals with_reducible rfl)
              simp only [Act.put, List.getElem_toArray, List.getElem_cons_zero, List.getElem_cons_succ, List.setIfInBounds_toArray, List.set_cons_zero, List.set_cons_succ]
              refine wpAnyH_take (i := 11) (v := ?_) rfl (by kernel_rfl) (by kernel_rfl) (by kernel_rfl) (fun _ _ _ h => h) (Or.inl ⟨by rfl, ?hy39⟩) (by assumption) ?ty39
              case hy39 => (intro w hSw; (try dsimp only at hSw); go_simp; all_goals with_reducible rfl)
              simp only [Act.put, List.getElem_toArray, List.getElem_cons_zero, List.getElem_cons_succ, List.setIfInBounds_toArray, List.set_cons_zero, List.set_cons_succ]
              refine wpAnyH_done (by kernel_rfl) ?_ _
              go_wp2
              go_ret2
              rw [HO.out]
              exact ⟨hb2w, v2, rfl, by rw [HF.out]; exact ho2⟩
      · have h58' : ((nth t k : Int) == 58) = false := by simp; omega
        have HM : Hid (∀ i, i < k + 1 → nth t i ≠ 58) := fun i hi => by
          by_cases he : i = k
          · rw [he]; exact h58
          · exact hall i (by omega)
        clear hall
        go_wp2
        go_round
        case rel => exact ⟨k + 1, by omega, by go_num, HM.out⟩
        case measure => simp [intOf]; omega
    · have hki : ¬ (k : Int) < (t.length : Int) := by omega
      have HC : Hid (clN t = t.length) := clN_all (fun i hi => hall i (by omega))
      have hcl : ¬ clN t < t.length := by rw [HC.out]; omega
      have HO : Hid (_) := HZ.out hcl
      clear hall hcl HY HZ
      go_wp2
      go_ret2
      rw [HO.out]
      exact ⟨Below.refl _ _, rfl⟩
end Go.Proofs.YtaefomiofoakhaaGreatDoor
