/- The letters of a told word, the model's: by a plain function. -/
import Derived.Test.YtfbjodbihenmjaaGreatDoorFldToWPl
import Derived.Test.YtfbjodbihenmjaaGreatDoorEncQ3ToDMath
import Derived.Test.YtfbjodbihenmjaaGreatDoorDecB4
namespace Go.Proofs.YtfbjodbihenmjaaGreatDoor
open Go.RowKit

/-- Bytes, or none. -/
def OptEnd (o : Option (List Nat)) (w : World) (e : Ending) (w' : World) : Prop := Below w.heap.size w w' ∧ match o with
  | some l => ∃ v, e = .returned (.tuple #[v, .bool true]) ∧ Own w' w.heap.size v l
  | none => ∃ v, e = .returned (.tuple #[v, .bool false])
theorem OptEnd.no {o : Option (List Nat)} {w w' : World} (hb : Below w.heap.size w w') (h : o = none) (v : Value) : OptEnd o w (.returned (.tuple #[v, .bool false])) w' := by subst h; exact ⟨hb, v, rfl⟩
theorem OptEnd.yes {o : Option (List Nat)} {w w' : World} {l : List Nat} {v : Value} (hb : Below w.heap.size w w') (h : o = some l) (ho : Own w' w.heap.size v l) : OptEnd o w (.returned (.tuple #[v, .bool true])) w' := by subst h; exact ⟨hb, v, rfl, ho⟩
theorem BasEnd.opt {t : List Nat} {w : World} {e : Ending} {w' : World} (h : BasEnd t w e w') : OptEnd (Xf.dec t) w e w' := by
  obtain ⟨v, ok, l, rfl, ho, hb, ⟨rfl, h⟩ | ⟨rfl, h⟩⟩ := h
  · exact .yes hb h ho
  · exact .no hb h v
theorem app_new {wr : World} {q : Nat} : ∀ (x : World), x = (wr.alloc (.cells #[.int .u8 (q : Int)] 5)).drew → ∀ j, j < 1 → x.cell? ((⟨wr.heap.size, 0, none⟩ : Addr).add j) = some (.int .u8 (nth [q] j : Int)) := by
  intro x hx j hj
  obtain rfl : j = 0 := by omega
  subst hx
  rw [Go.WideShapes.add_plain]
  show (wr.alloc (.cells #[.int .u8 (q : Int)] 5)).cell? _ = _
  simp [nth]

set_option maxHeartbeats 3200000 in
set_option maxRecDepth 100000 in
theorem l4Letters_any (t : List Nat) (n : Nat) (w : World) (hl : t.length = n) (hB : IsB t) (hn : n ≤ 1048576) :
    Calls Tryz.prog 139 #[.string (str t)] w fun e w' => OptEnd (ltV t) w e w' := by
  have hsz : (str t).size = n := by rw [str_size, hl]
  have HL : Hid (t.length = n) := hl
  clear hl
  go_enter Tryz.func139, Tryz.ntmps139
  go_wp2
  have hown0 : Own (w.alloc (.cells #[] 5)) w.heap.size (.slice (some ⟨w.heap.size, 0, none⟩) 0 0) [] := Own.lit w _ (Nat.le_refl _) #[] [] rfl (by decide)
  have hbel0 : Below w.heap.size w (w.alloc (.cells #[] 5)) := (Below.refl _ _).alloc (Nat.le_refl _) _
  go_loopw [4, 5] (fun v i wr => ∃ (k : Nat) (out : List Nat), k ≤ n ∧ i = .int .i64 k ∧ Own wr w.heap.size v out ∧ Below w.heap.size w wr ∧ Hid (ltV t = (ltV (t.drop k)).map (out ++ ·)) ∧ out.length ≤ k)
    (fun _ i _ => n - (intOf i).toNat)
  case atStart => exact ⟨0, [], Nat.zero_le _, rfl, hown0, hbel0, by show _ = _; rw [List.drop_zero]; cases ltV t <;> simp, Nat.le_refl _⟩
  case round =>
    obtain ⟨k, out, hk, rfl, hown, hbel, HQ, hol⟩ := hrel
    clear hown0 hbel0
    have hz := hbel.size
    by_cases hkn : k < n
    · have g0 := str_get hB (i := k) (by rw [hsz]; exact hkn)
      have hk' : (k : Int) < (n : Int) := by omega
      have hkl : k < t.length := by have := HL.out; omega
      have hx := nth_lt hB k
      by_cases h95 : nth t k = 95
      · have HM : Hid (ltV t = (ltV (t.drop (k + 1))).map ((out ++ [32]) ++ ·)) := by
          show _ = _
          rw [HQ.out, ltV_at_us hkl h95, omapN_app]
        rw [h95] at g0
        clear HQ
        go_wp2_with (at_builtin; refine wpList_app_new rfl _ _ rfl (w.heap.size) _ out rfl hown 1 1 [32] rfl rfl rfl (by omega) hz ?_; intro v' w2 hown' hb')
        go_wp2
        go_roundw
        case rel => exact ⟨k + 1, out ++ [32], by omega, by go_num, hown', hbel.trans hb', HM, by simp; omega⟩
        case measure => simp [intOf]; omega
      · have n95 : (((nth t k : Nat) : Int) == 95) = false := beq_eq_false_iff_ne.2 (by omega)
        by_cases h33 : nth t k < 33
        · have r1 : ((nth t k : Nat) : Int) < 33 := by omega
          have HM : Hid (ltV t = none) := by
            show _ = _
            rw [HQ.out, ltV_at_bad hkl (.inl h33)]; rfl
          clear HQ
          go_wp2
          go_ret2
          exact .no hbel HM.out _
        · have r1 : ¬ ((nth t k : Nat) : Int) < 33 := by omega
          by_cases h126 : 126 < nth t k
          · have r2 : (126 : Int) < ((nth t k : Nat) : Int) := by omega
            have HM : Hid (ltV t = none) := by
              show _ = _
              rw [HQ.out, ltV_at_bad hkl (.inr h126)]; rfl
            clear HQ
            go_wp2
            go_ret2
            exact .no hbel HM.out _
          · have r2 : ¬ (126 : Int) < ((nth t k : Nat) : Int) := by omega
            by_cases h61 : nth t k = 61
            · rw [h61] at g0
              clear r1 r2 n95
              by_cases hn2 : k + 2 < n
              · have hn1 : k + 1 < n := by omega
                have g1 := str_get hB (i := k + 1) (by rw [hsz]; exact hn1)
                have g2 := str_get hB (i := k + 2) (by rw [hsz]; exact hn2)
                have x1 := nth_lt hB (k + 1)
                have x2 := nth_lt hB (k + 2)
                have hn2' : ¬ (n : Int) ≤ (k : Int) + 2 := by omega
                have hn1i : (k : Int) + 1 < (n : Int) := by omega
                have hn2i : (k : Int) + 2 < (n : Int) := by omega
                by_cases ha : Xq.unhex (nth t (k + 1)) < 16
                · have Ha0 : Hid (hexI (nth t (k + 1)) = (Xq.unhex (nth t (k + 1)) : Int)) := hexI_in ha
                  by_cases hb : Xq.unhex (nth t (k + 2)) < 16
                  · have Hb0 : Hid (hexI (nth t (k + 2)) = (Xq.unhex (nth t (k + 2)) : Int)) := hexI_in hb
                    have HM0 : Hid (ltV t = (ltV (t.drop (k + 3))).map ((out ++ [Xq.unhex (nth t (k + 1)) * 16 + Xq.unhex (nth t (k + 2))]) ++ ·)) := by
                      show _ = _
                      rw [HQ.out, ltV_at_hex (by have := HL.out; omega) h61 ha hb, omapN_app]
                    obtain ⟨xa, hxa⟩ : ∃ xa, Xq.unhex (nth t (k + 1)) = xa := ⟨_, rfl⟩
                    obtain ⟨xb, hxb⟩ : ∃ xb, Xq.unhex (nth t (k + 2)) = xb := ⟨_, rfl⟩
                    rw [hxa] at ha Ha0 HM0
                    rw [hxb] at hb Hb0 HM0
                    obtain ⟨q, hq⟩ : ∃ q, xa * 16 + xb = q := ⟨_, rfl⟩
                    rw [hq] at HM0
                    have Ha : Hid (hexI (nth t (k + 1)) = (xa : Int)) := Ha0
                    have Hb : Hid (hexI (nth t (k + 2)) = (xb : Int)) := Hb0
                    have HM : Hid (_) := HM0
                    have hq256 : q < 256 := by omega
                    have p1 : ¬ (xa : Int) < 0 := by omega
                    have p2 : ¬ (xb : Int) < 0 := by omega
                    have hw1 : IntKind.i64.wrap ((k : Int) + 1) = (k : Int) + 1 := wrap_small _ (by omega) (by omega)
                    have hw2 : IntKind.i64.wrap ((k : Int) + 2) = (k : Int) + 2 := wrap_small _ (by omega) (by omega)
                    have hw3 : IntKind.i64.wrap (16 * (xa : Int)) = 16 * (xa : Int) := wrap_small _ (by omega) (by omega)
                    have hw4 : IntKind.i64.wrap (16 * (xa : Int) + (xb : Int)) = (q : Int) := by rw [wrap_small _ (by omega) (by omega)]; omega
                    have hw5 : IntKind.u8.wrap (q : Int) = (q : Int) := wraps_u8 _ (by omega) (by omega)
                    have hnewq : ∀ x, x = (wr.alloc (.cells #[.int .u8 (q : Int)] 5)).drew → ∀ j, j < 1 → x.cell? ((⟨wr.heap.size, 0, none⟩ : Addr).add j) = some (.int .u8 (nth [q] j : Int)) := app_new
                    have hbA : Below w.heap.size wr (wr.alloc (.cells #[.int .u8 (q : Int)] 5)).drew := ((Below.refl _ _).alloc hz _).drew
                    clear HQ hxa hxb hq Ha0 Hb0 HM0
                    go_wp2_with fail
                    refine (l1HexValue_any (nth t (k + 1)) _ x1).mono ?_
                    rintro e u1 ⟨rfl, rfl⟩
                    rw [Ha.out]
                    go_wp2_with fail
                    refine (l1HexValue_any (nth t (k + 2)) _ x2).mono ?_
                    rintro e u2 ⟨rfl, rfl⟩
                    rw [Hb.out]
                    go_wp2_with fail
                    refine wp_region_held_drew (S := fun _ => True) (by kernel_rfl) ?hS1 (fun hHeld => ?_)
                    case hS1 => exact trivial
                    refine wpAnyH_take (i := 0) (v := ?_) rfl (by kernel_rfl) (by kernel_rfl) (by kernel_rfl) (fun _ _ _ h => h) (Or.inl ⟨by rfl, ?hy2⟩) (by assumption) ?ty2
                    case hy2 => (intro w hSw; (try dsimp only at hSw); go_simp; all_goals with_reducible rfl)
                    simp only [Act.put, List.getElem_toArray, List.getElem_cons_zero, List.setIfInBounds_toArray, List.set_cons_zero, List.set_cons_succ]
                    refine wpAnyH_take (i := 1) (v := ?_) rfl (by kernel_rfl) (by kernel_rfl) (by kernel_rfl) (fun _ _ _ h => h) (Or.inl ⟨by rfl, ?hy3⟩) (by assumption) ?ty3
                    case hy3 => (intro w hSw; (try dsimp only at hSw); go_simp; all_goals with_reducible rfl)
                    simp only [Act.put, List.getElem_toArray, List.getElem_cons_zero, List.getElem_cons_succ, List.setIfInBounds_toArray, List.set_cons_zero, List.set_cons_succ]
                    refine wpAnyH_take (i := 2) (v := ?_) rfl (by kernel_rfl) (by kernel_rfl) (by kernel_rfl) (fun _ _ _ h => h) (Or.inl ⟨by rfl, ?hy4⟩) (by assumption) ?ty4
                    case hy4 => (intro w hSw; (try dsimp only at hSw); go_simp; all_goals with_reducible rfl)
                    simp only [Act.put, List.getElem_toArray, List.getElem_cons_zero, List.getElem_cons_succ, List.setIfInBounds_toArray, List.set_cons_zero, List.set_cons_succ]
                    refine wpAnyH_take (i := 3) (v := .int .i64 ((k : Int) + 1)) rfl (by kernel_rfl) (by kernel_rfl) (by kernel_rfl) (fun _ _ _ h => h) (Or.inl ⟨by rfl, ?hy5⟩) (by assumption) ?ty5
                    case hy5 => (intro w hSw; (try dsimp only at hSw); go_simp; first | (simp [hw1]; done) | (all_goals with_reducible rfl))
                    simp only [Act.put, List.getElem_toArray, List.getElem_cons_zero, List.getElem_cons_succ, List.setIfInBounds_toArray, List.set_cons_zero, List.set_cons_succ]
                    refine wpAnyH_take (i := 4) (v := .int .u8 (nth t (k + 1) : Int)) rfl (by kernel_rfl) (by kernel_rfl) (by kernel_rfl) (fun _ _ _ h => h) (Or.inl ⟨by rfl, ?hy6⟩) (by assumption) ?ty6
                    case hy6 => (intro w hSw; (try dsimp only at hSw); go_simp; first | (intro hneg; omega) | (simp [g1]; done))
                    simp only [Act.put, List.getElem_toArray, List.getElem_cons_zero, List.getElem_cons_succ, List.setIfInBounds_toArray, List.set_cons_zero, List.set_cons_succ]
                    refine wpAnyH_take (i := 7) (v := ?_) rfl (by kernel_rfl) (by kernel_rfl) (by kernel_rfl) (fun _ _ _ h => h) (Or.inl ⟨by rfl, ?hy7⟩) (by assumption) ?ty7
                    case hy7 => (intro w hSw; (try dsimp only at hSw); go_simp; all_goals with_reducible rfl)
                    simp only [Act.put, List.getElem_toArray, List.getElem_cons_zero, List.getElem_cons_succ, List.setIfInBounds_toArray, List.set_cons_zero, List.set_cons_succ]
                    refine wpAnyH_take (i := 8) (v := ?_) rfl (by kernel_rfl) (by kernel_rfl) (by kernel_rfl) (fun _ _ _ h => h) (Or.inl ⟨by rfl, ?hy8⟩) (by assumption) ?ty8
                    case hy8 => (intro w hSw; (try dsimp only at hSw); go_simp; all_goals with_reducible rfl)
                    simp only [Act.put, List.getElem_toArray, List.getElem_cons_zero, List.getElem_cons_succ, List.setIfInBounds_toArray, List.set_cons_zero, List.set_cons_succ]
                    refine wpAnyH_take (i := 9) (v := .int .i64 ((k : Int) + 2)) rfl (by kernel_rfl) (by kernel_rfl) (by kernel_rfl) (fun _ _ _ h => h) (Or.inl ⟨by rfl, ?hy9⟩) (by assumption) ?ty9
                    case hy9 => (intro w hSw; (try dsimp only at hSw); go_simp; first | (simp [hw2]; done) | (all_goals with_reducible rfl))
                    simp only [Act.put, List.getElem_toArray, List.getElem_cons_zero, List.getElem_cons_succ, List.setIfInBounds_toArray, List.set_cons_zero, List.set_cons_succ]
                    refine wpAnyH_take (i := 10) (v := .int .u8 (nth t (k + 2) : Int)) rfl (by kernel_rfl) (by kernel_rfl) (by kernel_rfl) (fun _ _ _ h => h) (Or.inl ⟨by rfl, ?hy10⟩) (by assumption) ?ty10
                    case hy10 => (intro w hSw; (try dsimp only at hSw); go_simp; first | (simp [show ((k : Int) + 2).toNat = k + 2 from by omega, g2]; done) | (intro hneg; omega))
                    simp only [Act.put, List.getElem_toArray, List.getElem_cons_zero, List.getElem_cons_succ, List.setIfInBounds_toArray, List.set_cons_zero, List.set_cons_succ]
                    refine wpAnyH_ready (rs := [5]) (by kernel_rfl) (by simp) ?_
                    refine AllReadyH.cons rfl (fun K hK => ?_) AllReadyH.nil
                    go_simp
                    refine (l1HexValue_any (nth t (k + 1)) _ x1).mono ?_
                    rintro e u1 ⟨rfl, rfl⟩
                    rw [Ha.out]
                    simp only
                    refine hK.out _ _ trivial (fun hHeld => ?_)
                    clear hK K
                    refine wpAnyH_take (i := 6) (v := .int .i64 (16 * (xa : Int))) rfl (by kernel_rfl) (by kernel_rfl) (by kernel_rfl) (fun _ _ _ h => h) (Or.inl ⟨by rfl, ?hy11⟩) (by assumption) ?ty11
                    case hy11 => (intro w hSw; (try dsimp only at hSw); go_simp; first | (simp [hw3]; done) | (all_goals with_reducible rfl))
                    simp only [Act.put, List.getElem_toArray, List.getElem_cons_zero, List.getElem_cons_succ, List.setIfInBounds_toArray, List.set_cons_zero, List.set_cons_succ]
                    refine wpAnyH_ready (rs := [11]) (by kernel_rfl) (by simp) ?_
                    refine AllReadyH.cons rfl (fun K hK => ?_) AllReadyH.nil
                    go_simp
                    refine (l1HexValue_any (nth t (k + 2)) _ x2).mono ?_
                    rintro e u2 ⟨rfl, rfl⟩
                    rw [Hb.out]
                    simp only
                    refine hK.out _ _ trivial (fun hHeld => ?_)
                    clear hK K
                    refine wpAnyH_take (i := 12) (v := .int .i64 (q : Int)) rfl (by kernel_rfl) (by kernel_rfl) (by kernel_rfl) (fun _ _ _ h => h) (Or.inl ⟨by rfl, ?hy12⟩) (by assumption) ?ty12
                    case hy12 => (intro w hSw; (try dsimp only at hSw); go_simp; first | (simp [hw4]; done) | (all_goals with_reducible rfl))
                    simp only [Act.put, List.getElem_toArray, List.getElem_cons_zero, List.getElem_cons_succ, List.setIfInBounds_toArray, List.set_cons_zero, List.set_cons_succ]
                    refine wpAnyH_take (i := 13) (v := .int .u8 (q : Int)) rfl (by kernel_rfl) (by kernel_rfl) (by kernel_rfl) (fun _ _ _ h => h) (Or.inl ⟨by rfl, ?hy13⟩) (by assumption) ?ty13
                    case hy13 => (intro w hSw; (try dsimp only at hSw); go_simp; first | (simp [hw5]; done) | (all_goals with_reducible rfl))
                    simp only [Act.put, List.getElem_toArray, List.getElem_cons_zero, List.getElem_cons_succ, List.setIfInBounds_toArray, List.set_cons_zero, List.set_cons_succ]
                    refine wpAnyH_ready (rs := [14]) (by kernel_rfl) (by simp) ?_
                    refine AllReadyH.cons rfl (fun K hK => ?_) AllReadyH.nil
                    go_simp
                    refine hK.out _ _ trivial (fun hHeld => ?_)
                    clear hK K
                    refine wpAnyH_ready (rs := [15]) (by kernel_rfl) (by simp) ?_
                    refine AllReadyH.cons rfl (fun K hK => ?_) AllReadyH.nil
                    refine step_app (by rfl) _ _ (by rfl) w.heap.size _ out (by rfl) ((hown.alloc _).drew) ⟨wr.heap.size, 0, none⟩ 1 _ [q] (by rfl) (by rfl) (hnewq _ rfl) (by omega) (by simp; omega) ?_
                    intro v' w2 hown' hb'
                    have hb2 := (hbA).trans hb'
                    refine hK.out _ _ trivial (fun hHeld => ?_)
                    clear hK K
                    refine wpAnyH_take (i := 16) (v := ?_) rfl (by kernel_rfl) (by kernel_rfl) (by kernel_rfl) (fun _ _ _ h => h) (Or.inl ⟨by rfl, ?hy14⟩) (by assumption) ?ty14
                    case hy14 => (intro w hSw; (try dsimp only at hSw); go_simp; all_goals with_reducible rfl)
                    simp only [Act.put, List.getElem_toArray, List.getElem_cons_zero, List.getElem_cons_succ, List.setIfInBounds_toArray, List.set_cons_zero, List.set_cons_succ]
                    refine wpAnyH_done (by kernel_rfl) ?_ _
                    go_wp2
                    go_roundw
                    case rel => exact ⟨k + 3, out ++ [q], by omega, by go_num, hown', hbel.trans hb2, HM, by simp; omega⟩
                    case measure => simp [intOf]; omega
                  · have Hb : Hid (hexI (nth t (k + 2)) = -1) := hexI_out hb
                    have HM : Hid (ltV t = none) := by
                      show _ = _
                      rw [HQ.out, ltV_at_nohex (by have := HL.out; omega) h61 (fun h => hb h.2)]; rfl
                    obtain ⟨xa, hxa⟩ : ∃ xa, Xq.unhex (nth t (k + 1)) = xa := ⟨_, rfl⟩
                    rw [hxa] at Ha0
                    have p1 : ¬ (xa : Int) < 0 := by omega
                    clear HQ hxa
                    go_wp2_with fail
                    refine (l1HexValue_any (nth t (k + 1)) _ x1).mono ?_
                    rintro e u1 ⟨rfl, rfl⟩
                    rw [Ha0.out]
                    go_wp2_with fail
                    refine (l1HexValue_any (nth t (k + 2)) _ x2).mono ?_
                    rintro e u2 ⟨rfl, rfl⟩
                    rw [Hb.out]
                    go_wp2
                    go_ret2
                    exact .no hbel HM.out _
                · have Ha : Hid (hexI (nth t (k + 1)) = -1) := hexI_out ha
                  have HM : Hid (ltV t = none) := by
                    show _ = _
                    rw [HQ.out, ltV_at_nohex (by have := HL.out; omega) h61 (fun h => ha h.1)]; rfl
                  clear HQ
                  go_wp2_with fail
                  refine (l1HexValue_any (nth t (k + 1)) _ x1).mono ?_
                  rintro e u1 ⟨rfl, rfl⟩
                  rw [Ha.out]
                  go_wp2
                  go_ret2
                  exact .no hbel HM.out _
              · have hn2' : (n : Int) ≤ (k : Int) + 2 := by omega
                have HM : Hid (ltV t = none) := by
                  show _ = _
                  rw [HQ.out, ltV_at_short hkl h61 (by have := HL.out; omega)]; rfl
                clear HQ
                go_wp2
                go_ret2
                exact .no hbel HM.out _
            · have n61 : (((nth t k : Nat) : Int) == 61) = false := beq_eq_false_iff_ne.2 (by omega)
              have HM : Hid (ltV t = (ltV (t.drop (k + 1))).map ((out ++ [nth t k]) ++ ·)) := by
                show _ = _
                rw [HQ.out, ltV_at_self hkl (by omega) h95 h61, omapN_app]
              clear HQ
              generalize nth t k = x at *
              go_wp2_with (at_builtin; refine wpList_app_new rfl _ _ rfl (w.heap.size) _ out rfl hown 1 1 [x] rfl rfl rfl (by omega) hz ?_; intro v' w2 hown' hb')
              go_wp2
              go_roundw
              case rel => exact ⟨k + 1, out ++ [x], by omega, by go_num, hown', hbel.trans hb', HM, by simp; omega⟩
              case measure => simp [intOf]; omega
    · have HS : Hid (ltV t = some out) := by
        show _ = _
        rw [HQ.out, List.drop_of_length_le (by have := HL.out; omega)]; simp [ltV]
      have hk' : ¬ (k : Int) < (n : Int) := by omega
      clear HQ
      go_wp2
      go_ret2
      exact .yes hbel HS.out hown

/-- The bytes that a told word tells. -/
def toldV (kind : Nat) (t : List Nat) : Option (List Nat) := if kind = 66 ∨ kind = 98 then Xf.dec t else if kind = 81 ∨ kind = 113 then ltV t else none
theorem toldV_b {kind : Nat} {t : List Nat} (h : kind = 66 ∨ kind = 98) : toldV kind t = Xf.dec t := if_pos h
theorem toldV_q {kind : Nat} {t : List Nat} (h : kind = 81 ∨ kind = 113) : toldV kind t = ltV t := by unfold toldV; rw [if_neg (by omega), if_pos h]
theorem toldV_no {kind : Nat} {t : List Nat} (h : ¬ (kind = 66 ∨ kind = 98)) (h1 : ¬ (kind = 81 ∨ kind = 113)) : toldV kind t = none := by unfold toldV; rw [if_neg h, if_neg h1]

set_option maxHeartbeats 1600000 in
set_option maxRecDepth 100000 in
theorem l4Told_any (kind : Nat) (t : List Nat) (n : Nat) (w : World) (hk : kind < 256) (hl : t.length = n) (hB : IsB t) (hn : n ≤ 1048576) :
    Calls Tryz.prog 123 #[.int .u8 (kind : Int), .string (str t)] w fun e w' => OptEnd (toldV kind t) w e w' := by
  by_cases h1 : kind = 66 ∨ kind = 98
  · rw [toldV_b h1]
    have HD : Calls Tryz.prog 138 #[.string (str t)] w fun e w' => OptEnd (Xf.dec t) w e w' := (l1Decode_any t n w hl hB hn).mono fun e w' h => h.opt
    generalize Xf.dec t = o at *
    rcases h1 with rfl | rfl
    all_goals
      go_enter Tryz.func123, Tryz.ntmps123
      go_wp2_with fail
      refine HD.mono ?_
      intro e w' h
      cases o with
      | none =>
        obtain ⟨hb, v, rfl⟩ := h
        go_wp2
        go_ret2
        exact .no hb rfl _
      | some l =>
        obtain ⟨hb, v, rfl, ho⟩ := h
        go_wp2
        go_ret2
        exact .yes hb rfl ho
  · by_cases h2 : kind = 81 ∨ kind = 113
    · rw [toldV_q h2]
      have HD := l4Letters_any t n w hl hB hn
      generalize ltV t = o at *
      rcases h2 with rfl | rfl
      all_goals
        go_enter Tryz.func123, Tryz.ntmps123
        go_wp2_with fail
        refine HD.mono ?_
        intro e w' h
        cases o with
        | none =>
          obtain ⟨hb, v, rfl⟩ := h
          go_wp2
          go_ret2
          exact .no hb rfl _
        | some l =>
          obtain ⟨hb, v, rfl, ho⟩ := h
          go_wp2
          go_ret2
          exact .yes hb rfl ho
    · have e1 : ((kind : Int) == 66) = false := beq_eq_false_iff_ne.2 (by omega)
      have e2 : ((kind : Int) == 98) = false := beq_eq_false_iff_ne.2 (by omega)
      have e3 : ((kind : Int) == 81) = false := beq_eq_false_iff_ne.2 (by omega)
      have e4 : ((kind : Int) == 113) = false := beq_eq_false_iff_ne.2 (by omega)
      rw [toldV_no h1 h2]
      clear h1 h2
      go_enter Tryz.func123, Tryz.ntmps123
      go_wp2
      go_ret2
      exact .no (Below.refl _ _) rfl _
end Go.Proofs.YtfbjodbihenmjaaGreatDoor
