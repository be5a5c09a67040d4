/- The pieces of a value, the model's; whether a text begins with another one; what stands behind a name. -/
import Derived.Test.YtaefomiofoakhaaGreatDoorTbsToTyp0
import Derived.Test.YtaefomiofoakhaaGreatDoorMemS
namespace Go.Proofs.YtaefomiofoakhaaGreatDoor
open Go.RowKit

def txLen (v : Value) : Nat := match v with
  | .string s => s.size
  | _ => 0
theorem tx_full {t : List Nat} (h : 0 < t.length) : (str t).toList.isEmpty = false := by
  rw [ByteArray.toList_eq, show (str t).data.toList = t.map UInt8.ofNat by simp [str], List.isEmpty_eq_false_iff]
  intro e
  have := congrArg List.length e
  simp at this
  rw [this] at h; simp at h
theorem tx_none {t : List Nat} (h : t.length = 0) : (str t).toList.isEmpty = true := by
  have : t = [] := List.eq_nil_of_length_eq_zero h
  subst this
  rw [ByteArray.toList_eq]
  rfl
theorem trL_go {u : List Nat} (h0 : 0 < u.length) (h : nth u 0 = 32 ∨ nth u 0 = 9) : trL u = trL (u.drop 1) := by
  cases u with
  | nil => simp at h0
  | cons c u =>
    have : gpB c = true := decide_eq_true h
    unfold trL
    rw [List.dropWhile_cons, if_pos this]
    rfl
theorem trL_stop {u : List Nat} (h : u.length = 0 ∨ ¬ (nth u 0 = 32 ∨ nth u 0 = 9)) : trL u = u := by
  cases u with
  | nil => rfl
  | cons c u =>
    rcases h with h | h
    · simp at h
    · have : gpB c = false := decide_eq_false h
      unfold trL
      rw [List.dropWhile_cons, if_neg (by simp [this])]
theorem take_last {u : List Nat} (h0 : 0 < u.length) : u = u.take (u.length - 1) ++ [nth u (u.length - 1)] := by
  have := take_snoc u (u.length - 1) (by omega)
  rw [show u.length - 1 + 1 = u.length by omega, List.take_length] at this
  exact this
theorem trR_go {u : List Nat} (h0 : 0 < u.length) (h : nth u (u.length - 1) = 32 ∨ nth u (u.length - 1) = 9) : trR u = trR (u.take (u.length - 1)) := by
  have : gpB (nth u (u.length - 1)) = true := decide_eq_true h
  conv => lhs; rw [take_last h0]
  rw [trR_snoc, if_pos this]
theorem trR_stop {u : List Nat} (h : u.length = 0 ∨ ¬ (nth u (u.length - 1) = 32 ∨ nth u (u.length - 1) = 9)) : trR u = u := by
  rcases Nat.eq_zero_or_pos u.length with h0 | h0
  · have : u = [] := List.eq_nil_of_length_eq_zero h0
    subst this; rfl
  · rcases h with h | h
    · omega
    · have : gpB (nth u (u.length - 1)) = false := decide_eq_false h
      have e := trR_snoc (u.take (u.length - 1)) (nth u (u.length - 1))
      rw [← take_last h0, if_neg (by simp [this])] at e
      exact e

set_option maxHeartbeats 1600000 in
set_option maxRecDepth 100000 in
theorem l5Trim_any (t : List Nat) (w : World) (hB : IsB t) (hn : t.length ≤ 1048576) : Calls Tryz.prog 61 #[.string (str t)] w fun e w' => e = .returned (.string (str (trN t))) ∧ w = w' := by
  go_enter Tryz.func61, Tryz.ntmps61
  go_wp2
  go_loop [0] (fun v => ∃ u : List Nat, v = .string (str u) ∧ IsB u ∧ u.length ≤ 1048576 ∧ Hid (trN t = trR (trL u))) (fun v => txLen v)
  case atStart => exact ⟨t, rfl, hB, hn, rfl⟩
  case round =>
    obtain ⟨u, rfl, hBu, hu, H⟩ := hrel
    have hsz : (str u).size = u.length := str_size u
    by_cases hgo : 0 < u.length ∧ (nth u 0 = 32 ∨ nth u 0 = 9)
    · obtain ⟨h0, hx⟩ := hgo
      have H' : Hid (trN t = trR (trL (u.drop 1))) := by rw [← trL_go h0 hx]; exact H
      have hf := tx_full h0
      have g0 := str_get hBu (i := 0) (by rw [hsz]; exact h0)
      have hex : (str u).extract 1 u.length = str (u.drop 1) := by rw [str_pc, List.take_length]
      have h1 : (1 : Int) ≤ (u.length : Int) := by omega
      clear H
      have HB : Hid (IsB (u.drop 1)) := isB_drop hBu 1
      rcases hx with hx | hx
      · rw [hx] at g0
        go_wp2
        go_round
        case rel => exact ⟨u.drop 1, by simp, HB.out, by rw [List.length_drop]; omega, H'⟩
        case measure => simp [txLen, str_size]; omega
      · rw [hx] at g0
        go_wp2
        go_round
        case rel => exact ⟨u.drop 1, by simp, HB.out, by rw [List.length_drop]; omega, H'⟩
        case measure => simp [txLen, str_size]; omega
    · have H2 : Hid (trN t = trR u) := by
        have e : trL u = u := trL_stop (by
          by_cases h0 : 0 < u.length
          · exact .inr (fun h => hgo ⟨h0, h⟩)
          · exact .inl (by omega))
        rw [e] at H; exact H
      clear H
      by_cases h0 : 0 < u.length
      · have hf := tx_full h0
        have g0 := str_get hBu (i := 0) (by rw [hsz]; exact h0)
        have y1 : ((nth u 0 : Int) == 32) = false := by simp; omega
        have y2 : ((nth u 0 : Int) == 9) = false := by simp; omega
        clear hgo
        generalize nth u 0 = z0 at *
        go_wp2
        go_loop [0] (fun v => ∃ x : List Nat, v = .string (str x) ∧ IsB x ∧ x.length ≤ 1048576 ∧ Hid (trN t = trR x)) (fun v => txLen v)
        case atStart => exact ⟨u, rfl, hBu, hu, H2⟩
        case round =>
          clear H2
          obtain ⟨x, rfl, hBx, hx1, H⟩ := hrel
          have hszx : (str x).size = x.length := str_size x
          by_cases h0 : 0 < x.length
          · have hfx := tx_full h0
            have hm : (x.length : Int) - 1 = ((x.length - 1 : Nat) : Int) := by omega
            have hml : ((x.length - 1 : Nat) : Int) < (x.length : Int) := by omega
            have g1 := str_get hBx (i := x.length - 1) (by rw [hszx]; omega)
            have hex1 : (str x).extract 0 (x.length - 1) = str (x.take (x.length - 1)) := by rw [str_pc]; rfl
            have hm2 : ((x.length - 1 : Nat) : Int) ≤ (x.length : Int) := by omega
            have HB : Hid (IsB (x.take (x.length - 1))) := isB_take hBx _
            have HL : Hid ((x.take (x.length - 1)).length < x.length) := by show _ < _; rw [List.length_take]; omega
            by_cases hy : nth x (x.length - 1) = 32 ∨ nth x (x.length - 1) = 9
            · have H' : Hid (trN t = trR (x.take (x.length - 1))) := by rw [← trR_go h0 hy]; exact H
              clear H
              rcases hy with hy | hy
              · rw [hy] at g1
                clear hy
                generalize x.take (x.length - 1) = y at *
                go_wp2
                go_round
                case rel => exact ⟨y, rfl, HB.out, by have := HL.out; omega, H'⟩
                case measure => simp [txLen, str_size]; exact HL.out
              · rw [hy] at g1
                clear hy
                generalize x.take (x.length - 1) = y at *
                go_wp2
                go_round
                case rel => exact ⟨y, rfl, HB.out, by have := HL.out; omega, H'⟩
                case measure => simp [txLen, str_size]; exact HL.out
            · have H' : Hid (trN t = x) := by rw [trR_stop (.inr hy)] at H; exact H
              have y1 : ((nth x (x.length - 1) : Int) == 32) = false := by simp; omega
              have y2 : ((nth x (x.length - 1) : Int) == 9) = false := by simp; omega
              clear H hy hex1 HB HL
              generalize nth x (x.length - 1) = z at *
              go_wp2
              go_ret
              exact ⟨by rw [H'.out]; rfl, rfl⟩
          · have hfx := tx_none (t := x) (by omega)
            have H' : Hid (trN t = x) := by rw [trR_stop (.inl (by omega))] at H; exact H
            clear H
            go_wp2
            go_ret
            exact ⟨by rw [H'.out]; rfl, rfl⟩
      · have hf := tx_none (t := u) (by omega)
        clear hgo
        go_wp2
        go_loop [0] (fun v => ∃ x : List Nat, v = .string (str x) ∧ IsB x ∧ x.length ≤ 1048576 ∧ Hid (trN t = trR x)) (fun v => txLen v)
        case atStart => exact ⟨u, rfl, hBu, hu, H2⟩
        case round =>
          clear H2
          obtain ⟨x, rfl, hBx, hx1, H⟩ := hrel
          have hszx : (str x).size = x.length := str_size x
          by_cases h0 : 0 < x.length
          · have hfx := tx_full h0
            have hm : (x.length : Int) - 1 = ((x.length - 1 : Nat) : Int) := by omega
            have hml : ((x.length - 1 : Nat) : Int) < (x.length : Int) := by omega
            have g1 := str_get hBx (i := x.length - 1) (by rw [hszx]; omega)
            have hex1 : (str x).extract 0 (x.length - 1) = str (x.take (x.length - 1)) := by rw [str_pc]; rfl
            have hm2 : ((x.length - 1 : Nat) : Int) ≤ (x.length : Int) := by omega
            have HB : Hid (IsB (x.take (x.length - 1))) := isB_take hBx _
            have HL : Hid ((x.take (x.length - 1)).length < x.length) := by show _ < _; rw [List.length_take]; omega
            by_cases hy : nth x (x.length - 1) = 32 ∨ nth x (x.length - 1) = 9
            · have H' : Hid (trN t = trR (x.take (x.length - 1))) := by rw [← trR_go h0 hy]; exact H
              clear H
              rcases hy with hy | hy
              · rw [hy] at g1
                clear hy
                generalize x.take (x.length - 1) = y at *
                go_wp2
                go_round
                case rel => exact ⟨y, rfl, HB.out, by have := HL.out; omega, H'⟩
                case measure => simp [txLen, str_size]; exact HL.out
              · rw [hy] at g1
                clear hy
                generalize x.take (x.length - 1) = y at *
                go_wp2
                go_round
                case rel => exact ⟨y, rfl, HB.out, by have := HL.out; omega, H'⟩
                case measure => simp [txLen, str_size]; exact HL.out
            · have H' : Hid (trN t = x) := by rw [trR_stop (.inr hy)] at H; exact H
              have y1 : ((nth x (x.length - 1) : Int) == 32) = false := by simp; omega
              have y2 : ((nth x (x.length - 1) : Int) == 9) = false := by simp; omega
              clear H hy hex1 HB HL
              generalize nth x (x.length - 1) = z at *
              go_wp2
              go_ret
              exact ⟨by rw [H'.out]; rfl, rfl⟩
          · have hfx := tx_none (t := x) (by omega)
            have H' : Hid (trN t = x) := by rw [trR_stop (.inl (by omega))] at H; exact H
            clear H
            go_wp2
            go_ret
            exact ⟨by rw [H'.out]; rfl, rfl⟩

theorem spC_end {cur : List Nat} (h : cur ≠ []) : spC cur [] = [cur] := by rw [spC, if_neg h]
/-- What the loop over a value still owes: the pieces that are there, and those of what is left. -/
theorem pc_semi {t : List Nat} {f i : Nat} (hf : f ≤ i) (hi : i < t.length) (h : nth t i = 59) : spC ((t.take i).drop f) (t.drop i) = if f < i then (t.take i).drop f :: spC [] (t.drop (i + 1)) else spC [] (t.drop (i + 1)) := by
  rw [drop_nth hi, h]
  by_cases hfi : f < i
  · rw [if_pos hfi, spC_cut1 (cur_ne hfi (by omega))]
  · have : f = i := by omega
    subst this
    rw [if_neg (by omega), List.drop_of_length_le (by rw [List.length_take]; omega), spC_cut0]
theorem pc_on {t : List Nat} {f i : Nat} (hf : f ≤ i) (hi : i < t.length) (h : nth t i ≠ 59) : spC ((t.take i).drop f) (t.drop i) = spC ((t.take (i + 1)).drop f) (t.drop (i + 1)) := by
  rw [drop_nth hi, spC, if_neg h, ← cur_more (k := 1) hf, take_oneP hi]
theorem pc_last {t : List Nat} {f : Nat} (hf : f ≤ t.length) : spC ((t.take t.length).drop f) (t.drop t.length) = if f < t.length then [(t.take t.length).drop f] else [] := by
  rw [List.drop_length]
  by_cases hfi : f < t.length
  · rw [if_pos hfi, spC_end (cur_ne hfi (Nat.le_refl _))]
  · have : f = t.length := by omega
    subst this
    rw [if_neg (by omega), List.drop_of_length_le (by rw [List.length_take]; omega)]; rfl
theorem OwnS.lit0 (w : World) (B : Nat) (hB : B ≤ w.heap.size) : OwnS (w.alloc (.cells #[] 9)) B (.slice (some ⟨w.heap.size, 0, none⟩) 0 0) [] := by
  have := World.ownsRow_lit (base := B) (e := 9) (size := 1) w #[] 0 hB (by decide) rfl
  exact this
/-- How the making of pieces ends. -/
def PcsEnd (l : List (List Nat)) (w : World) (e : Ending) (w' : World) : Prop := ∃ v, e = .returned v ∧ OwnS w' w.heap.size v l ∧ Below w.heap.size w w'

set_option maxHeartbeats 1600000 in
set_option maxRecDepth 100000 in
theorem l5Pieces_any (t : List Nat) (n : Nat) (w : World) (hl : t.length = n) (hB : IsB t) (hn : n ≤ 1048576) : Calls Tryz.prog 40 #[.string (str t)] w fun e w' => PcsEnd (pcs t) w e w' := by
  have hsz : (str t).size = n := by rw [str_size, hl]
  have HL : Hid (t.length = n) := hl
  clear hl
  go_enter Tryz.func40, Tryz.ntmps40
  go_wp2
  have ho0 := OwnS.lit0 w w.heap.size (Nat.le_refl _)
  have hb0 : Below w.heap.size w (w.alloc (.cells #[] 9)) := (Below.refl _ _).alloc (Nat.le_refl _) _
  have HP0 : Hid (pcs t = [] ++ (spC ((t.take 0).drop 0) (t.drop 0)).map trN) := rfl
  generalize w.alloc (.cells #[] 9) = W at *
  go_loopw [3, 4, 5] (fun v f i wr => ∃ (p q m : Nat) (out : List (List Nat)), q ≤ n + 1 ∧ f = .int .i64 p ∧ i = .int .i64 q ∧ OwnS wr w.heap.size v out ∧ Below w.heap.size w wr ∧ out.length ≤ q ∧ m = q ∧ ((p ≤ q ∧ q ≤ n ∧ Hid (pcs t = out ++ (spC ((t.take m).drop p) (t.drop m)).map trN)) ∨ (q = n + 1 ∧ Hid (pcs t = out)))) (fun _ _ i _ => n + 1 - (intOf i).toNat)
  case atStart => exact ⟨0, 0, 0, [], by omega, rfl, rfl, ho0, hb0, by simp, rfl, .inl ⟨by omega, by omega, HP0⟩⟩
  case round =>
    obtain ⟨p, q, m, out, hq, rfl, rfl, hown, hbel, hlen, hm, hcase⟩ := hrel
    subst hm
    obtain ⟨ao, co, rfl, hco, hcm⟩ := hown.form
    rcases hcase with ⟨hpq, hqn, HP⟩ | ⟨hqn, HP⟩
    · have hqi : (m : Int) ≤ (n : Int) := by omega
      by_cases hend : m = n
      · subst hend
        have hl2 : t.length = m := HL.out
        have HE : Hid (spC ((t.take m).drop p) (t.drop m) = if p < m then [(t.take m).drop p] else []) := by
          have := pc_last (t := t) (f := p) (by omega)
          rw [hl2] at this; exact this
        clear hl2
        by_cases hpm : p < m
        · have hpi : (p : Int) < (m : Int) := by omega
          have hpi' : (p : Int) ≤ (m : Int) := by omega
          have HP' : Hid (pcs t = out ++ [trN ((t.take m).drop p)]) := by
            show _ = _
            have h := HP.out
            rw [HE.out, if_pos hpm] at h
            rw [h]; simp
          have hex : (str t).extract p m = str ((t.take m).drop p) := str_pc t p m
          have hBu : IsB ((t.take m).drop p) := isB_drop (isB_take hB m) p
          have hul : ((t.take m).drop p).length ≤ 1048576 := by rw [List.length_drop, List.length_take]; have := HL.out; omega
          have HT : Hid (∀ w, Calls Tryz.prog 61 #[.string (str ((t.take m).drop p))] w fun e w' => e = .returned (.string (str (trN ((t.take m).drop p)))) ∧ w = w') := fun w => l5Trim_any _ w hBu hul
          clear hBu hul HP
          generalize trN ((t.take m).drop p) = y at *
          generalize (t.take m).drop p = x at *
          go_wp2_with fail
          refine (HT.out _).mono ?_
          rintro e w' ⟨rfl, rfl⟩
          go_wp2_with (at_builtin; refine wpList_app_newT (by rfl) _ _ (by rfl) w.heap.size _ out (by rfl) hown 1 1 [y] (by rfl) (by rfl) (by rfl) (by omega) hbel.size ?_; intro v' w1 hown' hb1; clear HT; have hbel' := hbel.trans hb1; obtain ⟨a', c', rfl, hc', hcm'⟩ := hown'.form)
          go_roundw
          case rel => exact ⟨m + 1, m + 1, m + 1, out ++ [y], by omega, by go_num, by go_num, (by have h := hown'; rw [List.length_append] at h; exact h), hbel', by simp; omega, rfl, .inr ⟨rfl, HP'⟩⟩
          case measure => first | (simp [intOf]; done) | (simp [intOf]; omega)
        · have hpi : ¬ (p : Int) < (m : Int) := by omega
          have HP' : Hid (pcs t = out) := by
            show _ = _
            have h := HP.out
            rw [HE.out, if_neg hpm] at h
            rw [h]; simp
          clear HP
          go_wp2
          go_roundw
          case rel => exact ⟨m + 1, m + 1, m + 1, out, by omega, by go_num, by go_num, hown, hbel, by omega, rfl, .inr ⟨rfl, HP'⟩⟩
          case measure => first | (simp [intOf]; done) | (simp [intOf]; omega)
      · have hmn : m < n := by omega
        have hme : ((m : Int) == (n : Int)) = false := by simp; omega
        have hmi : (m : Int) < (n : Int) := by omega
        have gk := str_get hB (i := m) (by rw [hsz]; exact hmn)
        by_cases h59 : nth t m = 59
        · rw [h59] at gk
          have HE : Hid (spC ((t.take m).drop p) (t.drop m) = if p < m then (t.take m).drop p :: spC [] (t.drop (m + 1)) else spC [] (t.drop (m + 1))) := pc_semi hpq (by have := HL.out; omega) h59
          have HD : Hid ((t.take (m + 1)).drop (m + 1) = []) := List.drop_of_length_le (by rw [List.length_take]; omega)
          clear h59
          by_cases hpm : p < m
          · have hpi : (p : Int) < (m : Int) := by omega
            have hpi' : (p : Int) ≤ (m : Int) := by omega
            have HP' : Hid (pcs t = (out ++ [trN ((t.take m).drop p)]) ++ (spC ((t.take (m + 1)).drop (m + 1)) (t.drop (m + 1))).map trN) := by
              show _ = _
              have h := HP.out
              rw [HE.out, if_pos hpm] at h
              rw [h, HD.out]; simp
            have hex : (str t).extract p m = str ((t.take m).drop p) := str_pc t p m
            have hBu : IsB ((t.take m).drop p) := isB_drop (isB_take hB m) p
            have hul : ((t.take m).drop p).length ≤ 1048576 := by rw [List.length_drop, List.length_take]; have := HL.out; omega
            have HT : Hid (∀ w, Calls Tryz.prog 61 #[.string (str ((t.take m).drop p))] w fun e w' => e = .returned (.string (str (trN ((t.take m).drop p)))) ∧ w = w') := fun w => l5Trim_any _ w hBu hul
            clear hBu hul HP
            generalize trN ((t.take m).drop p) = y at *
            generalize (t.take m).drop p = x at *
            go_wp2_with fail
            refine (HT.out _).mono ?_
            rintro e w' ⟨rfl, rfl⟩
            go_wp2_with (at_builtin; refine wpList_app_newT (by rfl) _ _ (by rfl) w.heap.size _ out (by rfl) hown 1 1 [y] (by rfl) (by rfl) (by rfl) (by omega) hbel.size ?_; intro v' w1 hown' hb1; clear HT; have hbel' := hbel.trans hb1; obtain ⟨a', c', rfl, hc', hcm'⟩ := hown'.form)
            go_roundw
            case rel => exact ⟨m + 1, m + 1, m + 1, out ++ [y], by omega, by go_num, by go_num, (by have h := hown'; rw [List.length_append] at h; exact h), hbel', by simp; omega, rfl, .inl ⟨by omega, by omega, HP'⟩⟩
            case measure => first | (simp [intOf]; done) | (simp [intOf]; omega)
          · have hpi : ¬ (p : Int) < (m : Int) := by omega
            have HP' : Hid (pcs t = out ++ (spC ((t.take (m + 1)).drop (m + 1)) (t.drop (m + 1))).map trN) := by
              show _ = _
              have h := HP.out
              rw [HE.out, if_neg hpm] at h
              rw [HD.out]; exact h
            clear HP
            go_wp2
            go_roundw
            case rel => exact ⟨m + 1, m + 1, m + 1, out, by omega, by go_num, by go_num, hown, hbel, by omega, rfl, .inl ⟨by omega, by omega, HP'⟩⟩
            case measure => first | (simp [intOf]; done) | (simp [intOf]; omega)
        · have g2 : ((nth t m : Int) == 59) = false := by simp; omega
          have HP' : Hid (pcs t = out ++ (spC ((t.take (m + 1)).drop p) (t.drop (m + 1))).map trN) := by
            show _ = _
            have h := HP.out
            rw [pc_on hpq (by have := HL.out; omega) h59] at h
            exact h
          clear HP h59
          generalize nth t m = z at *
          go_wp2
          go_roundw
          case rel => exact ⟨p, m + 1, m + 1, out, by omega, rfl, by go_num, hown, hbel, by omega, rfl, .inl ⟨by omega, by omega, HP'⟩⟩
          case measure => first | (simp [intOf]; done) | (simp [intOf]; omega)
    · have hqi : ¬ (m : Int) ≤ (n : Int) := by omega
      go_wp2
      go_ret
      exact ⟨_, rfl, by rw [HP.out]; exact hown, hbel⟩
end Go.Proofs.YtaefomiofoakhaaGreatDoor
