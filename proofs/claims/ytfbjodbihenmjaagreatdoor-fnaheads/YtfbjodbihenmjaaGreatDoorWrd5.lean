/- Words that follow one another, the model's: by a plain function. -/
import Derived.Test.YtfbjodbihenmjaaGreatDoorWpuToWrd4
import Derived.Test.YtfbjodbihenmjaaGreatDoorDrw3aToChn
import Derived.Laws.AppendOwnNone
namespace Go.Proofs.YtfbjodbihenmjaaGreatDoor
open Go.RowKit

/-- An append of numbers that some call owns. -/
theorem wpList_appA {w : World} {ops : Array Oper} {rest : List Oper} {o : Oper} {a : Act} {Q : Exit → Act → World → Prop} (hgd : o.guard = none) (s x : Operand)
    (ho : o.op = .call { callee := .builtin .append, args := #[s, x], argTypes := #[29, 29] })
    (B : Nat) (v v2 : Value) (l : List Int) (hs : a.eval s = v) (hown : OwnI w B v l) (B2 : Nat) (new : List Int) (hx : a.eval x = v2) (hown2 : OwnI w B2 v2 new) (hsz : l.length + new.length ≤ 1073741824) (hB : B ≤ w.heap.size)
    (h : ∀ v' w1, OwnI w1 B v' (l ++ new) → Below B w w1 → wpList Tryz.prog ops Q rest (a.put o.dst v') w1) : wpList Tryz.prog ops Q (o :: rest) a w := by
  have hh := hown2
  rcases hown2.2 with ⟨h', h0⟩ | ⟨g, cap, cur, h', _⟩
  · subst h'
    obtain rfl : new = [] := List.length_eq_zero_iff.1 h0
    obtain ⟨i0, hi, hz0, hz1, hz2⟩ := info_parts infoBI
    refine wpList_append_own_none hgd s x 29 ho B 2 i0 1 Tryz.underlying29 hi v l.length (ic l) hs hown hx ?_
    exact h v w (by rw [List.append_nil]; exact hown) (Below.refl _ _)
  · subst h'
    obtain ⟨hl2, hr2⟩ := OwnI.rd hh
    refine wpList_appI hgd s x ho B v l hs hown ⟨g, 0, none⟩ new.length cap new hx rfl ?_ hsz hB h
    intro j hj
    obtain ⟨b', off', e, -, hc⟩ := hr2.at_ (by omega)
    cases e
    rw [Go.WideShapes.add_plain]
    exact hc j hj
theorem decL_lenW (cs : Int) : ∀ (n : Nat) (l : List Nat) (u : List Int), l.length ≤ n → decL cs l = some u → u.length ≤ l.length := by
  intro n
  induction n with
  | zero =>
    intro l u h hd
    rw [decL_nil (by omega)] at hd
    cases hd; exact Nat.zero_le _
  | succ n ih =>
    intro l u h hd
    by_cases h0 : l.length = 0
    · rw [decL_nil h0] at hd
      cases hd; exact Nat.zero_le _
    · by_cases hs : (rdC cs l).2 = 0
      · rw [decL_none (by omega) hs] at hd; cases hd
      · rw [decL_step (by omega) hs (c := (rdC cs l).1) (s := (rdC cs l).2) rfl] at hd
        cases e : decL cs (l.drop (rdC cs l).2) with
        | none => rw [e] at hd; cases hd
        | some u' =>
          rw [e] at hd
          have e2 : ((rdC cs l).1 : Int) :: u' = u := by simpa using hd
          subst e2
          have := ih _ u' (by rw [List.length_drop]; omega) e
          rw [List.length_drop] at this
          rw [List.length_cons]; omega
theorem wdV_len {v : List Nat} {r : List Int × Nat} (h : wdV v = some r) (hB : IsB v) : r.1.length ≤ r.2 ∧ r.2 ≤ v.length := by
  obtain ⟨hf, _, bs, hb, hd, e⟩ := wdV_some h
  have h1 := toldV_len hb (isB_drop (isB_take hB _) _)
  have h2 := decL_lenW _ bs.length bs r.1 (Nat.le_refl _) hd
  have h3 := nth_lt_len (l := v) (k := wdZ v + 1) (by rw [hf.2.2.2]; decide)
  have h4 : ((v.take (wdZ v)).drop (wdA v + 3)).length ≤ wdZ v := by rw [List.length_drop, List.length_take]; omega
  omega

set_option maxHeartbeats 6000000 in
set_option maxRecDepth 100000 in
theorem l4Words_any (t : List Nat) (n : Nat) (w : World) (hl : t.length = n) (hB : IsB t) (hn : n ≤ 1048576) :
    Calls Tryz.prog 94 #[.string (str t)] w fun e w' => ∃ v, e = .returned v ∧ OwnI w' w.heap.size v (wdsM wdV cuV n false t) ∧ Below w.heap.size w w' := by
  have hsz : (str t).size = n := by rw [str_size, hl]
  have HL : Hid (t.length = n) := hl
  have hcv := fun wx => run_bytes_of_string (P := Tryz.prog) wx 9 22 5 (str t) Tryz.underlying9 Tryz.underlying22 Tryz.underlying5
  rw [hsz] at hcv
  have HR : Hid (∀ k r, k ≤ n → wdV (t.drop k) = some r → 0 < r.2 ∧ r.1.length ≤ r.2 ∧ k + r.2 ≤ n) := fun k r hk h => by
    have h1 := wdV_len h (isB_drop hB k)
    have h2 := wdOk.pos _ r h
    rw [List.length_drop] at h1
    have := HL.out
    omega
  clear hl
  go_enter Tryz.func94, Tryz.ntmps94
  go_wp2
  have hown0 : OwnI (w.alloc (.cells #[] 2)) w.heap.size (.slice (some ⟨w.heap.size, 0, none⟩) 0 0) [] := OwnI.lit w _ (Nat.le_refl _) #[] [] rfl (by simp [maxLen])
  have hbel0 : Below w.heap.size w (w.alloc (.cells #[] 2)) := (Below.refl _ _).alloc (Nat.le_refl _) _
  go_loopw [3, 4, 5] (fun v i b wr => ∃ (k f : Nat) (told : Bool) (out : List Int), k ≤ n ∧ i = .int .i64 k ∧ b = .bool told ∧ n ≤ f + k ∧ OwnI wr w.heap.size v out ∧ Below w.heap.size w wr ∧ Hid (wdsM wdV cuV n false t = out ++ wdsM wdV cuV f told (t.drop k)) ∧ out.length ≤ k)
    (fun _ i _ _ => n - (intOf i).toNat)
  case atStart => exact ⟨0, n, false, [], Nat.zero_le _, rfl, rfl, by omega, hown0, hbel0, by show _ = _; rw [List.drop_zero, List.nil_append], Nat.le_refl _⟩
  case round =>
    obtain ⟨k, f, told, out, hk, rfl, rfl, hf, hown1, hbel1, HQ, hol⟩ := hrel
    clear hown0 hbel0
    by_cases hkn : k < n
    · have hk' : (k : Int) < (n : Int) := by omega
      obtain ⟨f, rfl⟩ : ∃ f', f = f' + 1 := ⟨f - 1, by omega⟩
      have hne : (t.drop k).length ≠ 0 := by rw [List.length_drop]; have := HL.out; omega
      have HW : Hid (∀ j, j ≤ n → ∀ w, Calls Tryz.prog 106 #[.string (str t), .int .i64 (j : Int)] w fun e w' => WdEnd (wdV (t.drop j)) w e w') := fun j hj w => l4Word_any t n j w HL.out hB hn hj
      have HGp := fun w => l4Gap_any t n k w HL.out hB hn hk
      have HS : Hid (skp wdV told (t.drop k) = t.drop k → ∀ r, wdV (t.drop k) = some r → wdsM wdV cuV n false t = (out ++ r.1) ++ wdsM wdV cuV f true (t.drop (k + r.2))) := fun hs r h => by
        rw [HQ.out, wdsM_word hne (by rw [hs]; exact h), hs, List.drop_drop, List.append_assoc]
      have HN : Hid (skp wdV told (t.drop k) = t.drop k → wdV (t.drop k) = none → wdsM wdV cuV n false t = (out ++ [(cuV (t.drop k)).1]) ++ wdsM wdV cuV f false (t.drop (k + (cuV (t.drop k)).2))) := fun hs h => by
        rw [HQ.out, wdsM_char hne (by rw [hs]; exact h), hs, List.drop_drop, List.append_assoc]; rfl
      have egap : runL gapB (t.drop k) 0 = runL gapB t k := by rw [runL_drop, Nat.add_zero]
      have hgl := runL_le gapB t k (by have := HL.out; omega)
      rw [HL.out] at hgl
      have HG : Hid (∀ r, told = true → 0 < runL gapB t k → wdV (t.drop (k + runL gapB t k)) = some r → wdsM wdV cuV n false t = (out ++ r.1) ++ wdsM wdV cuV f true (t.drop (k + runL gapB t k + r.2))) := fun r h1 h2 h3 => by
        have hs : skp wdV told (t.drop k) = t.drop (k + runL gapB t k) := by
          rw [skp_yes ⟨h1, by rw [egap]; exact h2, by rw [egap, List.drop_drop, h3]; rfl⟩, egap, List.drop_drop]
        rw [HQ.out, wdsM_word hne (by rw [hs]; exact h3), hs, List.drop_drop, List.append_assoc]
      have HK0 : Hid (told = false ∨ runL gapB t k = 0 ∨ wdV (t.drop (k + runL gapB t k)) = none → skp wdV told (t.drop k) = t.drop k) := fun h => skp_no (fun h' => by
        rw [egap, List.drop_drop] at h'
        rcases h with h | h | h
        · rw [h] at h'; cases h'.1
        · omega
        · rw [h] at h'; cases h'.2.2)
      clear HQ egap hne
      generalize runL gapB t k = g at *
      go_wp2_with fail
      refine (HGp _).mono ?_
      rintro e w2 ⟨rfl, rfl⟩
      cases told with
      | false =>
        have HSK : Hid (_) := HK0.out (.inl rfl)
        clear HK0 HG
        go_wp2_with fail
        refine (HW.out k hk _).mono ?_
        intro e w5 hend
        cases ho : wdV (t.drop k) with
        | some r =>
          rw [ho] at hend
          obtain ⟨hb5, v5, rfl, ho5⟩ := hend
          have HM : Hid (_) := HS.out HSK.out r ho
          obtain ⟨hrp, hrl, hrk⟩ := HR.out k r hk ho
          have hbel5 := hbel1.trans (hb5.mono hbel1.size)
          have hown5 := hown1.below hb5 (Nat.le_refl _)
          obtain ⟨cu, ru⟩ := r
          simp only at hrp hrl hrk HM ho5
          obtain ⟨bo, bcp, rfl, -, -⟩ := ho5.form
          have hp' : (0 : Int) < (ru : Int) := by omega
          clear HS HN HW hb5 HSK ho
          go_wp2_with (at_builtin; refine wpList_appA rfl _ _ rfl w.heap.size _ _ out rfl hown5 _ cu rfl ho5 (by omega) hbel5.size ?_; intro v6 w6 hown6 hb6)
          go_wp2
          go_roundw
          case rel => exact ⟨k + ru, f, true, out ++ cu, by omega, by go_num, rfl, by omega, hown6, hbel5.trans hb6, HM, by rw [List.length_append]; omega⟩
          case measure => simp [intOf]; omega
        | none =>
          rw [ho] at hend
          obtain ⟨hb5, rfl⟩ := hend
          have HM0 : Hid (_) := HN.out HSK.out ho
          have hbel5 := hbel1.trans (hb5.mono hbel1.size)
          have hown5 := hown1.below hb5 (Nat.le_refl _)
          have HU := fun wx (hx : Rd wx (some ⟨w5.heap.size, 0, none⟩) t) cp => l2Utf8_any (some ⟨w5.heap.size, 0, none⟩) n cp k t wx HL.out hx hB hkn hn
          have HCU : Hid (cuV (t.drop k) = if (rdC 4 (t.drop k)).2 = 0 then (65533, 1) else (((rdC 4 (t.drop k)).1 : Int), (rdC 4 (t.drop k)).2)) := rfl
          have hcl := rdC_le 4 (t.drop k) (by rw [List.length_drop]; have := HL.out; omega)
          rw [List.length_drop, HL.out] at hcl
          clear HS HN HW hb5 HSK ho
          generalize cuV (t.drop k) = cu at *
          generalize rdC 4 (t.drop k) = rc at *
          obtain ⟨rc1, rc2⟩ := rc
          simp only at HCU hcl HU
          go_wp2_with fail
          have hcap := grownCap_ge w5 n 0 5
          generalize grownCap w5 n 0 5 = cp at *
          have hrd6 : Rd (w5.alloc (.cells (bytesRow (str t) cp) 5 ((bytesRow (str t) cp).size, (bytesRow (str t) cp).size + 1))).drew (some ⟨w5.heap.size, 0, none⟩) t := bytesRow_rd w5 t hB cp _
          have hb6 : Below w5.heap.size w5 (w5.alloc (.cells (bytesRow (str t) cp) 5 ((bytesRow (str t) cp).size, (bytesRow (str t) cp).size + 1))).drew := ((Below.refl _ _).alloc (Nat.le_refl _) _).drew
          have hown6 : OwnI (w5.alloc (.cells (bytesRow (str t) cp) 5 ((bytesRow (str t) cp).size, (bytesRow (str t) cp).size + 1))).drew w.heap.size _ out := hown5.alloc _
          generalize (w5.alloc (.cells (bytesRow (str t) cp) 5 ((bytesRow (str t) cp).size, (bytesRow (str t) cp).size + 1))).drew = W6 at *
          refine (HU _ hrd6 _).mono ?_
          rintro e w7 ⟨rfl, rfl⟩
          have hbel6 := hbel5.trans (hb6.mono hbel5.size)
          clear HU hrd6 hb6 hown5
          by_cases h0 : rc2 = 0
          · have hcu : cu = (65533, 1) := HCU.out.trans (if_pos h0)
            subst hcu h0
            have HM : Hid (_) := HM0
            simp only at HM
            clear HM0 HCU
            go_wp2_with (at_builtin; refine wpList_app_newI rfl _ _ rfl w.heap.size _ out rfl hown6 1 1 [65533] rfl rfl rfl (by omega) hbel6.size ?_; intro v8 w8 hown8 hb8)
            go_wp2
            go_roundw
            case rel => exact ⟨k + 1, f, false, out ++ [65533], by omega, by go_num, rfl, by omega, hown8, hbel6.trans hb8, HM, by rw [List.length_append]; simp; omega⟩
            case measure => simp [intOf]; omega
          · have hcu : cu = ((rc1 : Int), rc2) := HCU.out.trans (if_neg h0)
            subst hcu
            have h0' : ((rc2 : Int) == 0) = false := beq_eq_false_iff_ne.2 (by omega)
            have HM : Hid (_) := HM0
            simp only at HM
            clear HM0 HCU
            go_wp2_with (at_builtin; refine wpList_app_newI rfl _ _ rfl w.heap.size _ out rfl hown6 1 1 [(rc1 : Int)] rfl rfl rfl (by omega) hbel6.size ?_; intro v8 w8 hown8 hb8)
            go_wp2
            go_roundw
            case rel => exact ⟨k + rc2, f, false, out ++ [(rc1 : Int)], by omega, by go_num, rfl, by omega, hown8, hbel6.trans hb8, HM, by rw [List.length_append]; simp; omega⟩
            case measure => simp [intOf]; omega
      | true =>
        by_cases hg : g = 0
        · subst hg
          have HSK : Hid (_) := HK0.out (.inr (.inl rfl))
          clear HK0 HG
          go_wp2_with fail
          refine (HW.out k hk _).mono ?_
          intro e w5 hend
          cases ho : wdV (t.drop k) with
          | some r =>
            rw [ho] at hend
            obtain ⟨hb5, v5, rfl, ho5⟩ := hend
            have HM : Hid (_) := HS.out HSK.out r ho
            obtain ⟨hrp, hrl, hrk⟩ := HR.out k r hk ho
            have hbel5 := hbel1.trans (hb5.mono hbel1.size)
            have hown5 := hown1.below hb5 (Nat.le_refl _)
            obtain ⟨cu, ru⟩ := r
            simp only at hrp hrl hrk HM ho5
            obtain ⟨bo, bcp, rfl, -, -⟩ := ho5.form
            have hp' : (0 : Int) < (ru : Int) := by omega
            clear HS HN HW hb5 HSK ho
            go_wp2_with (at_builtin; refine wpList_appA rfl _ _ rfl w.heap.size _ _ out rfl hown5 _ cu rfl ho5 (by omega) hbel5.size ?_; intro v6 w6 hown6 hb6)
            go_wp2
            go_roundw
            case rel => exact ⟨k + ru, f, true, out ++ cu, by omega, by go_num, rfl, by omega, hown6, hbel5.trans hb6, HM, by rw [List.length_append]; omega⟩
            case measure => simp [intOf]; omega
          | none =>
            rw [ho] at hend
            obtain ⟨hb5, rfl⟩ := hend
            have HM0 : Hid (_) := HN.out HSK.out ho
            have hbel5 := hbel1.trans (hb5.mono hbel1.size)
            have hown5 := hown1.below hb5 (Nat.le_refl _)
            have HU := fun wx (hx : Rd wx (some ⟨w5.heap.size, 0, none⟩) t) cp => l2Utf8_any (some ⟨w5.heap.size, 0, none⟩) n cp k t wx HL.out hx hB hkn hn
            have HCU : Hid (cuV (t.drop k) = if (rdC 4 (t.drop k)).2 = 0 then (65533, 1) else (((rdC 4 (t.drop k)).1 : Int), (rdC 4 (t.drop k)).2)) := rfl
            have hcl := rdC_le 4 (t.drop k) (by rw [List.length_drop]; have := HL.out; omega)
            rw [List.length_drop, HL.out] at hcl
            clear HS HN HW hb5 HSK ho
            generalize cuV (t.drop k) = cu at *
            generalize rdC 4 (t.drop k) = rc at *
            obtain ⟨rc1, rc2⟩ := rc
            simp only at HCU hcl HU
            go_wp2_with fail
            have hcap := grownCap_ge w5 n 0 5
            generalize grownCap w5 n 0 5 = cp at *
            have hrd6 : Rd (w5.alloc (.cells (bytesRow (str t) cp) 5 ((bytesRow (str t) cp).size, (bytesRow (str t) cp).size + 1))).drew (some ⟨w5.heap.size, 0, none⟩) t := bytesRow_rd w5 t hB cp _
            have hb6 : Below w5.heap.size w5 (w5.alloc (.cells (bytesRow (str t) cp) 5 ((bytesRow (str t) cp).size, (bytesRow (str t) cp).size + 1))).drew := ((Below.refl _ _).alloc (Nat.le_refl _) _).drew
            have hown6 : OwnI (w5.alloc (.cells (bytesRow (str t) cp) 5 ((bytesRow (str t) cp).size, (bytesRow (str t) cp).size + 1))).drew w.heap.size _ out := hown5.alloc _
            generalize (w5.alloc (.cells (bytesRow (str t) cp) 5 ((bytesRow (str t) cp).size, (bytesRow (str t) cp).size + 1))).drew = W6 at *
            refine (HU _ hrd6 _).mono ?_
            rintro e w7 ⟨rfl, rfl⟩
            have hbel6 := hbel5.trans (hb6.mono hbel5.size)
            clear HU hrd6 hb6 hown5
            by_cases h0 : rc2 = 0
            · have hcu : cu = (65533, 1) := HCU.out.trans (if_pos h0)
              subst hcu h0
              have HM : Hid (_) := HM0
              simp only at HM
              clear HM0 HCU
              go_wp2_with (at_builtin; refine wpList_app_newI rfl _ _ rfl w.heap.size _ out rfl hown6 1 1 [65533] rfl rfl rfl (by omega) hbel6.size ?_; intro v8 w8 hown8 hb8)
              go_wp2
              go_roundw
              case rel => exact ⟨k + 1, f, false, out ++ [65533], by omega, by go_num, rfl, by omega, hown8, hbel6.trans hb8, HM, by rw [List.length_append]; simp; omega⟩
              case measure => simp [intOf]; omega
            · have hcu : cu = ((rc1 : Int), rc2) := HCU.out.trans (if_neg h0)
              subst hcu
              have h0' : ((rc2 : Int) == 0) = false := beq_eq_false_iff_ne.2 (by omega)
              have HM : Hid (_) := HM0
              simp only at HM
              clear HM0 HCU
              go_wp2_with (at_builtin; refine wpList_app_newI rfl _ _ rfl w.heap.size _ out rfl hown6 1 1 [(rc1 : Int)] rfl rfl rfl (by omega) hbel6.size ?_; intro v8 w8 hown8 hb8)
              go_wp2
              go_roundw
              case rel => exact ⟨k + rc2, f, false, out ++ [(rc1 : Int)], by omega, by go_num, rfl, by omega, hown8, hbel6.trans hb8, HM, by rw [List.length_append]; simp; omega⟩
              case measure => simp [intOf]; omega
        · have hg' : (0 : Int) < (g : Int) := by omega
          obtain ⟨kg, hkg⟩ : ∃ kg, k + g = kg := ⟨_, rfl⟩
          have ekg : (k : Int) + (g : Int) = (kg : Int) := by omega
          rw [hkg] at HG HK0 hgl
          have HKG : Hid (k + g = kg) := hkg
          have HWk := HW.out kg hgl
          clear hkg
          go_wp2_with fail
          refine (HWk _).mono ?_
          intro e w3 hend3
          cases ho3 : wdV (t.drop kg) with
          | none =>
            rw [ho3] at hend3
            obtain ⟨hb3, rfl⟩ := hend3
            have HSK : Hid (_) := HK0.out (.inr (.inr ho3))
            have hbelX := hbel1.trans (hb3.mono hbel1.size)
            have hownX := hown1.below hb3 (Nat.le_refl _)
            clear HK0 HG hbel1 hown1 HWk ekg hb3 ho3
            have hbel1 := hbelX
            have hown1 := hownX
            clear hbelX hownX
            go_wp2_with fail
            refine (HW.out k hk _).mono ?_
            intro e w5 hend
            cases ho : wdV (t.drop k) with
            | some r =>
              rw [ho] at hend
              obtain ⟨hb5, v5, rfl, ho5⟩ := hend
              have HM : Hid (_) := HS.out HSK.out r ho
              obtain ⟨hrp, hrl, hrk⟩ := HR.out k r hk ho
              have hbel5 := hbel1.trans (hb5.mono hbel1.size)
              have hown5 := hown1.below hb5 (Nat.le_refl _)
              obtain ⟨cu, ru⟩ := r
              simp only at hrp hrl hrk HM ho5
              obtain ⟨bo, bcp, rfl, -, -⟩ := ho5.form
              have hp' : (0 : Int) < (ru : Int) := by omega
              clear HS HN HW hb5 HSK ho
              go_wp2_with (at_builtin; refine wpList_appA rfl _ _ rfl w.heap.size _ _ out rfl hown5 _ cu rfl ho5 (by omega) hbel5.size ?_; intro v6 w6 hown6 hb6)
              go_wp2
              go_roundw
              case rel => exact ⟨k + ru, f, true, out ++ cu, by omega, by go_num, rfl, by omega, hown6, hbel5.trans hb6, HM, by rw [List.length_append]; omega⟩
              case measure => simp [intOf]; omega
            | none =>
              rw [ho] at hend
              obtain ⟨hb5, rfl⟩ := hend
              have HM0 : Hid (_) := HN.out HSK.out ho
              have hbel5 := hbel1.trans (hb5.mono hbel1.size)
              have hown5 := hown1.below hb5 (Nat.le_refl _)
              have HU := fun wx (hx : Rd wx (some ⟨w5.heap.size, 0, none⟩) t) cp => l2Utf8_any (some ⟨w5.heap.size, 0, none⟩) n cp k t wx HL.out hx hB hkn hn
              have HCU : Hid (cuV (t.drop k) = if (rdC 4 (t.drop k)).2 = 0 then (65533, 1) else (((rdC 4 (t.drop k)).1 : Int), (rdC 4 (t.drop k)).2)) := rfl
              have hcl := rdC_le 4 (t.drop k) (by rw [List.length_drop]; have := HL.out; omega)
              rw [List.length_drop, HL.out] at hcl
              clear HS HN HW hb5 HSK ho
              generalize cuV (t.drop k) = cu at *
              generalize rdC 4 (t.drop k) = rc at *
              obtain ⟨rc1, rc2⟩ := rc
              simp only at HCU hcl HU
              go_wp2_with fail
              have hcap := grownCap_ge w5 n 0 5
              generalize grownCap w5 n 0 5 = cp at *
              have hrd6 : Rd (w5.alloc (.cells (bytesRow (str t) cp) 5 ((bytesRow (str t) cp).size, (bytesRow (str t) cp).size + 1))).drew (some ⟨w5.heap.size, 0, none⟩) t := bytesRow_rd w5 t hB cp _
              have hb6 : Below w5.heap.size w5 (w5.alloc (.cells (bytesRow (str t) cp) 5 ((bytesRow (str t) cp).size, (bytesRow (str t) cp).size + 1))).drew := ((Below.refl _ _).alloc (Nat.le_refl _) _).drew
              have hown6 : OwnI (w5.alloc (.cells (bytesRow (str t) cp) 5 ((bytesRow (str t) cp).size, (bytesRow (str t) cp).size + 1))).drew w.heap.size _ out := hown5.alloc _
              generalize (w5.alloc (.cells (bytesRow (str t) cp) 5 ((bytesRow (str t) cp).size, (bytesRow (str t) cp).size + 1))).drew = W6 at *
              refine (HU _ hrd6 _).mono ?_
              rintro e w7 ⟨rfl, rfl⟩
              have hbel6 := hbel5.trans (hb6.mono hbel5.size)
              clear HU hrd6 hb6 hown5
              by_cases h0 : rc2 = 0
              · have hcu : cu = (65533, 1) := HCU.out.trans (if_pos h0)
                subst hcu h0
                have HM : Hid (_) := HM0
                simp only at HM
                clear HM0 HCU
                go_wp2_with (at_builtin; refine wpList_app_newI rfl _ _ rfl w.heap.size _ out rfl hown6 1 1 [65533] rfl rfl rfl (by omega) hbel6.size ?_; intro v8 w8 hown8 hb8)
                go_wp2
                go_roundw
                case rel => exact ⟨k + 1, f, false, out ++ [65533], by omega, by go_num, rfl, by omega, hown8, hbel6.trans hb8, HM, by rw [List.length_append]; simp; omega⟩
                case measure => simp [intOf]; omega
              · have hcu : cu = ((rc1 : Int), rc2) := HCU.out.trans (if_neg h0)
                subst hcu
                have h0' : ((rc2 : Int) == 0) = false := beq_eq_false_iff_ne.2 (by omega)
                have HM : Hid (_) := HM0
                simp only at HM
                clear HM0 HCU
                go_wp2_with (at_builtin; refine wpList_app_newI rfl _ _ rfl w.heap.size _ out rfl hown6 1 1 [(rc1 : Int)] rfl rfl rfl (by omega) hbel6.size ?_; intro v8 w8 hown8 hb8)
                go_wp2
                go_roundw
                case rel => exact ⟨k + rc2, f, false, out ++ [(rc1 : Int)], by omega, by go_num, rfl, by omega, hown8, hbel6.trans hb8, HM, by rw [List.length_append]; simp; omega⟩
                case measure => simp [intOf]; omega
          | some r =>
            rw [ho3] at hend3
            obtain ⟨hb3, v3, rfl, ho3'⟩ := hend3
            have HM : Hid (_) := HG.out r (by first | rfl | trivial) (by omega) ho3
            obtain ⟨hrp, hrl, hrk⟩ := HR.out kg r hgl ho3
            have hbel3 := hbel1.trans (hb3.mono hbel1.size)
            have hown3 := hown1.below hb3 (Nat.le_refl _)
            rw [ho3] at HWk
            have hp' : (0 : Int) < (r.2 : Int) := by omega
            clear HS HN HW HK0 HG hb3 ho3 ho3'
            go_wp2_with fail
            refine (HWk _).mono ?_
            rintro e w5 ⟨hb5, v5, rfl, ho5⟩
            have hbel5 := hbel3.trans (hb5.mono hbel3.size)
            have hown5 := hown3.below hb5 (Nat.le_refl _)
            obtain ⟨cu, ru⟩ := r
            simp only at hrp hrl hrk HM ho5 hp'
            obtain ⟨bo, bcp, rfl, -, -⟩ := ho5.form
            clear HWk hb5 hown3 hbel3 hbel1 hown1
            go_wp2_with (at_builtin; refine wpList_appA rfl _ _ rfl w.heap.size _ _ out rfl hown5 _ cu rfl ho5 (by omega) hbel5.size ?_; intro v6 w6 hown6 hb6)
            go_wp2
            go_roundw
            case rel => exact ⟨kg + ru, f, true, out ++ cu, by omega, by go_num, rfl, by have := HKG.out; omega, hown6, hbel5.trans hb6, HM, by rw [List.length_append]; have := HKG.out; omega⟩
            case measure => simp [intOf]; have := HKG.out; omega
    · have HM : Hid (wdsM wdV cuV n false t = out) := by
        show _ = _
        rw [HQ.out, wdsM_nil (by rw [List.length_drop]; have := HL.out; omega), List.append_nil]
      have hk' : ¬ (k : Int) < (n : Int) := by omega
      clear HQ
      go_wp2
      go_ret
      exact ⟨_, rfl, by rw [HM.out]; exact hown1, hbel1⟩
end Go.Proofs.YtfbjodbihenmjaaGreatDoor
