/- DecodeWords, the model's, at every text: by a plain function · DecodeWords, the program's, at every text: by the same plain function as the model's. -/
import Derived.Test.YtfbjodbihenmjaaGreatDoorWrd5
import Derived.Test.YtfbjodbihenmjaaGreatDoorWpuToWrd4
namespace Go.Proofs.YtfbjodbihenmjaaGreatDoor
open Go.RowKit

/-- What DecodeWords answers. -/
def dwV (t : List Nat) : Int × List Int := if 400 < t.length then (2, []) else (0, wdsM wdV cuV t.length false t)
theorem dwV_many {t : List Nat} (h : 400 < t.length) : dwV t = (2, []) := if_pos h
theorem dwV_ok {t : List Nat} (h : ¬ 400 < t.length) : dwV t = (0, wdsM wdV cuV t.length false t) := if_neg h
theorem words_few (t : List Nat) (hB : IsB t) (f : Nat) (b : Bool) : (wdsM wdV cuV f b t).length ≤ t.length := by
  suffices h : ∀ (f : Nat) (b : Bool) (v : List Nat), IsB v → (wdsM wdV cuV f b v).length ≤ v.length from h f b t hB
  intro f
  induction f with
  | zero => intro b v _; exact Nat.zero_le _
  | succ f ih =>
    intro b v hBv
    by_cases hv : v.length = 0
    · rw [wdsM_nil hv]; exact Nat.zero_le _
    · have hBs : IsB (skp wdV b v) := by
        unfold skp
        split
        · exact isB_drop hBv _
        · exact hBv
      have hs : (skp wdV b v).length ≤ v.length := by
        unfold skp
        split
        · rw [List.length_drop]; omega
        · exact Nat.le_refl _
      cases hw : wdV (skp wdV b v) with
      | some r =>
        have h1 := wdV_len hw hBs
        have h2 := ih true ((skp wdV b v).drop r.2) (isB_drop hBs _)
        rw [List.length_drop] at h2
        rw [wdsM_word hv hw, List.length_append]; omega
      | none =>
        have h0 : 0 < (skp wdV b v).length := by
          by_cases hc : b = true ∧ 0 < runL gapB v 0 ∧ (wdV (v.drop (runL gapB v 0))).isSome = true
          · rw [skp_yes hc] at hw
            rw [hw] at hc
            cases hc.2.2
          · rw [skp_no hc]; omega
        have h2 := ih false ((skp wdV b v).drop (cuV (skp wdV b v)).2) (isB_drop hBs _)
        have h3 := cuV_pos (skp wdV b v)
        rw [List.length_drop] at h2
        rw [wdsM_char hv hw, List.length_cons]; omega

set_option maxHeartbeats 1600000 in
set_option maxRecDepth 100000 in
theorem specDecodeWords_any (t : List Nat) (n : Nat) (w : World) (hl : t.length = n) (hB : IsB t) (hn : n ≤ 1048576) :
    Calls Tryz.prog 74 #[.string (str t)] w fun e w' => CodEnd (dwV t) w e w' := by
  have hsz : (str t).size = n := by rw [str_size, hl]
  by_cases h4 : 400 < n
  · have h4' : (400 : Int) < (n : Int) := by omega
    have HM : Hid (dwV t = (2, [])) := dwV_many (by omega)
    go_enter Tryz.func74, Tryz.ntmps74
    go_wp2
    go_returns
    rw [HM.out]
    exact ⟨_, rfl, OwnI.nil _ _, by go_grown⟩
  · have h4' : ¬ (400 : Int) < (n : Int) := by omega
    have hb0 : Below w.heap.size w (w.alloc (.cells #[.int .i64 0, .slice none 0 0] 70)) := (Below.refl _ _).alloc (Nat.le_refl _) _
    have hsW : (w.alloc (.cells #[.int .i64 0, .slice none 0 0] 70)).heap.size = w.heap.size + 1 := by simp
    have HO := fun w => l4Words_any t n w hl hB hn
    have HM : Hid (dwV t = (0, wdsM wdV cuV n false t)) := by
      show _ = _
      rw [dwV_ok (by omega), hl]
    have hle := words_few t hB n false
    rw [hl] at hle
    generalize wdsM wdV cuV n false t = u at *
    have hu : ¬ (400 : Int) < (u.length : Int) := by omega
    go_enter Tryz.func74, Tryz.ntmps74
    go_wp2_with fail
    refine (HO _).mono ?_
    rintro e w1 ⟨v, rfl, hown, hb1⟩
    have hbl : Below (w.heap.size + 1) (w.alloc (.cells #[.int .i64 0, .slice none 0 0] 70)) w1 := hb1.mono (by simp)
    rw [hsW] at hown
    clear hb1 HO
    generalize hW : w.alloc (.cells #[.int .i64 0, .slice none 0 0] 70) = W at *
    have hbw := hb0.trans (hbl.mono (by omega))
    obtain ⟨hcw, hcw1, hfw, hfw1⟩ := res_block hW hbl
    obtain ⟨ao, oc, rfl, -, -⟩ := hown.form
    obtain ⟨hk0, hk1⟩ := res_cells hcw hcw1 (.int .i64 0) (.slice ao u.length oc)
    go_wp2
    refine bodyPost_ret (v := .agg #[.int .i64 0, .slice ao u.length oc]) (by simp [results, Tryz.results74, go_sem, hk0, hk1]) rfl ?_
    rw [HM.out]
    exact CodEnd.some hbw hown _ _
end Go.Proofs.YtfbjodbihenmjaaGreatDoor

namespace Go.Proofs.YtfbjodbihenmjaaGreatDoor
open Go.RowKit

theorem str_fullD {t : List Nat} (h : 0 < t.length) : (str t).toList.isEmpty = false := by
  rw [ByteArray.toList_eq, show (str t).data.toList = t.map UInt8.ofNat by simp [str], List.isEmpty_eq_false_iff]
  intro e
  have := congrArg List.length e
  simp at this
  rw [this] at h; simp at h
theorem str_noneD {t : List Nat} (h : t.length = 0) : (str t).toList.isEmpty = true := by
  have : t = [] := List.eq_nil_of_length_eq_zero h
  subst this
  rw [ByteArray.toList_eq]
  rfl
theorem cuV_le {v : List Nat} (h : 0 < v.length) : (cuV v).2 ≤ v.length := by
  by_cases e : (rdC 4 v).2 = 0
  · rw [cuV_no e]; exact h
  · rw [cuV_yes e]; exact rdC_le 4 v h
/-- A piece and what is behind it. -/
theorem pc_step (v : List Nat) (hB : IsB v) (h0 : 0 < v.length) (f : Nat) (b : Bool) : (0 < (pcV v).2.1 ∧ (pcV v).2.1 ≤ v.length ∧ (pcV v).2.2.length ≤ (pcV v).2.1) ∧
    ((pcV v).1 = 1 ∧ ((b = true ∧ (wdV (v.drop (pcV v).2.1)).isSome = true → wdsP wdV cuV (f + 1) b v = wdsP wdV cuV f false (v.drop (pcV v).2.1)) ∧ (¬ (b = true ∧ (wdV (v.drop (pcV v).2.1)).isSome = true) → wdsP wdV cuV (f + 1) b v = (pcV v).2.2 ++ wdsP wdV cuV f false (v.drop (pcV v).2.1))) ∨
     (pcV v).1 = 0 ∧ wdsP wdV cuV (f + 1) b v = (pcV v).2.2 ++ wdsP wdV cuV f false (v.drop (pcV v).2.1) ∨
     (pcV v).1 = 2 ∧ wdsP wdV cuV (f + 1) b v = (pcV v).2.2 ++ wdsP wdV cuV f true (v.drop (pcV v).2.1)) := by
  have hne : v.length ≠ 0 := by omega
  cases hw : wdV v with
  | some r =>
    have h1 := wdV_len hw hB
    rw [pcV_told hw]
    exact ⟨⟨wdOk.pos v r hw, h1.2, h1.1⟩, .inr (.inr ⟨rfl, wdsP_word hne hw⟩)⟩
  | none =>
    cases hg : gapB (nth v 0) with
    | true =>
      rw [pcV_gap hw hg]
      have h1 := runL_le gapB v 0 (Nat.zero_le _)
      have h2 := runL_step (p := gapB) h0 hg
      refine ⟨⟨by show 0 < runL gapB v 0; omega, by show runL gapB v 0 ≤ _; omega, by rw [asI_len, List.length_take]; exact Nat.min_le_left _ _⟩, .inl ⟨rfl, fun h => wdsP_skip hne hw hg h.1 h.2, fun h => wdsP_gaps hne hw hg h⟩⟩
    | false =>
      rw [pcV_char hw hg]
      exact ⟨⟨cuV_pos v, cuV_le h0, cuV_pos v⟩, .inr (.inl ⟨rfl, wdsP_char hne hw hg⟩)⟩
/-- An append that leaves every block but the row's own. -/
theorem wpList_appG {w : World} {ops : Array Oper} {rest : List Oper} {o : Oper} {a : Act} {Q : Exit → Act → World → Prop} (hgd : o.guard = none) (s x : Operand)
    (ho : o.op = .call { callee := .builtin .append, args := #[s, x], argTypes := #[29, 29] })
    (B : Nat) (v v2 : Value) (l : List Int) (hs : a.eval s = v) (hown : OwnI w B v l) (B2 : Nat) (new : List Int) (hx : a.eval x = v2) (hown2 : OwnI w B2 v2 new) (hsz : l.length + new.length ≤ 1048576) (hB : B ≤ w.heap.size)
    (h : ∀ v' w1, OwnI w1 B v' (l ++ new) → Below B w w1 → (∀ p y, w.cell? p = some y → (∀ b, v.ownBlock = some b → p.block ≠ b) → w1.cell? p = some y) → wpList Tryz.prog ops Q rest (a.put o.dst v') w1) : wpList Tryz.prog ops Q (o :: rest) a w := by
  have hh := hown2
  obtain ⟨i0, hi, hz0, hz1, hz2⟩ := info_parts infoBI
  rcases hown2.2 with ⟨h', h0⟩ | ⟨g, cap, cur, h', _⟩
  · subst h'
    obtain rfl : new = [] := List.length_eq_zero_iff.1 h0
    refine wpList_append_own_none hgd s x 29 ho B 2 i0 1 Tryz.underlying29 hi v l.length (ic l) hs hown hx ?_
    exact h v w (by rw [List.append_nil]; exact hown) (Below.refl _ _) (fun p y hp _ => hp)
  · subst h'
    obtain ⟨hl2, hr2⟩ := OwnI.rd hh
    refine wpList_append_own w hgd s x 29 ho B 2 i0 (.int .i64 0) 1 8 Tryz.underlying29 hi hz0 hz1 hz2 rfl (by decide) v l.length (ic l) hs hown ⟨g, 0, none⟩ new.length cap (ic new) hx (by rw [ic_len]; omega) ?_ (ic_one new) (by unfold maxLen; omega) (by omega) hB ?_
    · intro j u hj
      have hjl : j < new.length := by
        rcases Nat.lt_or_ge j new.length with hlt | hge
        · exact hlt
        · rw [List.getElem?_eq_none (by rw [ic_len]; exact hge)] at hj; cases hj
      rw [ic_get hjl] at hj
      cases hj
      obtain ⟨b', off', e, -, hc⟩ := hr2.at_ (by omega)
      cases e
      rw [Go.WideShapes.add_plain]
      exact hc j hjl
    · intro v' w1 hown' hgr _
      refine h v' w1 ?_ ((Below.refl _ _).grown hgr hB (fun k hk => (hown.lt k hk).1)) (fun p y hp hne => hgr.cell hp (fun e => hne _ e.symm rfl))
      unfold OwnI
      rw [ic_app, List.length_append]
      exact hown'
/-- How long a text is. -/
def lenOf (v : Value) : Nat := match v with
  | .string s => s.size
  | _ => 0

set_option maxHeartbeats 1600000 in
set_option maxRecDepth 100000 in
theorem decodeWords_any (t : List Nat) (n : Nat) (w : World) (hl : t.length = n) (hB : IsB t) (hn : n ≤ 1048576) (hc : TabC w) (hb : TabB w) (hh : TabH w) (hm : MaxI w) :
    Calls Tryz.prog 71 #[.string (str t)] w fun e w' => CodEnd (dwV t) w e w' := by
  have hsz : (str t).size = n := by rw [str_size, hl]
  by_cases h4 : 400 < n
  · have h4' : (400 : Int) < (n : Int) := by omega
    have HM : Hid (dwV t = (2, [])) := dwV_many (by omega)
    go_enter Tryz.func71, Tryz.ntmps71
    go_wp2
    go_returns
    rw [HM.out]
    exact ⟨_, rfl, OwnI.nil _ _, by go_grown⟩
  · have h4' : ¬ (400 : Int) < (n : Int) := by omega
    have hb0 : Below w.heap.size w (w.alloc (.cells #[.int .i64 0, .slice none 0 0] 70)) := (Below.refl _ _).alloc (Nat.le_refl _) _
    have hsW : (w.alloc (.cells #[.int .i64 0, .slice none 0 0] 70)).heap.size = w.heap.size + 1 := by simp
    have HL : Hid (t.length = n) := hl
    have HM : Hid (dwV t = (0, wdsP wdV cuV n false t)) := by
      show _ = _
      rw [dwV_ok (by omega), hl, wds_same wdOk n t false n n (by omega) (by omega) (by omega)]
    rw [HM.out]
    have HD : Hid (wdsP wdV cuV n false t = [] ++ wdsP wdV cuV n false (t.drop 0)) := by
      show _ = _
      rw [List.drop_zero, List.nil_append]
    generalize wdsP wdV cuV n false t = dw at *
    clear HM hl
    go_enter Tryz.func71, Tryz.ntmps71
    go_wp2
    generalize hW : w.alloc (.cells #[.int .i64 0, .slice none 0 0] 70) = W at *
    go_loopw [3, 4, 5] (fun v3 v4 v5 wr => ∃ (k f : Nat) (b : Bool) (out : List Int), k ≤ n ∧ v4 = .bool b ∧ v5 = .string (str (t.drop k)) ∧ n - k ≤ f ∧ OwnI wr (w.heap.size + 1) v3 out ∧ Below (w.heap.size + 1) W wr ∧ Hid (dw = out ++ wdsP wdV cuV f b (t.drop k)) ∧ out.length ≤ k) (fun _ _ v5 _ => lenOf v5)
    case atStart => exact ⟨0, n, false, [], Nat.zero_le _, rfl, by rw [List.drop_zero], by omega, OwnI.nil _ _, Below.refl _ _, HD, Nat.zero_le _⟩
    case round =>
      obtain ⟨k, f, b, out, hk, rfl, rfl, hf, hown, hbel, HA, hout⟩ := hrel
      have hz := hbel.size
      rw [hsW] at hz
      have hbw := hb0.trans (hbel.mono (Nat.le_succ _))
      have hvl : (t.drop k).length = n - k := by rw [List.length_drop, HL.out]
      have hBv := isB_drop hB k
      have HK : Hid (∀ r, (t.drop k).drop r = t.drop (k + r)) := fun r => List.drop_drop
      by_cases hkn : k < n
      · obtain ⟨f, rfl⟩ : ∃ f', f = f' + 1 := ⟨f - 1, by omega⟩
        obtain ⟨hr3, HP⟩ := pc_step (t.drop k) hBv (by omega) f b
        have HWd := wordAt_any (t.drop k) (n - k) wr hvl hBv (by omega) (by omega) (hc.below hbw) (hb.below hbw) (hh.below hbw) (hm.below hbw)
        have he0 := str_fullD (t := t.drop k) (by omega)
        have hvs : (str (t.drop k)).size = n - k := by rw [str_size, hvl]
        have HT : Hid (∀ r w', r ≤ n - k → Below w.heap.size w w' → Calls Tryz.prog 89 #[.string (str ((t.drop k).drop r))] w' fun e w'' => e = .returned (.bool (wdV ((t.drop k).drop r)).isSome) ∧ Below w'.heap.size w' w'') := fun r w' hr hbx =>
          beginsTold_any ((t.drop k).drop r) _ w' rfl (isB_drop hBv r) (by rw [List.length_drop]; omega) (hc.below hbx) (hb.below hbx) (hh.below hbx) (hm.below hbx)
        have HE : Hid (∀ r, (str (t.drop k)).extract r (n - k) = str ((t.drop k).drop r)) := fun r => by
          rw [str_piece, ← hvl, List.take_length]
        generalize pcV (t.drop k) = pc at *
        obtain ⟨rc, rk, ru⟩ := pc
        simp only at hr3 HP
        obtain ⟨hr0, hr1, hr2⟩ := hr3
        rw [hvl] at hr1
        have he1 := HE.out rk
        have hK := HK.out rk
        have HTr := fun w' => HT.out rk w' hr1
        rw [hK] at HP he1 HTr
        clear HE HK HT hBv hB HD
        generalize t.drop k = v at *
        obtain ⟨m, hmk⟩ : ∃ m, n - k = m := ⟨_, rfl⟩
        rw [hmk] at hvl hvs hr1 he1
        have hri : (rk : Int) ≤ (m : Int) := by omega
        have hr0i : (0 : Int) ≤ (rk : Int) := by omega
        rcases HP with ⟨rfl, HPs, HPn⟩ | ⟨rfl, HPc⟩ | ⟨rfl, HPc⟩
        · cases b with
          | false =>
            have HM : Hid (dw = (out ++ ru) ++ wdsP wdV cuV f false (t.drop (k + rk))) := by
              show _ = _
              rw [HA.out, HPn (by simp), List.append_assoc]
            clear HA HTr HPs HPn
            go_wp2_with fail
            refine HWd.mono ?_
            rintro e w1 ⟨v1, rfl, hown1, hb1⟩
            obtain ⟨a1, c1, rfl, -, -⟩ := hown1.form
            simp only at hown1 ⊢
            have hz1 := hb1.size
            have hownW := hown.below hb1 (Nat.le_refl _)
            have hfar : ∀ b, u3.ownBlock = some b → w1.heap.size ≠ b := fun b hb => by have := (hownW.lt b hb).2; omega
            have hownA : ∀ ob, OwnI (w1.alloc ob) (w.heap.size + 1) u3 out := fun ob => hownW.alloc ob
            have hown1A : ∀ ob, OwnI (w1.alloc ob) wr.heap.size (.slice a1 ru.length c1) ru := fun ob => hown1.alloc ob
            have hbelA : ∀ ob, Below (w.heap.size + 1) W (w1.alloc ob) := fun ob => (hbel.trans (hb1.mono hz)).alloc (by omega) ob
            clear HWd hown1 hownW
            go_wp2_with (at_builtin; refine wpList_appG rfl _ _ rfl (w.heap.size + 1) _ _ out rfl (hownA _) _ ru rfl (hown1A _) (by omega) (by simp; omega) ?_; intro v6 w6 hown6 hb6 hc6; have hg6 : w6.cell? ⟨w1.heap.size, 0, none⟩ = some (.int .i64 1) := hc6 _ _ (by simp) hfar)
            have hbel6 := (hbelA _).trans hb6
            clear hc6 hownA hown1A hbelA
            go_wp2
            go_roundw
            case rel => exact ⟨k + rk, f, false, out ++ ru, by omega, rfl, rfl, by omega, hown6, hbel6, HM, by rw [List.length_append]; omega⟩
            case measure =>
              show (str (t.drop (k + rk))).size < (str v).size
              rw [hvs, str_size, List.length_drop, HL.out]; omega
          | true =>
            generalize (wdV (t.drop (k + rk))).isSome = sb at *
            cases sb with
            | true =>
              have HM : Hid (dw = out ++ wdsP wdV cuV f false (t.drop (k + rk))) := by
                show _ = _
                rw [HA.out, HPs ⟨rfl, rfl⟩]
              clear HA HPs HPn
              go_wp2_with fail
              refine HWd.mono ?_
              rintro e w1 ⟨v1, rfl, hown1, hb1⟩
              obtain ⟨a1, c1, rfl, -, -⟩ := hown1.form
              simp only at hown1 ⊢
              have hz1 := hb1.size
              have hownW := hown.below hb1 (Nat.le_refl _)
              have hfar : ∀ b, u3.ownBlock = some b → w1.heap.size ≠ b := fun b hb => by have := (hownW.lt b hb).2; omega
              have hownA : ∀ ob, OwnI (w1.alloc ob) (w.heap.size + 1) u3 out := fun ob => hownW.alloc ob
              have hown1A : ∀ ob, OwnI (w1.alloc ob) wr.heap.size (.slice a1 ru.length c1) ru := fun ob => hown1.alloc ob
              have hbelA : ∀ ob, Below (w.heap.size + 1) W (w1.alloc ob) := fun ob => (hbel.trans (hb1.mono hz)).alloc (by omega) ob
              have hT := HTr (w1.alloc (.cells #[.int .i64 1, .int .i64 (rk : Int), .slice a1 ru.length c1] 121)) (hb0.trans ((hbelA _).mono (Nat.le_succ _)))
              have hgX : (w1.alloc (.cells #[.int .i64 1, .int .i64 (rk : Int), .slice a1 ru.length c1] 121)).cell? ⟨w1.heap.size, 0, none⟩ = some (.int .i64 1) ∧ (w1.alloc (.cells #[.int .i64 1, .int .i64 (rk : Int), .slice a1 ru.length c1] 121)).cell? ⟨w1.heap.size, 2, none⟩ = some (.slice a1 ru.length c1) := ⟨by simp, by simp⟩
              have hsX : (w1.alloc (.cells #[.int .i64 1, .int .i64 (rk : Int), .slice a1 ru.length c1] 121)).heap.size = w1.heap.size + 1 := by simp
              clear HWd HTr
              go_wp2_with fail
              refine hT.mono ?_
              rintro e w3 ⟨rfl, hb3⟩
              have hownX := hownA (.cells #[.int .i64 1, .int .i64 (rk : Int), .slice a1 ru.length c1] 121)
              have hown1X := hown1A (.cells #[.int .i64 1, .int .i64 (rk : Int), .slice a1 ru.length c1] 121)
              have hbelX := hbelA (.cells #[.int .i64 1, .int .i64 (rk : Int), .slice a1 ru.length c1] 121)
              clear hownA hown1A hbelA
              generalize (w1.alloc (.cells #[.int .i64 1, .int .i64 (rk : Int), .slice a1 ru.length c1] 121)) = X at *
              have hz3 := hb3.size
              have hown3 := hownX.below hb3 (Nat.le_refl _)
              have hown13 := hown1X.below hb3 (Nat.le_refl _)
              have hbel3 := hbelX.trans (hb3.mono (by omega))
              have hg30 : w3.cell? ⟨w1.heap.size, 0, none⟩ = some (.int .i64 1) := (hb3.cell (p := ⟨w1.heap.size, 0, none⟩) (by show w1.heap.size < X.heap.size; omega)).trans hgX.1
              have hg32 : w3.cell? ⟨w1.heap.size, 2, none⟩ = some (.slice a1 ru.length c1) := (hb3.cell (p := ⟨w1.heap.size, 2, none⟩) (by show w1.heap.size < X.heap.size; omega)).trans hgX.2
              clear hT hgX hb3 hownX hown1X hbelX
              go_wp2
              go_roundw
              case rel => exact ⟨k + rk, f, false, out, by omega, rfl, rfl, by omega, hown3, hbel3, HM, by omega⟩
              case measure =>
                show (str (t.drop (k + rk))).size < (str v).size
                rw [hvs, str_size, List.length_drop, HL.out]; omega
            | false =>
              have HM : Hid (dw = (out ++ ru) ++ wdsP wdV cuV f false (t.drop (k + rk))) := by
                show _ = _
                rw [HA.out, HPn (by simp), List.append_assoc]
              clear HA HPs HPn
              go_wp2_with fail
              refine HWd.mono ?_
              rintro e w1 ⟨v1, rfl, hown1, hb1⟩
              obtain ⟨a1, c1, rfl, -, -⟩ := hown1.form
              simp only at hown1 ⊢
              have hz1 := hb1.size
              have hownW := hown.below hb1 (Nat.le_refl _)
              have hfar : ∀ b, u3.ownBlock = some b → w1.heap.size ≠ b := fun b hb => by have := (hownW.lt b hb).2; omega
              have hownA : ∀ ob, OwnI (w1.alloc ob) (w.heap.size + 1) u3 out := fun ob => hownW.alloc ob
              have hown1A : ∀ ob, OwnI (w1.alloc ob) wr.heap.size (.slice a1 ru.length c1) ru := fun ob => hown1.alloc ob
              have hbelA : ∀ ob, Below (w.heap.size + 1) W (w1.alloc ob) := fun ob => (hbel.trans (hb1.mono hz)).alloc (by omega) ob
              have hT := HTr (w1.alloc (.cells #[.int .i64 1, .int .i64 (rk : Int), .slice a1 ru.length c1] 121)) (hb0.trans ((hbelA _).mono (Nat.le_succ _)))
              have hgX : (w1.alloc (.cells #[.int .i64 1, .int .i64 (rk : Int), .slice a1 ru.length c1] 121)).cell? ⟨w1.heap.size, 0, none⟩ = some (.int .i64 1) ∧ (w1.alloc (.cells #[.int .i64 1, .int .i64 (rk : Int), .slice a1 ru.length c1] 121)).cell? ⟨w1.heap.size, 2, none⟩ = some (.slice a1 ru.length c1) := ⟨by simp, by simp⟩
              have hsX : (w1.alloc (.cells #[.int .i64 1, .int .i64 (rk : Int), .slice a1 ru.length c1] 121)).heap.size = w1.heap.size + 1 := by simp
              clear HWd HTr
              go_wp2_with fail
              refine hT.mono ?_
              rintro e w3 ⟨rfl, hb3⟩
              have hownX := hownA (.cells #[.int .i64 1, .int .i64 (rk : Int), .slice a1 ru.length c1] 121)
              have hown1X := hown1A (.cells #[.int .i64 1, .int .i64 (rk : Int), .slice a1 ru.length c1] 121)
              have hbelX := hbelA (.cells #[.int .i64 1, .int .i64 (rk : Int), .slice a1 ru.length c1] 121)
              clear hownA hown1A hbelA
              generalize (w1.alloc (.cells #[.int .i64 1, .int .i64 (rk : Int), .slice a1 ru.length c1] 121)) = X at *
              have hz3 := hb3.size
              have hown3 := hownX.below hb3 (Nat.le_refl _)
              have hown13 := hown1X.below hb3 (Nat.le_refl _)
              have hbel3 := hbelX.trans (hb3.mono (by omega))
              have hg30 : w3.cell? ⟨w1.heap.size, 0, none⟩ = some (.int .i64 1) := (hb3.cell (p := ⟨w1.heap.size, 0, none⟩) (by show w1.heap.size < X.heap.size; omega)).trans hgX.1
              have hg32 : w3.cell? ⟨w1.heap.size, 2, none⟩ = some (.slice a1 ru.length c1) := (hb3.cell (p := ⟨w1.heap.size, 2, none⟩) (by show w1.heap.size < X.heap.size; omega)).trans hgX.2
              clear hT hgX hb3 hownX hown1X hbelX
              go_wp2_with (at_builtin; refine wpList_appG rfl _ _ rfl (w.heap.size + 1) _ _ out rfl hown3 _ ru rfl hown13 (by omega) (by omega) ?_; intro v6 w6 hown6 hb6 hc6; have hg6 : w6.cell? ⟨w1.heap.size, 0, none⟩ = some (.int .i64 1) := hc6 _ _ hg30 hfar)
              have hbel6 := hbel3.trans hb6
              clear hc6
              go_wp2
              go_roundw
              case rel => exact ⟨k + rk, f, false, out ++ ru, by omega, rfl, rfl, by omega, hown6, hbel6, HM, by rw [List.length_append]; omega⟩
              case measure =>
                show (str (t.drop (k + rk))).size < (str v).size
                rw [hvs, str_size, List.length_drop, HL.out]; omega
        · have HM : Hid (dw = (out ++ ru) ++ wdsP wdV cuV f false (t.drop (k + rk))) := by
            show _ = _
            rw [HA.out, HPc, List.append_assoc]
          clear HA HTr
          go_wp2_with fail
          refine HWd.mono ?_
          rintro e w1 ⟨v1, rfl, hown1, hb1⟩
          obtain ⟨a1, c1, rfl, -, -⟩ := hown1.form
          simp only at hown1 ⊢
          have hz1 := hb1.size
          have hownW := hown.below hb1 (Nat.le_refl _)
          have hfar : ∀ b, u3.ownBlock = some b → w1.heap.size ≠ b := fun b hb => by have := (hownW.lt b hb).2; omega
          have hownA : ∀ ob, OwnI (w1.alloc ob) (w.heap.size + 1) u3 out := fun ob => hownW.alloc ob
          have hown1A : ∀ ob, OwnI (w1.alloc ob) wr.heap.size (.slice a1 ru.length c1) ru := fun ob => hown1.alloc ob
          have hbelA : ∀ ob, Below (w.heap.size + 1) W (w1.alloc ob) := fun ob => (hbel.trans (hb1.mono hz)).alloc (by omega) ob
          clear HWd hown1 hownW
          go_wp2_with (at_builtin; refine wpList_appG rfl _ _ rfl (w.heap.size + 1) _ _ out rfl (hownA _) _ ru rfl (hown1A _) (by omega) (by simp; omega) ?_; intro v6 w6 hown6 hb6 hc6; have hg6 : w6.cell? ⟨w1.heap.size, 0, none⟩ = some (.int .i64 0) := hc6 _ _ (by simp) hfar)
          have hbel6 := (hbelA _).trans hb6
          clear hc6 hownA hown1A hbelA
          go_wp2
          go_roundw
          case rel => exact ⟨k + rk, f, false, out ++ ru, by omega, rfl, rfl, by omega, hown6, hbel6, HM, by rw [List.length_append]; omega⟩
          case measure =>
            show (str (t.drop (k + rk))).size < (str v).size
            rw [hvs, str_size, List.length_drop, HL.out]; omega
        · have HM : Hid (dw = (out ++ ru) ++ wdsP wdV cuV f true (t.drop (k + rk))) := by
            show _ = _
            rw [HA.out, HPc, List.append_assoc]
          clear HA HTr
          go_wp2_with fail
          refine HWd.mono ?_
          rintro e w1 ⟨v1, rfl, hown1, hb1⟩
          obtain ⟨a1, c1, rfl, -, -⟩ := hown1.form
          simp only at hown1 ⊢
          have hz1 := hb1.size
          have hownW := hown.below hb1 (Nat.le_refl _)
          have hfar : ∀ b, u3.ownBlock = some b → w1.heap.size ≠ b := fun b hb => by have := (hownW.lt b hb).2; omega
          have hownA : ∀ ob, OwnI (w1.alloc ob) (w.heap.size + 1) u3 out := fun ob => hownW.alloc ob
          have hown1A : ∀ ob, OwnI (w1.alloc ob) wr.heap.size (.slice a1 ru.length c1) ru := fun ob => hown1.alloc ob
          have hbelA : ∀ ob, Below (w.heap.size + 1) W (w1.alloc ob) := fun ob => (hbel.trans (hb1.mono hz)).alloc (by omega) ob
          clear HWd hown1 hownW
          go_wp2_with (at_builtin; refine wpList_appG rfl _ _ rfl (w.heap.size + 1) _ _ out rfl (hownA _) _ ru rfl (hown1A _) (by omega) (by simp; omega) ?_; intro v6 w6 hown6 hb6 hc6; have hg6 : w6.cell? ⟨w1.heap.size, 0, none⟩ = some (.int .i64 2) := hc6 _ _ (by simp) hfar)
          have hbel6 := (hbelA _).trans hb6
          clear hc6 hownA hown1A hbelA
          go_wp2
          go_roundw
          case rel => exact ⟨k + rk, f, true, out ++ ru, by omega, rfl, rfl, by omega, hown6, hbel6, HM, by rw [List.length_append]; omega⟩
          case measure =>
            show (str (t.drop (k + rk))).size < (str v).size
            rw [hvs, str_size, List.length_drop, HL.out]; omega
      · have hv0 : t.drop k = [] := List.eq_nil_of_length_eq_zero (by omega)
        have he0 := str_noneD (t := t.drop k) (by omega)
        obtain rfl : dw = out := by
          rw [HA.out, wdsP_nil (by omega), List.append_nil]
        obtain ⟨ao, oc, rfl, -, -⟩ := hown.form
        obtain ⟨hcw, hcw1, hfw, hfw1⟩ := res_block hW hbel
        obtain ⟨hk0, hk1⟩ := res_cells hcw hcw1 (.int .i64 0) (.slice ao dw.length oc)
        clear HA HD HK hv0
        go_wp2
        refine bodyPost_ret (v := .agg #[.int .i64 0, .slice ao dw.length oc]) (by simp [results, Tryz.results71, go_sem, hk0, hk1]) rfl ?_
        exact CodEnd.some hbw hown _ _
end Go.Proofs.YtfbjodbihenmjaaGreatDoor
