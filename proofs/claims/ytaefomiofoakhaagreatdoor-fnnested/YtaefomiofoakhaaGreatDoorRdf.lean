/- The fields of a header, the program's: the walk over its labels. -/
import Derived.Test.YtaefomiofoakhaaGreatDoorFldToJmp
import Derived.Test.YtaefomiofoakhaaGreatDoorLin
namespace Go.Proofs.YtaefomiofoakhaaGreatDoor
open Go.RowKit

/-- How the answer lies. -/
def RfEnd (o : Option (List FldP × Nat)) (w : World) (e : Ending) (w' : World) : Prop := Below w.heap.size w w' ∧
  match o with
  | some (fs, k) => ∃ v, e = .returned (.tuple #[v, .int .i64 (k : Int), .bool true]) ∧ OwnF w' w.heap.size v fs
  | none => e = .returned (.tuple #[.slice none 0 0, .int .i64 0, .bool false])
/-- What a line makes of a header. -/
def lnK (d : List Nat) (f k : Nat) (o : Option (List FldP)) : Option (List FldP × Nat) := match o with
  | none => none
  | some fs => prH d f k fs
/-- The frame. -/
def FrM (x v2 v3 v5 : Value) (a : Act) : Prop := ∃ u6 u7 u8 u9 u10 u11 u12 u13 u14 u15 u16 u17 u18 u19 u20 u21 u22 u23 u24 u25 u26 u27 u28 u29 u30 u31 u32 u33 u34 u35 u36 u37 u38 u39 u40 : Value, a = { tmps := #[x, undef, v2, v3, .bool false, v5, u6, u7, u8, u9, u10, u11, u12, u13, u14, u15, u16, u17, u18, u19, u20, u21, u22, u23, u24, u25, u26, u27, u28, u29, u30, u31, u32, u33, u34, u35, u36, u37, u38, u39, u40], defers := [] }
/-- What holds at a label. -/
def StM (x : Value) (d : List Nat) (n : Nat) (w : World) (l : Nat) (a : Act) (wr : World) : Prop := Below w.heap.size w wr ∧ match l with
  | 0 => ∃ (k f : Nat) (v v5 : Value) (fs : List FldP), FrM x v (.int .i64 (k : Int)) v5 a ∧ k ≤ n ∧ n + 1 ≤ f + k ∧ OwnF wr w.heap.size v fs ∧ FitK k fs ∧ Hid (prH d (n + 1) 0 [] = prH d f k fs)
  | 1 => ∃ (k f : Nat) (v : Value) (fs : List FldP) (t : List Nat), FrM x v (.int .i64 (k : Int)) (.string (str t)) a ∧ k ≤ n ∧ n + 1 ≤ f + k ∧ OwnF wr w.heap.size v fs ∧ FitK n fs ∧ 0 < t.length ∧ t.length ≤ n ∧ IsB t ∧ Hid (nth t 0 = 32 ∨ nth t 0 = 9) ∧ Hid (prH d (n + 1) 0 [] = lnK d f k (lnV fs t)) ∧ Hid (∀ fs', lnV fs t = some fs' → FitK k fs')
  | 2 => ∃ (k f : Nat) (v : Value) (fs : List FldP) (t : List Nat), FrM x v (.int .i64 (k : Int)) (.string (str t)) a ∧ k ≤ n ∧ n + 1 ≤ f + k ∧ OwnF wr w.heap.size v fs ∧ FitK n fs ∧ 0 < t.length ∧ t.length ≤ n ∧ IsB t ∧ Hid (¬ (nth t 0 = 32 ∨ nth t 0 = 9)) ∧ Hid (clN t < t.length) ∧ Hid (prH d (n + 1) 0 [] = lnK d f k (lnV fs t)) ∧ Hid (∀ fs', lnV fs t = some fs' → FitK k fs')
  | 3 => ∃ v2 v3 v5 : Value, FrM x v2 v3 v5 a ∧ Hid (prH d (n + 1) 0 [] = none)
  | _ => False
/-- What each pass lowers. -/
def muM (n : Nat) (l : Nat) (a : Act) (_ : World) : Nat := match l with
  | 0 => 3 * (n - (intOf (a.tmps.getD 3 undef)).toNat) + 1
  | 1 => 3 * (n - (intOf (a.tmps.getD 3 undef)).toNat) + 2
  | 2 => 3 * (n - (intOf (a.tmps.getD 3 undef)).toNat) + 2
  | _ => 0
theorem FrM.mu0 {x v2 v5 : Value} {a : Act} {k : Nat} (h : FrM x v2 (.int .i64 (k : Int)) v5 a) (n : Nat) (w : World) : muM n 0 a w = 3 * (n - k) + 1 := by
  obtain ⟨u6, u7, u8, u9, u10, u11, u12, u13, u14, u15, u16, u17, u18, u19, u20, u21, u22, u23, u24, u25, u26, u27, u28, u29, u30, u31, u32, u33, u34, u35, u36, u37, u38, u39, u40, rfl⟩ := h
  rfl
theorem FrM.mu1 {x v2 v5 : Value} {a : Act} {k : Nat} (h : FrM x v2 (.int .i64 (k : Int)) v5 a) (n : Nat) (w : World) : muM n 1 a w = 3 * (n - k) + 2 := by
  obtain ⟨u6, u7, u8, u9, u10, u11, u12, u13, u14, u15, u16, u17, u18, u19, u20, u21, u22, u23, u24, u25, u26, u27, u28, u29, u30, u31, u32, u33, u34, u35, u36, u37, u38, u39, u40, rfl⟩ := h
  rfl
theorem FrM.mu2 {x v2 v5 : Value} {a : Act} {k : Nat} (h : FrM x v2 (.int .i64 (k : Int)) v5 a) (n : Nat) (w : World) : muM n 2 a w = 3 * (n - k) + 2 := by
  obtain ⟨u6, u7, u8, u9, u10, u11, u12, u13, u14, u15, u16, u17, u18, u19, u20, u21, u22, u23, u24, u25, u26, u27, u28, u29, u30, u31, u32, u33, u34, u35, u36, u37, u38, u39, u40, rfl⟩ := h
  rfl
theorem prH_line {d : List Nat} {f k n : Nat} {fs : List FldP} (hl : d.length = n) (h : k < n) (he : eoL d k ≠ k) : prH d (f + 1) k fs = lnK d f (if eoL d k < n then eoL d k + 1 else eoL d k) (lnV fs ((d.take (eoL d k)).drop k)) := by
  subst hl
  cases hv : lnV fs ((d.take (eoL d k)).drop k) with
  | none => exact prH_bad h he hv
  | some fs' => exact prH_on h he hv
theorem kdL_0 {t : List Nat} (h : t.length = 0) : kdL t = 1 := if_pos h
theorem kdL_2 {t : List Nat} (h : t.length ≠ 0) (h1 : nth t 0 = 32 ∨ nth t 0 = 9) : kdL t = 2 := by unfold kdL; rw [if_neg h, if_pos h1]
theorem kdL_3 {t : List Nat} (h : t.length ≠ 0) (h1 : ¬ (nth t 0 = 32 ∨ nth t 0 = 9)) (h2 : clN t < t.length) : kdL t = 3 := by unfold kdL; rw [if_neg h, if_neg h1, if_pos h2]
theorem kdL_n {t : List Nat} (h : t.length ≠ 0) (h1 : ¬ (nth t 0 = 32 ∨ nth t 0 = 9)) (h2 : ¬ clN t < t.length) : kdL t = 0 := by unfold kdL; rw [if_neg h, if_neg h1, if_neg h2]

set_option maxHeartbeats 3200000 in
set_option maxRecDepth 100000 in
theorem readFields_some (b off n cap : Nat) (d : List Nat) (w : World) (hl : d.length = n) (hr : Rd w (some ⟨b, off, none⟩) d) (hB : IsB d) (hn : n ≤ 1048000) (hcap : n ≤ cap) :
    Calls Tryz.prog 70 #[.slice (some ⟨b, off, none⟩) n cap] w fun e w' => RfEnd (prH d (n + 1) 0 []) w e w' := by
  have HL : Hid (d.length = n) := hl
  clear hl
  go_enter Tryz.func70, Tryz.ntmps70
  go_wp2
  refine wp_scope_labels (StM (.slice (some ⟨b, off, none⟩) n cap) d n w) (muM n) ?_ ?_
  · go_wp2
    go_step3
    have hJ : StM (.slice (some ⟨b, off, none⟩) n cap) d n w 0 { tmps := #[.slice (some ⟨b, off, none⟩) n cap, undef, .slice none 0 0, .int .i64 0, .bool false, .string ⟨#[]⟩, undef, undef, undef, undef, undef, undef, undef, undef, undef, undef, undef, undef, undef, undef, undef, undef, undef, undef, undef, undef, undef, undef, undef, undef, undef, undef, undef, undef, undef, undef, undef, undef, undef, undef, undef], defers := [] } w :=
      ⟨Below.refl _ _, 0, n + 1, _, _, [], ⟨_, _, _, _, _, _, _, _, _, _, _, _, _, _, _, _, _, _, _, _, _, _, _, _, _, _, _, _, _, _, _, _, _, _, _, rfl⟩, Nat.zero_le _, by omega, OwnF.nil _ _, ⟨Nat.le_refl _, fun p hp => by cases hp⟩, rfl⟩
    generalize hA : ({ tmps := #[.slice (some ⟨b, off, none⟩) n cap, undef, .slice none 0 0, .int .i64 0, .bool false, .string ⟨#[]⟩, undef, undef, undef, undef, undef, undef, undef, undef, undef, undef, undef, undef, undef, undef, undef, undef, undef, undef, undef, undef, undef, undef, undef, undef, undef, undef, undef, undef, undef, undef, undef, undef, undef, undef, undef], defers := [] } : Act) = A at *
    clear hA
    rename_i K hK
    show K A w
    refine hK A w ?_
    clear hK K
    obtain ⟨hbel, hJ⟩ := hJ
    obtain ⟨k, f, v, v5, fs, hfr, hk, hf, hown, hfit, HP⟩ := hJ
    obtain ⟨u6, u7, u8, u9, u10, u11, u12, u13, u14, u15, u16, u17, u18, u19, u20, u21, u22, u23, u24, u25, u26, u27, u28, u29, u30, u31, u32, u33, u34, u35, u36, u37, u38, u39, u40, rfl⟩ := hfr
    have hge := eoL_ge d k
    have hle := eoL_le (l := d) (i := k) (by have := HL.out; omega)
    rw [HL.out] at hle
    have htl : ((d.take (eoL d k)).drop k).length = eoL d k - k := by rw [List.length_drop, List.length_take]; have := HL.out; omega
    have hBt : IsB ((d.take (eoL d k)).drop k) := isB_drop (isB_take hB _) _
    have HLn := lineAt_some b off n cap k d w HL.out (hr.below hbel) hB hn hcap hk
    have HKd := kindOfLine_any ((d.take (eoL d k)).drop k) _ w rfl hBt (by omega)
    obtain ⟨f, rfl⟩ : ∃ f', f = f' + 1 := ⟨f - 1, by omega⟩
    have HE : Hid (((d.take (eoL d k)).drop k).length = 0 → prH d (n + 1) 0 [] = some (fs, (if eoL d k < n then eoL d k + 1 else eoL d k))) := fun h => by
      have he : eoL d k = k := by omega
      rw [HP.out]
      by_cases hkn : k < n
      · rw [prH_stop (by have := HL.out; omega) he, he, if_pos hkn]
      · rw [prH_end (by have := HL.out; omega), he, if_neg hkn]
    have HN : Hid (((d.take (eoL d k)).drop k).length ≠ 0 → prH d (n + 1) 0 [] = lnK d f (if eoL d k < n then eoL d k + 1 else eoL d k) (lnV fs ((d.take (eoL d k)).drop k))) := fun h => by
      rw [HP.out]
      exact prH_line HL.out (by omega) (by omega)
    have HQ : Hid (((d.take (eoL d k)).drop k).length ≠ 0 → k < (if eoL d k < n then eoL d k + 1 else eoL d k)) := fun h => by
      show _ < _
      split <;> omega
    have hqn : (if eoL d k < n then eoL d k + 1 else eoL d k) ≤ n := by split <;> omega
    have HK : Hid (((d.take (eoL d k)).drop k).length ≠ 0 → ∀ fs', lnV fs ((d.take (eoL d k)).drop k) = some fs' → FitK (if eoL d k < n then eoL d k + 1 else eoL d k) fs') := fun h fs' hv => by
      refine (lnV_fit (by omega) hfit hv).1.mono ?_
      split <;> omega
    have htn : ((d.take (eoL d k)).drop k).length ≤ n := by omega
    have hfn : FitK n fs := hfit.mono hk
    generalize (d.take (eoL d k)).drop k = t at *
    generalize (if eoL d k < n then eoL d k + 1 else eoL d k) = q at *
    clear htl hge hle HP hfit
    go_wp2_with fail
    refine HLn.mono ?_
    rintro e w1 ⟨rfl, rfl⟩
    go_wp2_with fail
    refine HKd.mono ?_
    rintro e w1 ⟨rfl, rfl⟩
    clear HLn HKd
    by_cases ht0 : t.length = 0
    · have HM : Hid (_) := HE.out ht0
      rw [kdL_0 ht0]
      clear HE HN HQ HK
      go_wp2
      rw [jumps_ret]
      refine bodyPost_ret (v := .tuple #[v, .int .i64 (q : Int), .bool true]) (by simp [results, Tryz.results70, go_sem]) rfl ?_
      rw [HM.out]
      exact ⟨hbel, _, rfl, hown⟩
    · have HM : Hid (_) := HN.out ht0
      have hq := HQ.out ht0
      have HK' : Hid (_) := HK.out ht0
      clear HE HN HQ HK
      by_cases hb : nth t 0 = 32 ∨ nth t 0 = 9
      · rw [kdL_2 ht0 hb]
        go_wp2
        go_step3
        exact ⟨hbel, q, f, v, fs, t, ⟨_, _, _, _, _, _, _, _, _, _, _, _, _, _, _, _, _, _, _, _, _, _, _, _, _, _, _, _, _, _, _, _, _, _, _, rfl⟩, hqn, by omega, hown, hfn, by omega, htn, hBt, hb, HM, HK'⟩
      · by_cases hc : clN t < t.length
        · rw [kdL_3 ht0 hb hc]
          go_wp2
          go_step3
          exact ⟨hbel, q, f, v, fs, t, ⟨_, _, _, _, _, _, _, _, _, _, _, _, _, _, _, _, _, _, _, _, _, _, _, _, _, _, _, _, _, _, _, _, _, _, _, rfl⟩, hqn, by omega, hown, hfn, by omega, htn, hBt, hb, hc, HM, HK'⟩
        · rw [kdL_n ht0 hb hc]
          rw [lnV_none hb hc] at HM
          go_wp2
          go_step3
          exact ⟨hbel, v, _, _, ⟨_, _, _, _, _, _, _, _, _, _, _, _, _, _, _, _, _, _, _, _, _, _, _, _, _, _, _, _, _, _, _, _, _, _, _, rfl⟩, HM⟩
  · intro l a wr hJ
    obtain ⟨hbel, hJ0⟩ := hJ
    match l, hJ0 with
    | 0, hJ =>
      clear hJ0
      refine ⟨_, rfl, ?_⟩
      obtain ⟨k, f, v, v5, fs, hfr, hk, hf, hown, hfit, HP⟩ := hJ
      rw [hfr.mu0]
      obtain ⟨u6, u7, u8, u9, u10, u11, u12, u13, u14, u15, u16, u17, u18, u19, u20, u21, u22, u23, u24, u25, u26, u27, u28, u29, u30, u31, u32, u33, u34, u35, u36, u37, u38, u39, u40, rfl⟩ := hfr
      have hge := eoL_ge d k
      have hle := eoL_le (l := d) (i := k) (by have := HL.out; omega)
      rw [HL.out] at hle
      have htl : ((d.take (eoL d k)).drop k).length = eoL d k - k := by rw [List.length_drop, List.length_take]; have := HL.out; omega
      have hBt : IsB ((d.take (eoL d k)).drop k) := isB_drop (isB_take hB _) _
      have HLn := lineAt_some b off n cap k d wr HL.out (hr.below hbel) hB hn hcap hk
      have HKd := kindOfLine_any ((d.take (eoL d k)).drop k) _ wr rfl hBt (by omega)
      obtain ⟨f, rfl⟩ : ∃ f', f = f' + 1 := ⟨f - 1, by omega⟩
      have HE : Hid (((d.take (eoL d k)).drop k).length = 0 → prH d (n + 1) 0 [] = some (fs, (if eoL d k < n then eoL d k + 1 else eoL d k))) := fun h => by
        have he : eoL d k = k := by omega
        rw [HP.out]
        by_cases hkn : k < n
        · rw [prH_stop (by have := HL.out; omega) he, he, if_pos hkn]
        · rw [prH_end (by have := HL.out; omega), he, if_neg hkn]
      have HN : Hid (((d.take (eoL d k)).drop k).length ≠ 0 → prH d (n + 1) 0 [] = lnK d f (if eoL d k < n then eoL d k + 1 else eoL d k) (lnV fs ((d.take (eoL d k)).drop k))) := fun h => by
        rw [HP.out]
        exact prH_line HL.out (by omega) (by omega)
      have HQ : Hid (((d.take (eoL d k)).drop k).length ≠ 0 → k < (if eoL d k < n then eoL d k + 1 else eoL d k)) := fun h => by
        show _ < _
        split <;> omega
      have hqn : (if eoL d k < n then eoL d k + 1 else eoL d k) ≤ n := by split <;> omega
      have HK : Hid (((d.take (eoL d k)).drop k).length ≠ 0 → ∀ fs', lnV fs ((d.take (eoL d k)).drop k) = some fs' → FitK (if eoL d k < n then eoL d k + 1 else eoL d k) fs') := fun h fs' hv => by
        refine (lnV_fit (by omega) hfit hv).1.mono ?_
        split <;> omega
      have htn : ((d.take (eoL d k)).drop k).length ≤ n := by omega
      have hfn : FitK n fs := hfit.mono hk
      generalize (d.take (eoL d k)).drop k = t at *
      generalize (if eoL d k < n then eoL d k + 1 else eoL d k) = q at *
      clear htl hge hle HP hfit
      go_wp2_with fail
      refine HLn.mono ?_
      rintro e w1 ⟨rfl, rfl⟩
      go_wp2_with fail
      refine HKd.mono ?_
      rintro e w1 ⟨rfl, rfl⟩
      clear HLn HKd
      by_cases ht0 : t.length = 0
      · have HM : Hid (_) := HE.out ht0
        rw [kdL_0 ht0]
        clear HE HN HQ HK
        go_wp2
        rw [jumps_ret]
        refine bodyPost_ret (v := .tuple #[v, .int .i64 (q : Int), .bool true]) (by simp [results, Tryz.results70, go_sem]) rfl ?_
        rw [HM.out]
        exact ⟨hbel, _, rfl, hown⟩
      · have HM : Hid (_) := HN.out ht0
        have hq := HQ.out ht0
        have HK' : Hid (_) := HK.out ht0
        clear HE HN HQ HK
        by_cases hb : nth t 0 = 32 ∨ nth t 0 = 9
        · rw [kdL_2 ht0 hb]
          go_wp2
          go_step3
          refine ⟨⟨hbel, q, f, v, fs, t, ⟨_, _, _, _, _, _, _, _, _, _, _, _, _, _, _, _, _, _, _, _, _, _, _, _, _, _, _, _, _, _, _, _, _, _, _, rfl⟩, hqn, by omega, hown, hfn, by omega, htn, hBt, hb, HM, HK'⟩, ?_⟩
          show 3 * (n - q) + 2 < 3 * (n - k) + 1
          omega
        · by_cases hc : clN t < t.length
          · rw [kdL_3 ht0 hb hc]
            go_wp2
            go_step3
            refine ⟨⟨hbel, q, f, v, fs, t, ⟨_, _, _, _, _, _, _, _, _, _, _, _, _, _, _, _, _, _, _, _, _, _, _, _, _, _, _, _, _, _, _, _, _, _, _, rfl⟩, hqn, by omega, hown, hfn, by omega, htn, hBt, hb, hc, HM, HK'⟩, ?_⟩
            show 3 * (n - q) + 2 < 3 * (n - k) + 1
            omega
          · rw [kdL_n ht0 hb hc]
            rw [lnV_none hb hc] at HM
            go_wp2
            go_step3
            refine ⟨⟨hbel, v, _, _, ⟨_, _, _, _, _, _, _, _, _, _, _, _, _, _, _, _, _, _, _, _, _, _, _, _, _, _, _, _, _, _, _, _, _, _, _, rfl⟩, HM⟩, ?_⟩
            show 0 < 3 * (n - k) + 1
            omega
    | 1, hJ =>
      clear hJ0
      refine ⟨_, rfl, ?_⟩
      obtain ⟨k, f, v, fs, t, hfr, hk, hf, hown, hfit, ht0, htn, hBt, HX, HP, HK⟩ := hJ
      rw [hfr.mu1]
      obtain ⟨u6, u7, u8, u9, u10, u11, u12, u13, u14, u15, u16, u17, u18, u19, u20, u21, u22, u23, u24, u25, u26, u27, u28, u29, u30, u31, u32, u33, u34, u35, u36, u37, u38, u39, u40, rfl⟩ := hfr
      by_cases h0 : fs.length = 0
      · have HM : Hid (prH d (n + 1) 0 [] = none) := HP.out.trans (by rw [lnV_first HX.out h0]; rfl)
        obtain ⟨ao, oc, rfl, -⟩ := hown.form
        rw [h0]
        go_wp2
        go_step3
        refine ⟨⟨hbel, _, _, _, ⟨_, _, _, _, _, _, _, _, _, _, _, _, _, _, _, _, _, _, _, _, _, _, _, _, _, _, _, _, _, _, _, _, _, _, _, rfl⟩, HM⟩, ?_⟩
        show 0 < 3 * (n - k) + 2
        omega
      · obtain ⟨m, hm⟩ : ∃ m, fs.length = m + 1 := ⟨fs.length - 1, by omega⟩
        have HM : Hid (prH d (n + 1) 0 [] = prH d f k (goOn fs t)) := HP.out.trans (by rw [lnV_on HX.out h0]; rfl)
        have hF' := HK.out (goOn fs t) (lnV_on HX.out h0)
        obtain ⟨g, gc, ev, hg1, hg2, hgc, hset⟩ := hown.at_ (by omega)
        rw [hm] at ev
        subst ev
        obtain ⟨hc0, hc1, hc2⟩ := hgc m (by omega)
        have hs2 := hset m (by omega) (str (bts (nthF fs m).2 ++ t))
        have HG : Hid (goOn fs t = fs.set m ((nthF fs m).1, str (bts (nthF fs m).2 ++ t))) := by
          show _ = _
          unfold goOn; rw [hm]; rfl
        rw [← HG.out] at hs2
        have hfm := hfit.2 (nthF fs m) (by rw [nthF_get (by omega)]; exact List.getElem_mem _)
        have hadd := add_fields (nthF fs m).2 t (by omega) (by omega)
        have hbS := hbel.setCell (p := ⟨g, m * 2 + 1, none⟩) hg1 (.string (str (bts (nthF fs m).2 ++ t)))
        have hmb : m ≤ 1048000 := by have := hfit.1; omega
        clear hgc hset HP HK HX HG hm h0 hown hfit
        generalize goOn fs t = fs' at *
        generalize nthF fs m = p at *
        generalize str (bts p.2 ++ t) = y at *
        go_wp2
        go_step3
        refine ⟨⟨hbS, k, f, _, _, fs', ⟨_, _, _, _, _, _, _, _, _, _, _, _, _, _, _, _, _, _, _, _, _, _, _, _, _, _, _, _, _, _, _, _, _, _, _, rfl⟩, hk, hf, hs2, hF', HM⟩, ?_⟩
        show 3 * (n - k) + 1 < 3 * (n - k) + 2
        omega
    | 2, hJ =>
      clear hJ0
      refine ⟨_, rfl, ?_⟩
      obtain ⟨k, f, v, fs, t, hfr, hk, hf, hown, hfit, ht0, htn, hBt, HX, HC, HP, HK⟩ := hJ
      rw [hfr.mu2]
      obtain ⟨u6, u7, u8, u9, u10, u11, u12, u13, u14, u15, u16, u17, u18, u19, u20, u21, u22, u23, u24, u25, u26, u27, u28, u29, u30, u31, u32, u33, u34, u35, u36, u37, u38, u39, u40, rfl⟩ := hfr
      have HM : Hid (prH d (n + 1) 0 [] = prH d f k (fs ++ [fdL t])) := HP.out.trans (by rw [lnV_new HX.out HC.out]; rfl)
      have hF' := HK.out (fs ++ [fdL t]) (lnV_new HX.out HC.out)
      have HFl := fieldOfLine_any t _ wr rfl hBt (by omega) HC.out
      have hfl := hfit.1
      clear HP HK HX HC hfit
      generalize fdL t = p at *
      obtain ⟨x, y⟩ := p
      go_wp2_with fail
      refine HFl.mono ?_
      rintro e w1 ⟨rfl, hb1⟩
      have hbel1 := hbel.trans (hb1.mono hbel.size)
      have hown1 := hown.below hb1 (Nat.le_refl _)
      have hz1 := hbel1.size
      have hnew : ∀ j, j < 1 → (w1.alloc (.cells #[.string x, .string y] 122)).cell? ((⟨w1.heap.size, 0, none⟩ : Addr).add (j * 2)) = some (.string (nthF [(x, y)] j).1) ∧ (w1.alloc (.cells #[.string x, .string y] 122)).cell? ((⟨w1.heap.size, 0, none⟩ : Addr).add (j * 2 + 1)) = some (.string (nthF [(x, y)] j).2) := by
        intro j hj
        obtain rfl : j = 0 := by omega
        rw [Go.WideShapes.add_plain, Go.WideShapes.add_plain]
        exact ⟨by simp [nthF], by simp [nthF]⟩
      have hownA := hown1.alloc (.cells #[.string x, .string y] 122)
      have hbA : Below w.heap.size w (w1.alloc (.cells #[.string x, .string y] 122)) := hbel1.alloc hz1 _
      clear HFl hb1 hown hown1
      go_wp2_with (at_builtin; refine wpList_appF rfl _ _ rfl w.heap.size _ fs rfl hownA ⟨w1.heap.size, 0, none⟩ 1 1 [(x, y)] rfl rfl hnew (by omega) (by simp; omega) ?_; intro v2 w2 hown2 hb2)
      have hbel2 := hbA.trans hb2
      go_step3
      refine ⟨⟨hbel2, k, f, _, _, _, ⟨_, _, _, _, _, _, _, _, _, _, _, _, _, _, _, _, _, _, _, _, _, _, _, _, _, _, _, _, _, _, _, _, _, _, _, rfl⟩, hk, hf, hown2, hF', HM⟩, ?_⟩
      show 3 * (n - k) + 1 < 3 * (n - k) + 2
      omega
    | 3, hJ =>
      clear hJ0
      refine ⟨_, rfl, ?_⟩
      obtain ⟨v2, v3, v5, hfr, HP⟩ := hJ
      obtain ⟨u6, u7, u8, u9, u10, u11, u12, u13, u14, u15, u16, u17, u18, u19, u20, u21, u22, u23, u24, u25, u26, u27, u28, u29, u30, u31, u32, u33, u34, u35, u36, u37, u38, u39, u40, rfl⟩ := hfr
      go_wp2
      rw [jumps_ret]
      refine bodyPost_ret (v := .tuple #[.slice none 0 0, .int .i64 0, .bool false]) (by simp [results, Tryz.results70, go_sem]) rfl ?_
      rw [HP.out]
      exact ⟨hbel, rfl⟩
end Go.Proofs.YtaefomiofoakhaaGreatDoor
