/- The fault of terms: the model's side; no conditions beyond those that each fact names · The laws' helpers over slices of ops: their size, a copy, whether two are the same; no conditions beyond those that each fact names · Whether two ops, two lists of ops are the same: both sides; no conditions beyond those that each fact names. -/
import Derived.Test.YtjogclofjollnaaGreatDoorTfe
import Derived.Test.YtjogclofjollnaaGreatDoorTmuToRgS
import Derived.Deep.RegionHeld3
namespace Go.Proofs.YtjogclofjollnaaGreatDoor
open Go.RowKit
set_option linter.unusedVariables false
theorem RdTm.tc {lo : Nat} {w : World} {a : Option Addr} {l : List TmR} (h : RdTm lo w a l) {i : Nat} (hi : i < l.length) :
  ∃ b off p, a = some ⟨b, off, none⟩ ∧ b < w.heap.size ∧ Tc6 w b (off + i * 6) p (nthTm l i) ∧ IsTm lo w p (nthTm l i) := by
 obtain ⟨b, off, h1, h2, h3, h4⟩ := h.at_ (by omega)
 obtain ⟨p, h5, h6⟩ := h4 i hi
 exact ⟨b, off, p, h1, h3, h5, h6⟩
set_option maxHeartbeats 1600000 in
set_option maxRecDepth 100000 in
theorem l12First_any (s : SlQ) (l : List TmR) {lo n0 : Nat} (w : World) (hs : IsTs lo w s l) (hV : VP l n0) (hn0 : n0 ≤ l.length) : ∀ (a : Nat), a < n0 →
  Calls Tryz.prog 54 #[slW s, .int .i64 (a : Int)] w fun e w' => e = .returned (.int .i64 (fsV l a : Int)) ∧ w = w' := by
 obtain ⟨ad, n, cap⟩ := s
 obtain ⟨hl, hnc, hcm, hr⟩ := hs
 dsimp only [slW] at *
 unfold maxLen at hcm
 intro a
 induction a using Nat.strongRecOn with
 | _ a ih =>
  intro ha
  obtain ⟨b, off, p, rfl, hblt, hc, hI⟩ := hr.tc (i := a) (by omega)
  obtain ⟨c0, c1, c2, c3, c4, c5⟩ := hc
  have hai : (a : Int) < (n : Int) := by omega
  by_cases hk : 9 ≤ (nthTm l a).k
  ·have hv := hV a ha hk
   have HV : Hid (fsV l a = fsV l ((nthTm l a).l).toNat) := fsV_of hV ha hk
   have HC := ih ((nthTm l a).l).toNat (by omega) (by omega)
   rw [show (((nthTm l a).l).toNat : Int) = (nthTm l a).l by omega] at HC
   rw [show ((fsV l a : Nat) : Int) = ((fsV l ((nthTm l a).l).toNat : Nat) : Int) from congrArg _ HV.out]
   generalize fsV l ((nthTm l a).l).toNat = rv at *
   clear ih hV hI hr
   generalize nthTm l a = t at *
   go_enter Tryz.func54, Tryz.ntmps54
   go_wp2_with fail
   refine HC.mono ?_
   rintro e w1 ⟨rfl, rfl⟩
   go_wp2
   go_ret
   exact ⟨rfl, rfl⟩
  ·rw [fsV_leaf hk]
   clear ih hV hI hr
   generalize nthTm l a = t at *
   go_enter Tryz.func54, Tryz.ntmps54
   go_wp2
   go_ret
   exact ⟨rfl, rfl⟩
set_option maxHeartbeats 3200000 in
set_option maxRecDepth 100000 in
theorem l12Behind_any (s : SlQ) (l : List TmR) {lo : Nat} (w : World) (hs : IsTs lo w s l) (i : Nat) (hi : i < l.length) (hV : VP l i) :
  Calls Tryz.prog 53 #[slW s, .int .i64 (i : Int)] w fun e w' => e = .returned (.bool (bhV l i)) ∧ Below w.heap.size w w' := by
 have HF : Hid (0 < i → ∀ w' : World, Below w.heap.size w w' → Calls Tryz.prog 54 #[slW s, .int .i64 ((i : Int) - 1)] w' fun e w'' => e = .returned (.int .i64 (fsV l (i - 1) : Int)) ∧ w' = w'') := fun h0 w' hb => by
  have := l12First_any s l w' (hs.below hb) hV (by omega) (i - 1) (by omega)
  rwa [show ((i - 1 : Nat) : Int) = (i : Int) - 1 by omega] at this
 obtain ⟨ad, n, cap⟩ := s
 obtain ⟨hl, hnc, hcm, hr⟩ := hs
 dsimp only [slW] at *
 unfold maxLen at hcm
 obtain ⟨b, off, p, rfl, hblt, hc, hI⟩ := hr.tc hi
 obtain ⟨c0, c1, c2, c3, c4, c5⟩ := hc
 have hii : (i : Int) < (n : Int) := by omega
 clear hI hr
 by_cases h9 : (nthTm l i).k = 9
 ·have HV : Hid (bhV l i = (decide (0 < i) && decide ((nthTm l i).l = (i : Int) - 1))) := by show _ = _; unfold bhV; rw [if_pos h9]
  generalize bhV l i = rv at *
  clear HF hV
  rw [h9] at c0
  generalize nthTm l i = t at *
  obtain ⟨tk, tn, tc, ty, tl, tr⟩ := t
  dsimp only at c0 c1 c2 c3 c4 c5 HV h9
  clear h9
  by_cases h0 : 0 < i
  ·have h0i : (0 : Int) < (i : Int) := by omega
   by_cases h1 : tl = (i : Int) - 1
   ·have HR : Hid (rv = true) := HV.out.trans (by simp [h0, h1])
    clear HV
    subst h1
    go_enter Tryz.func53, Tryz.ntmps53
    go_wp2
    go_ret
    exact ⟨by rw [HR.out]; first | rfl | (simp; done), Below.refl _ _⟩
   ·have HR : Hid (rv = false) := HV.out.trans (by simp [h1])
    clear HV
    go_enter Tryz.func53, Tryz.ntmps53
    go_wp2
    go_ret
    exact ⟨by rw [HR.out]; first | rfl | (simp; done) | (simp [h1]; done), Below.refl _ _⟩
  ·have h0i : ¬ (0 : Int) < (i : Int) := by omega
   have HR : Hid (rv = false) := HV.out.trans (by simp; omega)
   clear HV
   go_enter Tryz.func53, Tryz.ntmps53
   go_wp2
   go_ret
   exact ⟨by rw [HR.out]; first | rfl | (simp; done), Below.refl _ _⟩
 ·cases ht : twK (nthTm l i).k with
  | true =>
   have HV : Hid (bhV l i = (decide (1 < i) && (decide ((nthTm l i).r = (i : Int) - 1) && (decide (0 < fsV l (i - 1)) && decide ((nthTm l i).l = (fsV l (i - 1) : Int) - 1))))) := by show _ = _; unfold bhV; rw [if_neg h9, if_pos ht]
   have HU : Hid (0 < i → fsV l (i - 1) < i) := fun h => by have := fsV_le hV (i - 1) (by omega); omega
   generalize bhV l i = rv at *
   generalize fsV l (i - 1) = fs at *
   clear hV
   generalize nthTm l i = t at *
   obtain ⟨tk, tn, tc, ty, tl, tr⟩ := t
   dsimp only at c0 c1 c2 c3 c4 c5 HV h9 ht
   have hUb : fs ≤ i ∨ i = 0 := by
    rcases Nat.eq_zero_or_pos i with h | h
    ·exact .inr h
    ·have := HU.out h
     exact .inl (by omega)
   clear HU
   by_cases h1 : 1 < i
   ·have h1i : (1 : Int) < (i : Int) := by omega
    have hF := HF.out (by omega)
    by_cases h2 : tr = (i : Int) - 1
    ·by_cases h3 : 0 < fs
     ·have h3i : (0 : Int) < (fs : Int) := by omega
      by_cases h4 : tl = (fs : Int) - 1
      ·rw [show rv = true from HV.out.trans (by simp [h1, h2, h3, h4])]
       exact l12Behind_E tk tl tr i n cap b off fs w hcm hnc (by omega) hii h9 ht h1i h2 h3i h4 hF c0 c4 c5
      ·rw [show rv = false from HV.out.trans (by simp [h4])]
       exact l12Behind_D tk tl tr i n cap b off fs w hcm hnc (by omega) hii h9 ht h1i h2 h3i h4 hF c0 c4 c5
     ·have h3i : ¬ (0 : Int) < (fs : Int) := by omega
      rw [show rv = false from HV.out.trans (by simp [h3])]
      exact l12Behind_C tk tl tr i n cap b off fs w hcm hnc (by omega) hii h9 ht h1i h2 h3i hF c0 c4 c5
    ·rw [show rv = false from HV.out.trans (by simp [h2])]
     exact l12Behind_B tk tl tr i n cap b off 0 w hcm hnc (by omega) hii h9 ht h1i h2 c0 c4 c5
   ·have h1i : ¬ (1 : Int) < (i : Int) := by omega
    rw [show rv = false from HV.out.trans (by simp [h1])]
    exact l12Behind_A tk tl tr i n cap b off 0 w hcm hnc (by omega) hii h9 ht h1i c0 c4 c5
  | false =>
   have HV : Hid (bhV l i = true) := by show _ = _; unfold bhV; rw [if_neg h9, ht]; rfl
   generalize bhV l i = rv at *
   clear hV HF
   generalize nthTm l i = t at *
   obtain ⟨tk, tn, tc, ty, tl, tr⟩ := t
   dsimp only at c0 c1 c2 c3 c4 c5 h9 ht
   go_enter Tryz.func53, Tryz.ntmps53
   go_wp2_with (first | (go_at_call 86; refine (l12Two_any _ _).mono ?_; rintro e w1 ⟨rfl, rfl⟩; rw [ht]))
   go_ret
   exact ⟨by rw [HV.out]; rfl, Below.refl _ _⟩
set_option maxHeartbeats 3200000 in
set_option maxRecDepth 100000 in
theorem l12Fault_any (s : SlQ) (l : List TmR) {lo : Nat} (w : World) (hs : IsTs lo w s l) (hf : FtUs l) :
  Calls Tryz.prog 35 #[slW s] w fun e w' => e = .returned (.int .i64 (tmV l)) ∧ Below w.heap.size w w' := by
 have HB : Hid (∀ (i : Nat), i < l.length → VP l i → ∀ w' : World, Below w.heap.size w w' → Calls Tryz.prog 53 #[slW s, .int .i64 (i : Int)] w' fun e w'' => e = .returned (.bool (bhV l i)) ∧ Below w'.heap.size w' w'') := fun i hi hV w' hb => l12Behind_any s l w' (hs.below hb) i hi hV
 have HFI : Hid (0 < l.length → VP l l.length → ∀ w' : World, Below w.heap.size w w' → Calls Tryz.prog 54 #[slW s, .int .i64 ((l.length : Int) - 1)] w' fun e w'' => e = .returned (.int .i64 (fsV l (l.length - 1) : Int)) ∧ w' = w'') := fun h0 hV w' hb => by
  have := l12First_any s l w' (hs.below hb) hV (Nat.le_refl _) (l.length - 1) (by omega)
  rwa [show ((l.length - 1 : Nat) : Int) = (l.length : Int) - 1 by omega] at this
 obtain ⟨ad, n, cap⟩ := s
 obtain ⟨hl, hnc, hcm, hr⟩ := hs
 obtain ⟨hfn, hft⟩ := hf
 dsimp only [slW] at *
 unfold maxLen at hcm
 rw [hl] at HFI
 by_cases hn : 1 ≤ n ∧ n ≤ 12
 ·have h1 : ¬ (n : Int) < 1 := by omega
  have h12 : ¬ (n : Int) > 12 := by omega
  have HV : Hid (tmV l = tmG l n 0) := by show _ = _; unfold tmV; rw [hl, if_pos hn]
  have HE : Hid (tmG l 0 n = if fsV l (n - 1) = 0 then 0 else 1) := by show _ = _; unfold tmG; rw [hl]
  generalize tmV l = rv at *
  go_enter Tryz.func35, Tryz.ntmps35
  go_wp2
  go_loopw [3] (fun i wr => ∃ k : Nat, k ≤ n ∧ i = .int .i64 k ∧ VP l k ∧ rv = tmG l (n - k) k ∧ Below w.heap.size w wr) (fun i _ => n - (intOf i).toNat)
  case atStart => exact ⟨0, Nat.zero_le _, rfl, fun j hj => absurd hj (Nat.not_lt_zero _), HV.out, Below.refl _ _⟩
  case round =>
   obtain ⟨k, hk, rfl, hVP, hrv, hbel⟩ := hrel
   by_cases hkn : k < n
   ·have hki : (k : Int) < (n : Int) := by omega
    obtain ⟨b, off, p, rfl, hblt, hc, hI⟩ := (hr.below hbel).tc (i := k) (by omega)
    have hF1 := l12Form_any (nthTm l k) p b (off + k * 6) wr hI hc
    have hF2 := l12Value_any (nthTm l k) p b (off + k * 6) wr hI (hft k (by omega)) hc
    have HN : Hid (rv = if fmT (nthTm l k) then (if vlT (nthTm l k) = 0 then (if bhV l k then tmG l (n - (k + 1)) (k + 1) else 1) else vlT (nthTm l k)) else 1) := by
     show _ = _
     rw [hrv, show n - k = (n - (k + 1)) + 1 by omega]
     rfl
    have HNX : Hid (∀ a b : Bool, a = fmT (nthTm l k) → b = bhV l k → a = true → b = true → VP l (k + 1)) := fun a b ha hb h h' => hVP.next (ha ▸ h) (hb ▸ h')
    have HBK : Hid (∀ w' : World, Below w.heap.size w w' → Calls Tryz.prog 53 #[.slice (some ⟨b, off, none⟩) n cap, .int .i64 (k : Int)] w' fun e w'' => e = .returned (.bool (bhV l k)) ∧ Below w'.heap.size w' w'') := HB.out k (by omega) hVP
    clear hrv HV hVP hc hI HB
    generalize bhV l k = bv at *
    generalize fmT (nthTm l k) = fv at *
    generalize vlT (nthTm l k) = vv at *
    cases fv with
    | false =>
     have HR : Hid (rv = 1) := HN.out
     clear HN HNX HBK hF2
     go_wp2_with fail
     refine hF1.mono ?_
     rintro e w1 ⟨rfl, rfl⟩
     go_wp2
     go_ret
     exact ⟨by rw [HR.out]; rfl, hbel⟩
    | true =>
     go_wp2_with fail
     refine hF1.mono ?_
     rintro e w1 ⟨rfl, rfl⟩
     go_wp2_with fail
     refine hF2.mono ?_
     rintro e w2 ⟨rfl, hb2⟩
     have hbel2 := hbel.trans (hb2.mono hbel.size)
     clear hF1 hF2 hb2
     by_cases hv : vv = 0
     ·subst hv
      go_wp2_with fail
      refine (HBK.out _ hbel2).mono ?_
      rintro e w3 ⟨rfl, hb3⟩
      have hbel3 := hbel2.trans (hb3.mono hbel2.size)
      cases bv with
      | true =>
       have HR : Hid (rv = tmG l (n - (k + 1)) (k + 1)) := HN.out
       have hVn := HNX.out _ _ rfl rfl rfl rfl
       clear HN HNX HBK
       go_wp2
       go_roundw
       case rel => exact ⟨k + 1, by omega, by go_num, hVn, HR.out, hbel3⟩
       case measure => simp [intOf]; omega
      | false =>
       have HR : Hid (rv = 1) := HN.out
       clear HN HNX HBK
       go_wp2
       go_ret
       exact ⟨by rw [HR.out]; rfl, hbel3⟩
     ·have HR : Hid (rv = vv) := HN.out.trans (by simp [hv])
      clear HN HNX HBK
      go_wp2
      go_ret
      exact ⟨by rw [HR.out]; rfl, hbel2⟩
   ·have hki : ¬ (k : Int) < (n : Int) := by omega
    obtain rfl : k = n := by omega
    have HR : Hid (rv = if fsV l (k - 1) = 0 then 0 else 1) := by
     show _ = _
     rw [hrv, Nat.sub_self]; exact HE.out
    have HC := HFI.out (by omega) hVP wr hbel
    clear hrv HV hVP HE HB HFI
    generalize fsV l (k - 1) = fs at *
    go_wp2_with fail
    refine HC.mono ?_
    rintro e w1 ⟨rfl, rfl⟩
    by_cases h0 : fs = 0
    ·subst h0
     have HR2 : Hid (rv = 0) := HR.out
     clear HR
     go_wp2
     go_ret
     exact ⟨by rw [HR2.out]; rfl, hbel⟩
    ·have h0i : ¬ (fs : Int) = 0 := by omega
     have HR2 : Hid (rv = 1) := HR.out.trans (if_neg h0)
     clear HR
     go_wp2
     go_ret
     exact ⟨by rw [HR2.out]; rfl, hbel⟩
 ·have HV : Hid (tmV l = 2) := by show _ = _; unfold tmV; rw [hl, if_neg hn]
  generalize tmV l = rv at *
  by_cases h0 : n < 1
  ·have h1 : (n : Int) < 1 := by omega
   go_enter Tryz.func35, Tryz.ntmps35
   go_wp2
   go_ret
   exact ⟨by rw [HV.out]; rfl, Below.refl _ _⟩
  ·have h1 : ¬ (n : Int) < 1 := by omega
   have h12 : (n : Int) > 12 := by omega
   go_enter Tryz.func35, Tryz.ntmps35
   go_wp2
   go_ret
   exact ⟨by rw [HV.out]; rfl, Below.refl _ _⟩
end Go.Proofs.YtjogclofjollnaaGreatDoor
namespace Go.Proofs.YtjogclofjollnaaGreatDoor
open Go.RowKit
end Go.Proofs.YtjogclofjollnaaGreatDoor
namespace Go.Proofs.YtjogclofjollnaaGreatDoor
open Go.RowKit
set_option linter.unusedVariables false
def eqH (n m : Nat) (p : Nat → Bool) : Bool := decide (n = m) && (List.range n).all p
theorem eqH_ne {n m : Nat} {p : Nat → Bool} (h : n ≠ m) : eqH n m p = false := by simp [eqH, h]
theorem eqH_bad {n m k : Nat} {p : Nat → Bool} (hk : k < n) (h : p k = false) : eqH n m p = false := by
 have : (List.range n).all p = false := List.all_eq_false.2 ⟨k, by simpa using hk, by simp [h]⟩
 simp [eqH, this]
theorem eqH_all {n m : Nat} {p : Nat → Bool} (h : n = m) (h' : ∀ k, k < n → p k = true) : eqH n m p = true := by
 have : (List.range n).all p = true := List.all_eq_true.2 (fun k hk => h' k (by simpa using hk))
 subst h
 unfold eqH
 rw [this]
 simp
def smU (l l' : List Int) : Bool := eqH l.length l'.length (fun i => decide (nthI l i = nthI l' i))
set_option maxHeartbeats 1600000 in
set_option maxRecDepth 100000 in
theorem equalI_any (s s' : SlQ) (l l' : List Int) {lo lo' : Nat} (w : World) (hs : IsIl lo w s l) (hs' : IsIl lo' w s' l') :
  Calls Tryz.prog 145 #[slW s, slW s'] w fun e w' => e = .returned (.bool (smU l l')) ∧ Below w.heap.size w w' := by
 obtain ⟨a, n, cap⟩ := s
 obtain ⟨a', n', cap'⟩ := s'
 obtain ⟨hl, hnc, hcm, hr, -⟩ := hs
 obtain ⟨hl', hnc', hcm', hr', -⟩ := hs'
 dsimp only [slW] at *
 unfold maxLen at hcm hcm'
 have HL : Hid (l.length = n ∧ l'.length = n') := ⟨hl, hl'⟩
 have HB : Hid (∀ k, k < n → nthI l k ≠ nthI l' k → smU l l' = false) := fun k hk h => eqH_bad (by rw [hl]; exact hk) (decide_eq_false h)
 have HE : Hid (n ≠ n' → smU l l' = false) := fun h => eqH_ne (by rw [hl, hl']; exact h)
 have HA : Hid (n = n' → (∀ k, k < n → nthI l k = nthI l' k) → smU l l' = true) := fun h h' => eqH_all (by rw [hl, hl']; exact h) (fun k hk => decide_eq_true (h' k (by omega)))
 generalize smU l l' = r at *
 clear hl hl'
 go_enter Tryz.func145, Tryz.ntmps145
 by_cases hnn : n = n'
 ·subst hnn
  go_wp2
  go_loopw [13, 5] (fun i _ wr => ∃ k : Nat, k ≤ n ∧ i = .int .i64 k ∧ (∀ j, j < k → nthI l j = nthI l' j) ∧ Below w.heap.size w wr) (fun i _ _ => n - (intOf i).toNat)
  case atStart => exact ⟨0, Nat.zero_le _, rfl, fun j hj => absurd hj (Nat.not_lt_zero _), Below.refl _ _⟩
  case round =>
   obtain ⟨k, hk, rfl, hall, hbel⟩ := hrel
   by_cases hkn : k < n
   ·have hki : (k : Int) < (n : Int) := by omega
    obtain ⟨g, off, rfl, hglt, hcell⟩ := (hr.below hbel).at_ (by have := HL.out; omega)
    obtain ⟨g', off', rfl, hglt', hcell'⟩ := (hr'.below hbel).at_ (by have := HL.out; omega)
    have c0 := hcell k (by have := HL.out; omega)
    have d0 := hcell' k (by have := HL.out; omega)
    have HY : Hid (nthI l k = nthI l' k → ∀ j, j < k + 1 → nthI l j = nthI l' j) := fun h j hj => by
     rcases Nat.lt_or_ge j k with h' | h'
     ·exact hall j h'
     ·obtain rfl : j = k := by omega
      exact h
    have HN : Hid (nthI l k ≠ nthI l' k → r = false) := fun h => HB.out k hkn h
    clear hall hcell hcell'
    generalize nthI l k = y at *
    generalize nthI l' k = z at *
    by_cases hyz : y = z
    ·have HM : Hid (_) := HY.out hyz
     clear HY HN
     subst hyz
     go_wp2_with fail
     refine wp_region_held_drew (S := fun w' => w'.cell? ⟨g, off + k, none⟩ = some (.int .i64 y) ∧ w'.cell? ⟨g', off' + k, none⟩ = some (.int .i64 y)) (by kernel_rfl) ?hS1 (fun hHeld => ?_)
     case hS1 => exact ⟨c0, d0⟩
     refine wpAnyH_take (i := 0) (v := ?_) rfl (by kernel_rfl) (by kernel_rfl) (by kernel_rfl) (fun _ _ _ h => h) (Or.inl ⟨by rfl, ?hy2⟩) (by assumption) ?ty2
     case hy2 => (intro w hSw; (try dsimp only at hSw); obtain ⟨s0, s1⟩ := hSw; go_simp; all_goals with_reducible rfl)
     simp only [Act.put, List.getElem_toArray, List.getElem_cons_zero, List.setIfInBounds_toArray, List.set_cons_zero, List.set_cons_succ]
     refine wpAnyH_take (i := 1) (v := ?_) rfl (by kernel_rfl) (by kernel_rfl) (by kernel_rfl) (fun _ _ _ h => h) (Or.inl ⟨by rfl, ?hy3⟩) (by assumption) ?ty3
     case hy3 => (intro w hSw; (try dsimp only at hSw); obtain ⟨s0, s1⟩ := hSw; go_simp; all_goals with_reducible rfl)
     simp only [Act.put, List.getElem_toArray, List.getElem_cons_zero, List.getElem_cons_succ, List.setIfInBounds_toArray, List.set_cons_zero, List.set_cons_succ]
     refine wpAnyH_take (i := 2) (v := ?_) rfl (by kernel_rfl) (by kernel_rfl) (by kernel_rfl) (fun _ _ _ h => h) (Or.inl ⟨by rfl, ?hy4⟩) (by assumption) ?ty4
     case hy4 => (intro w hSw; (try dsimp only at hSw); obtain ⟨s0, s1⟩ := hSw; go_simp; all_goals with_reducible rfl)
     simp only [Act.put, List.getElem_toArray, List.getElem_cons_zero, List.getElem_cons_succ, List.setIfInBounds_toArray, List.set_cons_zero, List.set_cons_succ]
     refine wpAnyH_take (i := 3) (v := ?_) rfl (by kernel_rfl) (by kernel_rfl) (by kernel_rfl) (fun _ _ _ h => h) (Or.inl ⟨by rfl, ?hy5⟩) (by assumption) ?ty5
     case hy5 => (intro w hSw; (try dsimp only at hSw); obtain ⟨s0, s1⟩ := hSw; go_simp; all_goals with_reducible rfl)
     simp only [Act.put, List.getElem_toArray, List.getElem_cons_zero, List.getElem_cons_succ, List.setIfInBounds_toArray, List.set_cons_zero, List.set_cons_succ]
     refine wpAnyH_take (i := 4) (v := ?_) rfl (by kernel_rfl) (by kernel_rfl) (by kernel_rfl) (fun _ _ _ h => h) (Or.inl ⟨by rfl, ?hy6⟩) (by assumption) ?ty6
     case hy6 => (intro w hSw; (try dsimp only at hSw); obtain ⟨s0, s1⟩ := hSw; go_simp; all_goals with_reducible rfl)
     simp only [Act.put, List.getElem_toArray, List.getElem_cons_zero, List.getElem_cons_succ, List.setIfInBounds_toArray, List.set_cons_zero, List.set_cons_succ]
     refine wpAnyH_take (i := 5) (v := ?_) rfl (by kernel_rfl) (by kernel_rfl) (by kernel_rfl) (fun _ _ _ h => h) (Or.inl ⟨by rfl, ?hy7⟩) (by assumption) ?ty7
     case hy7 => (intro w hSw; (try dsimp only at hSw); obtain ⟨s0, s1⟩ := hSw; go_simp; all_goals with_reducible rfl)
     simp only [Act.put, List.getElem_toArray, List.getElem_cons_zero, List.getElem_cons_succ, List.setIfInBounds_toArray, List.set_cons_zero, List.set_cons_succ]
     refine wpAnyH_take (i := 6) (v := ?_) rfl (by kernel_rfl) (by kernel_rfl) (by kernel_rfl) (fun _ _ _ h => h) (Or.inl ⟨by rfl, ?hy8⟩) (by assumption) ?ty8
     case hy8 => (intro w hSw; (try dsimp only at hSw); obtain ⟨s0, s1⟩ := hSw; go_simp; all_goals with_reducible rfl)
     simp only [Act.put, List.getElem_toArray, List.getElem_cons_zero, List.getElem_cons_succ, List.setIfInBounds_toArray, List.set_cons_zero, List.set_cons_succ]
     refine wpAnyH_take (i := 7) (v := ?_) rfl (by kernel_rfl) (by kernel_rfl) (by kernel_rfl) (fun _ _ _ h => h) (Or.inl ⟨by rfl, ?hy9⟩) (by assumption) ?ty9
     case hy9 => (intro w hSw; (try dsimp only at hSw); obtain ⟨s0, s1⟩ := hSw; go_simp; all_goals with_reducible rfl)
     simp only [Act.put, List.getElem_toArray, List.getElem_cons_zero, List.getElem_cons_succ, List.setIfInBounds_toArray, List.set_cons_zero, List.set_cons_succ]
     refine wpAnyH_take (i := 8) (v := .bool false) rfl (by kernel_rfl) (by kernel_rfl) (by kernel_rfl) (fun _ _ _ h => h) (Or.inl ⟨by rfl, ?hy10⟩) (by assumption) ?ty10
     case hy10 => (intro w hSw; (try dsimp only at hSw); obtain ⟨s0, s1⟩ := hSw; go_simp; first | (all_goals with_reducible rfl) | (simp; done) | (simp; omega))
     simp only [Act.put, List.getElem_toArray, List.getElem_cons_zero, List.getElem_cons_succ, List.setIfInBounds_toArray, List.set_cons_zero, List.set_cons_succ]
     refine wpAnyH_done (by kernel_rfl) ?_ _
     clear hHeld
     go_wp2
     go_roundw
     case rel => exact ⟨k + 1, by omega, by go_num, HM.out, hbel.trans (Below.refl _ _).drew⟩
     case measure => simp [intOf]; omega
    ·have HM : Hid (r = false) := HN.out hyz
     clear HY HN
     go_wp2_with fail
     refine wp_region_held_drew (S := fun w' => w'.cell? ⟨g, off + k, none⟩ = some (.int .i64 y) ∧ w'.cell? ⟨g', off' + k, none⟩ = some (.int .i64 z)) (by kernel_rfl) ?hS11 (fun hHeld => ?_)
     case hS11 => exact ⟨c0, d0⟩
     refine wpAnyH_take (i := 0) (v := ?_) rfl (by kernel_rfl) (by kernel_rfl) (by kernel_rfl) (fun _ _ _ h => h) (Or.inl ⟨by rfl, ?hy12⟩) (by assumption) ?ty12
     case hy12 => (intro w hSw; (try dsimp only at hSw); obtain ⟨s0, s1⟩ := hSw; go_simp; all_goals with_reducible rfl)
     simp only [Act.put, List.getElem_toArray, List.getElem_cons_zero, List.setIfInBounds_toArray, List.set_cons_zero, List.set_cons_succ]
     refine wpAnyH_take (i := 1) (v := ?_) rfl (by kernel_rfl) (by kernel_rfl) (by kernel_rfl) (fun _ _ _ h => h) (Or.inl ⟨by rfl, ?hy13⟩) (by assumption) ?ty13
     case hy13 => (intro w hSw; (try dsimp only at hSw); obtain ⟨s0, s1⟩ := hSw; go_simp; all_goals with_reducible rfl)
     simp only [Act.put, List.getElem_toArray, List.getElem_cons_zero, List.getElem_cons_succ, List.setIfInBounds_toArray, List.set_cons_zero, List.set_cons_succ]
     refine wpAnyH_take (i := 2) (v := ?_) rfl (by kernel_rfl) (by kernel_rfl) (by kernel_rfl) (fun _ _ _ h => h) (Or.inl ⟨by rfl, ?hy14⟩) (by assumption) ?ty14
     case hy14 => (intro w hSw; (try dsimp only at hSw); obtain ⟨s0, s1⟩ := hSw; go_simp; all_goals with_reducible rfl)
     simp only [Act.put, List.getElem_toArray, List.getElem_cons_zero, List.getElem_cons_succ, List.setIfInBounds_toArray, List.set_cons_zero, List.set_cons_succ]
     refine wpAnyH_take (i := 3) (v := ?_) rfl (by kernel_rfl) (by kernel_rfl) (by kernel_rfl) (fun _ _ _ h => h) (Or.inl ⟨by rfl, ?hy15⟩) (by assumption) ?ty15
     case hy15 => (intro w hSw; (try dsimp only at hSw); obtain ⟨s0, s1⟩ := hSw; go_simp; all_goals with_reducible rfl)
     simp only [Act.put, List.getElem_toArray, List.getElem_cons_zero, List.getElem_cons_succ, List.setIfInBounds_toArray, List.set_cons_zero, List.set_cons_succ]
     refine wpAnyH_take (i := 4) (v := ?_) rfl (by kernel_rfl) (by kernel_rfl) (by kernel_rfl) (fun _ _ _ h => h) (Or.inl ⟨by rfl, ?hy16⟩) (by assumption) ?ty16
     case hy16 => (intro w hSw; (try dsimp only at hSw); obtain ⟨s0, s1⟩ := hSw; go_simp; all_goals with_reducible rfl)
     simp only [Act.put, List.getElem_toArray, List.getElem_cons_zero, List.getElem_cons_succ, List.setIfInBounds_toArray, List.set_cons_zero, List.set_cons_succ]
     refine wpAnyH_take (i := 5) (v := ?_) rfl (by kernel_rfl) (by kernel_rfl) (by kernel_rfl) (fun _ _ _ h => h) (Or.inl ⟨by rfl, ?hy17⟩) (by assumption) ?ty17
     case hy17 => (intro w hSw; (try dsimp only at hSw); obtain ⟨s0, s1⟩ := hSw; go_simp; all_goals with_reducible rfl)
     simp only [Act.put, List.getElem_toArray, List.getElem_cons_zero, List.getElem_cons_succ, List.setIfInBounds_toArray, List.set_cons_zero, List.set_cons_succ]
     refine wpAnyH_take (i := 6) (v := ?_) rfl (by kernel_rfl) (by kernel_rfl) (by kernel_rfl) (fun _ _ _ h => h) (Or.inl ⟨by rfl, ?hy18⟩) (by assumption) ?ty18
     case hy18 => (intro w hSw; (try dsimp only at hSw); obtain ⟨s0, s1⟩ := hSw; go_simp; all_goals with_reducible rfl)
     simp only [Act.put, List.getElem_toArray, List.getElem_cons_zero, List.getElem_cons_succ, List.setIfInBounds_toArray, List.set_cons_zero, List.set_cons_succ]
     refine wpAnyH_take (i := 7) (v := ?_) rfl (by kernel_rfl) (by kernel_rfl) (by kernel_rfl) (fun _ _ _ h => h) (Or.inl ⟨by rfl, ?hy19⟩) (by assumption) ?ty19
     case hy19 => (intro w hSw; (try dsimp only at hSw); obtain ⟨s0, s1⟩ := hSw; go_simp; all_goals with_reducible rfl)
     simp only [Act.put, List.getElem_toArray, List.getElem_cons_zero, List.getElem_cons_succ, List.setIfInBounds_toArray, List.set_cons_zero, List.set_cons_succ]
     refine wpAnyH_take (i := 8) (v := .bool true) rfl (by kernel_rfl) (by kernel_rfl) (by kernel_rfl) (fun _ _ _ h => h) (Or.inl ⟨by rfl, ?hy20⟩) (by assumption) ?ty20
     case hy20 => (intro w hSw; (try dsimp only at hSw); obtain ⟨s0, s1⟩ := hSw; go_simp; first | (all_goals with_reducible rfl) | (simp; done) | (simp; omega))
     simp only [Act.put, List.getElem_toArray, List.getElem_cons_zero, List.getElem_cons_succ, List.setIfInBounds_toArray, List.set_cons_zero, List.set_cons_succ]
     refine wpAnyH_done (by kernel_rfl) ?_ _
     clear hHeld
     go_wp2
     go_ret
     exact ⟨by rw [HM.out]; rfl, hbel.trans (Below.refl _ _).drew⟩
   ·have hki : ¬ (k : Int) < (n : Int) := by omega
    have HM : Hid (r = true) := HA.out (by trivial) (fun j hj => hall j (by omega))
    clear hall
    go_wp2
    go_ret
    exact ⟨by rw [HM.out]; rfl, hbel⟩
 ·have hnn' : ¬ (n : Int) = (n' : Int) := by omega
  have HM : Hid (r = false) := HE.out hnn
  go_wp2
  go_ret
  exact ⟨by rw [HM.out]; rfl, Below.refl _ _⟩
end Go.Proofs.YtjogclofjollnaaGreatDoor
