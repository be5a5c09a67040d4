/- A set's fault, on both sides: at every slice of ranges; no conditions beyond those that each fact names · The fault of terms, in plain words: what a term's kind has, its bounds, where its parts stand; no program in it · The fault of terms, in plain words: the model's way by first places, the program's way by a row of what waits; both tell the same; no program in it · The fault of a command: a plain function. -/
import Derived.Test.YtjogclofjollnaaGreatDoorTmuToRgS
import Derived.Test.YtjogclofjollnaaGreatDoorTmo
import Derived.Test.YtjogclofjollnaaGreatDoorAppIToFlt
import Derived.Test.YtjogclofjollnaaGreatDoorCmuToCfp
import Derived.Test.YtjogclofjollnaaGreatDoorCfn
import Derived.Test.YtjogclofjollnaaGreatDoorSmnToTgo
import Derived.Test.YtjogclofjollnaaGreatDoorTmtToCms
namespace Go.Proofs.YtjogclofjollnaaGreatDoor
open Go.RowKit
def bty (c a b : Int) : Bool := decide (a ≤ c ∧ c ≤ b)
theorem l1In_y (c a b : Int) (w : World) : Calls Tryz.prog 46 #[.int .i64 c, .int .i64 a, .int .i64 b] w fun e w' => e = .returned (.bool (bty c a b)) ∧ w = w' := by
 by_cases h1 : a ≤ c
 ·by_cases h2 : c ≤ b
  ·have H : Hid (bty c a b = true) := by show bty c a b = true; simp [bty, h1, h2]
   go_enter Tryz.func46, Tryz.ntmps46
   go_wp2
   go_ret
   exact ⟨by rw [H.out]; rfl, rfl⟩
  ·have H : Hid (bty c a b = false) := by show bty c a b = false; simp [bty, h2]
   go_enter Tryz.func46, Tryz.ntmps46
   go_wp2
   go_ret
   exact ⟨by rw [H.out]; rfl, rfl⟩
 ·have H : Hid (bty c a b = false) := by show bty c a b = false; simp [bty, h1]
  go_enter Tryz.func46, Tryz.ntmps46
  go_wp2
  go_ret
  exact ⟨by rw [H.out]; rfl, rfl⟩
theorem isBetween_y (c a b : Int) (w : World) : Calls Tryz.prog 65 #[.int .i64 c, .int .i64 a, .int .i64 b] w fun e w' => e = .returned (.bool (bty c a b)) ∧ w = w' := by
 by_cases h1 : a ≤ c
 ·by_cases h2 : c ≤ b
  ·have H : Hid (bty c a b = true) := by show bty c a b = true; simp [bty, h1, h2]
   go_enter Tryz.func65, Tryz.ntmps65
   go_wp2
   go_ret
   exact ⟨by rw [H.out]; rfl, rfl⟩
  ·have H : Hid (bty c a b = false) := by show bty c a b = false; simp [bty, h2]
   go_enter Tryz.func65, Tryz.ntmps65
   go_wp2
   go_ret
   exact ⟨by rw [H.out]; rfl, rfl⟩
 ·have H : Hid (bty c a b = false) := by show bty c a b = false; simp [bty, h1]
  go_enter Tryz.func65, Tryz.ntmps65
  go_wp2
  go_ret
  exact ⟨by rw [H.out]; rfl, rfl⟩
theorem isEnd_any (n : Int) (w : World) : Calls Tryz.prog 96 #[.int .i64 n] w fun e w' => e = .returned (.bool (bty n 0 999)) ∧ w = w' := by
 have HB := isBetween_y n 1 999
 by_cases h0 : n = 0
 ·subst h0
  go_enter Tryz.func96, Tryz.ntmps96
  go_wp2
  go_ret
  exact ⟨rfl, rfl⟩
 ·have H : Hid (bty n 1 999 = bty n 0 999) := by
   show bty n 1 999 = bty n 0 999
   unfold bty
   by_cases h : 1 ≤ n ∧ n ≤ 999
   ·rw [decide_eq_true h, decide_eq_true (by omega)]
   ·rw [decide_eq_false h, decide_eq_false (by omega)]
  go_enter Tryz.func96, Tryz.ntmps96
  go_wp2_with fail
  refine (HB _).mono ?_
  rintro e w1 ⟨rfl, rfl⟩
  rw [H.out]
  have e0 : (n == 0) = false := by simpa using h0
  have HE0 : Hid (∀ b : Bool, (n == 0 || b) = b) := fun b => by rw [e0]; rfl
  clear e0
  go_wp2
  go_ret
  exact ⟨congrArg (fun b => Ending.returned (.bool b)) (HE0.out _), rfl⟩
def rfA (l : List YgP) : Bool := l.all fun p => bty p.1 0 999 && bty p.2 0 999
def rfV (l : List YgP) : Int := if 1 ≤ l.length ∧ l.length ≤ 8 then (if rfA l then 0 else 3) else 2
theorem rfA_at {l : List YgP} {k : Nat} (h : k < l.length) (hx : (bty (nthY l k).1 0 999 && bty (nthY l k).2 0 999) = false) : rfA l = false := by
 unfold rfA
 rw [List.all_eq_false]
 refine ⟨nthY l k, ?_, by rw [hx]; decide⟩
 rw [nthY_get h]; exact List.getElem_mem h
theorem rfA_all {l : List YgP} (h : ∀ i, i < l.length → (bty (nthY l i).1 0 999 && bty (nthY l i).2 0 999) = true) : rfA l = true := by
 unfold rfA
 rw [List.all_eq_true]
 intro p hp
 obtain ⟨i, hi, rfl⟩ := List.getElem_of_mem hp
 have := h i hi
 rw [nthY_get hi] at this
 exact this
theorem rfV_many {l : List YgP} (h : ¬ (1 ≤ l.length ∧ l.length ≤ 8)) : rfV l = 2 := by rw [rfV, if_neg h]
theorem rfV_bad {l : List YgP} (h : 1 ≤ l.length ∧ l.length ≤ 8) (hx : rfA l = false) : rfV l = 3 := by rw [rfV, if_pos h, hx]; rfl
theorem rfV_ok {l : List YgP} (h : 1 ≤ l.length ∧ l.length ≤ 8) (hx : rfA l = true) : rfV l = 0 := by rw [rfV, if_pos h, hx]; rfl
set_option maxHeartbeats 1600000 in
set_option maxRecDepth 100000 in
theorem rangesFault_any (a : Option Addr) (n cap : Nat) (l : List YgP) (w : World) (hl : l.length = n) (hr : RdY w a l) (hn : n ≤ 1048576) :
  Calls Tryz.prog 69 #[.slice a n cap] w fun e w' => e = .returned (.int .i64 (rfV l)) ∧ Below w.heap.size w w' := by
 have HB := isBetween_y (n : Int) 1 8
 have HE := isEnd_any
 by_cases hm : 1 ≤ n ∧ n ≤ 8
 ·have hb : bty (n : Int) 1 8 = true := decide_eq_true (by omega)
  go_enter Tryz.func69, Tryz.ntmps69
  go_wp2_with fail
  refine (HB _).mono ?_
  rintro e w1 ⟨rfl, rfl⟩
  rw [hb]
  go_wp2
  go_loopw [11] (fun i wr => ∃ k : Nat, k ≤ n ∧ i = .int .i64 k ∧ (∀ i, i < k → (bty (nthY l i).1 0 999 && bty (nthY l i).2 0 999) = true) ∧ Below w.heap.size w wr) (fun i _ => n - (intOf i).toNat)
  case atStart => exact ⟨0, Nat.zero_le _, rfl, fun i hi => by omega, Below.refl _ _⟩
  case round =>
   obtain ⟨k, hk, rfl, hall, hbel⟩ := hrel
   by_cases hkn : k < n
   ·obtain ⟨b, off, rfl, hblt, hcell⟩ := hr.at_ (by omega)
    have hc0 : wr.cell? ⟨b, off + k * 2, none⟩ = some (.int .i64 (nthY l k).1) := (hbel.cell (p := ⟨b, off + k * 2, none⟩) hblt).trans (hcell k (by omega)).1
    have hc1 : wr.cell? ⟨b, off + k * 2 + 1, none⟩ = some (.int .i64 (nthY l k).2) := (hbel.cell (p := ⟨b, off + k * 2 + 1, none⟩) hblt).trans (hcell k (by omega)).2
    have hki : (k : Int) < (n : Int) := by omega
    have HBAD : Hid ((bty (nthY l k).1 0 999 && bty (nthY l k).2 0 999) = false → rfV l = 3) := fun h => rfV_bad (by omega) (rfA_at (by omega) h)
    have HGO : Hid ((bty (nthY l k).1 0 999 && bty (nthY l k).2 0 999) = true → ∀ i, i < k + 1 → (bty (nthY l i).1 0 999 && bty (nthY l i).2 0 999) = true) := fun h i hi => by
     rcases Nat.lt_or_ge i k with h' | h'
     ·exact hall i h'
     ·rw [show i = k by omega]; exact h
    clear hcell hall
    generalize nthY l k = p at *
    obtain ⟨x, y⟩ := p
    simp only at hc0 hc1 HBAD HGO
    go_wp2_with fail
    refine (HE x _).mono ?_
    rintro e w2 ⟨rfl, rfl⟩
    cases hx : bty x 0 999 with
    | false =>
     have HV := HBAD.out (by rw [hx]; rfl)
     have HB2 : Hid (Below w.heap.size w (wr.alloc (.cells #[.int .i64 x, .int .i64 y] 70))) := hbel.alloc hbel.size _
     go_wp2
     go_ret
     exact ⟨by rw [HV]; rfl, HB2.out⟩
    | true =>
     go_wp2_with fail
     refine (HE y _).mono ?_
     rintro e w3 ⟨rfl, rfl⟩
     have HB2 : Hid (Below w.heap.size w (wr.alloc (.cells #[.int .i64 x, .int .i64 y] 70))) := hbel.alloc hbel.size _
     cases hy : bty y 0 999 with
     | false =>
      have HV := HBAD.out (by rw [hx, hy]; rfl)
      go_wp2
      go_ret
      exact ⟨by rw [HV]; rfl, HB2.out⟩
     | true =>
      have HV : Hid (_) := HGO.out (by rw [hx, hy]; rfl)
      clear HGO HBAD
      go_wp2
      go_roundw
      case rel => exact ⟨k + 1, by omega, by go_num, HV.out, HB2.out⟩
      case measure => simp [intOf]; omega
   ·have hki : ¬ (k : Int) < (n : Int) := by omega
    have HV : Hid (rfV l = 0) := rfV_ok (by omega) (rfA_all (fun i hi => hall i (by omega)))
    clear hall
    go_wp2
    go_ret
    exact ⟨by rw [HV.out]; rfl, hbel⟩
 ·have hb : bty (n : Int) 1 8 = false := decide_eq_false (by omega)
  have HV : Hid (rfV l = 2) := rfV_many (by omega)
  go_enter Tryz.func69, Tryz.ntmps69
  go_wp2_with fail
  refine (HB _).mono ?_
  rintro e w1 ⟨rfl, rfl⟩
  rw [hb]
  go_wp2
  go_ret
  exact ⟨by rw [HV.out]; rfl, Below.refl _ _⟩
set_option maxHeartbeats 1600000 in
set_option maxRecDepth 100000 in
theorem l11Fault_any (a : Option Addr) (n cap : Nat) (l : List YgP) (w : World) (hl : l.length = n) (hr : RdY w a l) (hn : n ≤ 1048576) :
  Calls Tryz.prog 32 #[.slice a n cap] w fun e w' => e = .returned (.int .i64 (rfV l)) ∧ Below w.heap.size w w' := by
 have HE := fun x => l1In_y x 0 999
 by_cases hm : 1 ≤ n ∧ n ≤ 8
 ·have h1 : ¬ (n : Int) < 1 := by omega
  have h8 : ¬ (n : Int) > 8 := by omega
  go_enter Tryz.func32, Tryz.ntmps32
  go_wp2
  go_loopw [3] (fun i wr => ∃ k : Nat, k ≤ n ∧ i = .int .i64 k ∧ (∀ i, i < k → (bty (nthY l i).1 0 999 && bty (nthY l i).2 0 999) = true) ∧ Below w.heap.size w wr) (fun i _ => n - (intOf i).toNat)
  case atStart => exact ⟨0, Nat.zero_le _, rfl, fun i hi => by omega, Below.refl _ _⟩
  case round =>
   obtain ⟨k, hk, rfl, hall, hbel⟩ := hrel
   by_cases hkn : k < n
   ·obtain ⟨b, off, rfl, hblt, hcell⟩ := hr.at_ (by omega)
    have hc0 : wr.cell? ⟨b, off + k * 2, none⟩ = some (.int .i64 (nthY l k).1) := (hbel.cell (p := ⟨b, off + k * 2, none⟩) hblt).trans (hcell k (by omega)).1
    have hc1 : wr.cell? ⟨b, off + k * 2 + 1, none⟩ = some (.int .i64 (nthY l k).2) := (hbel.cell (p := ⟨b, off + k * 2 + 1, none⟩) hblt).trans (hcell k (by omega)).2
    have hki : (k : Int) < (n : Int) := by omega
    have HBAD : Hid ((bty (nthY l k).1 0 999 && bty (nthY l k).2 0 999) = false → rfV l = 3) := fun h => rfV_bad (by omega) (rfA_at (by omega) h)
    have HGO : Hid ((bty (nthY l k).1 0 999 && bty (nthY l k).2 0 999) = true → ∀ i, i < k + 1 → (bty (nthY l i).1 0 999 && bty (nthY l i).2 0 999) = true) := fun h i hi => by
     rcases Nat.lt_or_ge i k with h' | h'
     ·exact hall i h'
     ·rw [show i = k by omega]; exact h
    clear hcell hall
    generalize nthY l k = p at *
    obtain ⟨x, y⟩ := p
    simp only at hc0 hc1 HBAD HGO
    go_wp2_with fail
    refine (HE x _).mono ?_
    rintro e w2 ⟨rfl, rfl⟩
    cases hx : bty x 0 999 with
    | false =>
     have HV := HBAD.out (by rw [hx]; rfl)
     go_wp2
     go_ret
     exact ⟨by rw [HV]; rfl, hbel⟩
    | true =>
     go_wp2_with fail
     refine (HE y _).mono ?_
     rintro e w3 ⟨rfl, rfl⟩
     cases hy : bty y 0 999 with
     | false =>
      have HV := HBAD.out (by rw [hx, hy]; rfl)
      go_wp2
      go_ret
      exact ⟨by rw [HV]; rfl, hbel⟩
     | true =>
      have HV : Hid (_) := HGO.out (by rw [hx, hy]; rfl)
      clear HGO HBAD
      go_wp2
      go_roundw
      case rel => exact ⟨k + 1, by omega, by go_num, HV.out, hbel⟩
      case measure => simp [intOf]; omega
   ·have hki : ¬ (k : Int) < (n : Int) := by omega
    have HV : Hid (rfV l = 0) := rfV_ok (by omega) (rfA_all (fun i hi => hall i (by omega)))
    clear hall
    go_wp2
    go_ret
    exact ⟨by rw [HV.out]; rfl, hbel⟩
 ·have HV : Hid (rfV l = 2) := rfV_many (by omega)
  by_cases h1 : (n : Int) < 1
  ·go_enter Tryz.func32, Tryz.ntmps32
   go_wp2
   go_ret
   exact ⟨by rw [HV.out]; rfl, Below.refl _ _⟩
  ·have h8 : (n : Int) > 8 := by omega
   go_enter Tryz.func32, Tryz.ntmps32
   go_wp2
   go_ret
   exact ⟨by rw [HV.out]; rfl, Below.refl _ _⟩
end Go.Proofs.YtjogclofjollnaaGreatDoor
namespace Go.Proofs.YtjogclofjollnaaGreatDoor
open Go.RowKit
def hcK (k : Int) : Bool := decide (k = 6) || decide (k = 7)
def twK (k : Int) : Bool := decide (k = 10) || decide (k = 11)
def fmT (o : TmR) : Bool := bty o.k 1 11 && ((bty o.k 2 5 || decide (o.n = 0)) && ((hcK o.k || decide (o.c = [])) && ((decide (o.k = 8) || decide (o.y = [])) && ((twK o.k || decide (o.r = 0)) && (decide (9 ≤ o.k) || decide (o.l = 0))))))
def ofB (n : Int) : Bool := decide (n = 1) || (decide (n = 2) || (decide (n = 4) || decide (n = 8)))
def lkC (c : Int) : Bool := chr c && (decide (32 < c) && decide (c ≠ 127))
def cdB (c : List Int) : Bool := bty (c.length : Int) 1 20 && c.all lkC
def bdT (o : TmR) : Bool := if o.k = 2 then ofB o.n else if o.k = 3 ∨ o.k = 4 then bty o.n 0 9999 else if o.k = 5 then bty o.n 0 400 else if o.k = 6 ∨ o.k = 7 then cdB o.c else true
def vlT (o : TmR) : Int := if o.k = 8 then rfV o.y else if bdT o then 0 else 3
def owF (o : TmR) : Int := if fmT o then vlT o else 1
def plT (o : TmR) : List Int := if o.k = 9 then [o.l] else if twK o.k then [o.l, o.r] else []
end Go.Proofs.YtjogclofjollnaaGreatDoor
namespace Go.Proofs.YtjogclofjollnaaGreatDoor
open Go.RowKit
def fsF (l : List TmR) : Nat → Nat → Nat
 | 0, a => a
 | f + 1, a => if 9 ≤ (nthTm l a).k then fsF l f ((nthTm l a).l).toNat else a
def fsV (l : List TmR) (a : Nat) : Nat := fsF l (a + 1) a
def VP (l : List TmR) (n : Nat) : Prop := ∀ j, j < n → 9 ≤ (nthTm l j).k → 0 ≤ (nthTm l j).l ∧ (nthTm l j).l < (j : Int)
theorem fsF_more {l : List TmR} {n : Nat} (h : VP l n) : ∀ f a, a < n → a < f → fsF l f a = fsF l (a + 1) a := by
 intro f
 induction f using Nat.strongRecOn with
 | _ f ih =>
  intro a ha hf
  match f, hf with
  | f + 1, hf =>
   unfold fsF
   by_cases hk : 9 ≤ (nthTm l a).k
   ·rw [if_pos hk, if_pos hk]
    obtain ⟨h0, h1⟩ := h a ha hk
    have hb : ((nthTm l a).l).toNat < a := by omega
    rw [ih f (by omega) _ (by omega) (by omega)]
    rcases Nat.lt_or_ge a (f + 1) with h2 | h2
    ·by_cases h3 : a = f
     ·subst h3; rw [ih a (by omega) _ (by omega) (by omega)]
     ·rw [ih a (by omega) _ (by omega) (by omega)]
    ·omega
   ·rw [if_neg hk, if_neg hk]
theorem fsV_of {l : List TmR} {n a : Nat} (h : VP l n) (ha : a < n) (hk : 9 ≤ (nthTm l a).k) : fsV l a = fsV l ((nthTm l a).l).toNat := by
 obtain ⟨h0, h1⟩ := h a ha hk
 unfold fsV
 rw [fsF, if_pos hk]
 exact fsF_more h a _ (by omega) (by omega)
theorem fsV_leaf {l : List TmR} {a : Nat} (hk : ¬ 9 ≤ (nthTm l a).k) : fsV l a = a := by
 unfold fsV
 rw [fsF, if_neg hk]
theorem fsV_le {l : List TmR} {n : Nat} (h : VP l n) : ∀ a, a < n → fsV l a ≤ a := by
 intro a
 induction a using Nat.strongRecOn with
 | _ a ih =>
  intro ha
  by_cases hk : 9 ≤ (nthTm l a).k
  ·obtain ⟨h0, h1⟩ := h a ha hk
   rw [fsV_of h ha hk]
   have := ih ((nthTm l a).l).toNat (by omega) (by omega)
   omega
  ·rw [fsV_leaf hk]; exact Nat.le_refl _
def bhV (l : List TmR) (i : Nat) : Bool :=
 if (nthTm l i).k = 9 then decide (0 < i) && decide ((nthTm l i).l = (i : Int) - 1)
 else if twK (nthTm l i).k then decide (1 < i) && (decide ((nthTm l i).r = (i : Int) - 1) && (decide (0 < fsV l (i - 1)) && decide ((nthTm l i).l = (fsV l (i - 1) : Int) - 1)))
 else true
def tmG (l : List TmR) : Nat → Nat → Int
 | 0, _ => if fsV l (l.length - 1) = 0 then 0 else 1
 | f + 1, i => if fmT (nthTm l i) then (if vlT (nthTm l i) = 0 then (if bhV l i then tmG l f (i + 1) else 1) else vlT (nthTm l i)) else 1
def tmV (l : List TmR) : Int := if 1 ≤ l.length ∧ l.length ≤ 12 then tmG l l.length 0 else 2
theorem fmT_k {o : TmR} (h : fmT o = true) : 1 ≤ o.k ∧ o.k ≤ 11 := by
 unfold fmT at h
 simp only [Bool.and_eq_true] at h
 exact of_decide_eq_true h.1
theorem VP.next {l : List TmR} {i : Nat} (h : VP l i) (hf : fmT (nthTm l i) = true) (hb : bhV l i = true) : VP l (i + 1) := by
 intro j hj hk
 rcases Nat.lt_or_ge j i with h' | h'
 ·exact h j h' hk
 ·obtain rfl : j = i := by omega
  have hkk := fmT_k hf
  unfold bhV at hb
  by_cases h9 : (nthTm l j).k = 9
  ·rw [if_pos h9] at hb
   simp at hb
   omega
  ·rw [if_neg h9] at hb
   have ht : twK (nthTm l j).k = true := by unfold twK; simp; omega
   rw [if_pos ht] at hb
   simp at hb
   obtain ⟨h1, h2, h3, h4⟩ := hb
   have := fsV_le h (j - 1) (by omega)
   omega
def prT (o : TmR) : List Int := if o.k = 9 then [o.l] else if twK o.k then [o.r, o.l] else []
theorem prT_rev (o : TmR) : (plT o).reverse = prT o := by
 unfold plT prT
 split
 ·rfl
 ·split <;> rfl
def tfG (l : List TmR) : Nat → Nat → List Int → Int
 | 0, _, st => if st.length = 1 then 0 else 1
 | f + 1, i, st => if owF (nthTm l i) = 0 then (if st.take (prT (nthTm l i)).length = prT (nthTm l i) then tfG l f (i + 1) ((i : Int) :: st.drop (prT (nthTm l i)).length) else 1) else owF (nthTm l i)
def tfV (l : List TmR) : Int := if 1 ≤ l.length ∧ l.length ≤ 12 then tfG l l.length 0 [] else 2
def Tile (l : List TmR) : List Int → Nat → Prop
 | [], i => i = 0
 | s :: st, i => s = (i : Int) - 1 ∧ 0 < i ∧ Tile l st (fsV l (i - 1))
theorem tile_step {l : List TmR} {i : Nat} {st : List Int} (h : VP l i) (hT : Tile l st i) (hf : fmT (nthTm l i) = true) :
  (st.take (prT (nthTm l i)).length = prT (nthTm l i) ↔ bhV l i = true) ∧ (bhV l i = true → Tile l ((i : Int) :: st.drop (prT (nthTm l i)).length) (i + 1)) := by
 have hkk := fmT_k hf
 have hnx : bhV l i = true → VP l (i + 1) := fun hb => h.next hf hb
 by_cases h9 : (nthTm l i).k = 9
 ·have hp : prT (nthTm l i) = [(nthTm l i).l] := by unfold prT; rw [if_pos h9]
  have hb : bhV l i = (decide (0 < i) && decide ((nthTm l i).l = (i : Int) - 1)) := by unfold bhV; rw [if_pos h9]
  rw [hp]
  match st, hT with
  | [], hT =>
   have hi : i = 0 := hT
   subst hi
   rw [hb]
   simp
  | s :: st, hT =>
   obtain ⟨h1, h2, h3⟩ := hT
   refine ⟨by rw [hb]; simp; omega, fun hb' => ?_⟩
   have hV := hnx hb'
   rw [hb] at hb'
   simp at hb'
   refine ⟨by omega, by omega, ?_⟩
   show Tile l st (fsV l i)
   rw [fsV_of hV (by omega) (by omega), show ((nthTm l i).l).toNat = i - 1 by omega]
   exact h3
 ·by_cases ht : twK (nthTm l i).k = true
  ·have hp : prT (nthTm l i) = [(nthTm l i).r, (nthTm l i).l] := by unfold prT; rw [if_neg h9, if_pos ht]
   have hb : bhV l i = (decide (1 < i) && (decide ((nthTm l i).r = (i : Int) - 1) && (decide (0 < fsV l (i - 1)) && decide ((nthTm l i).l = (fsV l (i - 1) : Int) - 1)))) := by unfold bhV; rw [if_neg h9, if_pos ht]
   have h9k : 9 ≤ (nthTm l i).k := by unfold twK at ht; simp at ht; omega
   rw [hp]
   match st, hT with
   | [], hT =>
    have hi : i = 0 := hT
    subst hi
    rw [hb]
    simp
   | [s], hT =>
    obtain ⟨h1, h2, h3⟩ := hT
    have h3' : fsV l (i - 1) = 0 := h3
    rw [hb, h3']
    simp
   | s :: s2 :: st, hT =>
    obtain ⟨h1, h2, h3, h4, h5⟩ := hT
    have hle := fsV_le h (i - 1) (by omega)
    refine ⟨by rw [hb]; simp; omega, fun hb' => ?_⟩
    have hV := hnx hb'
    rw [hb] at hb'
    simp at hb'
    refine ⟨by omega, by omega, ?_⟩
    show Tile l st (fsV l i)
    rw [fsV_of hV (by omega) h9k, show ((nthTm l i).l).toNat = fsV l (i - 1) - 1 by omega]
    exact h5
  ·have hp : prT (nthTm l i) = [] := by unfold prT; rw [if_neg h9, if_neg ht]
   have hb : bhV l i = true := by unfold bhV; rw [if_neg h9, if_neg ht]
   rw [hp]
   refine ⟨by simp [hb], fun _ => ⟨by omega, by omega, ?_⟩⟩
   show Tile l st (fsV l i)
   rw [fsV_leaf (by unfold twK at ht; simp at ht; omega)]
   exact hT
theorem tile_end {l : List TmR} {i : Nat} {st : List Int} (hT : Tile l st i) (hi : 0 < i) : st.length = 1 ↔ fsV l (i - 1) = 0 := by
 match st, hT with
 | [], hT => have : i = 0 := hT; omega
 | [s], hT => exact ⟨fun _ => hT.2.2, fun _ => rfl⟩
 | s :: s2 :: st, hT =>
  have := hT.2.2.2.1
  exact ⟨fun h => by simp at h, fun h => by omega⟩
theorem tf_mf_go {l : List TmR} : ∀ f i st, i + f = l.length → 0 < l.length → VP l i → Tile l st i → tfG l f i st = tmG l f i := by
 intro f
 induction f with
 | zero =>
  intro i st hi hl hV hT
  unfold tfG tmG
  have := tile_end hT (by omega)
  rw [show l.length - 1 = i - 1 by omega]
  by_cases h : st.length = 1
  ·rw [if_pos h, if_pos (this.1 h)]
  ·rw [if_neg h, if_neg (fun h' => h (this.2 h'))]
 | succ f ih =>
  intro i st hi hl hV hT
  unfold tfG tmG
  cases hf : fmT (nthTm l i) with
  | false =>
   have : owF (nthTm l i) = 1 := by unfold owF; rw [hf]; rfl
   rw [this]; rfl
  | true =>
   have ho : owF (nthTm l i) = vlT (nthTm l i) := by unfold owF; rw [hf]; rfl
   rw [ho]
   by_cases hv : vlT (nthTm l i) = 0
   ·rw [if_pos hv, if_pos rfl, if_pos hv]
    obtain ⟨h1, h2⟩ := tile_step hV hT hf
    cases hb : bhV l i with
    | true =>
     rw [if_pos (h1.2 hb), if_pos rfl]
     exact ih (i + 1) _ (by omega) hl (hV.next hf hb) (h2 hb)
    | false =>
     rw [if_neg (fun h => by rw [h1.1 h] at hb; cases hb)]; rfl
   ·rw [if_neg hv, if_pos rfl, if_neg hv]
theorem tf_mf (l : List TmR) : tfV l = tmV l := by
 unfold tfV tmV
 by_cases h : 1 ≤ l.length ∧ l.length ≤ 12
 ·rw [if_pos h, if_pos h]
  exact tf_mf_go l.length 0 [] (by omega) (by omega) (fun j hj => by omega) rfl
 ·rw [if_neg h, if_neg h]
end Go.Proofs.YtjogclofjollnaaGreatDoor
namespace Go.Proofs.YtjogclofjollnaaGreatDoor
open Go.RowKit
def cfV (o : CmR) : Int := if tgOk (txB o.t) = true then (if fmC o = true then (if (nmK o.k && !bnOk (txB o.n)) = true then 5 else if (rgK o.k && decide (rfV o.y ≠ 0)) = true then rfV o.y else if nbC o = true then (if tmK o.k = true then tmV o.u else 0) else 3) else 1) else 5
end Go.Proofs.YtjogclofjollnaaGreatDoor
