/- The model's l2Bytes and l2Encode: the bytes of a character that a charset has, and of all characters, or a code; at most 400 characters · CodesFault, the program's and the model's, at every slice of at most 1048576 numbers: both by one plain function · An answer with bytes of the call's own · EncodeText, the program's and the model's, at every charset and every slice of at most 1048576 numbers: both by one plain function · Characters that may stand for themselves, the model's. -/
import Derived.Test.YtdcgihcjiiemdaaDoorChs0ToTel2
import Derived.Test.YtdcgihcjiiemdaaDoorMemToApp
import Derived.Test.YtdcgihcjiiemdaaDoorDrw2ToAppI
namespace Go.Proofs.YtdcgihcjiiemdaaDoor
open Go.RowKit
set_option maxHeartbeats 1600000 in
set_option maxRecDepth 100000 in
theorem l2Bytes_any (cs : Int) (y : Nat) (w : World) (hcs : 1 ≤ cs ∧ cs ≤ 5) (hy : y < 65536) (hh : hasC cs (y : Int) = true) :
  Calls Tryd.prog 80 #[.int .i64 cs, .int .i64 (y : Int)] w fun e w' => Laid w.heap.size (tellL cs (y : Int)) w e w' := by
 have hb0 := fun cells => (Below.refl w.heap.size w).alloc (Nat.le_refl _) (.cells cells 5)
 rcases cs_cases hcs with rfl | rfl | rfl | rfl | rfl
 ·rw [tellL_1]
  have h1 : (y : Int) ≤ 127 := by simpa [hasC] using hh
  clear hh
  have hL := Own.lit w w.heap.size (Nat.le_refl _) #[.int .u8 (y : Int)] [y] rfl (by simp [maxLen])
  go_enter Tryd.func80, Tryd.ntmps80
  go_wp2
  go_ret
  exact ⟨_, rfl, hL, hb0 _⟩
 ·rw [tellL_2]
  have h1 : (y : Int) ≤ 255 := by simpa [hasC] using hh
  clear hh
  have hL := Own.lit w w.heap.size (Nat.le_refl _) #[.int .u8 (y : Int)] [y] rfl (by simp [maxLen])
  go_enter Tryd.func80, Tryd.ntmps80
  go_wp2
  go_ret
  exact ⟨_, rfl, hL, hb0 _⟩
 ·rw [tellL_3]
  have h1 : 0 ≤ cyr (y : Int) := by simpa [hasC] using hh
  have h2 : cyr (y : Int) ≤ 255 := by
   have := cyr_pos.1 h1
   unfold cyr
   split
   ·omega
   ·split
    ·omega
    ·split
     ·omega
     ·split <;> omega
  clear hh
  obtain ⟨q, hq⟩ : ∃ q : Nat, cyr (y : Int) = (q : Int) := Int.eq_ofNat_of_zero_le h1
  have hq' : q < 256 := by omega
  have hL := Own.lit w w.heap.size (Nat.le_refl _) #[.int .u8 (q : Int)] [q] rfl (by simp [maxLen])
  have ht : (cyr (y : Int)).toNat = q := by rw [hq]; simp
  rw [ht]
  clear h1 h2 ht
  go_enter Tryd.func80, Tryd.ntmps80
  go_wp2_with (first | (go_at_call 83; refine (l2Cyrillic_any _ _).mono ?_; rintro e w' ⟨rfl, rfl⟩; rw [hq]))
  go_ret
  exact ⟨_, rfl, hL, hb0 _⟩
 ·rw [tellL_4]
  clear hh
  simp only [Int.toNat_natCast]
  by_cases h1 : y < 128
  ·have h1' : (y : Int) < 128 := by omega
   rw [u8L_one h1]
   have hL := Own.lit w w.heap.size (Nat.le_refl _) #[.int .u8 (y : Int)] [y] rfl (by simp [maxLen])
   go_enter Tryd.func80, Tryd.ntmps80
   go_wp2
   go_ret
   exact ⟨_, rfl, hL, hb0 _⟩
  ·have h1' : ¬ (y : Int) < 128 := by omega
   by_cases h2 : y < 2048
   ·have h2' : (y : Int) < 2048 := by omega
    rw [u8L_two h1 h2]
    obtain ⟨p, hp⟩ : ∃ p, p = y / 64 := ⟨_, rfl⟩
    obtain ⟨q, hq⟩ : ∃ q, q = y % 64 := ⟨_, rfl⟩
    rw [← hp, ← hq]
    have e1 : (y : Int) / 64 = (p : Int) := by omega
    have e2 : (y : Int) % 64 = (q : Int) := by omega
    have hp' : p < 32 := by omega
    have hq' : q < 64 := by omega
    have hL := Own.lit w w.heap.size (Nat.le_refl _) #[.int .u8 (192 + (p : Int)), .int .u8 (128 + (q : Int))] [192 + p, 128 + q] rfl (by simp [maxLen])
    clear hp hq
    go_enter Tryd.func80, Tryd.ntmps80
    go_wp2
    go_ret
    exact ⟨_, rfl, hL, hb0 _⟩
   ·have h2' : ¬ (y : Int) < 2048 := by omega
    rw [u8L_three h1 h2]
    obtain ⟨p, hp⟩ : ∃ p, p = y / 4096 := ⟨_, rfl⟩
    obtain ⟨r, hr⟩ : ∃ r, r = y / 64 := ⟨_, rfl⟩
    obtain ⟨s, hs⟩ : ∃ s, s = r % 64 := ⟨_, rfl⟩
    obtain ⟨q, hq⟩ : ∃ q, q = y % 64 := ⟨_, rfl⟩
    rw [← hp, ← hr, ← hq, ← hs]
    have e0 : (y : Int) / 4096 = (p : Int) := by omega
    have e1 : (y : Int) / 64 = (r : Int) := by omega
    have e2 : (y : Int) % 64 = (q : Int) := by omega
    have e3 : (r : Int) % 64 = (s : Int) := by omega
    have hp' : p < 16 := by omega
    have hq' : q < 64 := by omega
    have hs' : s < 64 := by omega
    have hr' : r < 1024 := by omega
    have hL := Own.lit w w.heap.size (Nat.le_refl _) #[.int .u8 (224 + (p : Int)), .int .u8 (128 + (s : Int)), .int .u8 (128 + (q : Int))] [224 + p, 128 + s, 128 + q] rfl (by simp [maxLen])
    clear hp hq hr hs
    go_enter Tryd.func80, Tryd.ntmps80
    go_wp2
    go_ret
    exact ⟨_, rfl, hL, hb0 _⟩
 ·rw [tellL_5]
  clear hh
  simp only [Int.toNat_natCast]
  obtain ⟨p, hp⟩ : ∃ p, p = y / 256 := ⟨_, rfl⟩
  obtain ⟨q, hq⟩ : ∃ q, q = y % 256 := ⟨_, rfl⟩
  rw [← hp, ← hq]
  have e1 : (y : Int) / 256 = (p : Int) := by omega
  have e2 : (y : Int) % 256 = (q : Int) := by omega
  have hp' : p < 256 := by omega
  have hq' : q < 256 := by omega
  have hL := Own.lit w w.heap.size (Nat.le_refl _) #[.int .u8 (p : Int), .int .u8 (q : Int)] [p, q] rfl (by simp [maxLen])
  clear hp hq
  go_enter Tryd.func80, Tryd.ntmps80
  go_wp2
  go_ret
  exact ⟨_, rfl, hL, hb0 _⟩
def encV (cs : Int) (l : List Int) : Int × List Nat := if l.all (hasC cs) then (if 400 < (l.flatMap (tellL cs)).length then (2, []) else (0, l.flatMap (tellL cs))) else (8, [])
theorem encV_bad {cs : Int} {l : List Int} (h : l.all (hasC cs) = false) : encV cs l = (8, []) := by unfold encV; rw [h]; rfl
theorem encV_many {cs : Int} {l : List Int} (h : l.all (hasC cs) = true) (h4 : 400 < (l.flatMap (tellL cs)).length) : encV cs l = (2, []) := by unfold encV; rw [h, if_pos rfl, if_pos h4]
theorem encV_ok {cs : Int} {l : List Int} (h : l.all (hasC cs) = true) (h4 : ¬ 400 < (l.flatMap (tellL cs)).length) : encV cs l = (0, l.flatMap (tellL cs)) := by unfold encV; rw [h, if_pos rfl, if_neg h4]
def EncEnd (cs : Int) (l : List Int) (w : World) (e : Ending) (w' : World) : Prop := ∃ v, e = .returned (.tuple #[v, .int .i64 (encV cs l).1]) ∧ Own w' w.heap.size v (encV cs l).2 ∧ Below w.heap.size w w'
set_option maxHeartbeats 1600000 in
set_option maxRecDepth 100000 in
theorem l2Encode_any (cs : Int) (a : Option Addr) (n cap : Nat) (l : List Int) (w : World) (hcs : 1 ≤ cs ∧ cs ≤ 5) (hl : l.length = n) (hr : RdI w a l) (hn : n ≤ 400) (hch : ∀ x ∈ l, chr x = true) :
  Calls Tryd.prog 69 #[.int .i64 cs, .slice a n cap] w fun e w' => EncEnd cs l w e w' := by
 go_enter Tryd.func69, Tryd.ntmps69
 go_wp2
 have hO := Own.lit w w.heap.size (Nat.le_refl _) #[] [] rfl (by simp [maxLen])
 have hB0 : Below w.heap.size w (w.alloc (.cells #[] 5)) := (Below.refl _ _).alloc (Nat.le_refl _) _
 go_loopw [6, 7] (fun v i wr => ∃ k : Nat, k ≤ n ∧ i = .int .i64 k ∧ Own wr w.heap.size v ((l.take k).flatMap (tellL cs)) ∧ (l.take k).all (hasC cs) = true ∧ Below w.heap.size w wr) (fun _ i _ => n - (intOf i).toNat)
 case atStart => exact ⟨0, Nat.zero_le _, rfl, hO, by simp, hB0⟩
 case round =>
  obtain ⟨k, hk, rfl, hown, hall, hbel⟩ := hrel
  clear hO hB0
  by_cases hkn : k < n
  ·obtain ⟨b, off, rfl, hblt, hcell⟩ := hr.at_ (by omega)
   have hc : wr.cell? ⟨b, off + k, none⟩ = some (.int .i64 (nthI l k)) := (hbel.cell (p := ⟨b, off + k, none⟩) hblt).trans (hcell k (by omega))
   have hx := chr_iff.1 (hch _ (nthI_mem (l := l) (k := k) (by omega)))
   have HF : Hid ((l.take (k + 1)).flatMap (tellL cs) = (l.take k).flatMap (tellL cs) ++ tellL cs (nthI l k)) := flat_step (by omega)
   have HS : Hid (hasC cs (nthI l k) = true → (l.take (k + 1)).all (hasC cs) = true) := fun hb => all_step (by omega) hall hb
   have HN : Hid (hasC cs (nthI l k) = false → encV cs l = (8, [])) := fun hb => encV_bad (all_bad (by omega) hb)
   have hlen : ((l.take k).flatMap (tellL cs)).length ≤ 1048576 := by
    have := (flat_len cs (l.take k)).2
    rw [List.length_take] at this
    omega
   clear hcell hr hall
   generalize nthI l k = x at *
   obtain ⟨y, rfl⟩ : ∃ y : Nat, x = (y : Int) := Int.eq_ofNat_of_zero_le (by omega)
   generalize (l.take k).flatMap (tellL cs) = out at *
   have hsz := hbel.size
   cases hp : hasC cs (y : Int) with
   | true =>
    have hall' := HS.out hp
    have hy : y < 65536 := by omega
    clear HS HN
    go_wp2_with (first | (go_at_call 79; refine (l2Has_any _ _ _ (by omega)).mono ?_; rintro e w' ⟨rfl, rfl⟩; rw [hp]))
    refine (l2Bytes_any cs y _ hcs hy hp).mono ?_
    rintro e w2 ⟨v2, rfl, ho2, hb2⟩
    obtain ⟨a2, c2, rfl, -, -⟩ := ho2.form
    obtain ⟨b2, off2, rfl, hlt2, hcl2⟩ := (Own.rd ho2).2.at_ (by have := (tellL_len cs (y : Int)).1; omega)
    have hown2 : Own w2 w.heap.size _ out := hown.below hb2 (Nat.le_refl _)
    have hln2 := tellL_len cs (y : Int)
    have hcs2 : ∀ j, j < (tellL cs (y : Int)).length → w2.cell? ((⟨b2, off2, none⟩ : Addr).add j) = some (.int .u8 (nth (tellL cs (y : Int)) j : Int)) := fun j hj => by
     rw [Go.WideShapes.add_plain]; exact hcl2 j hj
    have hbB : Below w.heap.size w w2 := hbel.trans (hb2.mono hsz)
    have hsz2 := hbB.size
    clear ho2 hcl2 hown hb2
    generalize tellL cs (y : Int) = new at *
    go_wp2_with (at_builtin; refine wpList_app rfl _ _ rfl w.heap.size _ out rfl hown2 ⟨b2, off2, none⟩ new.length c2 new rfl rfl hcs2 (by omega) hsz2 ?_; intro v' w3 hown' hb')
    rw [← HF.out] at hown'
    go_wp2
    go_roundw
    case rel => exact ⟨k + 1, by omega, by go_num, hown', hall', hbB.trans hb'⟩
    case measure => simp [intOf]; omega
   | false =>
    have HN' := HN.out hp
    have HE : Hid (EncEnd cs l w (.returned (.tuple #[.slice none 0 0, .int .i64 8])) wr) := by
     unfold Hid EncEnd
     rw [HN']
     exact ⟨_, rfl, Own.nil _ _, hbel⟩
    clear HS HN HN'
    go_wp2_with (first | (go_at_call 79; refine (l2Has_any _ _ _ (by omega)).mono ?_; rintro e w' ⟨rfl, rfl⟩; rw [hp]))
    go_ret2
    exact HE.out
  ·have hkk : k = n := by omega
   subst hkk
   rw [flat_end hl] at hown
   have hA := all_end hl hall
   obtain ⟨a2, c2, rfl, -, -⟩ := hown.form
   by_cases h4 : 400 < (l.flatMap (tellL cs)).length
   ·have HE : Hid (EncEnd cs l w (.returned (.tuple #[.slice none 0 0, .int .i64 2])) wr) := by
     unfold Hid EncEnd
     rw [encV_many hA h4]
     exact ⟨_, rfl, Own.nil _ _, hbel⟩
    generalize (l.flatMap (tellL cs)).length = N at *
    have h4' : (400 : Int) < (N : Int) := by omega
    go_wp2
    go_ret2
    exact HE.out
   ·have HE : Hid (EncEnd cs l w (.returned (.tuple #[.slice a2 (l.flatMap (tellL cs)).length c2, .int .i64 0])) wr) := by
     unfold Hid EncEnd
     rw [encV_ok hA h4]
     exact ⟨_, rfl, hown, hbel⟩
    clear hown
    generalize (l.flatMap (tellL cs)).length = N at *
    have h4' : ¬ (400 : Int) < (N : Int) := by omega
    go_wp2
    go_ret2
    exact HE.out
end Go.Proofs.YtdcgihcjiiemdaaDoor
namespace Go.Proofs.YtdcgihcjiiemdaaDoor
open Go.RowKit
def flt (l : List Int) : Int := if 400 < l.length then 2 else if l.all chr then 0 else 3
theorem flt_ok {l : List Int} (h : ¬ 400 < l.length) (ha : l.all chr = true) : flt l = 0 := by unfold flt; rw [if_neg h, if_pos ha]
end Go.Proofs.YtdcgihcjiiemdaaDoor
namespace Go.Proofs.YtdcgihcjiiemdaaDoor
open Go.RowKit
theorem Own.lower {w : World} {B C : Nat} {v : Value} {l : List Nat} (h : Own w B v l) (hC : C ≤ B) : Own w C v l := by
 refine ⟨h.1, ?_⟩
 rcases h.2 with h' | ⟨g, cap, cur, h1, h2, h3⟩
 ·exact .inl h'
 ·exact .inr ⟨g, cap, cur, h1, Nat.le_trans hC h2, h3⟩
theorem Own.kept {w : World} {B : Nat} {v : Value} {l : List Nat} (h : Own w B v l) (p : Addr) (hp : p.block < B) (u : Value) : Own (w.setCell p u) B v l := ownsRow_setCell_below h hp u
def BytEnd (r : Int × List Nat) (w : World) (e : Ending) (w' : World) : Prop := ∃ v, e = .returned (.agg #[.int .i64 r.1, v]) ∧ Own w' w.heap.size v r.2 ∧ Below w.heap.size w w'
theorem BytEnd.some {c : Int} {w w1 : World} {v : Value} {l : List Nat} (hbel : Below w.heap.size w w1) (hown : Own w1 (w.heap.size + 1) v l) (x y : Value) : BytEnd (c, l) w (.returned (.agg #[.int .i64 c, v])) ((w1.setCell ⟨w.heap.size, 0, none⟩ x).setCell ⟨w.heap.size, 1, none⟩ y) :=
 ⟨_, rfl, ((hown.kept _ (by simp) _).kept _ (by simp) _).lower (by omega), (hbel.setCell (by simp) _).setCell (by simp) _⟩
end Go.Proofs.YtdcgihcjiiemdaaDoor
namespace Go.Proofs.YtdcgihcjiiemdaaDoor
open Go.RowKit
theorem OwnI.lower {w : World} {B C : Nat} {v : Value} {l : List Int} (h : OwnI w B v l) (hC : C ≤ B) : OwnI w C v l := by
 refine ⟨h.1, ?_⟩
 rcases h.2 with h' | ⟨g, cap, cur, h1, h2, h3⟩
 ·exact .inl h'
 ·exact .inr ⟨g, cap, cur, h1, Nat.le_trans hC h2, h3⟩
theorem OwnI.kept {w : World} {B : Nat} {v : Value} {l : List Int} (h : OwnI w B v l) (p : Addr) (hp : p.block < B) (u : Value) : OwnI (w.setCell p u) B v l := ownsRow_setCell_below h hp u
def encT (cs : Int) (l : List Int) : Int × List Nat := if 1 ≤ cs ∧ cs ≤ 5 then (if flt l = 0 then encV cs l else (flt l, [])) else (4, [])
theorem encT_fault {cs : Int} {l : List Int} (h : 1 ≤ cs ∧ cs ≤ 5) (hf : flt l ≠ 0) : encT cs l = (flt l, []) := by unfold encT; rw [if_pos h, if_neg hf]
theorem encT_ok {cs : Int} {l : List Int} (h : 1 ≤ cs ∧ cs ≤ 5) (hf : flt l = 0) : encT cs l = encV cs l := by unfold encT; rw [if_pos h, if_pos hf]
theorem flt_zero {l : List Int} (h : flt l = 0) : l.length ≤ 400 ∧ ∀ x ∈ l, chr x = true := by
 unfold flt at h
 split at h
 ·cases h
 ·split at h
  ·exact ⟨by omega, by rename_i h2; rw [List.all_eq_true] at h2; exact h2⟩
  ·cases h
theorem hasC_3 : hasC 3 = cyB := by funext c; simp [hasC, cyB]
end Go.Proofs.YtdcgihcjiiemdaaDoor
namespace Go.Proofs.YtdcgihcjiiemdaaDoor
open Go.RowKit
def sfB (l : List Int) (k : Nat) : Bool := decide (32 ≤ nthI l k ∧ nthI l k ≤ 126) && !decide (0 < k ∧ nthI l (k - 1) = 61 ∧ nthI l k = 63)
def sfV (l : List Int) : Bool := (List.range l.length).all (sfB l)
theorem sfV_no {l : List Int} {k : Nat} (h : k < l.length) (hb : sfB l k = false) : sfV l = false := by
 unfold sfV
 rw [List.all_eq_false]
 exact ⟨k, List.mem_range.2 h, by rw [hb]; simp⟩
theorem sfV_yes {l : List Int} (h : ∀ k, k < l.length → sfB l k = true) : sfV l = true := by
 unfold sfV
 rw [List.all_eq_true]
 exact fun k hk => h k (List.mem_range.1 hk)
set_option maxHeartbeats 1600000 in
set_option maxRecDepth 100000 in
theorem l4Self_any (a : Option Addr) (n cap : Nat) (l : List Int) (w : World) (hl : l.length = n) (hr : RdI w a l) (hn : n ≤ 1048576) :
  Calls Tryd.prog 81 #[.slice a n cap] w fun e w' => e = .returned (.bool (sfV l)) ∧ w = w' := by
 have HL : Hid (l.length = n) := hl
 clear hl
 go_enter Tryd.func81, Tryd.ntmps81
 go_wp2
 go_loop [3] (fun v => ∃ k : Nat, k ≤ n ∧ v = .int .i64 k ∧ Hid (∀ i, i < k → sfB l i = true)) (fun v => n - (intOf v).toNat)
 case atStart => exact ⟨0, Nat.zero_le _, rfl, fun i hi => absurd hi (Nat.not_lt_zero _)⟩
 case round =>
  obtain ⟨k, hk, rfl, HA⟩ := hrel
  by_cases hkn : k < n
  ·have hki : (k : Int) < (n : Int) := by omega
   obtain ⟨b, off, rfl, hblt, hcell⟩ := hr.at_ (by have := HL.out; omega)
   have hc := hcell k (by have := HL.out; omega)
   have HN : Hid (sfB l k = false → sfV l = false) := fun h => sfV_no (by have := HL.out; omega) h
   have HY : Hid (sfB l k = true → ∀ i, i < k + 1 → sfB l i = true) := fun h i hi => by
    by_cases he : i = k
    ·rw [he]; exact h
    ·exact HA.out i (by omega)
   have HD : Hid (sfB l k = (decide (32 ≤ nthI l k ∧ nthI l k ≤ 126) && !decide (0 < k ∧ nthI l (k - 1) = 61 ∧ nthI l k = 63))) := rfl
   clear HA
   by_cases h0 : 0 < k
   ·obtain ⟨j, rfl⟩ : ∃ j, k = j + 1 := ⟨k - 1, by omega⟩
    have hd := hcell j (by have := HL.out; omega)
    rw [show j + 1 - 1 = j by omega] at HD
    clear hcell
    generalize sfB l (j + 1) = r at *
    generalize nthI l (j + 1) = x at *
    generalize nthI l j = y at *
    by_cases hx : 32 ≤ x ∧ x ≤ 126
    ·have hx' : decide (32 ≤ x ∧ x ≤ 126) = true := decide_eq_true hx
     by_cases hy : y = 61
     ·by_cases hz : x = 63
      ·have HM : Hid (_) := HN.out (by rw [HD.out, hx', decide_eq_true (by omega)]; rfl)
       clear HN HY HD hx
       subst hy hz
       go_wp2_with fail
       refine (l1In_any _ _ _ _).mono ?_
       rintro e w' ⟨rfl, rfl⟩
       rw [hx']
       go_wp2
       go_ret
       exact ⟨by rw [HM.out]; rfl, rfl⟩
      ·have HM : Hid (_) := HY.out (by rw [HD.out, hx', decide_eq_false (by omega)]; rfl)
       have hz' : (x == 63) = false := by simp [hz]
       clear HN HY HD hx
       subst hy
       go_wp2_with fail
       refine (l1In_any _ _ _ _).mono ?_
       rintro e w' ⟨rfl, rfl⟩
       rw [hx']
       go_wp2
       go_round
       case rel => exact ⟨j + 1 + 1, by omega, by go_num, HM⟩
       case measure => simp [intOf]; omega
     ·have HM : Hid (_) := HY.out (by rw [HD.out, hx', decide_eq_false (by omega)]; rfl)
      have hy' : (y == 61) = false := by simp [hy]
      clear HN HY HD hx
      go_wp2_with fail
      refine (l1In_any _ _ _ _).mono ?_
      rintro e w' ⟨rfl, rfl⟩
      rw [hx']
      go_wp2
      go_round
      case rel => exact ⟨j + 1 + 1, by omega, by go_num, HM⟩
      case measure => simp [intOf]; omega
    ·have hx' : decide (32 ≤ x ∧ x ≤ 126) = false := decide_eq_false hx
     have HM : Hid (_) := HN.out (by rw [HD.out, hx']; rfl)
     clear HN HY HD hx
     go_wp2_with fail
     refine (l1In_any _ _ _ _).mono ?_
     rintro e w' ⟨rfl, rfl⟩
     rw [hx']
     go_wp2
     go_ret
     exact ⟨by rw [HM.out]; rfl, rfl⟩
   ·obtain rfl : k = 0 := by omega
    clear hcell
    rw [Nat.add_zero] at hc
    generalize sfB l 0 = r at *
    generalize nthI l 0 = x at *
    by_cases hx : 32 ≤ x ∧ x ≤ 126
    ·have hx' : decide (32 ≤ x ∧ x ≤ 126) = true := decide_eq_true hx
     have HM : Hid (_) := HY.out (by rw [HD.out, hx', decide_eq_false (by omega)]; rfl)
     clear HN HY HD hx
     go_wp2_with fail
     refine (l1In_any _ _ _ _).mono ?_
     rintro e w' ⟨rfl, rfl⟩
     rw [hx']
     go_wp2
     go_round
     case rel => exact ⟨0 + 1, by omega, by go_num, HM⟩
     case measure => simp [intOf]; omega
    ·have hx' : decide (32 ≤ x ∧ x ≤ 126) = false := decide_eq_false hx
     have HM : Hid (_) := HN.out (by rw [HD.out, hx']; rfl)
     clear HN HY HD hx
     go_wp2_with fail
     refine (l1In_any _ _ _ _).mono ?_
     rintro e w' ⟨rfl, rfl⟩
     rw [hx']
     go_wp2
     go_ret
     exact ⟨by rw [HM.out]; rfl, rfl⟩
  ·have hki : ¬ (k : Int) < (n : Int) := by omega
   have HM : Hid (sfV l = true) := sfV_yes (fun i hi => HA.out i (by have := HL.out; omega))
   go_wp2
   go_ret
   exact ⟨by rw [HM.out]; rfl, rfl⟩
end Go.Proofs.YtdcgihcjiiemdaaDoor
