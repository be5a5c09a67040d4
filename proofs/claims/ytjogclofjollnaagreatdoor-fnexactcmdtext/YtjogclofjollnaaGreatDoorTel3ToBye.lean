/- The model's l2Bytes and l2Encode: the bytes of a character that a charset has, and of all characters, or a code; at most 400 characters · An answer with bytes of the call's own. -/
import Derived.Test.YtjogclofjollnaaGreatDoorTelToTel2
import Derived.Test.YtjogclofjollnaaGreatDoorJfzToApp
namespace Go.Proofs.YtjogclofjollnaaGreatDoor
open Go.RowKit
set_option maxHeartbeats 1600000 in
set_option maxRecDepth 100000 in
theorem l2Bytes_any (cs : Int) (y : Nat) (w : World) (hcs : 1 ≤ cs ∧ cs ≤ 5) (hy : y < 65536) (hh : hasC cs (y : Int) = true) :
  Calls Tryz.prog 130 #[.int .i64 cs, .int .i64 (y : Int)] w fun e w' => Laid w.heap.size (tellL cs (y : Int)) w e w' := by
 have hb0 := fun cells => (Below.refl w.heap.size w).alloc (Nat.le_refl _) (.cells cells 5)
 rcases cs_cases hcs with rfl | rfl | rfl | rfl | rfl
 ·rw [tellL_1]
  have h1 : (y : Int) ≤ 127 := by simpa [hasC] using hh
  clear hh
  have hL := Own.lit w w.heap.size (Nat.le_refl _) #[.int .u8 (y : Int)] [y] rfl (by simp [maxLen])
  go_enter Tryz.func130, Tryz.ntmps130
  go_wp2
  go_ret
  exact ⟨_, rfl, hL, hb0 _⟩
 ·rw [tellL_2]
  have h1 : (y : Int) ≤ 255 := by simpa [hasC] using hh
  clear hh
  have hL := Own.lit w w.heap.size (Nat.le_refl _) #[.int .u8 (y : Int)] [y] rfl (by simp [maxLen])
  go_enter Tryz.func130, Tryz.ntmps130
  go_wp2
  go_ret
  exact ⟨_, rfl, hL, hb0 _⟩
 ·rw [tellL_3]
  have h1 : 0 ≤ cyr (y : Int) := by simpa [hasC] using hh
  have h2 : cyr (y : Int) ≤ 255 := by
   have := cyr_pos.1 h1
   unfold cyr
   split
   ·omega
   ·split
    ·omega
    ·split
     ·omega
     ·split <;> omega
  clear hh
  obtain ⟨q, hq⟩ : ∃ q : Nat, cyr (y : Int) = (q : Int) := Int.eq_ofNat_of_zero_le h1
  have hq' : q < 256 := by omega
  have hL := Own.lit w w.heap.size (Nat.le_refl _) #[.int .u8 (q : Int)] [q] rfl (by simp [maxLen])
  have ht : (cyr (y : Int)).toNat = q := by rw [hq]; simp
  rw [ht]
  clear h1 h2 ht
  go_enter Tryz.func130, Tryz.ntmps130
  go_wp2_with (first | (go_at_call 144; refine (l2Cyrillic_any _ _).mono ?_; rintro e w' ⟨rfl, rfl⟩; rw [hq]))
  go_ret
  exact ⟨_, rfl, hL, hb0 _⟩
 ·rw [tellL_4]
  clear hh
  simp only [Int.toNat_natCast]
  by_cases h1 : y < 128
  ·have h1' : (y : Int) < 128 := by omega
   rw [u8L_one h1]
   have hL := Own.lit w w.heap.size (Nat.le_refl _) #[.int .u8 (y : Int)] [y] rfl (by simp [maxLen])
   go_enter Tryz.func130, Tryz.ntmps130
   go_wp2
   go_ret
   exact ⟨_, rfl, hL, hb0 _⟩
  ·have h1' : ¬ (y : Int) < 128 := by omega
   by_cases h2 : y < 2048
   ·have h2' : (y : Int) < 2048 := by omega
    rw [u8L_two h1 h2]
    obtain ⟨p, hp⟩ : ∃ p, p = y / 64 := ⟨_, rfl⟩
    obtain ⟨q, hq⟩ : ∃ q, q = y % 64 := ⟨_, rfl⟩
    rw [← hp, ← hq]
    have e1 : (y : Int) / 64 = (p : Int) := by omega
    have e2 : (y : Int) % 64 = (q : Int) := by omega
    have hp' : p < 32 := by omega
    have hq' : q < 64 := by omega
    have hL := Own.lit w w.heap.size (Nat.le_refl _) #[.int .u8 (192 + (p : Int)), .int .u8 (128 + (q : Int))] [192 + p, 128 + q] rfl (by simp [maxLen])
    clear hp hq
    go_enter Tryz.func130, Tryz.ntmps130
    go_wp2
    go_ret
    exact ⟨_, rfl, hL, hb0 _⟩
   ·have h2' : ¬ (y : Int) < 2048 := by omega
    rw [u8L_three h1 h2]
    obtain ⟨p, hp⟩ : ∃ p, p = y / 4096 := ⟨_, rfl⟩
    obtain ⟨r, hr⟩ : ∃ r, r = y / 64 := ⟨_, rfl⟩
    obtain ⟨s, hs⟩ : ∃ s, s = r % 64 := ⟨_, rfl⟩
    obtain ⟨q, hq⟩ : ∃ q, q = y % 64 := ⟨_, rfl⟩
    rw [← hp, ← hr, ← hq, ← hs]
    have e0 : (y : Int) / 4096 = (p : Int) := by omega
    have e1 : (y : Int) / 64 = (r : Int) := by omega
    have e2 : (y : Int) % 64 = (q : Int) := by omega
    have e3 : (r : Int) % 64 = (s : Int) := by omega
    have hp' : p < 16 := by omega
    have hq' : q < 64 := by omega
    have hs' : s < 64 := by omega
    have hr' : r < 1024 := by omega
    have hL := Own.lit w w.heap.size (Nat.le_refl _) #[.int .u8 (224 + (p : Int)), .int .u8 (128 + (s : Int)), .int .u8 (128 + (q : Int))] [224 + p, 128 + s, 128 + q] rfl (by simp [maxLen])
    clear hp hq hr hs
    go_enter Tryz.func130, Tryz.ntmps130
    go_wp2
    go_ret
    exact ⟨_, rfl, hL, hb0 _⟩
 ·rw [tellL_5]
  clear hh
  simp only [Int.toNat_natCast]
  obtain ⟨p, hp⟩ : ∃ p, p = y / 256 := ⟨_, rfl⟩
  obtain ⟨q, hq⟩ : ∃ q, q = y % 256 := ⟨_, rfl⟩
  rw [← hp, ← hq]
  have e1 : (y : Int) / 256 = (p : Int) := by omega
  have e2 : (y : Int) % 256 = (q : Int) := by omega
  have hp' : p < 256 := by omega
  have hq' : q < 256 := by omega
  have hL := Own.lit w w.heap.size (Nat.le_refl _) #[.int .u8 (p : Int), .int .u8 (q : Int)] [p, q] rfl (by simp [maxLen])
  clear hp hq
  go_enter Tryz.func130, Tryz.ntmps130
  go_wp2
  go_ret
  exact ⟨_, rfl, hL, hb0 _⟩
def encV (cs : Int) (l : List Int) : Int × List Nat := if l.all (hasC cs) then (if 400 < (l.flatMap (tellL cs)).length then (2, []) else (0, l.flatMap (tellL cs))) else (8, [])
theorem encV_bad {cs : Int} {l : List Int} (h : l.all (hasC cs) = false) : encV cs l = (8, []) := by unfold encV; rw [h]; rfl
theorem encV_many {cs : Int} {l : List Int} (h : l.all (hasC cs) = true) (h4 : 400 < (l.flatMap (tellL cs)).length) : encV cs l = (2, []) := by unfold encV; rw [h, if_pos rfl, if_pos h4]
theorem encV_ok {cs : Int} {l : List Int} (h : l.all (hasC cs) = true) (h4 : ¬ 400 < (l.flatMap (tellL cs)).length) : encV cs l = (0, l.flatMap (tellL cs)) := by unfold encV; rw [h, if_pos rfl, if_neg h4]
def EncEnd (cs : Int) (l : List Int) (w : World) (e : Ending) (w' : World) : Prop := ∃ v, e = .returned (.tuple #[v, .int .i64 (encV cs l).1]) ∧ Own w' w.heap.size v (encV cs l).2 ∧ Below w.heap.size w w'
set_option maxHeartbeats 1600000 in
set_option maxRecDepth 100000 in
theorem l2Encode_any (cs : Int) (a : Option Addr) (n cap : Nat) (l : List Int) (w : World) (hcs : 1 ≤ cs ∧ cs ≤ 5) (hl : l.length = n) (hr : RdI w a l) (hn : n ≤ 400) (hch : ∀ x ∈ l, chr x = true) :
  Calls Tryz.prog 115 #[.int .i64 cs, .slice a n cap] w fun e w' => EncEnd cs l w e w' := by
 go_enter Tryz.func115, Tryz.ntmps115
 go_wp2
 have hO := Own.lit w w.heap.size (Nat.le_refl _) #[] [] rfl (by simp [maxLen])
 have hB0 : Below w.heap.size w (w.alloc (.cells #[] 5)) := (Below.refl _ _).alloc (Nat.le_refl _) _
 go_loopw [6, 7] (fun v i wr => ∃ k : Nat, k ≤ n ∧ i = .int .i64 k ∧ Own wr w.heap.size v ((l.take k).flatMap (tellL cs)) ∧ (l.take k).all (hasC cs) = true ∧ Below w.heap.size w wr) (fun _ i _ => n - (intOf i).toNat)
 case atStart => exact ⟨0, Nat.zero_le _, rfl, hO, by simp, hB0⟩
 case round =>
  obtain ⟨k, hk, rfl, hown, hall, hbel⟩ := hrel
  clear hO hB0
  by_cases hkn : k < n
  ·obtain ⟨b, off, rfl, hblt, hcell⟩ := hr.at_ (by omega)
   have hc : wr.cell? ⟨b, off + k, none⟩ = some (.int .i64 (nthI l k)) := (hbel.cell (p := ⟨b, off + k, none⟩) hblt).trans (hcell k (by omega))
   have hx := chr_iff.1 (hch _ (nthI_mem (l := l) (k := k) (by omega)))
   have HF : Hid ((l.take (k + 1)).flatMap (tellL cs) = (l.take k).flatMap (tellL cs) ++ tellL cs (nthI l k)) := flat_step (by omega)
   have HS : Hid (hasC cs (nthI l k) = true → (l.take (k + 1)).all (hasC cs) = true) := fun hb => all_step (by omega) hall hb
   have HN : Hid (hasC cs (nthI l k) = false → encV cs l = (8, [])) := fun hb => encV_bad (all_bad (by omega) hb)
   have hlen : ((l.take k).flatMap (tellL cs)).length ≤ 1048576 := by
    have := (flat_len cs (l.take k)).2
    rw [List.length_take] at this
    omega
   clear hcell hr hall
   generalize nthI l k = x at *
   obtain ⟨y, rfl⟩ : ∃ y : Nat, x = (y : Int) := Int.eq_ofNat_of_zero_le (by omega)
   generalize (l.take k).flatMap (tellL cs) = out at *
   have hsz := hbel.size
   cases hp : hasC cs (y : Int) with
   | true =>
    have hall' := HS.out hp
    have hy : y < 65536 := by omega
    clear HS HN
    go_wp2_with (first | (go_at_call 129; refine (l2Has_any _ _ _ (by omega)).mono ?_; rintro e w' ⟨rfl, rfl⟩; rw [hp]))
    refine (l2Bytes_any cs y _ hcs hy hp).mono ?_
    rintro e w2 ⟨v2, rfl, ho2, hb2⟩
    obtain ⟨a2, c2, rfl, -, -⟩ := ho2.form
    obtain ⟨b2, off2, rfl, hlt2, hcl2⟩ := (Own.rd ho2).2.at_ (by have := (tellL_len cs (y : Int)).1; omega)
    have hown2 : Own w2 w.heap.size _ out := hown.below hb2 (Nat.le_refl _)
    have hln2 := tellL_len cs (y : Int)
    have hcs2 : ∀ j, j < (tellL cs (y : Int)).length → w2.cell? ((⟨b2, off2, none⟩ : Addr).add j) = some (.int .u8 (nth (tellL cs (y : Int)) j : Int)) := fun j hj => by
     rw [Go.WideShapes.add_plain]; exact hcl2 j hj
    have hbB : Below w.heap.size w w2 := hbel.trans (hb2.mono hsz)
    have hsz2 := hbB.size
    clear ho2 hcl2 hown hb2
    generalize tellL cs (y : Int) = new at *
    go_wp2_with (at_builtin; refine wpList_app rfl _ _ rfl w.heap.size _ out rfl hown2 ⟨b2, off2, none⟩ new.length c2 new rfl rfl hcs2 (by omega) hsz2 ?_; intro v' w3 hown' hb')
    rw [← HF.out] at hown'
    go_wp2
    go_roundw
    case rel => exact ⟨k + 1, by omega, by go_num, hown', hall', hbB.trans hb'⟩
    case measure => simp [intOf]; omega
   | false =>
    have HN' := HN.out hp
    have HE : Hid (EncEnd cs l w (.returned (.tuple #[.slice none 0 0, .int .i64 8])) wr) := by
     unfold Hid EncEnd
     rw [HN']
     exact ⟨_, rfl, Own.nil _ _, hbel⟩
    clear HS HN HN'
    go_wp2_with (first | (go_at_call 129; refine (l2Has_any _ _ _ (by omega)).mono ?_; rintro e w' ⟨rfl, rfl⟩; rw [hp]))
    go_ret2
    exact HE.out
  ·have hkk : k = n := by omega
   subst hkk
   rw [flat_end hl] at hown
   have hA := all_end hl hall
   obtain ⟨a2, c2, rfl, -, -⟩ := hown.form
   by_cases h4 : 400 < (l.flatMap (tellL cs)).length
   ·have HE : Hid (EncEnd cs l w (.returned (.tuple #[.slice none 0 0, .int .i64 2])) wr) := by
     unfold Hid EncEnd
     rw [encV_many hA h4]
     exact ⟨_, rfl, Own.nil _ _, hbel⟩
    generalize (l.flatMap (tellL cs)).length = N at *
    have h4' : (400 : Int) < (N : Int) := by omega
    go_wp2
    go_ret2
    exact HE.out
   ·have HE : Hid (EncEnd cs l w (.returned (.tuple #[.slice a2 (l.flatMap (tellL cs)).length c2, .int .i64 0])) wr) := by
     unfold Hid EncEnd
     rw [encV_ok hA h4]
     exact ⟨_, rfl, hown, hbel⟩
    clear hown
    generalize (l.flatMap (tellL cs)).length = N at *
    have h4' : ¬ (400 : Int) < (N : Int) := by omega
    go_wp2
    go_ret2
    exact HE.out
end Go.Proofs.YtjogclofjollnaaGreatDoor
namespace Go.Proofs.YtjogclofjollnaaGreatDoor
open Go.RowKit
theorem Own.lower {w : World} {B C : Nat} {v : Value} {l : List Nat} (h : Own w B v l) (hC : C ≤ B) : Own w C v l := by
 refine ⟨h.1, ?_⟩
 rcases h.2 with h' | ⟨g, cap, cur, h1, h2, h3⟩
 ·exact .inl h'
 ·exact .inr ⟨g, cap, cur, h1, Nat.le_trans hC h2, h3⟩
theorem Own.kept {w : World} {B : Nat} {v : Value} {l : List Nat} (h : Own w B v l) (p : Addr) (hp : p.block < B) (u : Value) : Own (w.setCell p u) B v l := ownsRow_setCell_below h hp u
def BytEnd (r : Int × List Nat) (w : World) (e : Ending) (w' : World) : Prop := ∃ v, e = .returned (.agg #[.int .i64 r.1, v]) ∧ Own w' w.heap.size v r.2 ∧ Below w.heap.size w w'
theorem BytEnd.code {c : Int} {w w1 : World} (hbel : Below w.heap.size w w1) (x y : Value) : BytEnd (c, []) w (.returned (.agg #[.int .i64 c, .slice none 0 0])) ((w1.setCell ⟨w.heap.size, 0, none⟩ x).setCell ⟨w.heap.size, 1, none⟩ y) :=
 ⟨_, rfl, Own.nil _ _, (hbel.setCell (by simp) _).setCell (by simp) _⟩
theorem BytEnd.some {c : Int} {w w1 : World} {v : Value} {l : List Nat} (hbel : Below w.heap.size w w1) (hown : Own w1 (w.heap.size + 1) v l) (x y : Value) : BytEnd (c, l) w (.returned (.agg #[.int .i64 c, v])) ((w1.setCell ⟨w.heap.size, 0, none⟩ x).setCell ⟨w.heap.size, 1, none⟩ y) :=
 ⟨_, rfl, ((hown.kept _ (by simp) _).kept _ (by simp) _).lower (by omega), (hbel.setCell (by simp) _).setCell (by simp) _⟩
end Go.Proofs.YtjogclofjollnaaGreatDoor
