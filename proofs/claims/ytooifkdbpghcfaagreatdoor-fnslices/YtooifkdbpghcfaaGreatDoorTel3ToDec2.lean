/- The model's l2Bytes and l2Encode: the bytes of a character that a charset has, and of all characters, or a code; at most 400 characters · CodesFault, the program's and the model's, at every slice of at most 1048576 numbers: both by one plain function · EncodeText, the program's and the model's, at every charset and every slice of at most 1048576 numbers: both by one plain function · The character at the beginning of some bytes, by each charset: plain functions, with no program in them; what is guessed and told again is just what the model reads. -/
import Derived.Test.YtooifkdbpghcfaaGreatDoorChsToTel2
import Derived.Test.YtooifkdbpghcfaaGreatDoorByeToFldS2
import Derived.Test.YtooifkdbpghcfaaGreatDoorDec
namespace Go.Proofs.YtooifkdbpghcfaaGreatDoor
open Go.RowKit

set_option maxHeartbeats 1600000 in
set_option maxRecDepth 100000 in
theorem l2Bytes_any (cs : Int) (y : Nat) (w : World) (hcs : 1 ≤ cs ∧ cs ≤ 5) (hy : y < 65536) (hh : hasC cs (y : Int) = true) :
    Calls Tryz.prog 93 #[.int .i64 cs, .int .i64 (y : Int)] w fun e w' => Laid w.heap.size (tellL cs (y : Int)) w e w' := by
  have hb0 := fun cells => (Below.refl w.heap.size w).alloc (Nat.le_refl _) (.cells cells 5)
  rcases cs_cases hcs with rfl | rfl | rfl | rfl | rfl
  · rw [tellL_1]
    have h1 : (y : Int) ≤ 127 := by simpa [hasC] using hh
    clear hh
    have hL := Own.lit w w.heap.size (Nat.le_refl _) #[.int .u8 (y : Int)] [y] rfl (by simp [maxLen])
    go_enter Tryz.func93, Tryz.ntmps93
    go_wp2
    go_ret
    exact ⟨_, rfl, hL, hb0 _⟩
  · rw [tellL_2]
    have h1 : (y : Int) ≤ 255 := by simpa [hasC] using hh
    clear hh
    have hL := Own.lit w w.heap.size (Nat.le_refl _) #[.int .u8 (y : Int)] [y] rfl (by simp [maxLen])
    go_enter Tryz.func93, Tryz.ntmps93
    go_wp2
    go_ret
    exact ⟨_, rfl, hL, hb0 _⟩
  · rw [tellL_3]
    have h1 : 0 ≤ cyr (y : Int) := by simpa [hasC] using hh
    have h2 : cyr (y : Int) ≤ 255 := by
      have := cyr_pos.1 h1
      unfold cyr
      split
      · omega
      · split
        · omega
        · split
          · omega
          · split <;> omega
    clear hh
    obtain ⟨q, hq⟩ : ∃ q : Nat, cyr (y : Int) = (q : Int) := Int.eq_ofNat_of_zero_le h1
    have hq' : q < 256 := by omega
    have hL := Own.lit w w.heap.size (Nat.le_refl _) #[.int .u8 (q : Int)] [q] rfl (by simp [maxLen])
    have ht : (cyr (y : Int)).toNat = q := by rw [hq]; simp
    rw [ht]
    clear h1 h2 ht
    go_enter Tryz.func93, Tryz.ntmps93
    go_wp2_with (first | (go_at_call 123; refine (l2Cyrillic_any _ _).mono ?_; rintro e w' ⟨rfl, rfl⟩; rw [hq]))
    go_ret
    exact ⟨_, rfl, hL, hb0 _⟩
  · rw [tellL_4]
    clear hh
    simp only [Int.toNat_natCast]
    by_cases h1 : y < 128
    · have h1' : (y : Int) < 128 := by omega
      rw [u8L_one h1]
      have hL := Own.lit w w.heap.size (Nat.le_refl _) #[.int .u8 (y : Int)] [y] rfl (by simp [maxLen])
      go_enter Tryz.func93, Tryz.ntmps93
      go_wp2
      go_ret
      exact ⟨_, rfl, hL, hb0 _⟩
    · have h1' : ¬ (y : Int) < 128 := by omega
      by_cases h2 : y < 2048
      · have h2' : (y : Int) < 2048 := by omega
        rw [u8L_two h1 h2]
        obtain ⟨p, hp⟩ : ∃ p, p = y / 64 := ⟨_, rfl⟩
        obtain ⟨q, hq⟩ : ∃ q, q = y % 64 := ⟨_, rfl⟩
        rw [← hp, ← hq]
        have e1 : (y : Int) / 64 = (p : Int) := by omega
        have e2 : (y : Int) % 64 = (q : Int) := by omega
        have hp' : p < 32 := by omega
        have hq' : q < 64 := by omega
        have hL := Own.lit w w.heap.size (Nat.le_refl _) #[.int .u8 (192 + (p : Int)), .int .u8 (128 + (q : Int))] [192 + p, 128 + q] rfl (by simp [maxLen])
        clear hp hq
        go_enter Tryz.func93, Tryz.ntmps93
        go_wp2
        go_ret
        exact ⟨_, rfl, hL, hb0 _⟩
      · have h2' : ¬ (y : Int) < 2048 := by omega
        rw [u8L_three h1 h2]
        obtain ⟨p, hp⟩ : ∃ p, p = y / 4096 := ⟨_, rfl⟩
        obtain ⟨r, hr⟩ : ∃ r, r = y / 64 := ⟨_, rfl⟩
        obtain ⟨s, hs⟩ : ∃ s, s = r % 64 := ⟨_, rfl⟩
        obtain ⟨q, hq⟩ : ∃ q, q = y % 64 := ⟨_, rfl⟩
        rw [← hp, ← hr, ← hq, ← hs]
        have e0 : (y : Int) / 4096 = (p : Int) := by omega
        have e1 : (y : Int) / 64 = (r : Int) := by omega
        have e2 : (y : Int) % 64 = (q : Int) := by omega
        have e3 : (r : Int) % 64 = (s : Int) := by omega
        have hp' : p < 16 := by omega
        have hq' : q < 64 := by omega
        have hs' : s < 64 := by omega
        have hr' : r < 1024 := by omega
        have hL := Own.lit w w.heap.size (Nat.le_refl _) #[.int .u8 (224 + (p : Int)), .int .u8 (128 + (s : Int)), .int .u8 (128 + (q : Int))] [224 + p, 128 + s, 128 + q] rfl (by simp [maxLen])
        clear hp hq hr hs
        go_enter Tryz.func93, Tryz.ntmps93
        go_wp2
        go_ret
        exact ⟨_, rfl, hL, hb0 _⟩
  · rw [tellL_5]
    clear hh
    simp only [Int.toNat_natCast]
    obtain ⟨p, hp⟩ : ∃ p, p = y / 256 := ⟨_, rfl⟩
    obtain ⟨q, hq⟩ : ∃ q, q = y % 256 := ⟨_, rfl⟩
    rw [← hp, ← hq]
    have e1 : (y : Int) / 256 = (p : Int) := by omega
    have e2 : (y : Int) % 256 = (q : Int) := by omega
    have hp' : p < 256 := by omega
    have hq' : q < 256 := by omega
    have hL := Own.lit w w.heap.size (Nat.le_refl _) #[.int .u8 (p : Int), .int .u8 (q : Int)] [p, q] rfl (by simp [maxLen])
    clear hp hq
    go_enter Tryz.func93, Tryz.ntmps93
    go_wp2
    go_ret
    exact ⟨_, rfl, hL, hb0 _⟩

/-- All bytes, or a code: what EncodeText answers of characters without a fault. -/
def encV (cs : Int) (l : List Int) : Int × List Nat := if l.all (hasC cs) then (if 400 < (l.flatMap (tellL cs)).length then (2, []) else (0, l.flatMap (tellL cs))) else (8, [])
theorem encV_bad {cs : Int} {l : List Int} (h : l.all (hasC cs) = false) : encV cs l = (8, []) := by unfold encV; rw [h]; rfl
theorem encV_many {cs : Int} {l : List Int} (h : l.all (hasC cs) = true) (h4 : 400 < (l.flatMap (tellL cs)).length) : encV cs l = (2, []) := by unfold encV; rw [h, if_pos rfl, if_pos h4]
theorem encV_ok {cs : Int} {l : List Int} (h : l.all (hasC cs) = true) (h4 : ¬ 400 < (l.flatMap (tellL cs)).length) : encV cs l = (0, l.flatMap (tellL cs)) := by unfold encV; rw [h, if_pos rfl, if_neg h4]

/-- What the model's l2Encode ends with. -/
def EncEnd (cs : Int) (l : List Int) (w : World) (e : Ending) (w' : World) : Prop := ∃ v, e = .returned (.tuple #[v, .int .i64 (encV cs l).1]) ∧ Own w' w.heap.size v (encV cs l).2 ∧ Below w.heap.size w w'

set_option maxHeartbeats 1600000 in
set_option maxRecDepth 100000 in
theorem l2Encode_any (cs : Int) (a : Option Addr) (n cap : Nat) (l : List Int) (w : World) (hcs : 1 ≤ cs ∧ cs ≤ 5) (hl : l.length = n) (hr : RdI w a l) (hn : n ≤ 400) (hch : ∀ x ∈ l, chr x = true) :
    Calls Tryz.prog 75 #[.int .i64 cs, .slice a n cap] w fun e w' => EncEnd cs l w e w' := by
  go_enter Tryz.func75, Tryz.ntmps75
  go_wp2
  have hO := Own.lit w w.heap.size (Nat.le_refl _) #[] [] rfl (by simp [maxLen])
  have hB0 : Below w.heap.size w (w.alloc (.cells #[] 5)) := (Below.refl _ _).alloc (Nat.le_refl _) _
  go_loopw [6, 7] (fun v i wr => ∃ k : Nat, k ≤ n ∧ i = .int .i64 k ∧ Own wr w.heap.size v ((l.take k).flatMap (tellL cs)) ∧ (l.take k).all (hasC cs) = true ∧ Below w.heap.size w wr) (fun _ i _ => n - (intOf i).toNat)
  case atStart => exact ⟨0, Nat.zero_le _, rfl, hO, by simp, hB0⟩
  case round =>
    obtain ⟨k, hk, rfl, hown, hall, hbel⟩ := hrel
    clear hO hB0
    by_cases hkn : k < n
    · obtain ⟨b, off, rfl, hblt, hcell⟩ := hr.at_ (by omega)
      have hc : wr.cell? ⟨b, off + k, none⟩ = some (.int .i64 (nthI l k)) := (hbel.cell (p := ⟨b, off + k, none⟩) hblt).trans (hcell k (by omega))
      have hx := chr_iff.1 (hch _ (nthI_mem (l := l) (k := k) (by omega)))
      have HF : Hid ((l.take (k + 1)).flatMap (tellL cs) = (l.take k).flatMap (tellL cs) ++ tellL cs (nthI l k)) := flat_step (by omega)
      have HS : Hid (hasC cs (nthI l k) = true → (l.take (k + 1)).all (hasC cs) = true) := fun hb => all_step (by omega) hall hb
      have HN : Hid (hasC cs (nthI l k) = false → encV cs l = (8, [])) := fun hb => encV_bad (all_bad (by omega) hb)
      have hlen : ((l.take k).flatMap (tellL cs)).length ≤ 1048576 := by
        have := (flat_len cs (l.take k)).2
        rw [List.length_take] at this
        omega
      clear hcell hr hall
      generalize nthI l k = x at *
      obtain ⟨y, rfl⟩ : ∃ y : Nat, x = (y : Int) := Int.eq_ofNat_of_zero_le (by omega)
      generalize (l.take k).flatMap (tellL cs) = out at *
      have hsz := hbel.size
      cases hp : hasC cs (y : Int) with
      | true =>
        have hall' := HS.out hp
        have hy : y < 65536 := by omega
        clear HS HN
        go_wp2_with (first | (go_at_call 92; refine (l2Has_any _ _ _ (by omega)).mono ?_; rintro e w' ⟨rfl, rfl⟩; rw [hp]))
        refine (l2Bytes_any cs y _ hcs hy hp).mono ?_
        rintro e w2 ⟨v2, rfl, ho2, hb2⟩
        obtain ⟨a2, c2, rfl, -, -⟩ := ho2.form
        obtain ⟨b2, off2, rfl, hlt2, hcl2⟩ := (Own.rd ho2).2.at_ (by have := (tellL_len cs (y : Int)).1; omega)
        have hown2 : Own w2 w.heap.size _ out := hown.below hb2 (Nat.le_refl _)
        have hln2 := tellL_len cs (y : Int)
        have hcs2 : ∀ j, j < (tellL cs (y : Int)).length → w2.cell? ((⟨b2, off2, none⟩ : Addr).add j) = some (.int .u8 (nth (tellL cs (y : Int)) j : Int)) := fun j hj => by
          rw [Go.WideShapes.add_plain]; exact hcl2 j hj
        have hbB : Below w.heap.size w w2 := hbel.trans (hb2.mono hsz)
        have hsz2 := hbB.size
        clear ho2 hcl2 hown hb2
        generalize tellL cs (y : Int) = new at *
        go_wp2_with (at_builtin; refine wpList_app rfl _ _ rfl w.heap.size _ out rfl hown2 ⟨b2, off2, none⟩ new.length c2 new rfl rfl hcs2 (by omega) hsz2 ?_; intro v' w3 hown' hb')
        rw [← HF.out] at hown'
        go_wp2
        go_roundw
        case rel => exact ⟨k + 1, by omega, by go_num, hown', hall', hbB.trans hb'⟩
        case measure => simp [intOf]; omega
      | false =>
        have HN' := HN.out hp
        have HE : Hid (EncEnd cs l w (.returned (.tuple #[.slice none 0 0, .int .i64 8])) wr) := by
          unfold Hid EncEnd
          rw [HN']
          exact ⟨_, rfl, Own.nil _ _, hbel⟩
        clear HS HN HN'
        go_wp2_with (first | (go_at_call 92; refine (l2Has_any _ _ _ (by omega)).mono ?_; rintro e w' ⟨rfl, rfl⟩; rw [hp]))
        go_ret2
        exact HE.out
    · have hkk : k = n := by omega
      subst hkk
      rw [flat_end hl] at hown
      have hA := all_end hl hall
      obtain ⟨a2, c2, rfl, -, -⟩ := hown.form
      by_cases h4 : 400 < (l.flatMap (tellL cs)).length
      · have HE : Hid (EncEnd cs l w (.returned (.tuple #[.slice none 0 0, .int .i64 2])) wr) := by
          unfold Hid EncEnd
          rw [encV_many hA h4]
          exact ⟨_, rfl, Own.nil _ _, hbel⟩
        generalize (l.flatMap (tellL cs)).length = N at *
        have h4' : (400 : Int) < (N : Int) := by omega
        go_wp2
        go_ret2
        exact HE.out
      · have HE : Hid (EncEnd cs l w (.returned (.tuple #[.slice a2 (l.flatMap (tellL cs)).length c2, .int .i64 0])) wr) := by
          unfold Hid EncEnd
          rw [encV_ok hA h4]
          exact ⟨_, rfl, hown, hbel⟩
        clear hown
        generalize (l.flatMap (tellL cs)).length = N at *
        have h4' : ¬ (400 : Int) < (N : Int) := by omega
        go_wp2
        go_ret2
        exact HE.out
end Go.Proofs.YtooifkdbpghcfaaGreatDoor

namespace Go.Proofs.YtooifkdbpghcfaaGreatDoor
open Go.RowKit

/-- The fault of some characters. -/
def flt (l : List Int) : Int := if 400 < l.length then 2 else if l.all chr then 0 else 3
theorem flt_ok {l : List Int} (h : ¬ 400 < l.length) (ha : l.all chr = true) : flt l = 0 := by unfold flt; rw [if_neg h, if_pos ha]
end Go.Proofs.YtooifkdbpghcfaaGreatDoor

namespace Go.Proofs.YtooifkdbpghcfaaGreatDoor
open Go.RowKit

theorem OwnI.lower {w : World} {B C : Nat} {v : Value} {l : List Int} (h : OwnI w B v l) (hC : C ≤ B) : OwnI w C v l := by
  refine ⟨h.1, ?_⟩
  rcases h.2 with h' | ⟨g, cap, cur, h1, h2, h3⟩
  · exact .inl h'
  · exact .inr ⟨g, cap, cur, h1, Nat.le_trans hC h2, h3⟩
theorem OwnI.kept {w : World} {B : Nat} {v : Value} {l : List Int} (h : OwnI w B v l) (p : Addr) (hp : p.block < B) (u : Value) : OwnI (w.setCell p u) B v l := ownsRow_setCell_below h hp u

/-- What EncodeText answers. -/
def encT (cs : Int) (l : List Int) : Int × List Nat := if 1 ≤ cs ∧ cs ≤ 5 then (if flt l = 0 then encV cs l else (flt l, [])) else (4, [])
theorem encT_fault {cs : Int} {l : List Int} (h : 1 ≤ cs ∧ cs ≤ 5) (hf : flt l ≠ 0) : encT cs l = (flt l, []) := by unfold encT; rw [if_pos h, if_neg hf]
theorem encT_ok {cs : Int} {l : List Int} (h : 1 ≤ cs ∧ cs ≤ 5) (hf : flt l = 0) : encT cs l = encV cs l := by unfold encT; rw [if_pos h, if_pos hf]
theorem flt_zero {l : List Int} (h : flt l = 0) : l.length ≤ 400 ∧ ∀ x ∈ l, chr x = true := by
  unfold flt at h
  split at h
  · cases h
  · split at h
    · exact ⟨by omega, by rename_i h2; rw [List.all_eq_true] at h2; exact h2⟩
    · cases h
theorem hasC_1 : hasC 1 = leB 127 := by funext c; simp [hasC, leB]
theorem hasC_2 : hasC 2 = leB 255 := by funext c; simp [hasC, leB]
theorem hasC_3 : hasC 3 = cyB := by funext c; simp [hasC, cyB]
theorem hasC_4 : hasC 4 = anyB := by funext c; simp [hasC, anyB]
theorem hasC_5 : hasC 5 = anyB := by funext c; simp [hasC, anyB]
end Go.Proofs.YtooifkdbpghcfaaGreatDoor

namespace Go.Proofs.YtooifkdbpghcfaaGreatDoor
open Go.RowKit

/-- What a charset guesses: a character and how many bytes; 0 bytes: none. -/
def gss (cs : Int) (l : List Nat) : Nat × Nat :=
  if cs = 3 then (cyU (nth l 0), 1) else
  if cs = 4 then (if nth l 0 < 128 then (nth l 0, 1) else if 2 ≤ l.length ∧ nth l 0 < 224 then (nth l 0 % 32 * 64 + nth l 1 % 64, 2) else if 3 ≤ l.length then (nth l 0 % 16 * 4096 + nth l 1 % 64 * 64 + nth l 2 % 64, 3) else (0, 0)) else
  if cs = 5 then (if 2 ≤ l.length then (nth l 0 * 256 + nth l 1, 2) else (0, 0)) else (nth l 0, 1)
/-- What is read: the guess, where it is told in just these bytes. -/
def rdC (cs : Int) (l : List Nat) : Nat × Nat :=
  if (gss cs l).2 = 0 ∨ chr ((gss cs l).1 : Int) = false ∨ hasC cs ((gss cs l).1 : Int) = false ∨ tellL cs ((gss cs l).1 : Int) ≠ l.take (gss cs l).2 then (0, 0) else gss cs l
theorem rdC_no {cs : Int} {l : List Nat} (h : (gss cs l).2 = 0 ∨ chr ((gss cs l).1 : Int) = false ∨ hasC cs ((gss cs l).1 : Int) = false ∨ tellL cs ((gss cs l).1 : Int) ≠ l.take (gss cs l).2) : rdC cs l = (0, 0) := if_pos h
theorem rdC_yes {cs : Int} {l : List Nat} (h1 : (gss cs l).2 ≠ 0) (h2 : chr ((gss cs l).1 : Int) = true) (h3 : hasC cs ((gss cs l).1 : Int) = true) (h4 : tellL cs ((gss cs l).1 : Int) = l.take (gss cs l).2) : rdC cs l = gss cs l := by
  unfold rdC
  rw [if_neg]
  rintro (h | h | h | h)
  · exact h1 h
  · rw [h2] at h; cases h
  · rw [h3] at h; cases h
  · exact h h4
theorem gss_le (cs : Int) (l : List Nat) (h : 1 ≤ l.length) : (gss cs l).2 ≤ l.length := by
  unfold gss
  split
  · exact h
  · split
    · split
      · exact h
      · split
        · rename_i h2; exact h2.1
        · split
          · assumption
          · exact Nat.zero_le _
    · split
      · split
        · assumption
        · exact Nat.zero_le _
      · exact h
theorem rdC_le (cs : Int) (l : List Nat) (h : 1 ≤ l.length) : (rdC cs l).2 ≤ l.length := by
  unfold rdC
  split
  · exact Nat.zero_le _
  · exact gss_le cs l h
theorem take_one {l : List Nat} (h : 1 ≤ l.length) : l.take 1 = [nth l 0] := by
  rw [show (1 : Nat) = 0 + 1 from rfl, take_snoc l 0 (by omega)]; simp
theorem take_two {l : List Nat} (h : 2 ≤ l.length) : l.take 2 = [nth l 0, nth l 1] := by
  rw [show (2 : Nat) = 1 + 1 from rfl, take_snoc l 1 (by omega), take_one (by omega)]; rfl
theorem take_three {l : List Nat} (h : 3 ≤ l.length) : l.take 3 = [nth l 0, nth l 1, nth l 2] := by
  rw [show (3 : Nat) = 2 + 1 from rfl, take_snoc l 2 (by omega), take_two (by omega)]; rfl

theorem list2 {a b c d : Nat} (h1 : a = c) (h2 : b = d) : [a, b] = [c, d] := by rw [h1, h2]
theorem list3 {a b c d e f : Nat} (h1 : a = d) (h2 : b = e) (h3 : c = f) : [a, b, c] = [d, e, f] := by rw [h1, h2, h3]
/-- What the model reads. -/
theorem rdC_1 {l : List Nat} (h : 1 ≤ l.length) : rdC 1 l = if nth l 0 < 128 then (nth l 0, 1) else (0, 0) := by
  have hg : gss 1 l = (nth l 0, 1) := by simp [gss]
  split
  · rename_i hx
    rw [rdC_yes (by rw [hg]; simp) (by rw [hg, chr_iff]; simp only; omega) (by rw [hg]; simp only [hasC, if_true]; exact decide_eq_true (by omega)) (by rw [hg, tellL_1, take_one h]; simp), hg]
  · rename_i hx
    exact rdC_no (.inr (.inr (.inl (by rw [hg]; simp only [hasC, if_true]; exact decide_eq_false (by omega)))))
theorem rdC_2 {l : List Nat} (hB : IsB l) (h : 1 ≤ l.length) : rdC 2 l = (nth l 0, 1) := by
  have hg : gss 2 l = (nth l 0, 1) := by simp [gss]
  have hx := nth_lt hB 0
  rw [rdC_yes (by rw [hg]; simp) (by rw [hg, chr_iff]; simp only; omega) (by rw [hg, hasC_2]; exact decide_eq_true (by simp only; omega)) (by rw [hg, tellL_2, take_one h]; simp), hg]
theorem cyU_ok {b : Nat} (h : b < 256) : chr (cyU b : Int) = true ∧ cyr (cyU b : Int) = (b : Int) := by
  unfold cyU
  split
  · subst b; exact ⟨by decide, by decide⟩
  · split
    · subst b; exact ⟨by decide, by decide⟩
    · split
      · exact ⟨by rw [chr_iff]; omega, cyr_same (by omega)⟩
      · exact ⟨by rw [chr_iff]; omega, by rw [cyr_far (by omega)]; omega⟩
theorem rdC_3 {l : List Nat} (hB : IsB l) (h : 1 ≤ l.length) : rdC 3 l = (cyU (nth l 0), 1) := by
  have hg : gss 3 l = (cyU (nth l 0), 1) := by simp [gss]
  have hx := cyU_ok (nth_lt hB 0)
  rw [rdC_yes (by rw [hg]; simp) (by rw [hg]; exact hx.1) (by rw [hg, hasC_3]; exact decide_eq_true (by simp only [hx.2]; omega)) (by rw [hg, tellL_3, take_one h]; simp [hx.2]), hg]
theorem rdC_5 {l : List Nat} (hB : IsB l) : rdC 5 l = if 2 ≤ l.length ∧ chr ((nth l 0 * 256 + nth l 1 : Nat) : Int) = true then (nth l 0 * 256 + nth l 1, 2) else (0, 0) := by
  have hx := nth_lt hB 0
  have hy := nth_lt hB 1
  split
  · rename_i h
    have hg : gss 5 l = (nth l 0 * 256 + nth l 1, 2) := by simp [gss, h.1]
    rw [rdC_yes (by rw [hg]; simp) (by rw [hg]; exact h.2) (by rw [hg, hasC_5]; rfl) (by rw [hg, tellL_5, take_two h.1, Int.toNat_natCast]; simp only; exact list2 (by omega) (by omega)), hg]
  · rename_i h
    by_cases h2 : 2 ≤ l.length
    · have hg : gss 5 l = (nth l 0 * 256 + nth l 1, 2) := by simp [gss, h2]
      refine rdC_no (.inr (.inl ?_))
      rw [hg]
      cases hc : chr ((nth l 0 * 256 + nth l 1 : Nat) : Int)
      · rfl
      · exact absurd ⟨h2, hc⟩ h
    · have hg : gss 5 l = (0, 0) := by simp [gss, h2]
      exact rdC_no (.inl (by rw [hg]))
theorem rdC_4_one {l : List Nat} (h : 1 ≤ l.length) (hx : nth l 0 < 128) : rdC 4 l = (nth l 0, 1) := by
  have hg : gss 4 l = (nth l 0, 1) := by simp [gss, hx]
  rw [rdC_yes (by rw [hg]; simp) (by rw [hg, chr_iff]; simp only; omega) (by rw [hg, hasC_4]; rfl) (by rw [hg, tellL_4, take_one h, Int.toNat_natCast, u8L_one hx]), hg]
theorem rdC_4_two {l : List Nat} (h : 2 ≤ l.length) (hx : 194 ≤ nth l 0 ∧ nth l 0 < 224) (hy : 128 ≤ nth l 1 ∧ nth l 1 ≤ 191) : rdC 4 l = ((nth l 0 - 192) * 64 + (nth l 1 - 128), 2) := by
  have hg : gss 4 l = ((nth l 0 - 192) * 64 + (nth l 1 - 128), 2) := by
    have e : nth l 0 % 32 * 64 + nth l 1 % 64 = (nth l 0 - 192) * 64 + (nth l 1 - 128) := by omega
    simp [gss, show ¬ nth l 0 < 128 by omega, h, hx.2, e]
  rw [rdC_yes (by rw [hg]; simp) (by rw [hg, chr_iff]; simp only; omega) (by rw [hg, hasC_4]; rfl) (by rw [hg, tellL_4, take_two h, Int.toNat_natCast, u8L_two (by omega) (by omega)]; exact list2 (by omega) (by omega)), hg]
theorem rdC_4_three {l : List Nat} (h : 3 ≤ l.length) (hx : 224 ≤ nth l 0 ∧ nth l 0 < 240) (hy : 128 ≤ nth l 1 ∧ nth l 1 ≤ 191) (hz : 128 ≤ nth l 2 ∧ nth l 2 ≤ 191) (hc : 2048 ≤ (nth l 0 - 224) * 4096 + (nth l 1 - 128) * 64 + (nth l 2 - 128))
    (hch : chr (((nth l 0 - 224) * 4096 + (nth l 1 - 128) * 64 + (nth l 2 - 128) : Nat) : Int) = true) : rdC 4 l = ((nth l 0 - 224) * 4096 + (nth l 1 - 128) * 64 + (nth l 2 - 128), 3) := by
  have hg : gss 4 l = ((nth l 0 - 224) * 4096 + (nth l 1 - 128) * 64 + (nth l 2 - 128), 3) := by
    have e : nth l 0 % 16 * 4096 + nth l 1 % 64 * 64 + nth l 2 % 64 = (nth l 0 - 224) * 4096 + (nth l 1 - 128) * 64 + (nth l 2 - 128) := by omega
    simp [gss, show ¬ nth l 0 < 128 by omega, show ¬ nth l 0 < 224 by omega, h, e]
  rw [rdC_yes (by rw [hg]; simp) (by rw [hg]; exact hch) (by rw [hg, hasC_4]; rfl) (by rw [hg, tellL_4, take_three h, Int.toNat_natCast, u8L_three (by omega) (by omega)]; exact list3 (by omega) (by omega) (by omega)), hg]
theorem rdC_4_no {l : List Nat} (hB : IsB l) (h0 : 128 ≤ nth l 0) (h2 : ¬ (2 ≤ l.length ∧ 194 ≤ nth l 0 ∧ nth l 0 < 224 ∧ 128 ≤ nth l 1 ∧ nth l 1 ≤ 191))
    (h3 : ¬ (3 ≤ l.length ∧ 224 ≤ nth l 0 ∧ nth l 0 < 240 ∧ 128 ≤ nth l 1 ∧ nth l 1 ≤ 191 ∧ 128 ≤ nth l 2 ∧ nth l 2 ≤ 191 ∧ 2048 ≤ (nth l 0 - 224) * 4096 + (nth l 1 - 128) * 64 + (nth l 2 - 128) ∧ chr (((nth l 0 - 224) * 4096 + (nth l 1 - 128) * 64 + (nth l 2 - 128) : Nat) : Int) = true)) : rdC 4 l = (0, 0) := by
  have hx := nth_lt hB 0
  have hy := nth_lt hB 1
  have hz := nth_lt hB 2
  by_cases hn2 : 2 ≤ l.length ∧ nth l 0 < 224
  · have hg : gss 4 l = (nth l 0 % 32 * 64 + nth l 1 % 64, 2) := by simp [gss, show ¬ nth l 0 < 128 by omega, hn2]
    refine rdC_no (.inr (.inr (.inr ?_)))
    rw [hg, tellL_4, take_two hn2.1, Int.toNat_natCast]
    by_cases hs : nth l 0 % 32 * 64 + nth l 1 % 64 < 128
    · simp only; rw [u8L_one hs]; simp
    · simp only; rw [u8L_two hs (by omega)]
      intro he
      simp only [List.cons.injEq, and_true] at he
      omega
  · by_cases hn3 : 3 ≤ l.length
    · have hg : gss 4 l = (nth l 0 % 16 * 4096 + nth l 1 % 64 * 64 + nth l 2 % 64, 3) := by simp [gss, show ¬ nth l 0 < 128 by omega, hn2, hn3]
      cases hc : chr ((nth l 0 % 16 * 4096 + nth l 1 % 64 * 64 + nth l 2 % 64 : Nat) : Int) with
      | false => exact rdC_no (.inr (.inl (by rw [hg]; exact hc)))
      | true =>
        refine rdC_no (.inr (.inr (.inr ?_)))
        rw [hg, tellL_4, take_three hn3, Int.toNat_natCast]
        by_cases hs : nth l 0 % 16 * 4096 + nth l 1 % 64 * 64 + nth l 2 % 64 < 128
        · simp only; rw [u8L_one hs]; simp
        · by_cases ht : nth l 0 % 16 * 4096 + nth l 1 % 64 * 64 + nth l 2 % 64 < 2048
          · simp only; rw [u8L_two hs ht]; simp
          · simp only; rw [u8L_three hs ht]
            intro he
            simp only [List.cons.injEq, and_true] at he
            have e : nth l 0 % 16 * 4096 + nth l 1 % 64 * 64 + nth l 2 % 64 = (nth l 0 - 224) * 4096 + (nth l 1 - 128) * 64 + (nth l 2 - 128) := by omega
            rw [e] at hc
            exact h3 ⟨hn3, by omega, by omega, by omega, by omega, by omega, by omega, by omega, hc⟩
    · have hg : gss 4 l = (0, 0) := by simp [gss, show ¬ nth l 0 < 128 by omega, hn2, hn3]
      exact rdC_no (.inl (by rw [hg]))
end Go.Proofs.YtooifkdbpghcfaaGreatDoor
