/- readChar, at each charset: the character that some bytes begin with, as the plain function reads it; at least one byte. -/
import Derived.Test.YtooifkdbpghcfaaGreatDoorEncTToDec2
import Derived.Deep.RegionHeld3
namespace Go.Proofs.YtooifkdbpghcfaaGreatDoor
open Go.RowKit

/-- How a guess, or a reading, ends. -/
def TwoEnd (r : Nat × Nat) (w : World) (e : Ending) (w' : World) : Prop := e = .returned (.tuple #[.int .i64 (r.1 : Int), .int .i64 (r.2 : Int)]) ∧ Below w.heap.size w w'


theorem guess_1 (a : Option Addr) (n cap : Nat) (l : List Nat) (w : World) (hl : l.length = n) (hr : Rd w a l) (hB : IsB l) (hn : 1 ≤ n) :
    Calls Tryz.prog 223 #[.agg #[.int .i64 127], .slice a n cap] w fun e w' => TwoEnd (gss 1 l) w e w' := by
  have hg : gss 1 l = (nth l 0, 1) := by simp [gss]
  rw [hg]
  exact singleGuess _ a n cap l w hl hr hB hn

theorem guess_2 (a : Option Addr) (n cap : Nat) (l : List Nat) (w : World) (hl : l.length = n) (hr : Rd w a l) (hB : IsB l) (hn : 1 ≤ n) :
    Calls Tryz.prog 223 #[.agg #[.int .i64 255], .slice a n cap] w fun e w' => TwoEnd (gss 2 l) w e w' := by
  have hg : gss 2 l = (nth l 0, 1) := by simp [gss]
  rw [hg]
  exact singleGuess _ a n cap l w hl hr hB hn

theorem guess_3 (a : Option Addr) (n cap : Nat) (l : List Nat) (w : World) (hl : l.length = n) (hr : Rd w a l) (hB : IsB l) (hn : 1 ≤ n) :
    Calls Tryz.prog 226 #[.agg #[], .slice a n cap] w fun e w' => TwoEnd (gss 3 l) w e w' := by
  have hg : gss 3 l = (cyU (nth l 0), 1) := by simp [gss]
  rw [hg]
  by_cases h1 : nth l 0 = 253
  · have e : cyU (nth l 0) = 167 := by rw [h1]; rfl
    rw [e]
    exact cyrGuess_253 a n cap l w hl hr hB hn h1
  · by_cases h2 : nth l 0 = 240
    · have e : cyU (nth l 0) = 8470 := by rw [h2]; rfl
      rw [e]
      exact cyrGuess_240 a n cap l w hl hr hB hn h2
    · by_cases h3 : nth l 0 ≤ 160
      · have e : cyU (nth l 0) = nth l 0 := by unfold cyU; rw [if_neg h1, if_neg h2, if_pos (.inl h3)]
        rw [e]
        exact cyrGuess_same a n cap l w hl hr hB hn h3
      · by_cases h4 : nth l 0 = 173
        · have e : cyU (nth l 0) = 173 := by rw [h4]; rfl
          rw [e]
          exact cyrGuess_173 a n cap l w hl hr hB hn h4
        · have e : cyU (nth l 0) = nth l 0 + 864 := by unfold cyU; rw [if_neg h1, if_neg h2, if_neg (by omega)]
          rw [e]
          exact cyrGuess_far a n cap l w hl hr hB hn ⟨by omega, h4, h2, h1⟩

theorem guess_4 (a : Option Addr) (n cap : Nat) (l : List Nat) (w : World) (hl : l.length = n) (hr : Rd w a l) (hB : IsB l) (hn : 1 ≤ n) :
    Calls Tryz.prog 229 #[.agg #[], .slice a n cap] w fun e w' => TwoEnd (gss 4 l) w e w' := by
  by_cases h1 : nth l 0 < 128
  · have hg : gss 4 l = (nth l 0, 1) := by simp [gss, h1]
    rw [hg]
    exact utf8Guess_1 a n cap l w hl hr hB hn h1
  · by_cases h2 : 2 ≤ n ∧ nth l 0 < 224
    · have hg : gss 4 l = (nth l 0 % 32 * 64 + nth l 1 % 64, 2) := by simp [gss, h1, hl, h2]
      rw [hg]
      exact utf8Guess_2 a n cap l w hl hr hB hn h2.1 (by omega) h2.2
    · by_cases h3 : 3 ≤ n
      · have hg : gss 4 l = (nth l 0 % 16 * 4096 + nth l 1 % 64 * 64 + nth l 2 % 64, 3) := by simp [gss, h1, hl, h2, h3]
        rw [hg]
        exact utf8Guess_3 a n cap l w hl hr hB hn h3 (by omega)
      · have hg : gss 4 l = (0, 0) := by simp [gss, h1, hl, h2, h3]
        rw [hg]
        exact utf8Guess_no a n cap l w hl hr hB hn (by omega) (by omega)

theorem guess_5 (a : Option Addr) (n cap : Nat) (l : List Nat) (w : World) (hl : l.length = n) (hr : Rd w a l) (hB : IsB l) (hn : 1 ≤ n) :
    Calls Tryz.prog 232 #[.agg #[], .slice a n cap] w fun e w' => TwoEnd (gss 5 l) w e w' := by
  by_cases h2 : 2 ≤ n
  · have hg : gss 5 l = (nth l 0 * 256 + nth l 1, 2) := by simp [gss, hl, h2]
    rw [hg]
    exact utf16Guess a n cap l w hl hr hB hn h2
  · have hg : gss 5 l = (0, 0) := by simp [gss, hl, h2]
    rw [hg]
    have h1 : n = 1 := by omega
    subst h1
    obtain ⟨b, off, rfl, hlt, hc⟩ := hr.at_ (by omega)
    have hb0 : Below w.heap.size w (w.alloc (.cells #[] 110)) := (Below.refl _ _).alloc (Nat.le_refl _) _
    clear hc hr
    go_enter Tryz.func232, Tryz.ntmps232
    go_wp2
    go_ret2
    exact ⟨rfl, hb0⟩

theorem rd_takeD {w : World} {a : Option Addr} {l : List Nat} (h : Rd w a l) (k : Nat) : Rd w a (l.take k) := by
  rcases h with h | ⟨g, o, e, hg, hc⟩
  · exact .inl (by rw [h]; simp)
  · refine .inr ⟨g, o, e, hg, fun i hi => ?_⟩
    rw [List.length_take] at hi
    rw [hc i (by omega), nth_get (by omega), nth_get (by rw [List.length_take]; omega), List.getElem_take]
theorem tellL_isB {cs c : Int} (hcs : 1 ≤ cs ∧ cs ≤ 5) (h2 : chr c = true) (h3 : hasC cs c = true) : IsB (tellL cs c) := by
  have hc := chr_iff.1 h2
  intro x hx
  unfold tellL at hx
  split at hx
  · rename_i h
    subst h
    rw [hasC_3] at h3
    have h4 := cyr_pos.1 (decide_eq_true_iff.1 (show decide (0 ≤ cyr c) = true from h3))
    have h5 : cyr c ≤ 255 := by
      unfold cyr
      split
      · omega
      · split
        · omega
        · split
          · omega
          · split <;> omega
    simp at hx
    omega
  · split at hx
    · unfold u8L at hx
      split at hx
      · simp at hx; omega
      · split at hx
        · simp at hx; omega
        · simp at hx; omega
    · split at hx
      · simp at hx; omega
      · simp at hx
        rename_i hn3 hn4 hn5
        unfold hasC at h3
        split at h3
        · simp at h3; omega
        · split at h3
          · simp at h3; omega
          · omega
theorem tellG_1 (g : Nat) (w : World) (_h2 : chr (g : Int) = true) (h3 : hasC 1 (g : Int) = true) :
    Calls Tryz.prog 225 #[.agg #[.int .i64 127], .slice none 0 0, .int .i64 (g : Int)] w fun e w' => Laid w.heap.size (tellL 1 (g : Int)) w e w' := by
  rw [hasC_1] at h3
  rw [tellL_1, Int.toNat_natCast]
  exact (singleTell_any 127 g _ (.slice none 0 0) [] _ (Own.nil _ _) (Nat.le_refl _) (by simp) (by have := decide_eq_true_iff.1 (show decide ((g : Int) ≤ 127) = true from h3); omega))

set_option maxHeartbeats 1600000 in
set_option maxRecDepth 100000 in
theorem readChar_1 (a : Option Addr) (n cap : Nat) (l : List Nat) (w : World) (hl : l.length = n) (hr : Rd w a l) (hB : IsB l) (hn : 1 ≤ n) (hcap : n ≤ cap) :
    Calls Tryz.prog 52 #[.iface 106 (.agg #[.int .i64 127]), .slice a n cap] w fun e w' => TwoEnd (rdC 1 l) w e w' := by
  have HG : Hid (Calls Tryz.prog 223 #[.agg #[.int .i64 127], .slice a n cap] w fun e w' => TwoEnd (gss 1 l) w e w') := guess_1 a n cap l w hl hr hB hn
  have HN : Hid (_) := @rdC_no 1 l
  have HY : Hid (_) := @rdC_yes 1 l
  have hle := gss_le 1 l (by omega)
  rw [hl] at hle
  generalize gss 1 l = r at *
  obtain ⟨g, s⟩ := r
  simp only at HN HY hle
  by_cases h1 : s = 0
  · subst h1
    have HE := HN.out (.inl rfl)
    clear HN HY
    rw [HE]
    clear HE
    go_enter Tryz.func52, Tryz.ntmps52
    go_wp2_with (first | (go_at_call 223; refine Calls.mono HG.out ?_; rintro e w1 ⟨rfl, hb1⟩))
    go_ret2
    exact ⟨rfl, hb1⟩
  · have h1' : ((s : Int) == 0) = false := by simp; omega
    cases h2 : chr (g : Int) with
    | false =>
      have HE := HN.out (.inr (.inl h2))
      clear HN HY
      rw [HE]
      clear HE
      go_enter Tryz.func52, Tryz.ntmps52
      go_wp2_with (first | (go_at_call 223; refine Calls.mono HG.out ?_; rintro e w1 ⟨rfl, hb1⟩) | (go_at_call 76; refine (isCharacter_any _ _).mono ?_; rintro e w' ⟨rfl, rfl⟩; rw [h2]))
      go_ret2
      exact ⟨rfl, hb1⟩
    | true =>
      cases h3 : hasC 1 (g : Int) with
      | false =>
        have HE := HN.out (.inr (.inr (.inl h3)))
        clear HN HY
        rw [HE]
        clear HE
        rw [hasC_1] at h3
        go_enter Tryz.func52, Tryz.ntmps52
        go_wp2_with (first | (go_at_call 223; refine Calls.mono HG.out ?_; rintro e w1 ⟨rfl, hb1⟩) | (go_at_call 76; refine (isCharacter_any _ _).mono ?_; rintro e w' ⟨rfl, rfl⟩; rw [h2]) | (go_at_call 224; refine (singleHas_le 127 _ _).mono ?_; rintro e w2 ⟨rfl, hb2⟩; rw [h3]))
        go_ret2
        exact ⟨rfl, hb1.trans (hb2.mono hb1.size)⟩
      | true =>
        have HT : Hid (∀ w, Calls Tryz.prog 225 #[.agg #[.int .i64 127], .slice none 0 0, .int .i64 (g : Int)] w fun e w' => Laid w.heap.size (tellL 1 (g : Int)) w e w') := fun w => tellG_1 g w h2 h3
        have htB : IsB (tellL 1 (g : Int)) := tellL_isB (by omega) h2 h3
        have h3' := h3
        rw [hasC_1] at h3'
        go_enter Tryz.func52, Tryz.ntmps52
        go_wp2_with (first | (go_at_call 223; refine Calls.mono HG.out ?_; rintro e w1 ⟨rfl, hb1⟩) | (go_at_call 76; refine (isCharacter_any _ _).mono ?_; rintro e w' ⟨rfl, rfl⟩; rw [h2]) | (go_at_call 224; refine (singleHas_le 127 _ _).mono ?_; rintro e w2 ⟨rfl, hb2⟩; rw [h3']))
        have hb12 : Below w.heap.size w w2 := hb1.trans (hb2.mono hb1.size)
        have hr2 : Rd w2 a l := (hr.below hb1).below hb2
        have hsc : s ≤ cap := by omega
        have hlt : (l.take s).length = s := by rw [List.length_take]; omega
        have hBt := isB_take hB s
        have hlg : ∀ w', Below w2.heap.size w2 w' → Rd w' a (l.take s) := fun w' hb => rd_takeD (hr2.below hb) s
        clear hb1 hb2 HG hr hr2
        cases h4 : decide (tellL 1 (g : Int) = l.take s) with
        | true =>
          have HE : Hid (rdC 1 l = (g, s)) := HY.out h1 h2 h3 (of_decide_eq_true h4)
          clear HN HY
          generalize tellL 1 (g : Int) = tl at *
          first
            | (
              go_region_held3 (fun _ => True) (first | go_keep | trivial)
                (first
                  | (go_at_call 225; refine (HT.out _).mono ?_; rintro e w3 ⟨v3, rfl, ho3, hb3⟩; obtain ⟨a3, c3, rfl, -, -⟩ := ho3.form)
                  | (go_at_call 77; refine (bytesEqual_any a3 a tl.length s c3 cap tl (l.take s) _ rfl hlt (by exact (Own.rd ho3).2) (by exact hlg _ (by exact (Below.refl _ _).drew.trans hb3)) htB hBt).mono ?_; rintro e w4 ⟨rfl, rfl⟩; rw [h4])))
            | fail
          have hbE : Below w.heap.size w w3 := hb12.trans ((Below.refl _ _).drew.trans (hb3.mono (by exact hb12.size)))
          clear hb3 hb12 ho3 hlg HT
          go_wp2
          go_ret2
          rw [HE.out]
          exact ⟨rfl, hbE⟩
        | false =>
          have HE : Hid (rdC 1 l = (0, 0)) := HN.out (.inr (.inr (.inr (of_decide_eq_false h4))))
          clear HN HY
          generalize tellL 1 (g : Int) = tl at *
          first
            | (
              go_region_held3 (fun _ => True) (first | go_keep | trivial)
                (first
                  | (go_at_call 225; refine (HT.out _).mono ?_; rintro e w3 ⟨v3, rfl, ho3, hb3⟩; obtain ⟨a3, c3, rfl, -, -⟩ := ho3.form)
                  | (go_at_call 77; refine (bytesEqual_any a3 a tl.length s c3 cap tl (l.take s) _ rfl hlt (by exact (Own.rd ho3).2) (by exact hlg _ (by exact (Below.refl _ _).drew.trans hb3)) htB hBt).mono ?_; rintro e w4 ⟨rfl, rfl⟩; rw [h4])))
            | fail
          have hbE : Below w.heap.size w w3 := hb12.trans ((Below.refl _ _).drew.trans (hb3.mono (by exact hb12.size)))
          clear hb3 hb12 ho3 hlg HT
          go_wp2
          go_ret2
          rw [HE.out]
          exact ⟨rfl, hbE⟩

theorem tellG_2 (g : Nat) (w : World) (_h2 : chr (g : Int) = true) (h3 : hasC 2 (g : Int) = true) :
    Calls Tryz.prog 225 #[.agg #[.int .i64 255], .slice none 0 0, .int .i64 (g : Int)] w fun e w' => Laid w.heap.size (tellL 2 (g : Int)) w e w' := by
  rw [hasC_2] at h3
  rw [tellL_2, Int.toNat_natCast]
  exact (singleTell_any 255 g _ (.slice none 0 0) [] _ (Own.nil _ _) (Nat.le_refl _) (by simp) (by have := decide_eq_true_iff.1 (show decide ((g : Int) ≤ 255) = true from h3); omega))

set_option maxHeartbeats 1600000 in
set_option maxRecDepth 100000 in
theorem readChar_2 (a : Option Addr) (n cap : Nat) (l : List Nat) (w : World) (hl : l.length = n) (hr : Rd w a l) (hB : IsB l) (hn : 1 ≤ n) (hcap : n ≤ cap) :
    Calls Tryz.prog 52 #[.iface 106 (.agg #[.int .i64 255]), .slice a n cap] w fun e w' => TwoEnd (rdC 2 l) w e w' := by
  have HG : Hid (Calls Tryz.prog 223 #[.agg #[.int .i64 255], .slice a n cap] w fun e w' => TwoEnd (gss 2 l) w e w') := guess_2 a n cap l w hl hr hB hn
  have HN : Hid (_) := @rdC_no 2 l
  have HY : Hid (_) := @rdC_yes 2 l
  have hle := gss_le 2 l (by omega)
  rw [hl] at hle
  generalize gss 2 l = r at *
  obtain ⟨g, s⟩ := r
  simp only at HN HY hle
  by_cases h1 : s = 0
  · subst h1
    have HE := HN.out (.inl rfl)
    clear HN HY
    rw [HE]
    clear HE
    go_enter Tryz.func52, Tryz.ntmps52
    go_wp2_with (first | (go_at_call 223; refine Calls.mono HG.out ?_; rintro e w1 ⟨rfl, hb1⟩))
    go_ret2
    exact ⟨rfl, hb1⟩
  · have h1' : ((s : Int) == 0) = false := by simp; omega
    cases h2 : chr (g : Int) with
    | false =>
      have HE := HN.out (.inr (.inl h2))
      clear HN HY
      rw [HE]
      clear HE
      go_enter Tryz.func52, Tryz.ntmps52
      go_wp2_with (first | (go_at_call 223; refine Calls.mono HG.out ?_; rintro e w1 ⟨rfl, hb1⟩) | (go_at_call 76; refine (isCharacter_any _ _).mono ?_; rintro e w' ⟨rfl, rfl⟩; rw [h2]))
      go_ret2
      exact ⟨rfl, hb1⟩
    | true =>
      cases h3 : hasC 2 (g : Int) with
      | false =>
        have HE := HN.out (.inr (.inr (.inl h3)))
        clear HN HY
        rw [HE]
        clear HE
        rw [hasC_2] at h3
        go_enter Tryz.func52, Tryz.ntmps52
        go_wp2_with (first | (go_at_call 223; refine Calls.mono HG.out ?_; rintro e w1 ⟨rfl, hb1⟩) | (go_at_call 76; refine (isCharacter_any _ _).mono ?_; rintro e w' ⟨rfl, rfl⟩; rw [h2]) | (go_at_call 224; refine (singleHas_le 255 _ _).mono ?_; rintro e w2 ⟨rfl, hb2⟩; rw [h3]))
        go_ret2
        exact ⟨rfl, hb1.trans (hb2.mono hb1.size)⟩
      | true =>
        have HT : Hid (∀ w, Calls Tryz.prog 225 #[.agg #[.int .i64 255], .slice none 0 0, .int .i64 (g : Int)] w fun e w' => Laid w.heap.size (tellL 2 (g : Int)) w e w') := fun w => tellG_2 g w h2 h3
        have htB : IsB (tellL 2 (g : Int)) := tellL_isB (by omega) h2 h3
        have h3' := h3
        rw [hasC_2] at h3'
        go_enter Tryz.func52, Tryz.ntmps52
        go_wp2_with (first | (go_at_call 223; refine Calls.mono HG.out ?_; rintro e w1 ⟨rfl, hb1⟩) | (go_at_call 76; refine (isCharacter_any _ _).mono ?_; rintro e w' ⟨rfl, rfl⟩; rw [h2]) | (go_at_call 224; refine (singleHas_le 255 _ _).mono ?_; rintro e w2 ⟨rfl, hb2⟩; rw [h3']))
        have hb12 : Below w.heap.size w w2 := hb1.trans (hb2.mono hb1.size)
        have hr2 : Rd w2 a l := (hr.below hb1).below hb2
        have hsc : s ≤ cap := by omega
        have hlt : (l.take s).length = s := by rw [List.length_take]; omega
        have hBt := isB_take hB s
        have hlg : ∀ w', Below w2.heap.size w2 w' → Rd w' a (l.take s) := fun w' hb => rd_takeD (hr2.below hb) s
        clear hb1 hb2 HG hr hr2
        cases h4 : decide (tellL 2 (g : Int) = l.take s) with
        | true =>
          have HE : Hid (rdC 2 l = (g, s)) := HY.out h1 h2 h3 (of_decide_eq_true h4)
          clear HN HY
          generalize tellL 2 (g : Int) = tl at *
          first
            | (
              go_region_held3 (fun _ => True) (first | go_keep | trivial)
                (first
                  | (go_at_call 225; refine (HT.out _).mono ?_; rintro e w3 ⟨v3, rfl, ho3, hb3⟩; obtain ⟨a3, c3, rfl, -, -⟩ := ho3.form)
                  | (go_at_call 77; refine (bytesEqual_any a3 a tl.length s c3 cap tl (l.take s) _ rfl hlt (by exact (Own.rd ho3).2) (by exact hlg _ (by exact (Below.refl _ _).drew.trans hb3)) htB hBt).mono ?_; rintro e w4 ⟨rfl, rfl⟩; rw [h4])))
            | fail
          have hbE : Below w.heap.size w w3 := hb12.trans ((Below.refl _ _).drew.trans (hb3.mono (by exact hb12.size)))
          clear hb3 hb12 ho3 hlg HT
          go_wp2
          go_ret2
          rw [HE.out]
          exact ⟨rfl, hbE⟩
        | false =>
          have HE : Hid (rdC 2 l = (0, 0)) := HN.out (.inr (.inr (.inr (of_decide_eq_false h4))))
          clear HN HY
          generalize tellL 2 (g : Int) = tl at *
          first
            | (
              go_region_held3 (fun _ => True) (first | go_keep | trivial)
                (first
                  | (go_at_call 225; refine (HT.out _).mono ?_; rintro e w3 ⟨v3, rfl, ho3, hb3⟩; obtain ⟨a3, c3, rfl, -, -⟩ := ho3.form)
                  | (go_at_call 77; refine (bytesEqual_any a3 a tl.length s c3 cap tl (l.take s) _ rfl hlt (by exact (Own.rd ho3).2) (by exact hlg _ (by exact (Below.refl _ _).drew.trans hb3)) htB hBt).mono ?_; rintro e w4 ⟨rfl, rfl⟩; rw [h4])))
            | fail
          have hbE : Below w.heap.size w w3 := hb12.trans ((Below.refl _ _).drew.trans (hb3.mono (by exact hb12.size)))
          clear hb3 hb12 ho3 hlg HT
          go_wp2
          go_ret2
          rw [HE.out]
          exact ⟨rfl, hbE⟩

theorem tellG_3 (g : Nat) (w : World) (_h2 : chr (g : Int) = true) (h3 : hasC 3 (g : Int) = true) :
    Calls Tryz.prog 228 #[.agg #[], .slice none 0 0, .int .i64 (g : Int)] w fun e w' => Laid w.heap.size (tellL 3 (g : Int)) w e w' := by
  rw [hasC_3] at h3
  rw [tellL_3]
  exact (cyrTell_any g _ (.slice none 0 0) [] _ (Own.nil _ _) (Nat.le_refl _) (by simp) (decide_eq_true_iff.1 (show decide (0 ≤ cyr (g : Int)) = true from h3)))

set_option maxHeartbeats 1600000 in
set_option maxRecDepth 100000 in
theorem readChar_3 (a : Option Addr) (n cap : Nat) (l : List Nat) (w : World) (hl : l.length = n) (hr : Rd w a l) (hB : IsB l) (hn : 1 ≤ n) (hcap : n ≤ cap) :
    Calls Tryz.prog 52 #[.iface 108 (.agg #[]), .slice a n cap] w fun e w' => TwoEnd (rdC 3 l) w e w' := by
  have HG : Hid (Calls Tryz.prog 226 #[.agg #[], .slice a n cap] w fun e w' => TwoEnd (gss 3 l) w e w') := guess_3 a n cap l w hl hr hB hn
  have HN : Hid (_) := @rdC_no 3 l
  have HY : Hid (_) := @rdC_yes 3 l
  have hle := gss_le 3 l (by omega)
  rw [hl] at hle
  generalize gss 3 l = r at *
  obtain ⟨g, s⟩ := r
  simp only at HN HY hle
  by_cases h1 : s = 0
  · subst h1
    have HE := HN.out (.inl rfl)
    clear HN HY
    rw [HE]
    clear HE
    go_enter Tryz.func52, Tryz.ntmps52
    go_wp2_with (first | (go_at_call 226; refine Calls.mono HG.out ?_; rintro e w1 ⟨rfl, hb1⟩))
    go_ret2
    exact ⟨rfl, hb1⟩
  · have h1' : ((s : Int) == 0) = false := by simp; omega
    cases h2 : chr (g : Int) with
    | false =>
      have HE := HN.out (.inr (.inl h2))
      clear HN HY
      rw [HE]
      clear HE
      go_enter Tryz.func52, Tryz.ntmps52
      go_wp2_with (first | (go_at_call 226; refine Calls.mono HG.out ?_; rintro e w1 ⟨rfl, hb1⟩) | (go_at_call 76; refine (isCharacter_any _ _).mono ?_; rintro e w' ⟨rfl, rfl⟩; rw [h2]))
      go_ret2
      exact ⟨rfl, hb1⟩
    | true =>
      cases h3 : hasC 3 (g : Int) with
      | false =>
        have HE := HN.out (.inr (.inr (.inl h3)))
        clear HN HY
        rw [HE]
        clear HE
        rw [hasC_3] at h3
        go_enter Tryz.func52, Tryz.ntmps52
        go_wp2_with (first | (go_at_call 226; refine Calls.mono HG.out ?_; rintro e w1 ⟨rfl, hb1⟩) | (go_at_call 76; refine (isCharacter_any _ _).mono ?_; rintro e w' ⟨rfl, rfl⟩; rw [h2]) | (go_at_call 227; refine (cyrHas_cy _ _ (by omega)).mono ?_; rintro e w2 ⟨rfl, hb2⟩; rw [h3]))
        go_ret2
        exact ⟨rfl, hb1.trans (hb2.mono hb1.size)⟩
      | true =>
        have HT : Hid (∀ w, Calls Tryz.prog 228 #[.agg #[], .slice none 0 0, .int .i64 (g : Int)] w fun e w' => Laid w.heap.size (tellL 3 (g : Int)) w e w') := fun w => tellG_3 g w h2 h3
        have htB : IsB (tellL 3 (g : Int)) := tellL_isB (by omega) h2 h3
        have h3' := h3
        rw [hasC_3] at h3'
        go_enter Tryz.func52, Tryz.ntmps52
        go_wp2_with (first | (go_at_call 226; refine Calls.mono HG.out ?_; rintro e w1 ⟨rfl, hb1⟩) | (go_at_call 76; refine (isCharacter_any _ _).mono ?_; rintro e w' ⟨rfl, rfl⟩; rw [h2]) | (go_at_call 227; refine (cyrHas_cy _ _ (by omega)).mono ?_; rintro e w2 ⟨rfl, hb2⟩; rw [h3']))
        have hb12 : Below w.heap.size w w2 := hb1.trans (hb2.mono hb1.size)
        have hr2 : Rd w2 a l := (hr.below hb1).below hb2
        have hsc : s ≤ cap := by omega
        have hlt : (l.take s).length = s := by rw [List.length_take]; omega
        have hBt := isB_take hB s
        have hlg : ∀ w', Below w2.heap.size w2 w' → Rd w' a (l.take s) := fun w' hb => rd_takeD (hr2.below hb) s
        clear hb1 hb2 HG hr hr2
        cases h4 : decide (tellL 3 (g : Int) = l.take s) with
        | true =>
          have HE : Hid (rdC 3 l = (g, s)) := HY.out h1 h2 h3 (of_decide_eq_true h4)
          clear HN HY
          generalize tellL 3 (g : Int) = tl at *
          first
            | (
              go_region_held3 (fun _ => True) (first | go_keep | trivial)
                (first
                  | (go_at_call 228; refine (HT.out _).mono ?_; rintro e w3 ⟨v3, rfl, ho3, hb3⟩; obtain ⟨a3, c3, rfl, -, -⟩ := ho3.form)
                  | (go_at_call 77; refine (bytesEqual_any a3 a tl.length s c3 cap tl (l.take s) _ rfl hlt (by exact (Own.rd ho3).2) (by exact hlg _ (by exact (Below.refl _ _).drew.trans hb3)) htB hBt).mono ?_; rintro e w4 ⟨rfl, rfl⟩; rw [h4])))
            | fail
          have hbE : Below w.heap.size w w3 := hb12.trans ((Below.refl _ _).drew.trans (hb3.mono (by exact hb12.size)))
          clear hb3 hb12 ho3 hlg HT
          go_wp2
          go_ret2
          rw [HE.out]
          exact ⟨rfl, hbE⟩
        | false =>
          have HE : Hid (rdC 3 l = (0, 0)) := HN.out (.inr (.inr (.inr (of_decide_eq_false h4))))
          clear HN HY
          generalize tellL 3 (g : Int) = tl at *
          first
            | (
              go_region_held3 (fun _ => True) (first | go_keep | trivial)
                (first
                  | (go_at_call 228; refine (HT.out _).mono ?_; rintro e w3 ⟨v3, rfl, ho3, hb3⟩; obtain ⟨a3, c3, rfl, -, -⟩ := ho3.form)
                  | (go_at_call 77; refine (bytesEqual_any a3 a tl.length s c3 cap tl (l.take s) _ rfl hlt (by exact (Own.rd ho3).2) (by exact hlg _ (by exact (Below.refl _ _).drew.trans hb3)) htB hBt).mono ?_; rintro e w4 ⟨rfl, rfl⟩; rw [h4])))
            | fail
          have hbE : Below w.heap.size w w3 := hb12.trans ((Below.refl _ _).drew.trans (hb3.mono (by exact hb12.size)))
          clear hb3 hb12 ho3 hlg HT
          go_wp2
          go_ret2
          rw [HE.out]
          exact ⟨rfl, hbE⟩

theorem tellG_4 (g : Nat) (w : World) (h2 : chr (g : Int) = true) (_h3 : hasC 4 (g : Int) = true) :
    Calls Tryz.prog 231 #[.agg #[], .slice none 0 0, .int .i64 (g : Int)] w fun e w' => Laid w.heap.size (tellL 4 (g : Int)) w e w' := by
  rw [tellL_4, Int.toNat_natCast]
  exact (utf8Tell_any g _ (.slice none 0 0) [] _ (Own.nil _ _) (Nat.le_refl _) (by simp) (by have := chr_iff.1 h2; omega))

set_option maxHeartbeats 1600000 in
set_option maxRecDepth 100000 in
theorem readChar_4 (a : Option Addr) (n cap : Nat) (l : List Nat) (w : World) (hl : l.length = n) (hr : Rd w a l) (hB : IsB l) (hn : 1 ≤ n) (hcap : n ≤ cap) :
    Calls Tryz.prog 52 #[.iface 109 (.agg #[]), .slice a n cap] w fun e w' => TwoEnd (rdC 4 l) w e w' := by
  have HG : Hid (Calls Tryz.prog 229 #[.agg #[], .slice a n cap] w fun e w' => TwoEnd (gss 4 l) w e w') := guess_4 a n cap l w hl hr hB hn
  have HN : Hid (_) := @rdC_no 4 l
  have HY : Hid (_) := @rdC_yes 4 l
  have hle := gss_le 4 l (by omega)
  rw [hl] at hle
  generalize gss 4 l = r at *
  obtain ⟨g, s⟩ := r
  simp only at HN HY hle
  by_cases h1 : s = 0
  · subst h1
    have HE := HN.out (.inl rfl)
    clear HN HY
    rw [HE]
    clear HE
    go_enter Tryz.func52, Tryz.ntmps52
    go_wp2_with (first | (go_at_call 229; refine Calls.mono HG.out ?_; rintro e w1 ⟨rfl, hb1⟩))
    go_ret2
    exact ⟨rfl, hb1⟩
  · have h1' : ((s : Int) == 0) = false := by simp; omega
    cases h2 : chr (g : Int) with
    | false =>
      have HE := HN.out (.inr (.inl h2))
      clear HN HY
      rw [HE]
      clear HE
      go_enter Tryz.func52, Tryz.ntmps52
      go_wp2_with (first | (go_at_call 229; refine Calls.mono HG.out ?_; rintro e w1 ⟨rfl, hb1⟩) | (go_at_call 76; refine (isCharacter_any _ _).mono ?_; rintro e w' ⟨rfl, rfl⟩; rw [h2]))
      go_ret2
      exact ⟨rfl, hb1⟩
    | true =>
      cases h3 : hasC 4 (g : Int) with
      | false =>
        have HE := HN.out (.inr (.inr (.inl h3)))
        clear HN HY
        rw [HE]
        clear HE
        rw [hasC_4] at h3
        go_enter Tryz.func52, Tryz.ntmps52
        go_wp2_with (first | (go_at_call 229; refine Calls.mono HG.out ?_; rintro e w1 ⟨rfl, hb1⟩) | (go_at_call 76; refine (isCharacter_any _ _).mono ?_; rintro e w' ⟨rfl, rfl⟩; rw [h2]) | (go_at_call 230; refine (utf8Has_b _ _).mono ?_; rintro e w2 ⟨rfl, hb2⟩; rw [h3]))
        go_ret2
        exact ⟨rfl, hb1.trans (hb2.mono hb1.size)⟩
      | true =>
        have HT : Hid (∀ w, Calls Tryz.prog 231 #[.agg #[], .slice none 0 0, .int .i64 (g : Int)] w fun e w' => Laid w.heap.size (tellL 4 (g : Int)) w e w') := fun w => tellG_4 g w h2 h3
        have htB : IsB (tellL 4 (g : Int)) := tellL_isB (by omega) h2 h3
        have h3' := h3
        rw [hasC_4] at h3'
        go_enter Tryz.func52, Tryz.ntmps52
        go_wp2_with (first | (go_at_call 229; refine Calls.mono HG.out ?_; rintro e w1 ⟨rfl, hb1⟩) | (go_at_call 76; refine (isCharacter_any _ _).mono ?_; rintro e w' ⟨rfl, rfl⟩; rw [h2]) | (go_at_call 230; refine (utf8Has_b _ _).mono ?_; rintro e w2 ⟨rfl, hb2⟩; rw [h3']))
        have hb12 : Below w.heap.size w w2 := hb1.trans (hb2.mono hb1.size)
        have hr2 : Rd w2 a l := (hr.below hb1).below hb2
        have hsc : s ≤ cap := by omega
        have hlt : (l.take s).length = s := by rw [List.length_take]; omega
        have hBt := isB_take hB s
        have hlg : ∀ w', Below w2.heap.size w2 w' → Rd w' a (l.take s) := fun w' hb => rd_takeD (hr2.below hb) s
        clear hb1 hb2 HG hr hr2
        cases h4 : decide (tellL 4 (g : Int) = l.take s) with
        | true =>
          have HE : Hid (rdC 4 l = (g, s)) := HY.out h1 h2 h3 (of_decide_eq_true h4)
          clear HN HY
          generalize tellL 4 (g : Int) = tl at *
          first
            | (
              go_region_held3 (fun _ => True) (first | go_keep | trivial)
                (first
                  | (go_at_call 231; refine (HT.out _).mono ?_; rintro e w3 ⟨v3, rfl, ho3, hb3⟩; obtain ⟨a3, c3, rfl, -, -⟩ := ho3.form)
                  | (go_at_call 77; refine (bytesEqual_any a3 a tl.length s c3 cap tl (l.take s) _ rfl hlt (by exact (Own.rd ho3).2) (by exact hlg _ (by exact (Below.refl _ _).drew.trans hb3)) htB hBt).mono ?_; rintro e w4 ⟨rfl, rfl⟩; rw [h4])))
            | fail
          have hbE : Below w.heap.size w w3 := hb12.trans ((Below.refl _ _).drew.trans (hb3.mono (by exact hb12.size)))
          clear hb3 hb12 ho3 hlg HT
          go_wp2
          go_ret2
          rw [HE.out]
          exact ⟨rfl, hbE⟩
        | false =>
          have HE : Hid (rdC 4 l = (0, 0)) := HN.out (.inr (.inr (.inr (of_decide_eq_false h4))))
          clear HN HY
          generalize tellL 4 (g : Int) = tl at *
          first
            | (
              go_region_held3 (fun _ => True) (first | go_keep | trivial)
                (first
                  | (go_at_call 231; refine (HT.out _).mono ?_; rintro e w3 ⟨v3, rfl, ho3, hb3⟩; obtain ⟨a3, c3, rfl, -, -⟩ := ho3.form)
                  | (go_at_call 77; refine (bytesEqual_any a3 a tl.length s c3 cap tl (l.take s) _ rfl hlt (by exact (Own.rd ho3).2) (by exact hlg _ (by exact (Below.refl _ _).drew.trans hb3)) htB hBt).mono ?_; rintro e w4 ⟨rfl, rfl⟩; rw [h4])))
            | fail
          have hbE : Below w.heap.size w w3 := hb12.trans ((Below.refl _ _).drew.trans (hb3.mono (by exact hb12.size)))
          clear hb3 hb12 ho3 hlg HT
          go_wp2
          go_ret2
          rw [HE.out]
          exact ⟨rfl, hbE⟩

theorem tellG_5 (g : Nat) (w : World) (h2 : chr (g : Int) = true) (_h3 : hasC 5 (g : Int) = true) :
    Calls Tryz.prog 234 #[.agg #[], .slice none 0 0, .int .i64 (g : Int)] w fun e w' => Laid w.heap.size (tellL 5 (g : Int)) w e w' := by
  rw [tellL_5, Int.toNat_natCast]
  exact (utf16Tell_any g _ (.slice none 0 0) [] _ (Own.nil _ _) (Nat.le_refl _) (by simp) (by have := chr_iff.1 h2; omega))

set_option maxHeartbeats 1600000 in
set_option maxRecDepth 100000 in
theorem readChar_5 (a : Option Addr) (n cap : Nat) (l : List Nat) (w : World) (hl : l.length = n) (hr : Rd w a l) (hB : IsB l) (hn : 1 ≤ n) (hcap : n ≤ cap) :
    Calls Tryz.prog 52 #[.iface 110 (.agg #[]), .slice a n cap] w fun e w' => TwoEnd (rdC 5 l) w e w' := by
  have HG : Hid (Calls Tryz.prog 232 #[.agg #[], .slice a n cap] w fun e w' => TwoEnd (gss 5 l) w e w') := guess_5 a n cap l w hl hr hB hn
  have HN : Hid (_) := @rdC_no 5 l
  have HY : Hid (_) := @rdC_yes 5 l
  have hle := gss_le 5 l (by omega)
  rw [hl] at hle
  generalize gss 5 l = r at *
  obtain ⟨g, s⟩ := r
  simp only at HN HY hle
  by_cases h1 : s = 0
  · subst h1
    have HE := HN.out (.inl rfl)
    clear HN HY
    rw [HE]
    clear HE
    go_enter Tryz.func52, Tryz.ntmps52
    go_wp2_with (first | (go_at_call 232; refine Calls.mono HG.out ?_; rintro e w1 ⟨rfl, hb1⟩))
    go_ret2
    exact ⟨rfl, hb1⟩
  · have h1' : ((s : Int) == 0) = false := by simp; omega
    cases h2 : chr (g : Int) with
    | false =>
      have HE := HN.out (.inr (.inl h2))
      clear HN HY
      rw [HE]
      clear HE
      go_enter Tryz.func52, Tryz.ntmps52
      go_wp2_with (first | (go_at_call 232; refine Calls.mono HG.out ?_; rintro e w1 ⟨rfl, hb1⟩) | (go_at_call 76; refine (isCharacter_any _ _).mono ?_; rintro e w' ⟨rfl, rfl⟩; rw [h2]))
      go_ret2
      exact ⟨rfl, hb1⟩
    | true =>
      cases h3 : hasC 5 (g : Int) with
      | false =>
        have HE := HN.out (.inr (.inr (.inl h3)))
        clear HN HY
        rw [HE]
        clear HE
        rw [hasC_5] at h3
        go_enter Tryz.func52, Tryz.ntmps52
        go_wp2_with (first | (go_at_call 232; refine Calls.mono HG.out ?_; rintro e w1 ⟨rfl, hb1⟩) | (go_at_call 76; refine (isCharacter_any _ _).mono ?_; rintro e w' ⟨rfl, rfl⟩; rw [h2]) | (go_at_call 233; refine (utf16Has_b _ _).mono ?_; rintro e w2 ⟨rfl, hb2⟩; rw [h3]))
        go_ret2
        exact ⟨rfl, hb1.trans (hb2.mono hb1.size)⟩
      | true =>
        have HT : Hid (∀ w, Calls Tryz.prog 234 #[.agg #[], .slice none 0 0, .int .i64 (g : Int)] w fun e w' => Laid w.heap.size (tellL 5 (g : Int)) w e w') := fun w => tellG_5 g w h2 h3
        have htB : IsB (tellL 5 (g : Int)) := tellL_isB (by omega) h2 h3
        have h3' := h3
        rw [hasC_5] at h3'
        go_enter Tryz.func52, Tryz.ntmps52
        go_wp2_with (first | (go_at_call 232; refine Calls.mono HG.out ?_; rintro e w1 ⟨rfl, hb1⟩) | (go_at_call 76; refine (isCharacter_any _ _).mono ?_; rintro e w' ⟨rfl, rfl⟩; rw [h2]) | (go_at_call 233; refine (utf16Has_b _ _).mono ?_; rintro e w2 ⟨rfl, hb2⟩; rw [h3']))
        have hb12 : Below w.heap.size w w2 := hb1.trans (hb2.mono hb1.size)
        have hr2 : Rd w2 a l := (hr.below hb1).below hb2
        have hsc : s ≤ cap := by omega
        have hlt : (l.take s).length = s := by rw [List.length_take]; omega
        have hBt := isB_take hB s
        have hlg : ∀ w', Below w2.heap.size w2 w' → Rd w' a (l.take s) := fun w' hb => rd_takeD (hr2.below hb) s
        clear hb1 hb2 HG hr hr2
        cases h4 : decide (tellL 5 (g : Int) = l.take s) with
        | true =>
          have HE : Hid (rdC 5 l = (g, s)) := HY.out h1 h2 h3 (of_decide_eq_true h4)
          clear HN HY
          generalize tellL 5 (g : Int) = tl at *
          first
            | (
              go_region_held3 (fun _ => True) (first | go_keep | trivial)
                (first
                  | (go_at_call 234; refine (HT.out _).mono ?_; rintro e w3 ⟨v3, rfl, ho3, hb3⟩; obtain ⟨a3, c3, rfl, -, -⟩ := ho3.form)
                  | (go_at_call 77; refine (bytesEqual_any a3 a tl.length s c3 cap tl (l.take s) _ rfl hlt (by exact (Own.rd ho3).2) (by exact hlg _ (by exact (Below.refl _ _).drew.trans hb3)) htB hBt).mono ?_; rintro e w4 ⟨rfl, rfl⟩; rw [h4])))
            | fail
          have hbE : Below w.heap.size w w3 := hb12.trans ((Below.refl _ _).drew.trans (hb3.mono (by exact hb12.size)))
          clear hb3 hb12 ho3 hlg HT
          go_wp2
          go_ret2
          rw [HE.out]
          exact ⟨rfl, hbE⟩
        | false =>
          have HE : Hid (rdC 5 l = (0, 0)) := HN.out (.inr (.inr (.inr (of_decide_eq_false h4))))
          clear HN HY
          generalize tellL 5 (g : Int) = tl at *
          first
            | (
              go_region_held3 (fun _ => True) (first | go_keep | trivial)
                (first
                  | (go_at_call 234; refine (HT.out _).mono ?_; rintro e w3 ⟨v3, rfl, ho3, hb3⟩; obtain ⟨a3, c3, rfl, -, -⟩ := ho3.form)
                  | (go_at_call 77; refine (bytesEqual_any a3 a tl.length s c3 cap tl (l.take s) _ rfl hlt (by exact (Own.rd ho3).2) (by exact hlg _ (by exact (Below.refl _ _).drew.trans hb3)) htB hBt).mono ?_; rintro e w4 ⟨rfl, rfl⟩; rw [h4])))
            | fail
          have hbE : Below w.heap.size w w3 := hb12.trans ((Below.refl _ _).drew.trans (hb3.mono (by exact hb12.size)))
          clear hb3 hb12 ho3 hlg HT
          go_wp2
          go_ret2
          rw [HE.out]
          exact ⟨rfl, hbE⟩
end Go.Proofs.YtooifkdbpghcfaaGreatDoor
