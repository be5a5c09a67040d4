/- The charset of each part is one that there is, or none · Which numbers are characters, and which characters a charset has: the program's and the model's functions answer by one plain function each; at every number · HasChar, the program's and the model's, at every charset and number: both by one plain function · areAll, at each function that it is handed: whether each number is so; slices of at most 1048576 numbers. -/
import Derived.Test.YtooifkdbpghcfaaGreatDoorMemPToPth
import Derived.Test.YtooifkdbpghcfaaGreatDoorDecQ4ToPbf
import Derived.Test.YtooifkdbpghcfaaGreatDoorByeToHdr
import Derived.Test.YtooifkdbpghcfaaGreatDoorMemIToSee
namespace Go.Proofs.YtooifkdbpghcfaaGreatDoor
open Go.RowKit

theorem csI_inC (s : ByteArray) : 0 ≤ csI s ∧ csI s ≤ 5 := by
  by_cases h0 : csN 0 = s
  · rw [csI_some (j := 0) (fun i hi => by omega) h0 (by omega)]; decide
  by_cases h1 : csN 1 = s
  · rw [csI_some (j := 1) (fun i hi => match i, hi with | 0, _ => h0) h1 (by omega)]; decide
  by_cases h2 : csN 2 = s
  · rw [csI_some (j := 2) (fun i hi => match i, hi with | 0, _ => h0 | 1, _ => h1) h2 (by omega)]; decide
  by_cases h3 : csN 3 = s
  · rw [csI_some (j := 3) (fun i hi => match i, hi with | 0, _ => h0 | 1, _ => h1 | 2, _ => h2) h3 (by omega)]; decide
  by_cases h4 : csN 4 = s
  · rw [csI_some (j := 4) (fun i hi => match i, hi with | 0, _ => h0 | 1, _ => h1 | 2, _ => h2 | 3, _ => h3) h4 (by omega)]; decide
  rw [csI_none (fun i hi => match i, hi with | 0, _ => h0 | 1, _ => h1 | 2, _ => h2 | 3, _ => h3 | 4, _ => h4)]; decide
theorem oneV_cs (x : List Nat) : 0 ≤ (oneV x).1.2.1 ∧ (oneV x).1.2.1 ≤ 5 := by
  have ht : ∀ t, 0 ≤ (tyV t).2 ∧ (tyV t).2 ≤ 5 := fun t => by
    unfold tyV
    split
    · exact ⟨by decide, by decide⟩
    · split
      · exact ⟨by decide, by decide⟩
      · split
        · unfold chN
          split
          · exact ⟨by decide, by decide⟩
          · exact csI_inC _
        · exact ⟨by decide, by decide⟩
  unfold oneV
  split
  · split
    · exact ⟨(by decide : (0 : Int) ≤ 1), (by decide : (1 : Int) ≤ 5)⟩
    · exact ht _
  · exact ⟨(by decide : (0 : Int) ≤ 0), (by decide : (0 : Int) ≤ 5)⟩
/-- The charset of each part is so. -/
def OkC (l : List PtP) : Prop := ∀ p ∈ l, 0 ≤ p.1.2.1 ∧ p.1.2.1 ≤ 5
theorem OkC.snoc {d : List Nat} {l : List PtP} {fr tt : Nat} {u nu : Int} (h : OkC l) : OkC (l ++ [ptN d fr tt u nu]) := fun p hp => by
  rcases List.mem_append.1 hp with hp | hp
  · exact h p hp
  · rw [List.mem_singleton] at hp; subst hp; exact oneV_cs _
theorem adL_C {F : Nat → Nat → Int → Int → List PtP → List PtP} {b : Nat} {here : Int} (hF : ∀ x y u nu acc, OkC acc → OkC (F x y u nu acc)) : ∀ (l : List RngP) (i : Nat) (acc : List PtP), OkC acc → OkC (adL F b here l i acc)
  | [], _, _, h => h
  | _ :: r, i, _, h => adL_C hF r (i + 1) _ (hF _ _ _ _ _ h)
theorem adV_C (d : List Nat) : ∀ (D fr tt : Nat) (u nu : Int) (acc : List PtP), OkC acc → OkC (adV d D fr tt u nu acc)
  | D, fr, tt, u, nu, acc, h => by
    by_cases h8 : acc.length = 8
    · rw [adV_full h8]; exact h
    · by_cases hm : (oneV (cutN d fr tt)).2.2 = []
      · rw [adV_leaf h8 hm]; exact h.snoc
      · cases D with
        | zero => rw [adV_zero h8]; exact h.snoc
        | succ D =>
          rw [adV_in h8 hm]
          exact adL_C (fun x y u nu acc h => adV_C d D x y u nu acc h) _ _ _ h.snoc
theorem nthP_mem {l : List PtP} {n : Nat} (h : n < l.length) : nthP l n ∈ l := by rw [nthP_get h]; exact List.getElem_mem _
theorem ppV_cs {d : List Nat} {k : Int} (h : (pwV d k).1 = 0) : 0 ≤ (ppV d k).1.2.1 ∧ (ppV d k).1.2.1 ≤ 5 := by
  obtain ⟨e, n, rfl, hn, h0⟩ := pwV_in h
  have hC : OkC (psV d).2 := by
    unfold psV
    split
    · intro p hp; cases hp
    · exact adV_C d 2 0 d.length (-1) 0 [] (fun p hp => by cases hp)
  unfold ppV
  rw [if_pos h, e, Int.toNat_natCast]
  exact hC _ (nthP_mem hn)
end Go.Proofs.YtooifkdbpghcfaaGreatDoor

namespace Go.Proofs.YtooifkdbpghcfaaGreatDoor
open Go.RowKit

/-- The byte of a cyrillic character, or -1. -/
def cyr (c : Int) : Int := if 0 ≤ c ∧ c ≤ 160 ∨ c = 173 then c else if c = 167 then 253 else if c = 8470 then 240 else if 1025 ≤ c ∧ c ≤ 1119 ∧ c ≠ 1037 ∧ c ≠ 1104 ∧ c ≠ 1117 then c - 864 else -1
theorem cyr_same {c : Int} (h : 0 ≤ c ∧ c ≤ 160 ∨ c = 173) : cyr c = c := if_pos h
theorem cyr_167 : cyr 167 = 253 := by decide
theorem cyr_8470 : cyr 8470 = 240 := by decide
theorem cyr_far {c : Int} (h : 1025 ≤ c ∧ c ≤ 1119 ∧ c ≠ 1037 ∧ c ≠ 1104 ∧ c ≠ 1117) : cyr c = c - 864 := by
  unfold cyr; rw [if_neg (by omega), if_neg (by omega), if_neg (by omega), if_pos h]
theorem cyr_none {c : Int} (h1 : ¬ (0 ≤ c ∧ c ≤ 160 ∨ c = 173)) (h2 : c ≠ 167) (h3 : c ≠ 8470) (h4 : ¬ (1025 ≤ c ∧ c ≤ 1119 ∧ c ≠ 1037 ∧ c ≠ 1104 ∧ c ≠ 1117)) : cyr c = -1 := by
  unfold cyr; rw [if_neg h1, if_neg h2, if_neg h3, if_neg h4]
/-- Has a charset (1 to 5) this character? -/
def hasC (cs c : Int) : Bool := if cs = 1 then decide (c ≤ 127) else if cs = 2 then decide (c ≤ 255) else if cs = 3 then decide (0 ≤ cyr c) else true

theorem singleHas_any (m c : Int) (w : World) : Calls Tryz.prog 224 #[.agg #[.int .i64 m], .int .i64 c] w fun e w' => e = .returned (.bool (decide (c ≤ m))) ∧ Below w.heap.size w w' := by
  go_enter Tryz.func224, Tryz.ntmps224
  go_wp2
  go_ret
  exact ret_boolB rfl ((Below.refl _ _).alloc (Nat.le_refl _) _)
theorem cyr_pos {c : Int} : (0 ≤ cyr c) ↔ (0 ≤ c ∧ c ≤ 160 ∨ c = 173 ∨ c = 167 ∨ c = 8470 ∨ 1025 ≤ c ∧ c ≤ 1119 ∧ c ≠ 1037 ∧ c ≠ 1104 ∧ c ≠ 1117) := by
  unfold cyr
  split
  · omega
  · split
    · omega
    · split
      · omega
      · split <;> omega
set_option maxHeartbeats 1600000 in
theorem cyrHas_any (c : Int) (w : World) (hc : 0 ≤ c) : Calls Tryz.prog 227 #[.agg #[], .int .i64 c] w fun e w' => e = .returned (.bool (decide (0 ≤ cyr c))) ∧ Below w.heap.size w w' := by
  go_enter Tryz.func227, Tryz.ntmps227
  go_wp2
  all_goals (go_ret; refine ret_boolB ?_ ((Below.refl _ _).alloc (Nat.le_refl _) _); rw [Bool.eq_iff_iff]; simp only [decide_eq_true_iff, cyr_pos]; simp at *; try omega)
theorem utf8Has_any (c : Int) (w : World) : Calls Tryz.prog 230 #[.agg #[], .int .i64 c] w fun e w' => e = .returned (.bool true) ∧ Below w.heap.size w w' := by
  go_enter Tryz.func230, Tryz.ntmps230
  go_wp2
  go_ret
  exact ret_boolB rfl ((Below.refl _ _).alloc (Nat.le_refl _) _)
theorem utf16Has_any (c : Int) (w : World) : Calls Tryz.prog 233 #[.agg #[], .int .i64 c] w fun e w' => e = .returned (.bool true) ∧ Below w.heap.size w w' := by
  go_enter Tryz.func233, Tryz.ntmps233
  go_wp2
  go_ret
  exact ret_boolB rfl ((Below.refl _ _).alloc (Nat.le_refl _) _)

/-- A charset's value, if there is one. -/
def csV (cs : Int) : Value := if cs = 1 then .iface 106 (.agg #[.int .i64 127]) else if cs = 2 then .iface 106 (.agg #[.int .i64 255]) else if cs = 3 then .iface 108 (.agg #[]) else if cs = 4 then .iface 109 (.agg #[]) else if cs = 5 then .iface 110 (.agg #[]) else .nilIface
theorem charsetAt_any (cs : Int) (w : World) : Calls Tryz.prog 51 #[.int .i64 cs] w fun e w' => e = .returned (.tuple #[csV cs, .bool (decide (1 ≤ cs ∧ cs ≤ 5))]) ∧ w = w' := by
  go_enter Tryz.func51, Tryz.ntmps51
  go_wp2
  all_goals (go_ret2; simp at *; try subst cs)
  all_goals first | exact ⟨rfl, by omega, by omega⟩ | exact ⟨by unfold csV; simp [*], by omega⟩
end Go.Proofs.YtooifkdbpghcfaaGreatDoor

namespace Go.Proofs.YtooifkdbpghcfaaGreatDoor
open Go.RowKit

theorem csV1 : csV 1 = .iface 106 (.agg #[.int .i64 127]) := rfl
theorem csV2 : csV 2 = .iface 106 (.agg #[.int .i64 255]) := rfl
theorem csV3 : csV 3 = .iface 108 (.agg #[]) := rfl
theorem csV4 : csV 4 = .iface 109 (.agg #[]) := rfl
theorem csV5 : csV 5 = .iface 110 (.agg #[]) := rfl
theorem cs_cases {cs : Int} (h : 1 ≤ cs ∧ cs ≤ 5) : cs = 1 ∨ cs = 2 ∨ cs = 3 ∨ cs = 4 ∨ cs = 5 := by omega
/-- Is this a charset, this a character, and has the one the other? -/
def hasV (cs c : Int) : Bool := decide (1 ≤ cs ∧ cs ≤ 5) && chr c && hasC cs c

theorem l2Set_any (cs : Int) (w : World) : Calls Tryz.prog 73 #[.int .i64 cs] w fun e w' => e = .returned (.bool (decide (1 ≤ cs ∧ cs ≤ 5))) ∧ w = w' := by
  go_enter Tryz.func73, Tryz.ntmps73
  go_wp2_with (first | (go_at_call 30; refine (l1In_any _ _ _ _).mono ?_; rintro e w' ⟨rfl, rfl⟩))
  go_ret
  refine ret_bool ?_
  simp

set_option maxHeartbeats 1600000 in
theorem l2Cyrillic_any (c : Int) (w : World) : Calls Tryz.prog 123 #[.int .i64 c] w fun e w' => e = .returned (.int .i64 (cyr c)) ∧ w = w' := by
  by_cases h1 : 0 ≤ c ∧ c ≤ 160
  · have h1' : decide (0 ≤ c ∧ c ≤ 160) = true := decide_eq_true h1
    rw [cyr_same (.inl h1)]
    go_enter Tryz.func123, Tryz.ntmps123
    go_wp2_with (first | (go_at_call 30; refine (l1In_any _ _ _ _).mono ?_; rintro e w' ⟨rfl, rfl⟩; rw [h1']))
    go_ret
    exact ret_int rfl
  · have h1' : decide (0 ≤ c ∧ c ≤ 160) = false := decide_eq_false h1
    by_cases h2 : c = 173
    · subst h2
      rw [cyr_same (.inr rfl)]
      go_enter Tryz.func123, Tryz.ntmps123
      go_wp2_with (first | (go_at_call 30; refine (l1In_any _ _ _ _).mono ?_; rintro e w' ⟨rfl, rfl⟩; rw [h1']))
      go_ret
      exact ret_int rfl
    · by_cases h3 : c = 167
      · subst h3
        rw [cyr_167]
        go_enter Tryz.func123, Tryz.ntmps123
        go_wp2_with (first | (go_at_call 30; refine (l1In_any _ _ _ _).mono ?_; rintro e w' ⟨rfl, rfl⟩; rw [h1']))
        go_ret
        exact ret_int rfl
      · by_cases h4 : c = 8470
        · subst h4
          rw [cyr_8470]
          go_enter Tryz.func123, Tryz.ntmps123
          go_wp2_with (first | (go_at_call 30; refine (l1In_any _ _ _ _).mono ?_; rintro e w' ⟨rfl, rfl⟩; rw [h1']))
          go_ret
          exact ret_int rfl
        · by_cases h5 : 1025 ≤ c ∧ c ≤ 1119
          · have h5' : decide (1025 ≤ c ∧ c ≤ 1119) = true := decide_eq_true h5
            by_cases h6 : c ≠ 1037 ∧ c ≠ 1104 ∧ c ≠ 1117
            · obtain ⟨h61, h62, h63⟩ := h6
              have H : Hid (cyr c = c - 864) := cyr_far ⟨h5.1, h5.2, h61, h62, h63⟩
              rw [H.out]
              clear H
              have e1 : (c != 1037) = true := by simpa using h61
              have e2 : (c != 1104) = true := by simpa using h62
              have e3 : (c != 1117) = true := by simpa using h63
              go_enter Tryz.func123, Tryz.ntmps123
              go_wp2_with (first | (go_at_call 30; refine (l1In_any _ _ _ _).mono ?_; rintro e w' ⟨rfl, rfl⟩; first | rw [h1'] | rw [h5']))
              go_ret
              exact ret_int rfl
            · have H : Hid (cyr c = -1) := cyr_none (by omega) h3 h4 (by omega)
              rw [H.out]
              clear H
              have h7 : c = 1037 ∨ c = 1104 ∨ c = 1117 := by omega
              clear h1 h5 h6
              rcases h7 with rfl | rfl | rfl
              all_goals
                go_enter Tryz.func123, Tryz.ntmps123
                go_wp2_with (first | (go_at_call 30; refine (l1In_any _ _ _ _).mono ?_; rintro e w' ⟨rfl, rfl⟩; first | rw [h1'] | rw [h5']))
                go_ret
                exact ret_int rfl
          · have h5' : decide (1025 ≤ c ∧ c ≤ 1119) = false := decide_eq_false h5
            have H : Hid (cyr c = -1) := cyr_none (by omega) h3 h4 (by omega)
            rw [H.out]
            clear H
            go_enter Tryz.func123, Tryz.ntmps123
            go_wp2_with (first | (go_at_call 30; refine (l1In_any _ _ _ _).mono ?_; rintro e w' ⟨rfl, rfl⟩; first | rw [h1'] | rw [h5']))
            go_ret
            exact ret_int rfl

set_option maxHeartbeats 1600000 in
theorem l2Has_any (cs c : Int) (w : World) (h0 : 0 ≤ c) : Calls Tryz.prog 92 #[.int .i64 cs, .int .i64 c] w fun e w' => e = .returned (.bool (hasC cs c)) ∧ w = w' := by
  by_cases h1 : cs = 1
  · subst h1
    go_enter Tryz.func92, Tryz.ntmps92
    go_wp2_with (first | (go_at_call 30; refine (l1In_any _ _ _ _).mono ?_; rintro e w' ⟨rfl, rfl⟩))
    go_ret
    refine ret_bool ?_
    simp [hasC]
  · by_cases h2 : cs = 2
    · subst h2
      go_enter Tryz.func92, Tryz.ntmps92
      go_wp2_with (first | (go_at_call 30; refine (l1In_any _ _ _ _).mono ?_; rintro e w' ⟨rfl, rfl⟩))
      go_ret
      refine ret_bool ?_
      simp [hasC]
    · by_cases h3 : cs = 3
      · subst h3
        go_enter Tryz.func92, Tryz.ntmps92
        go_wp2_with (first | (go_at_call 123; refine (l2Cyrillic_any _ _).mono ?_; rintro e w' ⟨rfl, rfl⟩))
        go_ret
        refine ret_bool ?_
        simp [hasC]
      · have H : Hid (hasC cs c = true) := by unfold Hid hasC; rw [if_neg h1, if_neg h2, if_neg h3]
        rw [H.out]
        clear H
        go_enter Tryz.func92, Tryz.ntmps92
        go_wp2
        go_ret
        exact ret_bool rfl

end Go.Proofs.YtooifkdbpghcfaaGreatDoor

namespace Go.Proofs.YtooifkdbpghcfaaGreatDoor
open Go.RowKit

theorem all_bad {p : Int → Bool} {l : List Int} {k : Nat} (h : k < l.length) (hb : p (nthI l k) = false) : l.all p = false := by
  rw [List.all_eq_false]
  exact ⟨nthI l k, by rw [nthI_get h]; exact List.getElem_mem h, by rw [hb]; simp⟩
theorem all_step {p : Int → Bool} {l : List Int} {k : Nat} (h : k < l.length) (h0 : (l.take k).all p = true) (hb : p (nthI l k) = true) : (l.take (k + 1)).all p = true := by
  rw [take_snocI l k h, List.all_append, h0]
  simp [hb]
theorem all_end {p : Int → Bool} {l : List Int} {n : Nat} (hl : l.length = n) (h0 : (l.take n).all p = true) : l.all p = true := by
  rw [← hl, List.take_length] at h0
  exact h0
theorem nthI_mem {l : List Int} {k : Nat} (h : k < l.length) : nthI l k ∈ l := by rw [nthI_get h]; exact List.getElem_mem h


set_option maxHeartbeats 1600000 in
set_option maxRecDepth 100000 in
theorem areAll_char (a : Option Addr) (n cap : Nat) (l : List Int) (w : World) (hl : l.length = n) (hr : RdI w a l) (hn : n ≤ 1048576) :
    Calls Tryz.prog 69 #[.slice a n cap, .func (.func 76) #[] #[]] w fun e w' => e = .returned (.bool (l.all chr)) ∧ Below w.heap.size w w' := by
  go_enter Tryz.func69, Tryz.ntmps69
  go_wp2
  go_loopw [9] (fun v9 wr => ∃ k : Nat, k ≤ n ∧ v9 = .int .i64 k ∧ (l.take k).all chr = true ∧ Below w.heap.size w wr) (fun v9 _ => n - (intOf v9).toNat)
  case atStart => exact ⟨0, Nat.zero_le _, rfl, by simp, Below.refl _ _⟩
  case round =>
    obtain ⟨k, hk, rfl, hall, hbel⟩ := hrel
    by_cases hkn : k < n
    · obtain ⟨b, off, rfl, hblt, hcell⟩ := hr.at_ (by omega)
      have hc : wr.cell? ⟨b, off + k, none⟩ = some (.int .i64 (nthI l k)) := (hbel.cell (p := ⟨b, off + k, none⟩) hblt).trans (hcell k (by omega))
      have hmem : nthI l k ∈ l := nthI_mem (by omega)
      have HS : Hid (chr (nthI l k) = true → (l.take (k + 1)).all chr = true) := fun hb => all_step (by omega) hall hb
      have HF : Hid (chr (nthI l k) = false → l.all chr = false) := fun hb => all_bad (by omega) hb
      clear hcell hr hall
      generalize nthI l k = x at *
      cases hp : chr x with
      | true =>
        have hall' := HS.out hp
        go_wp2_with (first | (go_at_call 76; refine (isCharacter_any _ _).mono ?_; rintro e w' ⟨rfl, rfl⟩; rw [hp]))
        go_roundw
        case rel => exact ⟨k + 1, by omega, by go_num, hall', hbel⟩
        case measure => simp [intOf]; omega
      | false =>
        clear HS
        go_wp2_with (first | (go_at_call 76; refine (isCharacter_any _ _).mono ?_; rintro e w' ⟨rfl, rfl⟩; rw [hp]))
        go_ret
        exact ⟨by rw [HF.out hp]; rfl, hbel⟩
    · have hkk : k = n := by omega
      subst hkk
      have HA : Hid (l.all chr = true) := all_end hl hall
      go_wp2
      go_ret
      exact ⟨by rw [HA.out]; rfl, hbel⟩

def leB (m c : Int) : Bool := decide (c ≤ m)
theorem singleHas_le (m c : Int) (w : World) : Calls Tryz.prog 224 #[.agg #[.int .i64 m], .int .i64 c] w fun e w' => e = .returned (.bool (leB m c)) ∧ Below w.heap.size w w' := singleHas_any m c w
def cyB (c : Int) : Bool := decide (0 ≤ cyr c)
theorem cyrHas_cy (c : Int) (w : World) (hc : 0 ≤ c) : Calls Tryz.prog 227 #[.agg #[], .int .i64 c] w fun e w' => e = .returned (.bool (cyB c)) ∧ Below w.heap.size w w' := cyrHas_any c w hc
def anyB (_ : Int) : Bool := true
theorem utf8Has_b (c : Int) (w : World) : Calls Tryz.prog 230 #[.agg #[], .int .i64 c] w fun e w' => e = .returned (.bool (anyB c)) ∧ Below w.heap.size w w' := utf8Has_any c w
theorem utf16Has_b (c : Int) (w : World) : Calls Tryz.prog 233 #[.agg #[], .int .i64 c] w fun e w' => e = .returned (.bool (anyB c)) ∧ Below w.heap.size w w' := utf16Has_any c w

set_option maxHeartbeats 1600000 in
set_option maxRecDepth 100000 in
theorem areAll_single (a : Option Addr) (n cap : Nat) (l : List Int) (w : World) (hl : l.length = n) (hr : RdI w a l) (hn : n ≤ 1048576) (m : Int) :
    Calls Tryz.prog 69 #[.slice a n cap, .func (.method "loop.example/g00447/impl.has") #[.iface 106 (.agg #[.int .i64 m])] #[]] w fun e w' => e = .returned (.bool (l.all (leB m))) ∧ Below w.heap.size w w' := by
  go_enter Tryz.func69, Tryz.ntmps69
  go_wp2
  go_loopw [9] (fun v9 wr => ∃ k : Nat, k ≤ n ∧ v9 = .int .i64 k ∧ (l.take k).all (leB m) = true ∧ Below w.heap.size w wr) (fun v9 _ => n - (intOf v9).toNat)
  case atStart => exact ⟨0, Nat.zero_le _, rfl, by simp, Below.refl _ _⟩
  case round =>
    obtain ⟨k, hk, rfl, hall, hbel⟩ := hrel
    by_cases hkn : k < n
    · obtain ⟨b, off, rfl, hblt, hcell⟩ := hr.at_ (by omega)
      have hc : wr.cell? ⟨b, off + k, none⟩ = some (.int .i64 (nthI l k)) := (hbel.cell (p := ⟨b, off + k, none⟩) hblt).trans (hcell k (by omega))
      have hmem : nthI l k ∈ l := nthI_mem (by omega)
      have HS : Hid ((leB m) (nthI l k) = true → (l.take (k + 1)).all (leB m) = true) := fun hb => all_step (by omega) hall hb
      have HF : Hid ((leB m) (nthI l k) = false → l.all (leB m) = false) := fun hb => all_bad (by omega) hb
      clear hcell hr hall
      generalize nthI l k = x at *
      cases hp : (leB m) x with
      | true =>
        have hall' := HS.out hp
        go_wp2_with (first | (go_at_call 224; refine (singleHas_le m x _).mono ?_; rintro e w' ⟨rfl, hb⟩; rw [hp]))
        go_roundw
        case rel => exact ⟨k + 1, by omega, by go_num, hall', hbel.trans (hb.mono hbel.size)⟩
        case measure => simp [intOf]; omega
      | false =>
        clear HS
        go_wp2_with (first | (go_at_call 224; refine (singleHas_le m x _).mono ?_; rintro e w' ⟨rfl, hb⟩; rw [hp]))
        go_ret
        exact ⟨by rw [HF.out hp]; rfl, hbel.trans (hb.mono hbel.size)⟩
    · have hkk : k = n := by omega
      subst hkk
      have HA : Hid (l.all (leB m) = true) := all_end hl hall
      go_wp2
      go_ret
      exact ⟨by rw [HA.out]; rfl, hbel⟩

set_option maxHeartbeats 1600000 in
set_option maxRecDepth 100000 in
theorem areAll_cyr (a : Option Addr) (n cap : Nat) (l : List Int) (w : World) (hl : l.length = n) (hr : RdI w a l) (hn : n ≤ 1048576) (h0 : ∀ x ∈ l, 0 ≤ x) :
    Calls Tryz.prog 69 #[.slice a n cap, .func (.method "loop.example/g00447/impl.has") #[.iface 108 (.agg #[])] #[]] w fun e w' => e = .returned (.bool (l.all cyB)) ∧ Below w.heap.size w w' := by
  go_enter Tryz.func69, Tryz.ntmps69
  go_wp2
  go_loopw [9] (fun v9 wr => ∃ k : Nat, k ≤ n ∧ v9 = .int .i64 k ∧ (l.take k).all cyB = true ∧ Below w.heap.size w wr) (fun v9 _ => n - (intOf v9).toNat)
  case atStart => exact ⟨0, Nat.zero_le _, rfl, by simp, Below.refl _ _⟩
  case round =>
    obtain ⟨k, hk, rfl, hall, hbel⟩ := hrel
    by_cases hkn : k < n
    · obtain ⟨b, off, rfl, hblt, hcell⟩ := hr.at_ (by omega)
      have hc : wr.cell? ⟨b, off + k, none⟩ = some (.int .i64 (nthI l k)) := (hbel.cell (p := ⟨b, off + k, none⟩) hblt).trans (hcell k (by omega))
      have hmem : nthI l k ∈ l := nthI_mem (by omega)
      have HS : Hid (cyB (nthI l k) = true → (l.take (k + 1)).all cyB = true) := fun hb => all_step (by omega) hall hb
      have HF : Hid (cyB (nthI l k) = false → l.all cyB = false) := fun hb => all_bad (by omega) hb
      clear hcell hr hall
      generalize nthI l k = x at *
      cases hp : cyB x with
      | true =>
        have hall' := HS.out hp
        go_wp2_with (first | (go_at_call 227; refine (cyrHas_cy x _ (h0 _ hmem)).mono ?_; rintro e w' ⟨rfl, hb⟩; rw [hp]))
        go_roundw
        case rel => exact ⟨k + 1, by omega, by go_num, hall', hbel.trans (hb.mono hbel.size)⟩
        case measure => simp [intOf]; omega
      | false =>
        clear HS
        go_wp2_with (first | (go_at_call 227; refine (cyrHas_cy x _ (h0 _ hmem)).mono ?_; rintro e w' ⟨rfl, hb⟩; rw [hp]))
        go_ret
        exact ⟨by rw [HF.out hp]; rfl, hbel.trans (hb.mono hbel.size)⟩
    · have hkk : k = n := by omega
      subst hkk
      have HA : Hid (l.all cyB = true) := all_end hl hall
      go_wp2
      go_ret
      exact ⟨by rw [HA.out]; rfl, hbel⟩

set_option maxHeartbeats 1600000 in
set_option maxRecDepth 100000 in
theorem areAll_utf8 (a : Option Addr) (n cap : Nat) (l : List Int) (w : World) (hl : l.length = n) (hr : RdI w a l) (hn : n ≤ 1048576) :
    Calls Tryz.prog 69 #[.slice a n cap, .func (.method "loop.example/g00447/impl.has") #[.iface 109 (.agg #[])] #[]] w fun e w' => e = .returned (.bool (l.all anyB)) ∧ Below w.heap.size w w' := by
  go_enter Tryz.func69, Tryz.ntmps69
  go_wp2
  go_loopw [9] (fun v9 wr => ∃ k : Nat, k ≤ n ∧ v9 = .int .i64 k ∧ (l.take k).all anyB = true ∧ Below w.heap.size w wr) (fun v9 _ => n - (intOf v9).toNat)
  case atStart => exact ⟨0, Nat.zero_le _, rfl, by simp, Below.refl _ _⟩
  case round =>
    obtain ⟨k, hk, rfl, hall, hbel⟩ := hrel
    by_cases hkn : k < n
    · obtain ⟨b, off, rfl, hblt, hcell⟩ := hr.at_ (by omega)
      have hc : wr.cell? ⟨b, off + k, none⟩ = some (.int .i64 (nthI l k)) := (hbel.cell (p := ⟨b, off + k, none⟩) hblt).trans (hcell k (by omega))
      have hmem : nthI l k ∈ l := nthI_mem (by omega)
      have HS : Hid (anyB (nthI l k) = true → (l.take (k + 1)).all anyB = true) := fun hb => all_step (by omega) hall hb
      have HF : Hid (anyB (nthI l k) = false → l.all anyB = false) := fun hb => all_bad (by omega) hb
      clear hcell hr hall
      generalize nthI l k = x at *
      cases hp : anyB x with
      | true =>
        have hall' := HS.out hp
        go_wp2_with (first | (go_at_call 230; refine (utf8Has_b x _).mono ?_; rintro e w' ⟨rfl, hb⟩; rw [hp]))
        go_roundw
        case rel => exact ⟨k + 1, by omega, by go_num, hall', hbel.trans (hb.mono hbel.size)⟩
        case measure => simp [intOf]; omega
      | false =>
        clear HS
        go_wp2_with (first | (go_at_call 230; refine (utf8Has_b x _).mono ?_; rintro e w' ⟨rfl, hb⟩; rw [hp]))
        go_ret
        exact ⟨by rw [HF.out hp]; rfl, hbel.trans (hb.mono hbel.size)⟩
    · have hkk : k = n := by omega
      subst hkk
      have HA : Hid (l.all anyB = true) := all_end hl hall
      go_wp2
      go_ret
      exact ⟨by rw [HA.out]; rfl, hbel⟩

set_option maxHeartbeats 1600000 in
set_option maxRecDepth 100000 in
theorem areAll_utf16 (a : Option Addr) (n cap : Nat) (l : List Int) (w : World) (hl : l.length = n) (hr : RdI w a l) (hn : n ≤ 1048576) :
    Calls Tryz.prog 69 #[.slice a n cap, .func (.method "loop.example/g00447/impl.has") #[.iface 110 (.agg #[])] #[]] w fun e w' => e = .returned (.bool (l.all anyB)) ∧ Below w.heap.size w w' := by
  go_enter Tryz.func69, Tryz.ntmps69
  go_wp2
  go_loopw [9] (fun v9 wr => ∃ k : Nat, k ≤ n ∧ v9 = .int .i64 k ∧ (l.take k).all anyB = true ∧ Below w.heap.size w wr) (fun v9 _ => n - (intOf v9).toNat)
  case atStart => exact ⟨0, Nat.zero_le _, rfl, by simp, Below.refl _ _⟩
  case round =>
    obtain ⟨k, hk, rfl, hall, hbel⟩ := hrel
    by_cases hkn : k < n
    · obtain ⟨b, off, rfl, hblt, hcell⟩ := hr.at_ (by omega)
      have hc : wr.cell? ⟨b, off + k, none⟩ = some (.int .i64 (nthI l k)) := (hbel.cell (p := ⟨b, off + k, none⟩) hblt).trans (hcell k (by omega))
      have hmem : nthI l k ∈ l := nthI_mem (by omega)
      have HS : Hid (anyB (nthI l k) = true → (l.take (k + 1)).all anyB = true) := fun hb => all_step (by omega) hall hb
      have HF : Hid (anyB (nthI l k) = false → l.all anyB = false) := fun hb => all_bad (by omega) hb
      clear hcell hr hall
      generalize nthI l k = x at *
      cases hp : anyB x with
      | true =>
        have hall' := HS.out hp
        go_wp2_with (first | (go_at_call 233; refine (utf16Has_b x _).mono ?_; rintro e w' ⟨rfl, hb⟩; rw [hp]))
        go_roundw
        case rel => exact ⟨k + 1, by omega, by go_num, hall', hbel.trans (hb.mono hbel.size)⟩
        case measure => simp [intOf]; omega
      | false =>
        clear HS
        go_wp2_with (first | (go_at_call 233; refine (utf16Has_b x _).mono ?_; rintro e w' ⟨rfl, hb⟩; rw [hp]))
        go_ret
        exact ⟨by rw [HF.out hp]; rfl, hbel.trans (hb.mono hbel.size)⟩
    · have hkk : k = n := by omega
      subst hkk
      have HA : Hid (l.all anyB = true) := all_end hl hall
      go_wp2
      go_ret
      exact ⟨by rw [HA.out]; rfl, hbel⟩
end Go.Proofs.YtooifkdbpghcfaaGreatDoor
