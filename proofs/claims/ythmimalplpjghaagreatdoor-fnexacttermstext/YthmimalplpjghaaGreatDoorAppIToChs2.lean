/- What an append of numbers to a slice of the call's own leaves: laws for this program's types; at most 1073741824 numbers · Which numbers are characters, and which characters a charset has: the program's and the model's functions answer by one plain function each; at every number · HasChar, the program's and the model's, at every charset and number: both by one plain function. -/
import Derived.Test.YthmimalplpjghaaGreatDoorBytToOpnY
import Derived.Test.YthmimalplpjghaaGreatDoorChs0ToTfm
namespace Go.Proofs.YthmimalplpjghaaGreatDoor
open Go.RowKit

/-- THE SLICE v IS THE CALL's OWN AND HOLDS THE BYTES l. -/
def OwnI (w : World) (B : Nat) (v : Value) (l : List Int) : Prop := w.ownsRow B 2 1 v l.length (ic l)

theorem OwnI.nil (w : World) (B : Nat) : OwnI w B (.slice none 0 0) [] := World.ownsRow_nil _ _ _ _
theorem OwnI.lit (w : World) (B : Nat) (hB : B ≤ w.heap.size) (cs : Array Value) (l : List Int) (h : cs.toList = ic l) (hl : l.length ≤ maxLen) : OwnI (w.alloc (.cells cs 2)) B (.slice (some ⟨w.heap.size, 0, none⟩) l.length l.length) l := by
  have := World.ownsRow_lit (base := B) (e := 2) (size := 1) w cs l.length hB hl (by rw [← Array.length_toList, h, ic_len]; omega)
  rw [h] at this
  exact this
theorem OwnI.alloc {w : World} {B : Nat} {v : Value} {l : List Int} (h : OwnI w B v l) (o : Obj) : OwnI (w.alloc o) B v l := World.ownsRow.alloc h o
theorem OwnI.drew {w : World} {B : Nat} {v : Value} {l : List Int} (h : OwnI w B v l) : OwnI w.drew B v l := h
theorem OwnI.below {w w' : World} {B C : Nat} {v : Value} {l : List Int} (h : OwnI w B v l) (hb : Below C w w') (hC : w.heap.size ≤ C) : OwnI w' B v l := by
  refine ⟨h.1, ?_⟩
  rcases h.2 with h' | ⟨g, cap, cur, h1, h2, h3, h4⟩
  · exact .inl h'
  · refine .inr ⟨g, cap, cur, h1, h2, ?_, h4⟩
    have hg : g < w.heap.size := by
      rcases Nat.lt_or_ge g w.heap.size with hlt | hge
      · exact hlt
      · simp [Array.getElem?_eq_none hge] at h3
    rw [hb.block g (by omega)]; exact h3
theorem OwnI.form {w : World} {B : Nat} {v : Value} {l : List Int} (h : OwnI w B v l) : ∃ a cap, v = .slice a l.length cap ∧ l.length ≤ cap ∧ cap ≤ maxLen := by
  rcases h.2 with ⟨h', h0⟩ | ⟨g, cap, cur, h', _, _, h4, h5, _⟩
  · exact ⟨none, 0, by rw [h', h0], by omega, by decide⟩
  · exact ⟨_, cap, h', h4, h5⟩
theorem OwnI.rd {w : World} {B n cap : Nat} {a : Option Addr} {l : List Int} (h : OwnI w B (.slice a n cap) l) : l.length = n ∧ RdI w a l := by
  have hf : l.length = n := by
    obtain ⟨a', c', e, _⟩ := h.form
    simp at e; omega
  subst hf
  exact ⟨rfl, RdI.own h⟩

end Go.Proofs.YthmimalplpjghaaGreatDoor

namespace Go.Proofs.YthmimalplpjghaaGreatDoor
open Go.RowKit

/-- The byte of a cyrillic character, or -1. -/
def cyr (c : Int) : Int := if 0 ≤ c ∧ c ≤ 160 ∨ c = 173 then c else if c = 167 then 253 else if c = 8470 then 240 else if 1025 ≤ c ∧ c ≤ 1119 ∧ c ≠ 1037 ∧ c ≠ 1104 ∧ c ≠ 1117 then c - 864 else -1
theorem cyr_same {c : Int} (h : 0 ≤ c ∧ c ≤ 160 ∨ c = 173) : cyr c = c := if_pos h
theorem cyr_167 : cyr 167 = 253 := by decide
theorem cyr_8470 : cyr 8470 = 240 := by decide
theorem cyr_far {c : Int} (h : 1025 ≤ c ∧ c ≤ 1119 ∧ c ≠ 1037 ∧ c ≠ 1104 ∧ c ≠ 1117) : cyr c = c - 864 := by
  unfold cyr; rw [if_neg (by omega), if_neg (by omega), if_neg (by omega), if_pos h]
theorem cyr_none {c : Int} (h1 : ¬ (0 ≤ c ∧ c ≤ 160 ∨ c = 173)) (h2 : c ≠ 167) (h3 : c ≠ 8470) (h4 : ¬ (1025 ≤ c ∧ c ≤ 1119 ∧ c ≠ 1037 ∧ c ≠ 1104 ∧ c ≠ 1117)) : cyr c = -1 := by
  unfold cyr; rw [if_neg h1, if_neg h2, if_neg h3, if_neg h4]
/-- Has a charset (1 to 5) this character? -/
def hasC (cs c : Int) : Bool := if cs = 1 then decide (c ≤ 127) else if cs = 2 then decide (c ≤ 255) else if cs = 3 then decide (0 ≤ cyr c) else true

theorem singleHas_any (m c : Int) (w : World) : Calls Tryz.prog 416 #[.agg #[.int .i64 m], .int .i64 c] w fun e w' => e = .returned (.bool (decide (c ≤ m))) ∧ Below w.heap.size w w' := by
  go_enter Tryz.func416, Tryz.ntmps416
  go_wp2
  go_ret
  exact ret_boolB rfl ((Below.refl _ _).alloc (Nat.le_refl _) _)
theorem cyr_pos {c : Int} : (0 ≤ cyr c) ↔ (0 ≤ c ∧ c ≤ 160 ∨ c = 173 ∨ c = 167 ∨ c = 8470 ∨ 1025 ≤ c ∧ c ≤ 1119 ∧ c ≠ 1037 ∧ c ≠ 1104 ∧ c ≠ 1117) := by
  unfold cyr
  split
  · omega
  · split
    · omega
    · split
      · omega
      · split <;> omega
set_option maxHeartbeats 1600000 in
theorem cyrHas_any (c : Int) (w : World) (hc : 0 ≤ c) : Calls Tryz.prog 419 #[.agg #[], .int .i64 c] w fun e w' => e = .returned (.bool (decide (0 ≤ cyr c))) ∧ Below w.heap.size w w' := by
  go_enter Tryz.func419, Tryz.ntmps419
  go_wp2
  all_goals (go_ret; refine ret_boolB ?_ ((Below.refl _ _).alloc (Nat.le_refl _) _); rw [Bool.eq_iff_iff]; simp only [decide_eq_true_iff, cyr_pos]; simp at *; try omega)
theorem utf8Has_any (c : Int) (w : World) : Calls Tryz.prog 422 #[.agg #[], .int .i64 c] w fun e w' => e = .returned (.bool true) ∧ Below w.heap.size w w' := by
  go_enter Tryz.func422, Tryz.ntmps422
  go_wp2
  go_ret
  exact ret_boolB rfl ((Below.refl _ _).alloc (Nat.le_refl _) _)
theorem utf16Has_any (c : Int) (w : World) : Calls Tryz.prog 425 #[.agg #[], .int .i64 c] w fun e w' => e = .returned (.bool true) ∧ Below w.heap.size w w' := by
  go_enter Tryz.func425, Tryz.ntmps425
  go_wp2
  go_ret
  exact ret_boolB rfl ((Below.refl _ _).alloc (Nat.le_refl _) _)

/-- A charset's value, if there is one. -/
def csV (cs : Int) : Value := if cs = 1 then .iface 276 (.agg #[.int .i64 127]) else if cs = 2 then .iface 276 (.agg #[.int .i64 255]) else if cs = 3 then .iface 277 (.agg #[]) else if cs = 4 then .iface 278 (.agg #[]) else if cs = 5 then .iface 279 (.agg #[]) else .nilIface
theorem charsetAt_any (cs : Int) (w : World) : Calls Tryz.prog 152 #[.int .i64 cs] w fun e w' => e = .returned (.tuple #[csV cs, .bool (decide (1 ≤ cs ∧ cs ≤ 5))]) ∧ w = w' := by
  go_enter Tryz.func152, Tryz.ntmps152
  go_wp2
  all_goals (go_ret2; simp at *; try subst cs)
  all_goals first | exact ⟨rfl, by omega, by omega⟩ | exact ⟨by unfold csV; simp [*], by omega⟩
end Go.Proofs.YthmimalplpjghaaGreatDoor

namespace Go.Proofs.YthmimalplpjghaaGreatDoor
open Go.RowKit

theorem csV1 : csV 1 = .iface 276 (.agg #[.int .i64 127]) := rfl
theorem csV2 : csV 2 = .iface 276 (.agg #[.int .i64 255]) := rfl
theorem csV3 : csV 3 = .iface 277 (.agg #[]) := rfl
theorem csV4 : csV 4 = .iface 278 (.agg #[]) := rfl
theorem csV5 : csV 5 = .iface 279 (.agg #[]) := rfl
theorem cs_cases {cs : Int} (h : 1 ≤ cs ∧ cs ≤ 5) : cs = 1 ∨ cs = 2 ∨ cs = 3 ∨ cs = 4 ∨ cs = 5 := by omega
set_option maxHeartbeats 1600000 in
theorem l2Cyrillic_any (c : Int) (w : World) : Calls Tryz.prog 249 #[.int .i64 c] w fun e w' => e = .returned (.int .i64 (cyr c)) ∧ w = w' := by
  by_cases h1 : 0 ≤ c ∧ c ≤ 160
  · have h1' : decide (0 ≤ c ∧ c ≤ 160) = true := decide_eq_true h1
    rw [cyr_same (.inl h1)]
    go_enter Tryz.func249, Tryz.ntmps249
    go_wp2_with (first | (go_at_call 69; refine (l1In_any _ _ _ _).mono ?_; rintro e w' ⟨rfl, rfl⟩; rw [h1']))
    go_ret
    exact ret_int rfl
  · have h1' : decide (0 ≤ c ∧ c ≤ 160) = false := decide_eq_false h1
    by_cases h2 : c = 173
    · subst h2
      rw [cyr_same (.inr rfl)]
      go_enter Tryz.func249, Tryz.ntmps249
      go_wp2_with (first | (go_at_call 69; refine (l1In_any _ _ _ _).mono ?_; rintro e w' ⟨rfl, rfl⟩; rw [h1']))
      go_ret
      exact ret_int rfl
    · by_cases h3 : c = 167
      · subst h3
        rw [cyr_167]
        go_enter Tryz.func249, Tryz.ntmps249
        go_wp2_with (first | (go_at_call 69; refine (l1In_any _ _ _ _).mono ?_; rintro e w' ⟨rfl, rfl⟩; rw [h1']))
        go_ret
        exact ret_int rfl
      · by_cases h4 : c = 8470
        · subst h4
          rw [cyr_8470]
          go_enter Tryz.func249, Tryz.ntmps249
          go_wp2_with (first | (go_at_call 69; refine (l1In_any _ _ _ _).mono ?_; rintro e w' ⟨rfl, rfl⟩; rw [h1']))
          go_ret
          exact ret_int rfl
        · by_cases h5 : 1025 ≤ c ∧ c ≤ 1119
          · have h5' : decide (1025 ≤ c ∧ c ≤ 1119) = true := decide_eq_true h5
            by_cases h6 : c ≠ 1037 ∧ c ≠ 1104 ∧ c ≠ 1117
            · obtain ⟨h61, h62, h63⟩ := h6
              have H : Hid (cyr c = c - 864) := cyr_far ⟨h5.1, h5.2, h61, h62, h63⟩
              rw [H.out]
              clear H
              have e1 : (c != 1037) = true := by simpa using h61
              have e2 : (c != 1104) = true := by simpa using h62
              have e3 : (c != 1117) = true := by simpa using h63
              go_enter Tryz.func249, Tryz.ntmps249
              go_wp2_with (first | (go_at_call 69; refine (l1In_any _ _ _ _).mono ?_; rintro e w' ⟨rfl, rfl⟩; first | rw [h1'] | rw [h5']))
              go_ret
              exact ret_int rfl
            · have H : Hid (cyr c = -1) := cyr_none (by omega) h3 h4 (by omega)
              rw [H.out]
              clear H
              have h7 : c = 1037 ∨ c = 1104 ∨ c = 1117 := by omega
              clear h1 h5 h6
              rcases h7 with rfl | rfl | rfl
              all_goals
                go_enter Tryz.func249, Tryz.ntmps249
                go_wp2_with (first | (go_at_call 69; refine (l1In_any _ _ _ _).mono ?_; rintro e w' ⟨rfl, rfl⟩; first | rw [h1'] | rw [h5']))
                go_ret
                exact ret_int rfl
          · have h5' : decide (1025 ≤ c ∧ c ≤ 1119) = false := decide_eq_false h5
            have H : Hid (cyr c = -1) := cyr_none (by omega) h3 h4 (by omega)
            rw [H.out]
            clear H
            go_enter Tryz.func249, Tryz.ntmps249
            go_wp2_with (first | (go_at_call 69; refine (l1In_any _ _ _ _).mono ?_; rintro e w' ⟨rfl, rfl⟩; first | rw [h1'] | rw [h5']))
            go_ret
            exact ret_int rfl

set_option maxHeartbeats 1600000 in
theorem l2Has_any (cs c : Int) (w : World) (h0 : 0 ≤ c) : Calls Tryz.prog 195 #[.int .i64 cs, .int .i64 c] w fun e w' => e = .returned (.bool (hasC cs c)) ∧ w = w' := by
  by_cases h1 : cs = 1
  · subst h1
    go_enter Tryz.func195, Tryz.ntmps195
    go_wp2_with (first | (go_at_call 69; refine (l1In_any _ _ _ _).mono ?_; rintro e w' ⟨rfl, rfl⟩))
    go_ret
    refine ret_bool ?_
    simp [hasC]
  · by_cases h2 : cs = 2
    · subst h2
      go_enter Tryz.func195, Tryz.ntmps195
      go_wp2_with (first | (go_at_call 69; refine (l1In_any _ _ _ _).mono ?_; rintro e w' ⟨rfl, rfl⟩))
      go_ret
      refine ret_bool ?_
      simp [hasC]
    · by_cases h3 : cs = 3
      · subst h3
        go_enter Tryz.func195, Tryz.ntmps195
        go_wp2_with (first | (go_at_call 249; refine (l2Cyrillic_any _ _).mono ?_; rintro e w' ⟨rfl, rfl⟩))
        go_ret
        refine ret_bool ?_
        simp [hasC]
      · have H : Hid (hasC cs c = true) := by unfold Hid hasC; rw [if_neg h1, if_neg h2, if_neg h3]
        rw [H.out]
        clear H
        go_enter Tryz.func195, Tryz.ntmps195
        go_wp2
        go_ret
        exact ret_bool rfl

end Go.Proofs.YthmimalplpjghaaGreatDoor
