/- An append to a slice that grows, of a slice, of nothing, or of a text; no conditions beyond those that each fact names · Which numbers are characters, and which characters a charset has: the program's and the model's functions answer by one plain function each; at every number · HasChar, the program's and the model's, at every charset and number: both by one plain function · areAll, at each function that it is handed: whether each number is so; slices of at most 1048576 numbers · The bytes of a character by each charset: the program's and the model's functions lay the same; characters that the charset has · tellAll, at each charset's function: the bytes of all characters, one behind the other; at most 400 characters that the charset has. -/
import Derived.Test.YtaefomiofoakhaaGreatDoorDrkToKzz
import Derived.Deep.AppendSrc
import Derived.Test.YtaefomiofoakhaaGreatDoorAppFToHdr
import Derived.Test.YtaefomiofoakhaaGreatDoorAppIToMemQ
import Derived.Test.YtaefomiofoakhaaGreatDoorAppToMemF
import Derived.Laws.BitsAllLaws
namespace Go.Proofs.YtaefomiofoakhaaGreatDoor
open Go.RowKit

/-- Rows in other blocks than the slice's own stay, and its new block is none of them. -/
def Kp (w w1 : World) (v v' : Value) : Prop := (∀ (b off : Nat) (d : List Nat), b < w.heap.size → v.ownBlock ≠ some b → Rd w (some ⟨b, off, none⟩) d → Rd w1 (some ⟨b, off, none⟩) d) ∧ ∀ k, k < w.heap.size → v.ownBlock ≠ some k → v'.ownBlock ≠ some k
theorem run_app_grK {w : World} {B : Nat} {v : Value} {l : List Nat} (hv : Gr w B v l) (tx ty : TypeId) (x : Value) (n : Nat) (new : List Nat) (hsrc : Go.Src Tryz.prog 1 tx x n (bc new) w) (hm : new.length = n) (hsz : l.length + n ≤ 1073741824) (hB : B ≤ w.heap.size) :
    ∃ v' w1, (Builtin.append_ #[22, tx] ty #[v, x]).run Tryz.prog w = .ok v' w1 ∧ Gr w1 B v' (l ++ new) ∧ Below B w w1 ∧ Kp w w1 v v' := by
  obtain ⟨i, hi, hz, hsize, hby⟩ := info_parts infoB
  obtain ⟨g, cap, e, hBg, hcm, hl, hn, hlt, hc, hf⟩ := hv
  subst e
  by_cases hr : l.length + n ≤ cap
  · have hrun := run_append_room_src (P := Tryz.prog) (w := w) 22 tx ty 5 i Tryz.underlying22 hi g 0 l.length cap x n (bc new) (by rw [hsize]; exact hsrc) hr (fun j hj => by rw [bc_len] at hj; rw [hsize]; exact (hf _ (by omega)).1) (fun j hj => by rw [bc_len] at hj; rw [hsize]; exact (hf _ (by omega)).2)
    rw [hsize] at hrun
    have hin := World.cell?_setCells_in g (bc new) (0 + l.length * 1) w (fun j hj => by rw [bc_len] at hj; exact (hf _ (by omega)).1)
    have hcell : ∀ i, i < l.length → (w.setCells g (0 + l.length * 1) (bc new)).cell? ⟨g, i, none⟩ = some (.int .u8 (nth (l ++ new) i : Int)) := fun i h1 => by
      rw [World.cell?_setCells_out g (bc new) (0 + l.length * 1) w ⟨g, i, none⟩ (fun _ _ => .inl (by simp; omega)), hc i h1, nth_get (by omega), nth_get (by rw [List.length_append]; omega), List.getElem_append_left (by omega)]
    have hcell2 : ∀ i, l.length ≤ i → i < (l ++ new).length → (w.setCells g (0 + l.length * 1) (bc new)).cell? ⟨g, i, none⟩ = some (.int .u8 (nth (l ++ new) i : Int)) := fun i h1 hi => by
      rw [List.length_append] at hi
      have := hin (i - l.length) (by rw [bc_len]; omega)
      rw [show 0 + l.length * 1 + (i - l.length) = i by omega] at this
      rw [this, nth_get (by rw [List.length_append]; omega), List.getElem_append_right (by omega)]
      simp [bc]
    refine ⟨_, _, hrun, ⟨g, cap, ?_, hBg, hcm, rfl, by rw [List.length_append]; omega, Nat.lt_of_lt_of_le hlt (below_setCells g _ _ _).size, fun i hi => ?_, fun i hi => ⟨?_, ?_⟩⟩, (below_setCells g _ _ _).mono hBg, ?_⟩
    · rw [List.length_append, hm]
    · rcases Nat.lt_or_ge i l.length with h1 | h1
      · exact hcell i h1
      · exact hcell2 i h1 hi
    · exact World.isSome_setCells g (bc new) _ w _ (hf i hi).1
    · exact (World.frozen?_setCells g _ _ _ _).trans (hf i hi).2
    · refine ⟨fun b off d hb hne hrd => ?_, fun k _ hne => hne⟩
      have hbg : b ≠ g := fun h => hne (by rw [h]; rfl)
      rcases hrd with h | ⟨b', off', e, hlt', hc'⟩
      · exact .inl h
      · cases e
        exact .inr ⟨b, off, rfl, Nat.lt_of_lt_of_le hlt' (below_setCells g _ _ _).size, fun i hi => (World.cell?_setCells_out g (bc new) (0 + l.length * 1) w ⟨b, off + i, none⟩ (fun h _ => absurd h hbg)).trans (hc' i hi)⟩
  · have hold : (Builtin.firstCells i.size l.length (.slice (some ⟨g, 0, none⟩) l.length cap)).run Tryz.prog w.drew = .ok (bc l).toArray w.drew := by
      refine run_firstCells_some w.drew i.size l.length ⟨g, 0, none⟩ l.length cap (bc l) (by rw [bc_len, hsize]; omega) (fun j u hj => ?_)
      have hjl : j < l.length := by
        rcases Nat.lt_or_ge j l.length with h | h
        · exact h
        · rw [List.getElem?_eq_none (by rw [bc_len]; exact h)] at hj; cases hj
      rw [bc_get hjl] at hj
      cases hj
      rw [Addr.add_lit, Nat.zero_add]
      exact hc j (by omega)
    have hrun := run_append_grow_src (P := Tryz.prog) (w := w) 22 tx ty 5 i (.int .u8 0) Tryz.underlying22 hi hz (some ⟨g, 0, none⟩) l.length cap (bc l) hold x n (bc new) (by rw [hsize]; exact hsrc) (by omega) (by omega) (growslice_fits (by omega) (by rw [hby]; omega))
    have hown : Own (w.drew.alloc (.cells (((bc l) ++ (bc new)).toArray ++ Builtin.zeroCells (Value.int .u8 0).cells (grownCap w (l.length + n) cap 5 - (l.length + n))) 5)) w.heap.size (.slice (some ⟨w.heap.size, 0, none⟩) (l.length + n) (grownCap w (l.length + n) cap 5)) (l ++ new) := by
      unfold Own
      rw [bc_app, List.length_append, hm]
      have hlen : (bc l ++ bc new).length = (l.length + n) * 1 := by rw [List.length_append, bc_len, bc_len, hm]; omega
      refine ⟨hlen, .inr ⟨w.heap.size, _, _, rfl, Nat.le_refl _, heap_alloc_new w.drew _, grownCap_ge w (l.length + n) cap 5, grownCap_le_maxLen w (l.length + n) cap 5 (by unfold maxLen; omega), ?_, ?_⟩⟩
      · have := grownCap_ge w (l.length + n) cap 5
        simp only [Array.size_append, List.size_toArray, size_zeroCells, hlen]
        show (l.length + n) * 1 + (grownCap w (l.length + n) cap 5 - (l.length + n)) * 1 = _
        omega
      · simp only [Array.toList_append]
        rw [← hlen]
        exact List.take_left
    refine ⟨_, _, hrun, (Gr.own hown (by rw [List.length_append]; omega)).low hB, ?_⟩
    refine ⟨((Below.refl _ _).drew).alloc hB _, fun b off d hb _ hrd => hrd.below (((Below.refl _ _).drew).alloc (Nat.le_refl _) _), fun k hk _ h => ?_⟩
    simp [Value.ownBlock] at h
    omega
theorem run_app_gr {w : World} {B : Nat} {v : Value} {l : List Nat} (hv : Gr w B v l) (tx ty : TypeId) (x : Value) (n : Nat) (new : List Nat) (hsrc : Go.Src Tryz.prog 1 tx x n (bc new) w) (hm : new.length = n) (hsz : l.length + n ≤ 1073741824) (hB : B ≤ w.heap.size) :
    ∃ v' w1, (Builtin.append_ #[22, tx] ty #[v, x]).run Tryz.prog w = .ok v' w1 ∧ Gr w1 B v' (l ++ new) ∧ Below B w w1 := by
  obtain ⟨v', w1, h1, h2, h3, -⟩ := run_app_grK hv tx ty x n new hsrc hm hsz hB
  exact ⟨v', w1, h1, h2, h3⟩

/-- AN APPEND OUTSIDE A REGION THAT DRAWS. -/
theorem wpList_app_grx {w : World} {ops : Array Oper} {rest : List Oper} {o : Oper} {a : Act} {Q : Exit → Act → World → Prop} (hgd : o.guard = none) (s x : Operand) (tx : TypeId)
    (ho : o.op = .call { callee := .builtin .append, args := #[s, x], argTypes := #[22, tx] })
    (B : Nat) (v : Value) (l : List Nat) (hs : a.eval s = v) (hv : Gr w B v l) (xv : Value) (n : Nat) (new : List Nat) (hx : a.eval x = xv) (hsrc : Go.Src Tryz.prog 1 tx xv n (bc new) w) (hm : new.length = n) (hsz : l.length + n ≤ 1073741824) (hB : B ≤ w.heap.size)
    (h : ∀ v' w1, Gr w1 B v' (l ++ new) → Below B w w1 → wpList Tryz.prog ops Q rest (a.put o.dst v') w1) : wpList Tryz.prog ops Q (o :: rest) a w := by
  refine wpList_plain hgd fun K hK => ?_
  obtain ⟨v', w1, hrun, h1, h2⟩ := run_app_gr hv tx o.type xv n new hsrc hm hsz hB
  unfold Oper.wp
  simp [execOp, ho, resolve, invoke, builtin, hs, hx, hrun, Result.andThen]
  exact hK _ _ (h v' w1 h1 h2)
/-- AN APPEND AT A STEP OF A REGION THAT DRAWS ITS ORDER. -/
theorem step_app_grx {w : World} {ops : Array Oper} {o : Oper} {a : Act} {K : Act → World → Prop} {Q : Exit → Act → World → Prop} {E : Prop} (hgd : o.guard = none) (s x : Operand) (tx : TypeId)
    (ho : o.op = .call { callee := .builtin .append, args := #[s, x], argTypes := #[22, tx] })
    (B : Nat) (v : Value) (l : List Nat) (hs : a.eval s = v) (hv : Gr w B v l) (xv : Value) (n : Nat) (new : List Nat) (hx : a.eval x = xv) (hsrc : Go.Src Tryz.prog 1 tx xv n (bc new) w) (hm : new.length = n) (hsz : l.length + n ≤ 1073741824) (hB : B ≤ w.heap.size)
    (h : ∀ v' w1, Gr w1 B v' (l ++ new) → Below B w w1 → Kp w w1 v v' → K (a.put o.dst v') w1) : if Region.wanted o (yielded ops a.tmps) = true then Oper.wp Tryz.prog o a w K Q else E := by
  have hw : Region.wanted o (yielded ops a.tmps) = true := by simp [Region.wanted, hgd]
  rw [if_pos hw]
  obtain ⟨v', w1, hrun, h1, h2, h3⟩ := run_app_grK hv tx o.type xv n new hsrc hm hsz hB
  unfold Oper.wp
  simp [execOp, ho, resolve, invoke, builtin, hs, hx, hrun, Result.andThen]
  exact h v' w1 h1 h2 h3
theorem src_slice {w : World} {a : Option Addr} {n cap : Nat} {l : List Nat} (hl : l.length = n) (hr : Rd w a l) (hn : a = none → n = 0) : Go.Src Tryz.prog 1 22 (.slice a n cap) n (bc l) w := by
  cases a with
  | none =>
    obtain rfl : n = 0 := hn rfl
    obtain rfl : l = [] := List.length_eq_zero_iff.1 hl
    exact Src.ofNil w Tryz.underlying22 cap
  | some ad =>
    refine Src.ofSlice w Tryz.underlying22 ad n cap (bc l) (by rw [bc_len]; omega) (fun j u hj => ?_) (bc_one l)
    have hjl : j < l.length := by
      rcases Nat.lt_or_ge j l.length with h | h
      · exact h
      · rw [List.getElem?_eq_none (by rw [bc_len]; exact h)] at hj; cases hj
    rw [bc_get hjl] at hj
    cases hj
    obtain ⟨b, off, e, -, hc⟩ := hr.at_ (by omega)
    cases e
    rw [Go.WideShapes.add_plain]
    exact hc j hjl
end Go.Proofs.YtaefomiofoakhaaGreatDoor

namespace Go.Proofs.YtaefomiofoakhaaGreatDoor
open Go.RowKit

/-- The byte of a cyrillic character, or -1. -/
def cyr (c : Int) : Int := if 0 ≤ c ∧ c ≤ 160 ∨ c = 173 then c else if c = 167 then 253 else if c = 8470 then 240 else if 1025 ≤ c ∧ c ≤ 1119 ∧ c ≠ 1037 ∧ c ≠ 1104 ∧ c ≠ 1117 then c - 864 else -1
theorem cyr_same {c : Int} (h : 0 ≤ c ∧ c ≤ 160 ∨ c = 173) : cyr c = c := if_pos h
theorem cyr_167 : cyr 167 = 253 := by decide
theorem cyr_8470 : cyr 8470 = 240 := by decide
theorem cyr_far {c : Int} (h : 1025 ≤ c ∧ c ≤ 1119 ∧ c ≠ 1037 ∧ c ≠ 1104 ∧ c ≠ 1117) : cyr c = c - 864 := by
  unfold cyr; rw [if_neg (by omega), if_neg (by omega), if_neg (by omega), if_pos h]
theorem cyr_none {c : Int} (h1 : ¬ (0 ≤ c ∧ c ≤ 160 ∨ c = 173)) (h2 : c ≠ 167) (h3 : c ≠ 8470) (h4 : ¬ (1025 ≤ c ∧ c ≤ 1119 ∧ c ≠ 1037 ∧ c ≠ 1104 ∧ c ≠ 1117)) : cyr c = -1 := by
  unfold cyr; rw [if_neg h1, if_neg h2, if_neg h3, if_neg h4]
/-- Has a charset (1 to 5) this character? -/
def hasC (cs c : Int) : Bool := if cs = 1 then decide (c ≤ 127) else if cs = 2 then decide (c ≤ 255) else if cs = 3 then decide (0 ≤ cyr c) else true

theorem cyr_pos {c : Int} : (0 ≤ cyr c) ↔ (0 ≤ c ∧ c ≤ 160 ∨ c = 173 ∨ c = 167 ∨ c = 8470 ∨ 1025 ≤ c ∧ c ≤ 1119 ∧ c ≠ 1037 ∧ c ≠ 1104 ∧ c ≠ 1117) := by
  unfold cyr
  split
  · omega
  · split
    · omega
    · split
      · omega
      · split <;> omega
end Go.Proofs.YtaefomiofoakhaaGreatDoor

namespace Go.Proofs.YtaefomiofoakhaaGreatDoor
open Go.RowKit

theorem cs_cases {cs : Int} (h : 1 ≤ cs ∧ cs ≤ 5) : cs = 1 ∨ cs = 2 ∨ cs = 3 ∨ cs = 4 ∨ cs = 5 := by omega
set_option maxHeartbeats 1600000 in
theorem l2Cyrillic_any (c : Int) (w : World) : Calls Tryz.prog 100 #[.int .i64 c] w fun e w' => e = .returned (.int .i64 (cyr c)) ∧ w = w' := by
  by_cases h1 : 0 ≤ c ∧ c ≤ 160
  · have h1' : decide (0 ≤ c ∧ c ≤ 160) = true := decide_eq_true h1
    rw [cyr_same (.inl h1)]
    go_enter Tryz.func100, Tryz.ntmps100
    go_wp2_with (first | (go_at_call 52; refine (l1In_any _ _ _ _).mono ?_; rintro e w' ⟨rfl, rfl⟩; rw [h1']))
    go_ret
    exact ret_int rfl
  · have h1' : decide (0 ≤ c ∧ c ≤ 160) = false := decide_eq_false h1
    by_cases h2 : c = 173
    · subst h2
      rw [cyr_same (.inr rfl)]
      go_enter Tryz.func100, Tryz.ntmps100
      go_wp2_with (first | (go_at_call 52; refine (l1In_any _ _ _ _).mono ?_; rintro e w' ⟨rfl, rfl⟩; rw [h1']))
      go_ret
      exact ret_int rfl
    · by_cases h3 : c = 167
      · subst h3
        rw [cyr_167]
        go_enter Tryz.func100, Tryz.ntmps100
        go_wp2_with (first | (go_at_call 52; refine (l1In_any _ _ _ _).mono ?_; rintro e w' ⟨rfl, rfl⟩; rw [h1']))
        go_ret
        exact ret_int rfl
      · by_cases h4 : c = 8470
        · subst h4
          rw [cyr_8470]
          go_enter Tryz.func100, Tryz.ntmps100
          go_wp2_with (first | (go_at_call 52; refine (l1In_any _ _ _ _).mono ?_; rintro e w' ⟨rfl, rfl⟩; rw [h1']))
          go_ret
          exact ret_int rfl
        · by_cases h5 : 1025 ≤ c ∧ c ≤ 1119
          · have h5' : decide (1025 ≤ c ∧ c ≤ 1119) = true := decide_eq_true h5
            by_cases h6 : c ≠ 1037 ∧ c ≠ 1104 ∧ c ≠ 1117
            · obtain ⟨h61, h62, h63⟩ := h6
              have H : Hid (cyr c = c - 864) := cyr_far ⟨h5.1, h5.2, h61, h62, h63⟩
              rw [H.out]
              clear H
              have e1 : (c != 1037) = true := by simpa using h61
              have e2 : (c != 1104) = true := by simpa using h62
              have e3 : (c != 1117) = true := by simpa using h63
              go_enter Tryz.func100, Tryz.ntmps100
              go_wp2_with (first | (go_at_call 52; refine (l1In_any _ _ _ _).mono ?_; rintro e w' ⟨rfl, rfl⟩; first | rw [h1'] | rw [h5']))
              go_ret
              exact ret_int rfl
            · have H : Hid (cyr c = -1) := cyr_none (by omega) h3 h4 (by omega)
              rw [H.out]
              clear H
              have h7 : c = 1037 ∨ c = 1104 ∨ c = 1117 := by omega
              clear h1 h5 h6
              rcases h7 with rfl | rfl | rfl
              all_goals
                go_enter Tryz.func100, Tryz.ntmps100
                go_wp2_with (first | (go_at_call 52; refine (l1In_any _ _ _ _).mono ?_; rintro e w' ⟨rfl, rfl⟩; first | rw [h1'] | rw [h5']))
                go_ret
                exact ret_int rfl
          · have h5' : decide (1025 ≤ c ∧ c ≤ 1119) = false := decide_eq_false h5
            have H : Hid (cyr c = -1) := cyr_none (by omega) h3 h4 (by omega)
            rw [H.out]
            clear H
            go_enter Tryz.func100, Tryz.ntmps100
            go_wp2_with (first | (go_at_call 52; refine (l1In_any _ _ _ _).mono ?_; rintro e w' ⟨rfl, rfl⟩; first | rw [h1'] | rw [h5']))
            go_ret
            exact ret_int rfl

set_option maxHeartbeats 1600000 in
theorem l2Has_any (cs c : Int) (w : World) (h0 : 0 ≤ c) : Calls Tryz.prog 87 #[.int .i64 cs, .int .i64 c] w fun e w' => e = .returned (.bool (hasC cs c)) ∧ w = w' := by
  by_cases h1 : cs = 1
  · subst h1
    go_enter Tryz.func87, Tryz.ntmps87
    go_wp2_with (first | (go_at_call 52; refine (l1In_any _ _ _ _).mono ?_; rintro e w' ⟨rfl, rfl⟩))
    go_ret
    refine ret_bool ?_
    simp [hasC]
  · by_cases h2 : cs = 2
    · subst h2
      go_enter Tryz.func87, Tryz.ntmps87
      go_wp2_with (first | (go_at_call 52; refine (l1In_any _ _ _ _).mono ?_; rintro e w' ⟨rfl, rfl⟩))
      go_ret
      refine ret_bool ?_
      simp [hasC]
    · by_cases h3 : cs = 3
      · subst h3
        go_enter Tryz.func87, Tryz.ntmps87
        go_wp2_with (first | (go_at_call 100; refine (l2Cyrillic_any _ _).mono ?_; rintro e w' ⟨rfl, rfl⟩))
        go_ret
        refine ret_bool ?_
        simp [hasC]
      · have H : Hid (hasC cs c = true) := by unfold Hid hasC; rw [if_neg h1, if_neg h2, if_neg h3]
        rw [H.out]
        clear H
        go_enter Tryz.func87, Tryz.ntmps87
        go_wp2
        go_ret
        exact ret_bool rfl

end Go.Proofs.YtaefomiofoakhaaGreatDoor

namespace Go.Proofs.YtaefomiofoakhaaGreatDoor
open Go.RowKit

theorem all_bad {p : Int → Bool} {l : List Int} {k : Nat} (h : k < l.length) (hb : p (nthI l k) = false) : l.all p = false := by
  rw [List.all_eq_false]
  exact ⟨nthI l k, by rw [nthI_get h]; exact List.getElem_mem h, by rw [hb]; simp⟩
theorem all_step {p : Int → Bool} {l : List Int} {k : Nat} (h : k < l.length) (h0 : (l.take k).all p = true) (hb : p (nthI l k) = true) : (l.take (k + 1)).all p = true := by
  rw [take_snocI l k h, List.all_append, h0]
  simp [hb]
theorem all_end {p : Int → Bool} {l : List Int} {n : Nat} (hl : l.length = n) (h0 : (l.take n).all p = true) : l.all p = true := by
  rw [← hl, List.take_length] at h0
  exact h0
theorem nthI_mem {l : List Int} {k : Nat} (h : k < l.length) : nthI l k ∈ l := by rw [nthI_get h]; exact List.getElem_mem h


def cyB (c : Int) : Bool := decide (0 ≤ cyr c)
end Go.Proofs.YtaefomiofoakhaaGreatDoor

namespace Go.Proofs.YtaefomiofoakhaaGreatDoor
open Go.RowKit

/-- The bytes of a character in utf-8. -/
def u8L (k : Nat) : List Nat := if k < 128 then [k] else if k < 2048 then [192 + k / 64, 128 + k % 64] else [224 + k / 4096, 128 + k / 64 % 64, 128 + k % 64]
theorem u8L_one {k : Nat} (h : k < 128) : u8L k = [k] := if_pos h
theorem u8L_two {k : Nat} (h : ¬ k < 128) (h2 : k < 2048) : u8L k = [192 + k / 64, 128 + k % 64] := by unfold u8L; rw [if_neg h, if_pos h2]
theorem u8L_three {k : Nat} (h : ¬ k < 128) (h2 : ¬ k < 2048) : u8L k = [224 + k / 4096, 128 + k / 64 % 64, 128 + k % 64] := by unfold u8L; rw [if_neg h, if_neg h2]
/-- The bytes of a character that a charset has. -/
def tellL (cs c : Int) : List Nat := if cs = 3 then [(cyr c).toNat] else if cs = 4 then u8L c.toNat else if cs = 5 then [c.toNat / 256, c.toNat % 256] else [c.toNat]

/-- What a call that lays bytes behind others leaves. -/
def Laid (B : Nat) (l : List Nat) (w : World) (e : Ending) (w' : World) : Prop := ∃ v', e = .returned v' ∧ Own w' B v' l ∧ Below B w w'

end Go.Proofs.YtaefomiofoakhaaGreatDoor

namespace Go.Proofs.YtaefomiofoakhaaGreatDoor
open Go.RowKit

theorem flat_step {f : Int → List Nat} {l : List Int} {k : Nat} (h : k < l.length) : (l.take (k + 1)).flatMap f = (l.take k).flatMap f ++ f (nthI l k) := by
  rw [take_snocI l k h, List.flatMap_append]; simp
theorem flat_end {f : Int → List Nat} {l : List Int} {n : Nat} (h : l.length = n) : (l.take n).flatMap f = l.flatMap f := by rw [← h, List.take_length]
theorem u8L_len (k : Nat) : 1 ≤ (u8L k).length ∧ (u8L k).length ≤ 3 := by
  unfold u8L; split
  · simp
  · split <;> simp
theorem tellL_len (cs c : Int) : 1 ≤ (tellL cs c).length ∧ (tellL cs c).length ≤ 3 := by
  unfold tellL; split
  · simp
  · split
    · exact u8L_len _
    · split <;> simp
theorem flat_len (cs : Int) : ∀ l : List Int, l.length ≤ (l.flatMap (tellL cs)).length ∧ (l.flatMap (tellL cs)).length ≤ 3 * l.length
  | [] => by simp
  | c :: l => by
    have h1 := tellL_len cs c
    have h2 := flat_len cs l
    rw [List.flatMap_cons, List.length_append, List.length_cons]
    omega
theorem tellL_1 (c : Int) : tellL 1 c = [c.toNat] := by simp [tellL]
theorem tellL_2 (c : Int) : tellL 2 c = [c.toNat] := by simp [tellL]
theorem tellL_3 (c : Int) : tellL 3 c = [(cyr c).toNat] := by simp [tellL]
theorem tellL_4 (c : Int) : tellL 4 c = u8L c.toNat := by simp [tellL]
theorem tellL_5 (c : Int) : tellL 5 c = [c.toNat / 256, c.toNat % 256] := by simp [tellL]


end Go.Proofs.YtaefomiofoakhaaGreatDoor
