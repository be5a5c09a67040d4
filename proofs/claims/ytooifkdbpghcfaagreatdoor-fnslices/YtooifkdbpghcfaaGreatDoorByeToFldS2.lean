/- An answer with bytes of the call's own · Each helper of the laws over slices of bytes does what its text says: it copies one, and holds two against each other; slices of at most 1048576 bytes · The inner functions of chapter 6 that see a code, or a copy · The model's copy of bytes · Which numbers are characters, and which lie between two others: plain functions; at every number · SliceOf, the program's and the model's: by one plain function · A slice of fields that came in: what the row tells of it gives its cells; no program in it · The laws' helpers over slices of fields: they copy one, reckon its size, and hold two against each other · More of the laws' helpers over slices of fields: a slice's size, and whether two are the same. -/
import Derived.Test.YtooifkdbpghcfaaGreatDoorJfzToAppI
import Derived.Test.YtooifkdbpghcfaaGreatDoorMrk0ToSee
import Derived.Laws.CopyOwn
import Derived.Test.YtooifkdbpghcfaaGreatDoorProg
import Derived.WalkKit
import Derived.Handy
import Derived.Below
import Derived.ChangeArms
import Derived.DataReads
import Derived.Deep.RegionHeld3
namespace Go.Proofs.YtooifkdbpghcfaaGreatDoor
open Go.RowKit

theorem Own.lower {w : World} {B C : Nat} {v : Value} {l : List Nat} (h : Own w B v l) (hC : C ≤ B) : Own w C v l := by
  refine ⟨h.1, ?_⟩
  rcases h.2 with h' | ⟨g, cap, cur, h1, h2, h3⟩
  · exact .inl h'
  · exact .inr ⟨g, cap, cur, h1, Nat.le_trans hC h2, h3⟩
theorem Own.kept {w : World} {B : Nat} {v : Value} {l : List Nat} (h : Own w B v l) (p : Addr) (hp : p.block < B) (u : Value) : Own (w.setCell p u) B v l := ownsRow_setCell_below h hp u

/-- An answer with bytes. -/
def BytEnd (r : Int × List Nat) (w : World) (e : Ending) (w' : World) : Prop := ∃ v, e = .returned (.agg #[.int .i64 r.1, v]) ∧ Own w' w.heap.size v r.2 ∧ Below w.heap.size w w'
theorem BytEnd.code {c : Int} {w w1 : World} (hbel : Below w.heap.size w w1) (x y : Value) : BytEnd (c, []) w (.returned (.agg #[.int .i64 c, .slice none 0 0])) ((w1.setCell ⟨w.heap.size, 0, none⟩ x).setCell ⟨w.heap.size, 1, none⟩ y) :=
  ⟨_, rfl, Own.nil _ _, (hbel.setCell (by simp) _).setCell (by simp) _⟩
theorem BytEnd.some {c : Int} {w w1 : World} {v : Value} {l : List Nat} (hbel : Below w.heap.size w w1) (hown : Own w1 (w.heap.size + 1) v l) (x y : Value) : BytEnd (c, l) w (.returned (.agg #[.int .i64 c, v])) ((w1.setCell ⟨w.heap.size, 0, none⟩ x).setCell ⟨w.heap.size, 1, none⟩ y) :=
  ⟨_, rfl, ((hown.kept _ (by simp) _).kept _ (by simp) _).lower (by omega), (hbel.setCell (by simp) _).setCell (by simp) _⟩
end Go.Proofs.YtooifkdbpghcfaaGreatDoor

namespace Go.Proofs.YtooifkdbpghcfaaGreatDoor
open Go.RowKit

end Go.Proofs.YtooifkdbpghcfaaGreatDoor

namespace Go.Proofs.YtooifkdbpghcfaaGreatDoor
open Go.RowKit

theorem mustSee_ok (w : World) : Calls Tryz.prog 63 #[.int .i64 0] w fun e w' => e = .returned (.tuple #[]) ∧ w = w' := by
  go_enter Tryz.func63, Tryz.ntmps63
  go_wp2
  go_end0
  exact ⟨rfl, rfl⟩
theorem mustSee_bad (c : Int) (hc : c ≠ 0) (w : World) : Calls Tryz.prog 63 #[.int .i64 c] w fun e w' => e = .panicked [{ v := .iface 91 (.int .i64 c), recovered := false }] ∧ w = w' := by
  have h1 : (c != 0) = true := by simpa using hc
  go_enter Tryz.func63, Tryz.ntmps63
  go_wp2
  exact ⟨rfl, rfl, rfl⟩
theorem bytesIn_ok (a : Option Addr) (n cp : Nat) (w : World) : Calls Tryz.prog 44 #[.agg #[.int .i64 0, .slice a n cp]] w fun e w' => e = .returned (.slice a n cp) ∧ Below w.heap.size w w' := by
  go_enter Tryz.func44, Tryz.ntmps44
  go_wp2_with fail
  refine (mustSee_ok _).mono ?_
  rintro e w1 ⟨rfl, rfl⟩
  go_wp2
  go_ret
  exact ⟨rfl, by go_grown⟩
theorem bytesIn_bad (c : Int) (hc : c ≠ 0) (a : Option Addr) (n cp : Nat) (w : World) : Calls Tryz.prog 44 #[.agg #[.int .i64 c, .slice a n cp]] w fun e w' => e = .panicked [{ v := .iface 91 (.int .i64 c), recovered := false }] ∧ Below w.heap.size w w' := by
  go_enter Tryz.func44, Tryz.ntmps44
  go_wp2_with fail
  refine (mustSee_bad c hc _).mono ?_
  rintro e w1 ⟨rfl, rfl⟩
  exact ⟨rfl, rfl, by go_grown⟩
theorem codesIn_ok (a : Option Addr) (n cp : Nat) (w : World) : Calls Tryz.prog 71 #[.agg #[.int .i64 0, .slice a n cp]] w fun e w' => e = .returned (.slice a n cp) ∧ Below w.heap.size w w' := by
  go_enter Tryz.func71, Tryz.ntmps71
  go_wp2_with fail
  refine (mustSee_ok _).mono ?_
  rintro e w1 ⟨rfl, rfl⟩
  go_wp2
  go_ret
  exact ⟨rfl, by go_grown⟩
theorem codesIn_bad (c : Int) (hc : c ≠ 0) (a : Option Addr) (n cp : Nat) (w : World) : Calls Tryz.prog 71 #[.agg #[.int .i64 c, .slice a n cp]] w fun e w' => e = .panicked [{ v := .iface 91 (.int .i64 c), recovered := false }] ∧ Below w.heap.size w w' := by
  go_enter Tryz.func71, Tryz.ntmps71
  go_wp2_with fail
  refine (mustSee_bad c hc _).mono ?_
  rintro e w1 ⟨rfl, rfl⟩
  exact ⟨rfl, rfl, by go_grown⟩
/-- Bytes that are seen, or a code that is thrown. -/
def SeeB (r : Int × List Nat) (w : World) (e : Ending) (w' : World) : Prop := ((r.1 = 0 ∧ ∃ v, e = .returned v ∧ Own w' w.heap.size v r.2) ∨ (r.1 ≠ 0 ∧ e = .panicked [{ v := .iface 91 (.int .i64 r.1), recovered := false }])) ∧ Below w.heap.size w w'
/-- Numbers that are seen, or a code that is thrown. -/
def SeeI (r : Int × List Int) (w : World) (e : Ending) (w' : World) : Prop := ((r.1 = 0 ∧ ∃ v, e = .returned v ∧ OwnI w' w.heap.size v r.2) ∨ (r.1 ≠ 0 ∧ e = .panicked [{ v := .iface 91 (.int .i64 r.1), recovered := false }])) ∧ Below w.heap.size w w'

theorem row_of {w : World} {B e g n : Nat} {xs : List Value} (h : w.ownsRow B e 1 (.slice (some ⟨g, 0, none⟩) n n) n xs) : ∃ cur : List Value, w.heap[g]? = some (.cells cur.toArray e (0, 0)) ∧ cur.length = n := by
  rcases h.2 with ⟨h', _⟩ | ⟨g', cap, cur, h1, _, h3, _, _, h6, _⟩
  · cases h'
  · injection h1 with h1 _ h2
    injection h1 with h1
    injection h1 with h1
    subst h1 h2
    exact ⟨cur.toList, by simpa using h3, by simpa using h6⟩

set_option maxHeartbeats 800000 in
set_option maxRecDepth 100000 in
theorem copied_any (a : Option Addr) (n cap : Nat) (l : List Nat) (w : World) (hl : l.length = n) (hr : Rd w a l) (hn : n ≤ 1048576) :
    Calls Tryz.prog 60 #[.slice a n cap] w fun e w' => ∃ v, e = .returned v ∧ Own w' w.heap.size v l ∧ Below w.heap.size w w' := by
  obtain ⟨i0, hi, hz0, hz1, hz2⟩ := info_parts infoB
  have hsz1 : (Tryz.prog.info? 5).map (·.size) = some 1 := by rw [hi]; simp [hz1]
  have HP : Hid (∀ w0, Below w.heap.size w w0 → 0 < (bc l).length → ∃ ad, a = some ad ∧ ∀ j v, (bc l)[j]? = some v → w0.cell? (ad.add j) = some v) := fun w0 hb hp => by
    rw [bc_len] at hp
    obtain ⟨b, off, rfl, hlt, hc⟩ := hr.at_ hp
    refine ⟨_, rfl, fun j v hj => ?_⟩
    have hjl : j < l.length := by
      rcases Nat.lt_or_ge j l.length with hlt | hge
      · exact hlt
      · rw [List.getElem?_eq_none (by rw [bc_len]; exact hge)] at hj; cases hj
    rw [bc_get hjl] at hj
    cases hj
    rw [Go.WideShapes.add_plain]
    exact (hb.cell (p := ⟨b, off + j, none⟩) hlt).trans (hc j hjl)
  have HS : Hid (∀ cur : List Value, cur.length = n → splice cur 0 (bc l) = bc l) := fun cur hc => by
    unfold splice
    rw [List.drop_of_length_le (by rw [bc_len]; omega)]; simp
  have hbl : (bc l).length = n := by rw [bc_len, hl]
  go_enter Tryz.func60, Tryz.ntmps60
  go_wp2_with (first
    | (at_make; refine wpList_make_full _ rfl _ _ 22 rfl w.heap.size 5 i0 (.int .u8 0) 1 Tryz.underlying22 hi hz0 hz1 .i64 .i64 _ _ n rfl rfl rfl rfl (by rw [hz2]; omega) (by unfold maxLen; omega) (Nat.le_refl _) ?_; intro w0 hown0 hgrow0; obtain ⟨cur, hg, hcl⟩ := row_of hown0; have hb0 : Below w.heap.size w w0 := (Below.refl _ _).grown hgrow0 (Nat.le_refl _) (by intro k hk; cases hk); clear hown0 hgrow0)
    | (refine wpList_copy_splice rfl _ _ 22 22 rfl 5 Tryz.underlying22 hsz1 (some ⟨w.heap.size, 0, none⟩) a n n n cap rfl rfl w.heap.size 0 cur 5 hg (bc l) (by rw [hbl]; exact (Nat.min_self n).symm) (fun hp => ⟨rfl, HP.out _ hb0 hp⟩) (by omega) (bc_one l) w.heap.size w hb0 (Nat.le_refl _) ?_; intro w1 hg1 hb1; have hg1' := hg1.out; rw [HS.out cur hcl] at hg1'; have HO : Hid (Own w1 w.heap.size (.slice (some ⟨w.heap.size, 0, none⟩) n n) l) := (by unfold Hid Own; rw [hl]; exact ⟨by rw [hbl]; simp, .inr ⟨w.heap.size, n, (bc l).toArray, rfl, Nat.le_refl _, hg1', Nat.le_refl _, by unfold maxLen; omega, by simp [hbl], by rw [List.take_of_length_le (by simp [hbl])]⟩⟩); clear hg1 hg1' hg HP HS))
  go_wp2
  go_ret
  exact ⟨_, rfl, HO.out, hb1⟩
end Go.Proofs.YtooifkdbpghcfaaGreatDoor

namespace Go.Proofs.YtooifkdbpghcfaaGreatDoor
open Go.RowKit

set_option maxHeartbeats 800000 in
set_option maxRecDepth 100000 in
theorem l1Copy_any (b off n cap : Nat) (l : List Nat) (w : World) (hl : l.length = n) (hr : Rd w (some ⟨b, off, none⟩) l) (hn : n ≤ 1048576) :
    Calls Tryz.prog 32 #[.slice (some ⟨b, off, none⟩) n cap] w fun e w' => ∃ v, e = .returned v ∧ Own w' w.heap.size v l ∧ Below w.heap.size w w' := by
  have HC : Hid (∀ j, j < n → (w.alloc (.cells #[] 5)).cell? ((⟨b, off, none⟩ : Addr).add j) = some (.int .u8 (nth l j : Int))) := fun j hj => by
    obtain ⟨b', off', e, -, hc⟩ := (hr.below ((Below.refl _ w).alloc (Nat.le_refl _) (.cells #[] 5))).at_ (by omega)
    cases e
    rw [Go.WideShapes.add_plain]
    exact hc j (by omega)
  go_enter Tryz.func32, Tryz.ntmps32
  go_wp2_with (at_builtin; refine wpList_app rfl _ _ rfl w.heap.size _ [] rfl (Own.lit w w.heap.size (Nat.le_refl _) #[] [] rfl (Nat.zero_le _)) ⟨b, off, none⟩ n cap l rfl hl HC.out (by simp; omega) (by simp) ?_; intro v' w1 hown' hb')
  have hb : Below w.heap.size w w1 := ((Below.refl _ _).alloc (Nat.le_refl _) _).trans hb'
  obtain ⟨a, cp, hv, -, -⟩ := hown'.form
  subst hv
  go_wp2
  go_ret
  exact ⟨_, rfl, hown', hb⟩
end Go.Proofs.YtooifkdbpghcfaaGreatDoor

namespace Go.Proofs.YtooifkdbpghcfaaGreatDoor
open Go.RowKit

/-- A character. -/
def chr (c : Int) : Bool := decide (0 ≤ c ∧ c ≤ 65535 ∧ (c < 55296 ∨ 57343 < c))
theorem chr_iff {c : Int} : chr c = true ↔ (0 ≤ c ∧ c ≤ 65535 ∧ (c < 55296 ∨ 57343 < c)) := decide_eq_true_iff
theorem ret_bool {b b' : Bool} {w : World} (h : b = b') : Ending.returned (Value.bool b) = .returned (.bool b') ∧ w = w := ⟨by rw [h], rfl⟩
theorem ret_int {b b' : Int} {w : World} (h : b = b') : Ending.returned (Value.int .i64 b) = .returned (.int .i64 b') ∧ w = w := ⟨by rw [h], rfl⟩

theorem ret_boolB {b b' : Bool} {w w' : World} {n : Nat} (h : b = b') (hb : Below n w w') : Ending.returned (Value.bool b) = .returned (.bool b') ∧ Below n w w' := ⟨by rw [h], hb⟩

theorem isCharacter_any (c : Int) (w : World) : Calls Tryz.prog 76 #[.int .i64 c] w fun e w' => e = .returned (.bool (chr c)) ∧ w = w' := by
  go_enter Tryz.func76, Tryz.ntmps76
  go_wp2
  all_goals (go_ret; refine ret_bool ?_; rw [Bool.eq_iff_iff, chr_iff]; simp; try omega)

theorem l1In_any (c a b : Int) (w : World) : Calls Tryz.prog 30 #[.int .i64 c, .int .i64 a, .int .i64 b] w fun e w' => e = .returned (.bool (decide (a ≤ c ∧ c ≤ b))) ∧ w = w' := by
  go_enter Tryz.func30, Tryz.ntmps30
  go_wp2
  all_goals (go_ret; refine ret_bool ?_; rw [Bool.eq_iff_iff]; simp; try omega)

theorem l2Char_any (c : Int) (w : World) : Calls Tryz.prog 91 #[.int .i64 c] w fun e w' => e = .returned (.bool (chr c)) ∧ w = w' := by
  go_enter Tryz.func91, Tryz.ntmps91
  go_wp2_with (first | (go_at_call 30; refine (l1In_any _ _ _ _).mono ?_; rintro e w' ⟨rfl, rfl⟩))
  all_goals (go_ret; refine ret_bool ?_; rw [Bool.eq_iff_iff, chr_iff]; simp; try omega)
end Go.Proofs.YtooifkdbpghcfaaGreatDoor

namespace Go.Proofs.YtooifkdbpghcfaaGreatDoor
open Go.RowKit

/-- What SliceOf answers. -/
def sceV (d : List Nat) (f n : Int) : Int × List Nat := if 400 < d.length then (2, []) else if (0 ≤ f ∧ f ≤ 400) ∧ (0 ≤ n ∧ n ≤ 400) then (0, (d.take (min (f.toNat + n.toNat) d.length)).drop (min f.toNat d.length)) else (3, [])

theorem isBetween_s (c a b : Int) (w : World) : Calls Tryz.prog 59 #[.int .i64 c, .int .i64 a, .int .i64 b] w fun e w' => e = .returned (.bool (decide (a ≤ c ∧ c ≤ b))) ∧ w = w' := by
  by_cases h1 : a ≤ c
  · by_cases h2 : c ≤ b
    · rw [decide_eq_true (⟨h1, h2⟩ : a ≤ c ∧ c ≤ b)]
      go_enter Tryz.func59, Tryz.ntmps59
      go_wp2
      go_ret
      exact ⟨rfl, rfl⟩
    · rw [decide_eq_false (fun h : a ≤ c ∧ c ≤ b => h2 h.2)]
      go_enter Tryz.func59, Tryz.ntmps59
      go_wp2
      go_ret
      exact ⟨rfl, rfl⟩
  · rw [decide_eq_false (fun h : a ≤ c ∧ c ≤ b => h1 h.1)]
    go_enter Tryz.func59, Tryz.ntmps59
    go_wp2
    go_ret
    exact ⟨rfl, rfl⟩
theorem l1Min_s (x y : Int) (w : World) : Calls Tryz.prog 31 #[.int .i64 x, .int .i64 y] w fun e w' => e = .returned (.int .i64 (if x < y then x else y)) ∧ w = w' := by
  by_cases h : x < y
  · rw [if_pos h]
    go_enter Tryz.func31, Tryz.ntmps31
    go_wp2
    go_ret
    exact ⟨rfl, rfl⟩
  · rw [if_neg h]
    go_enter Tryz.func31, Tryz.ntmps31
    go_wp2
    go_ret
    exact ⟨rfl, rfl⟩

theorem rd_takeS {w : World} {a : Option Addr} {l : List Nat} (h : Rd w a l) (k : Nat) : Rd w a (l.take k) := by
  rcases h with h | ⟨b, off, h1, h2, h3⟩
  · subst h; exact .inl (by simp)
  · refine .inr ⟨b, off, h1, h2, fun i hi => ?_⟩
    rw [List.length_take] at hi
    have e : nth (l.take k) i = nth l i := by
      unfold nth
      rw [List.getD_eq_getElem?_getD, List.getD_eq_getElem?_getD, List.getElem?_take, if_pos (by omega)]
    rw [e]
    exact h3 i (by omega)


set_option maxHeartbeats 1600000 in
set_option maxRecDepth 100000 in
theorem sliceIn_any {cp : Nat} (b m : Nat) (d : List Nat) (f n : Int) (w : World) (hr : Rd w (some ⟨b, 0, none⟩) d) (hl : d.length = m) (hcp : m ≤ cp := by omega) :
    Calls Tryz.prog 29 #[.slice (some ⟨b, 0, none⟩) m cp, .int .i64 f, .int .i64 n] w (SeeB (sceV d f n) w) := by
  by_cases h4 : 400 < m
  · have h4' : (400 : Int) < (m : Int) := by omega
    have e : sceV d f n = (2, []) := if_pos (by omega)
    rw [e]
    go_enter Tryz.func29, Tryz.ntmps29
    go_wp2
    exact ⟨rfl, .inr ⟨by simp, rfl⟩, Below.refl _ _⟩
  · have h4' : ¬ (400 : Int) < (m : Int) := by omega
    by_cases hf : 0 ≤ f ∧ f ≤ 400
    · by_cases hn : 0 ≤ n ∧ n ≤ 400
      · obtain ⟨F, rfl⟩ : ∃ F : Nat, f = (F : Int) := ⟨f.toNat, by omega⟩
        obtain ⟨N, rfl⟩ : ∃ N : Nat, n = (N : Int) := ⟨n.toNat, by omega⟩
        have e : sceV d (F : Int) (N : Int) = (0, (d.take (min (F + N) m)).drop (min F m)) := by unfold sceV; rw [if_neg (by omega), if_pos ⟨hf, hn⟩, hl]; simp
        rw [e]
        have hF4 : F ≤ 400 := by omega
        have hN4 : N ≤ 400 := by omega
        have hFi : (F : Int) ≤ 400 := by omega
        have hNi : (N : Int) ≤ 400 := by omega
        have hF0 : (0 : Int) ≤ (F : Int) := by omega
        have hN0 : (0 : Int) ≤ (N : Int) := by omega
        clear e
        go_enter Tryz.func29, Tryz.ntmps29
        go_wp2_with fail
        refine (isBetween_s (F : Int) 0 400 _).mono ?_
        rintro e w1 ⟨rfl, rfl⟩
        rw [decide_eq_true hf]
        go_wp2_with fail
        refine (isBetween_s (N : Int) 0 400 _).mono ?_
        rintro e w1 ⟨rfl, rfl⟩
        rw [decide_eq_true hn]
        clear hf hn
        by_cases c1 : m < F
        · have c1' : (m : Int) < (F : Int) := by omega
          have c2' : (m : Int) < (F : Int) + (N : Int) := by omega
          have hmc : (m : Int) ≤ (cp : Int) := by omega
          have hcl : ((d.take (m)).drop (m)).length = m - (m) := by rw [List.length_drop, List.length_take]; omega
          have HL : (d.take (min (F + N) m)).drop (min F m) = (d.take (m)).drop (m) := by rw [show min F m = m by omega, show min (F + N) m = m by omega]
          have HR1 : Hid (Rd w (some ⟨b, m, none⟩) ((d.take (m)).drop (m))) := by
            have h := (rd_takeS hr (m)).drop (m)
            rw [Nat.zero_add] at h; exact h
          have HR0 : Hid (cp = m → Rd w (some ⟨b, 0, none⟩) ((d.take (m)).drop (m))) := fun hmf => by
            rw [List.length_eq_zero_iff.1 (show ((d.take (m)).drop (m)).length = 0 by omega)]; exact .inl rfl
          go_wp2_with fail
          case inl =>
            refine (copied_any _ _ _ ((d.take m).drop m) _ (by omega) (HR0.out (by first | trivial | omega)) (by omega)).mono ?_
            rintro e w1 ⟨v, rfl, ho, hb⟩
            have HO : Hid (Own w1 w.heap.size v ((d.take (min (F + N) m)).drop (min F m))) := by show Own _ _ _ _; rw [HL]; exact ho
            obtain ⟨a, cpv, hv, -, -⟩ := ho.form
            obtain ⟨K, hK⟩ : ∃ K, ((d.take m).drop m).length = K := ⟨_, rfl⟩
            rw [hK] at hv
            subst hv
            clear ho HR1 HR0 HL hcl hK
            go_wp2
            go_ret
            exact ⟨.inl ⟨rfl, _, rfl, HO.out⟩, hb⟩
          case inr =>
            refine (copied_any _ _ _ ((d.take m).drop m) _ (by omega) HR1.out (by omega)).mono ?_
            rintro e w1 ⟨v, rfl, ho, hb⟩
            have HO : Hid (Own w1 w.heap.size v ((d.take (min (F + N) m)).drop (min F m))) := by show Own _ _ _ _; rw [HL]; exact ho
            obtain ⟨a, cpv, hv, -, -⟩ := ho.form
            obtain ⟨K, hK⟩ : ∃ K, ((d.take m).drop m).length = K := ⟨_, rfl⟩
            rw [hK] at hv
            subst hv
            clear ho HR1 HR0 HL hcl hK
            go_wp2
            go_ret
            exact ⟨.inl ⟨rfl, _, rfl, HO.out⟩, hb⟩
        · have c1' : ¬ (m : Int) < (F : Int) := by omega
          by_cases c2 : m < F + N
          · have c2' : (m : Int) < (F : Int) + (N : Int) := by omega
            have c3' : (F : Int) ≤ (m : Int) := by omega
            have hmc : (m : Int) ≤ (cp : Int) := by omega
            have hcl : ((d.take (m)).drop (F)).length = m - (F) := by rw [List.length_drop, List.length_take]; omega
            have HL : (d.take (min (F + N) m)).drop (min F m) = (d.take (m)).drop (F) := by rw [show min F m = F by omega, show min (F + N) m = m by omega]
            have HR1 : Hid (Rd w (some ⟨b, F, none⟩) ((d.take (m)).drop (F))) := by
              have h := (rd_takeS hr (m)).drop (F)
              rw [Nat.zero_add] at h; exact h
            have HR0 : Hid (cp = F → Rd w (some ⟨b, 0, none⟩) ((d.take (m)).drop (F))) := fun hmf => by
              rw [List.length_eq_zero_iff.1 (show ((d.take (m)).drop (F)).length = 0 by omega)]; exact .inl rfl
            go_wp2_with fail
            case inl =>
              refine (copied_any _ _ _ ((d.take m).drop F) _ (by omega) (HR0.out (by first | trivial | omega)) (by omega)).mono ?_
              rintro e w1 ⟨v, rfl, ho, hb⟩
              have HO : Hid (Own w1 w.heap.size v ((d.take (min (F + N) m)).drop (min F m))) := by show Own _ _ _ _; rw [HL]; exact ho
              obtain ⟨a, cpv, hv, -, -⟩ := ho.form
              obtain ⟨K, hK⟩ : ∃ K, ((d.take m).drop F).length = K := ⟨_, rfl⟩
              rw [hK] at hv
              subst hv
              clear ho HR1 HR0 HL hcl hK
              go_wp2
              go_ret
              exact ⟨.inl ⟨rfl, _, rfl, HO.out⟩, hb⟩
            case inr =>
              refine (copied_any _ _ _ ((d.take m).drop F) _ (by omega) HR1.out (by omega)).mono ?_
              rintro e w1 ⟨v, rfl, ho, hb⟩
              have HO : Hid (Own w1 w.heap.size v ((d.take (min (F + N) m)).drop (min F m))) := by show Own _ _ _ _; rw [HL]; exact ho
              obtain ⟨a, cpv, hv, -, -⟩ := ho.form
              obtain ⟨K, hK⟩ : ∃ K, ((d.take m).drop F).length = K := ⟨_, rfl⟩
              rw [hK] at hv
              subst hv
              clear ho HR1 HR0 HL hcl hK
              go_wp2
              go_ret
              exact ⟨.inl ⟨rfl, _, rfl, HO.out⟩, hb⟩
          · have c2' : ¬ (m : Int) < (F : Int) + (N : Int) := by omega
            have c3' : (F : Int) + (N : Int) ≤ (m : Int) := by omega
            have hmc : (F : Int) + (N : Int) ≤ (cp : Int) := by omega
            have hcl : ((d.take (F + N)).drop (F)).length = F + N - (F) := by rw [List.length_drop, List.length_take]; omega
            have HL : (d.take (min (F + N) m)).drop (min F m) = (d.take (F + N)).drop (F) := by rw [show min F m = F by omega, show min (F + N) m = F + N by omega]
            have HR1 : Hid (Rd w (some ⟨b, F, none⟩) ((d.take (F + N)).drop (F))) := by
              have h := (rd_takeS hr (F + N)).drop (F)
              rw [Nat.zero_add] at h; exact h
            have HR0 : Hid (cp = F → Rd w (some ⟨b, 0, none⟩) ((d.take (F + N)).drop (F))) := fun hmf => by
              rw [List.length_eq_zero_iff.1 (show ((d.take (F + N)).drop (F)).length = 0 by omega)]; exact .inl rfl
            go_wp2_with fail
            case inl =>
              refine (copied_any _ _ _ ((d.take (F + N)).drop F) _ (by omega) (HR0.out (by first | trivial | omega)) (by omega)).mono ?_
              rintro e w1 ⟨v, rfl, ho, hb⟩
              have HO : Hid (Own w1 w.heap.size v ((d.take (min (F + N) m)).drop (min F m))) := by show Own _ _ _ _; rw [HL]; exact ho
              obtain ⟨a, cpv, hv, -, -⟩ := ho.form
              obtain ⟨K, hK⟩ : ∃ K, ((d.take (F + N)).drop F).length = K := ⟨_, rfl⟩
              rw [hK] at hv
              subst hv
              clear ho HR1 HR0 HL hcl hK
              go_wp2
              go_ret
              exact ⟨.inl ⟨rfl, _, rfl, HO.out⟩, hb⟩
            case inr =>
              refine (copied_any _ _ _ ((d.take (F + N)).drop F) _ (by omega) HR1.out (by omega)).mono ?_
              rintro e w1 ⟨v, rfl, ho, hb⟩
              have HO : Hid (Own w1 w.heap.size v ((d.take (min (F + N) m)).drop (min F m))) := by show Own _ _ _ _; rw [HL]; exact ho
              obtain ⟨a, cpv, hv, -, -⟩ := ho.form
              obtain ⟨K, hK⟩ : ∃ K, ((d.take (F + N)).drop F).length = K := ⟨_, rfl⟩
              rw [hK] at hv
              subst hv
              clear ho HR1 HR0 HL hcl hK
              go_wp2
              go_ret
              exact ⟨.inl ⟨rfl, _, rfl, HO.out⟩, hb⟩
      · have e : sceV d f n = (3, []) := by unfold sceV; rw [if_neg (by omega), if_neg (fun h => hn h.2)]
        rw [e]
        go_enter Tryz.func29, Tryz.ntmps29
        go_wp2_with fail
        refine (isBetween_s f 0 400 _).mono ?_
        rintro e w1 ⟨rfl, rfl⟩
        rw [decide_eq_true hf]
        go_wp2_with fail
        refine (isBetween_s n 0 400 _).mono ?_
        rintro e w1 ⟨rfl, rfl⟩
        rw [decide_eq_false hn]
        go_wp2
        exact ⟨rfl, .inr ⟨by simp, rfl⟩, Below.refl _ _⟩
    · have e : sceV d f n = (3, []) := by unfold sceV; rw [if_neg (by omega), if_neg (fun h => hf h.1)]
      rw [e]
      go_enter Tryz.func29, Tryz.ntmps29
      go_wp2_with fail
      refine (isBetween_s f 0 400 _).mono ?_
      rintro e w1 ⟨rfl, rfl⟩
      rw [decide_eq_false hf]
      go_wp2
      exact ⟨rfl, .inr ⟨by simp, rfl⟩, Below.refl _ _⟩
end Go.Proofs.YtooifkdbpghcfaaGreatDoor

namespace Go.Proofs.YtooifkdbpghcfaaGreatDoor
open Go.RowKit

theorem add_zero (a : Addr) : a.add 0 = a := by cases a; simp [Addr.add]
end Go.Proofs.YtooifkdbpghcfaaGreatDoor

namespace Go.Proofs.YtooifkdbpghcfaaGreatDoor
open Go.RowKit

end Go.Proofs.YtooifkdbpghcfaaGreatDoor

namespace Go.Proofs.YtooifkdbpghcfaaGreatDoor
open Go.RowKit

end Go.Proofs.YtooifkdbpghcfaaGreatDoor
