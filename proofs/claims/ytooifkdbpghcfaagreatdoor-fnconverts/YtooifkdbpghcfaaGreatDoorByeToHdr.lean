/- An answer with bytes of the call's own · Each helper of the laws over slices of bytes does what its text says: it copies one, and holds two against each other; slices of at most 1048576 bytes · The inner functions of chapter 6 that see a code, or a copy · A slice of fields that came in: what the row tells of it gives its cells; no program in it · The laws' helpers over slices of fields: they copy one, reckon its size, and hold two against each other · More of the laws' helpers over slices of fields: a slice's size, and whether two are the same · Which numbers are characters, and which lie between two others: plain functions; at every number · FieldsFault, the model's, at every slice of fields: by a plain function. -/
import Derived.Test.YtooifkdbpghcfaaGreatDoorMemToApp
import Derived.Test.YtooifkdbpghcfaaGreatDoorMemIToSee
import Derived.Laws.CopyOwn
import Derived.ChangeArms
import Derived.DataReads
import Derived.Deep.RegionHeld3
import Derived.Test.YtooifkdbpghcfaaGreatDoorProg
import Derived.WalkKit
import Derived.Handy
import Derived.Below
namespace Go.Proofs.YtooifkdbpghcfaaGreatDoor
open Go.RowKit

theorem Own.lower {w : World} {B C : Nat} {v : Value} {l : List Nat} (h : Own w B v l) (hC : C ≤ B) : Own w C v l := by
  refine ⟨h.1, ?_⟩
  rcases h.2 with h' | ⟨g, cap, cur, h1, h2, h3⟩
  · exact .inl h'
  · exact .inr ⟨g, cap, cur, h1, Nat.le_trans hC h2, h3⟩
theorem Own.kept {w : World} {B : Nat} {v : Value} {l : List Nat} (h : Own w B v l) (p : Addr) (hp : p.block < B) (u : Value) : Own (w.setCell p u) B v l := ownsRow_setCell_below h hp u

/-- An answer with bytes. -/
def BytEnd (r : Int × List Nat) (w : World) (e : Ending) (w' : World) : Prop := ∃ v, e = .returned (.agg #[.int .i64 r.1, v]) ∧ Own w' w.heap.size v r.2 ∧ Below w.heap.size w w'
theorem BytEnd.code {c : Int} {w w1 : World} (hbel : Below w.heap.size w w1) (x y : Value) : BytEnd (c, []) w (.returned (.agg #[.int .i64 c, .slice none 0 0])) ((w1.setCell ⟨w.heap.size, 0, none⟩ x).setCell ⟨w.heap.size, 1, none⟩ y) :=
  ⟨_, rfl, Own.nil _ _, (hbel.setCell (by simp) _).setCell (by simp) _⟩
theorem BytEnd.some {c : Int} {w w1 : World} {v : Value} {l : List Nat} (hbel : Below w.heap.size w w1) (hown : Own w1 (w.heap.size + 1) v l) (x y : Value) : BytEnd (c, l) w (.returned (.agg #[.int .i64 c, v])) ((w1.setCell ⟨w.heap.size, 0, none⟩ x).setCell ⟨w.heap.size, 1, none⟩ y) :=
  ⟨_, rfl, ((hown.kept _ (by simp) _).kept _ (by simp) _).lower (by omega), (hbel.setCell (by simp) _).setCell (by simp) _⟩
end Go.Proofs.YtooifkdbpghcfaaGreatDoor

namespace Go.Proofs.YtooifkdbpghcfaaGreatDoor
open Go.RowKit

end Go.Proofs.YtooifkdbpghcfaaGreatDoor

namespace Go.Proofs.YtooifkdbpghcfaaGreatDoor
open Go.RowKit

theorem mustSee_ok (w : World) : Calls Tryz.prog 63 #[.int .i64 0] w fun e w' => e = .returned (.tuple #[]) ∧ w = w' := by
  go_enter Tryz.func63, Tryz.ntmps63
  go_wp2
  go_end0
  exact ⟨rfl, rfl⟩
theorem mustSee_bad (c : Int) (hc : c ≠ 0) (w : World) : Calls Tryz.prog 63 #[.int .i64 c] w fun e w' => e = .panicked [{ v := .iface 91 (.int .i64 c), recovered := false }] ∧ w = w' := by
  have h1 : (c != 0) = true := by simpa using hc
  go_enter Tryz.func63, Tryz.ntmps63
  go_wp2
  exact ⟨rfl, rfl, rfl⟩
theorem bytesIn_ok (a : Option Addr) (n cp : Nat) (w : World) : Calls Tryz.prog 44 #[.agg #[.int .i64 0, .slice a n cp]] w fun e w' => e = .returned (.slice a n cp) ∧ Below w.heap.size w w' := by
  go_enter Tryz.func44, Tryz.ntmps44
  go_wp2_with fail
  refine (mustSee_ok _).mono ?_
  rintro e w1 ⟨rfl, rfl⟩
  go_wp2
  go_ret
  exact ⟨rfl, by go_grown⟩
theorem bytesIn_bad (c : Int) (hc : c ≠ 0) (a : Option Addr) (n cp : Nat) (w : World) : Calls Tryz.prog 44 #[.agg #[.int .i64 c, .slice a n cp]] w fun e w' => e = .panicked [{ v := .iface 91 (.int .i64 c), recovered := false }] ∧ Below w.heap.size w w' := by
  go_enter Tryz.func44, Tryz.ntmps44
  go_wp2_with fail
  refine (mustSee_bad c hc _).mono ?_
  rintro e w1 ⟨rfl, rfl⟩
  exact ⟨rfl, rfl, by go_grown⟩
theorem codesIn_ok (a : Option Addr) (n cp : Nat) (w : World) : Calls Tryz.prog 71 #[.agg #[.int .i64 0, .slice a n cp]] w fun e w' => e = .returned (.slice a n cp) ∧ Below w.heap.size w w' := by
  go_enter Tryz.func71, Tryz.ntmps71
  go_wp2_with fail
  refine (mustSee_ok _).mono ?_
  rintro e w1 ⟨rfl, rfl⟩
  go_wp2
  go_ret
  exact ⟨rfl, by go_grown⟩
theorem codesIn_bad (c : Int) (hc : c ≠ 0) (a : Option Addr) (n cp : Nat) (w : World) : Calls Tryz.prog 71 #[.agg #[.int .i64 c, .slice a n cp]] w fun e w' => e = .panicked [{ v := .iface 91 (.int .i64 c), recovered := false }] ∧ Below w.heap.size w w' := by
  go_enter Tryz.func71, Tryz.ntmps71
  go_wp2_with fail
  refine (mustSee_bad c hc _).mono ?_
  rintro e w1 ⟨rfl, rfl⟩
  exact ⟨rfl, rfl, by go_grown⟩
/-- Bytes that are seen, or a code that is thrown. -/
def SeeB (r : Int × List Nat) (w : World) (e : Ending) (w' : World) : Prop := ((r.1 = 0 ∧ ∃ v, e = .returned v ∧ Own w' w.heap.size v r.2) ∨ (r.1 ≠ 0 ∧ e = .panicked [{ v := .iface 91 (.int .i64 r.1), recovered := false }])) ∧ Below w.heap.size w w'
/-- Numbers that are seen, or a code that is thrown. -/
def SeeI (r : Int × List Int) (w : World) (e : Ending) (w' : World) : Prop := ((r.1 = 0 ∧ ∃ v, e = .returned v ∧ OwnI w' w.heap.size v r.2) ∨ (r.1 ≠ 0 ∧ e = .panicked [{ v := .iface 91 (.int .i64 r.1), recovered := false }])) ∧ Below w.heap.size w w'

theorem row_of {w : World} {B e g n : Nat} {xs : List Value} (h : w.ownsRow B e 1 (.slice (some ⟨g, 0, none⟩) n n) n xs) : ∃ cur : List Value, w.heap[g]? = some (.cells cur.toArray e (0, 0)) ∧ cur.length = n := by
  rcases h.2 with ⟨h', _⟩ | ⟨g', cap, cur, h1, _, h3, _, _, h6, _⟩
  · cases h'
  · injection h1 with h1 _ h2
    injection h1 with h1
    injection h1 with h1
    subst h1 h2
    exact ⟨cur.toList, by simpa using h3, by simpa using h6⟩

set_option maxHeartbeats 800000 in
set_option maxRecDepth 100000 in
theorem copied_any (a : Option Addr) (n cap : Nat) (l : List Nat) (w : World) (hl : l.length = n) (hr : Rd w a l) (hn : n ≤ 1048576) :
    Calls Tryz.prog 60 #[.slice a n cap] w fun e w' => ∃ v, e = .returned v ∧ Own w' w.heap.size v l ∧ Below w.heap.size w w' := by
  obtain ⟨i0, hi, hz0, hz1, hz2⟩ := info_parts infoB
  have hsz1 : (Tryz.prog.info? 5).map (·.size) = some 1 := by rw [hi]; simp [hz1]
  have HP : Hid (∀ w0, Below w.heap.size w w0 → 0 < (bc l).length → ∃ ad, a = some ad ∧ ∀ j v, (bc l)[j]? = some v → w0.cell? (ad.add j) = some v) := fun w0 hb hp => by
    rw [bc_len] at hp
    obtain ⟨b, off, rfl, hlt, hc⟩ := hr.at_ hp
    refine ⟨_, rfl, fun j v hj => ?_⟩
    have hjl : j < l.length := by
      rcases Nat.lt_or_ge j l.length with hlt | hge
      · exact hlt
      · rw [List.getElem?_eq_none (by rw [bc_len]; exact hge)] at hj; cases hj
    rw [bc_get hjl] at hj
    cases hj
    rw [Go.WideShapes.add_plain]
    exact (hb.cell (p := ⟨b, off + j, none⟩) hlt).trans (hc j hjl)
  have HS : Hid (∀ cur : List Value, cur.length = n → splice cur 0 (bc l) = bc l) := fun cur hc => by
    unfold splice
    rw [List.drop_of_length_le (by rw [bc_len]; omega)]; simp
  have hbl : (bc l).length = n := by rw [bc_len, hl]
  go_enter Tryz.func60, Tryz.ntmps60
  go_wp2_with (first
    | (at_make; refine wpList_make_full _ rfl _ _ 22 rfl w.heap.size 5 i0 (.int .u8 0) 1 Tryz.underlying22 hi hz0 hz1 .i64 .i64 _ _ n rfl rfl rfl rfl (by rw [hz2]; omega) (by unfold maxLen; omega) (Nat.le_refl _) ?_; intro w0 hown0 hgrow0; obtain ⟨cur, hg, hcl⟩ := row_of hown0; have hb0 : Below w.heap.size w w0 := (Below.refl _ _).grown hgrow0 (Nat.le_refl _) (by intro k hk; cases hk); clear hown0 hgrow0)
    | (refine wpList_copy_splice rfl _ _ 22 22 rfl 5 Tryz.underlying22 hsz1 (some ⟨w.heap.size, 0, none⟩) a n n n cap rfl rfl w.heap.size 0 cur 5 hg (bc l) (by rw [hbl]; exact (Nat.min_self n).symm) (fun hp => ⟨rfl, HP.out _ hb0 hp⟩) (by omega) (bc_one l) w.heap.size w hb0 (Nat.le_refl _) ?_; intro w1 hg1 hb1; have hg1' := hg1.out; rw [HS.out cur hcl] at hg1'; have HO : Hid (Own w1 w.heap.size (.slice (some ⟨w.heap.size, 0, none⟩) n n) l) := (by unfold Hid Own; rw [hl]; exact ⟨by rw [hbl]; simp, .inr ⟨w.heap.size, n, (bc l).toArray, rfl, Nat.le_refl _, hg1', Nat.le_refl _, by unfold maxLen; omega, by simp [hbl], by rw [List.take_of_length_le (by simp [hbl])]⟩⟩); clear hg1 hg1' hg HP HS))
  go_wp2
  go_ret
  exact ⟨_, rfl, HO.out, hb1⟩
end Go.Proofs.YtooifkdbpghcfaaGreatDoor

namespace Go.Proofs.YtooifkdbpghcfaaGreatDoor
open Go.RowKit

theorem add_zero (a : Addr) : a.add 0 = a := by cases a; simp [Addr.add]
end Go.Proofs.YtooifkdbpghcfaaGreatDoor

namespace Go.Proofs.YtooifkdbpghcfaaGreatDoor
open Go.RowKit

end Go.Proofs.YtooifkdbpghcfaaGreatDoor

namespace Go.Proofs.YtooifkdbpghcfaaGreatDoor
open Go.RowKit

end Go.Proofs.YtooifkdbpghcfaaGreatDoor

namespace Go.Proofs.YtooifkdbpghcfaaGreatDoor
open Go.RowKit

/-- A character. -/
def chr (c : Int) : Bool := decide (0 ≤ c ∧ c ≤ 65535 ∧ (c < 55296 ∨ 57343 < c))
theorem chr_iff {c : Int} : chr c = true ↔ (0 ≤ c ∧ c ≤ 65535 ∧ (c < 55296 ∨ 57343 < c)) := decide_eq_true_iff
theorem ret_bool {b b' : Bool} {w : World} (h : b = b') : Ending.returned (Value.bool b) = .returned (.bool b') ∧ w = w := ⟨by rw [h], rfl⟩
theorem ret_int {b b' : Int} {w : World} (h : b = b') : Ending.returned (Value.int .i64 b) = .returned (.int .i64 b') ∧ w = w := ⟨by rw [h], rfl⟩

theorem ret_boolB {b b' : Bool} {w w' : World} {n : Nat} (h : b = b') (hb : Below n w w') : Ending.returned (Value.bool b) = .returned (.bool b') ∧ Below n w w' := ⟨by rw [h], hb⟩

theorem isCharacter_any (c : Int) (w : World) : Calls Tryz.prog 76 #[.int .i64 c] w fun e w' => e = .returned (.bool (chr c)) ∧ w = w' := by
  go_enter Tryz.func76, Tryz.ntmps76
  go_wp2
  all_goals (go_ret; refine ret_bool ?_; rw [Bool.eq_iff_iff, chr_iff]; simp; try omega)

theorem l1In_any (c a b : Int) (w : World) : Calls Tryz.prog 30 #[.int .i64 c, .int .i64 a, .int .i64 b] w fun e w' => e = .returned (.bool (decide (a ≤ c ∧ c ≤ b))) ∧ w = w' := by
  go_enter Tryz.func30, Tryz.ntmps30
  go_wp2
  all_goals (go_ret; refine ret_bool ?_; rw [Bool.eq_iff_iff]; simp; try omega)

theorem l2Char_any (c : Int) (w : World) : Calls Tryz.prog 91 #[.int .i64 c] w fun e w' => e = .returned (.bool (chr c)) ∧ w = w' := by
  go_enter Tryz.func91, Tryz.ntmps91
  go_wp2_with (first | (go_at_call 30; refine (l1In_any _ _ _ _).mono ?_; rintro e w' ⟨rfl, rfl⟩))
  all_goals (go_ret; refine ret_bool ?_; rw [Bool.eq_iff_iff, chr_iff]; simp; try omega)
end Go.Proofs.YtooifkdbpghcfaaGreatDoor

namespace Go.Proofs.YtooifkdbpghcfaaGreatDoor
open Go.RowKit

/-- The bytes of a text. -/
def bts (s : ByteArray) : List Nat := s.data.toList.map UInt8.toNat
theorem str_bts (s : ByteArray) : str (bts s) = s := by
  obtain ⟨d⟩ := s
  unfold str bts
  congr 1
  rw [List.map_map]
  have : (UInt8.ofNat ∘ UInt8.toNat) = id := by funext b; simp
  rw [this]
  simp
theorem bts_isB (s : ByteArray) : IsB (bts s) := by
  intro b hb
  simp only [bts, List.mem_map] at hb
  obtain ⟨u, _, rfl⟩ := hb
  exact u.toNat_lt
theorem bts_len (s : ByteArray) : (bts s).length = s.size := by unfold bts; rw [List.length_map, Array.length_toList]; rfl

/-- A byte of a name. -/
def nmB (c : Nat) : Bool := decide ((97 ≤ c ∧ c ≤ 122) ∨ (65 ≤ c ∧ c ≤ 90) ∨ (48 ≤ c ∧ c ≤ 57) ∨ c = 45)
/-- A name. -/
def nmOk (t : List Nat) : Bool := t.all nmB && decide (1 ≤ t.length ∧ t.length ≤ 30)
/-- A byte of a value. -/
def vlB (c : Nat) : Bool := decide (32 ≤ c ∧ c ≠ 127)
/-- A value. -/
def vlOk (t : List Nat) : Bool := t.all vlB && decide (t.length ≤ 120)
/-- A field. -/
def fdOk (p : FldP) : Bool := nmOk (bts p.1) && vlOk (bts p.2)
/-- The fault of some fields. -/
def fdF (l : List FldP) : Int := if 8 < l.length then 2 else if l.all fdOk then 0 else 5
theorem fdF_many {l : List FldP} (h : 8 < l.length) : fdF l = 2 := if_pos h
theorem fdF_ok {l : List FldP} (h : ¬ 8 < l.length) (ha : l.all fdOk = true) : fdF l = 0 := by unfold fdF; rw [if_neg h, if_pos ha]
theorem fdF_bad {l : List FldP} (h : ¬ 8 < l.length) (ha : l.all fdOk = false) : fdF l = 5 := by unfold fdF; rw [if_neg h, ha]; rfl

theorem l4NameByte_any (c : Nat) (w : World) (hc : c < 256) : Calls Tryz.prog 190 #[.int .u8 (c : Int)] w fun e w' => e = .returned (.bool (nmB c)) ∧ w = w' := by
  go_enter Tryz.func190, Tryz.ntmps190
  go_wp2
  all_goals (go_ret; refine ret_bool ?_; rw [Bool.eq_iff_iff]; unfold nmB; simp; try omega)

theorem allN_bad {p : Nat → Bool} {t : List Nat} {k : Nat} (h : k < t.length) (hb : p (nth t k) = false) : t.all p = false := by
  rw [List.all_eq_false]
  exact ⟨nth t k, by rw [nth_get h]; exact List.getElem_mem h, by rw [hb]; simp⟩
theorem allN_step {p : Nat → Bool} {t : List Nat} {k : Nat} (h : k < t.length) (h0 : (t.take k).all p = true) (hb : p (nth t k) = true) : (t.take (k + 1)).all p = true := by
  rw [take_snoc t k h, List.all_append, h0]
  simp [hb]

set_option maxHeartbeats 1600000 in
set_option maxRecDepth 100000 in
theorem l4Name_any (t : List Nat) (n : Nat) (w : World) (hl : t.length = n) (hB : IsB t) (hn : n ≤ 1048576) : Calls Tryz.prog 166 #[.string (str t)] w fun e w' => e = .returned (.bool (nmOk t)) ∧ w = w' := by
  have hsz : (str t).size = n := by rw [str_size, hl]
  have HL : Hid (t.length = n) := hl
  clear hl
  go_enter Tryz.func166, Tryz.ntmps166
  go_wp2
  go_loop [3] (fun v => ∃ k : Nat, k ≤ n ∧ v = .int .i64 k ∧ (t.take k).all nmB = true) (fun v => n - (intOf v).toNat)
  case atStart => exact ⟨0, Nat.zero_le _, rfl, by simp⟩
  case round =>
    obtain ⟨k, hk, rfl, hall⟩ := hrel
    by_cases hkn : k < n
    · have hki : (k : Int) < (n : Int) := by omega
      have g0 := str_get hB (i := k) (by rw [hsz]; exact hkn)
      have HY : Hid (nmB (nth t k) = true → (t.take (k + 1)).all nmB = true) := fun h => allN_step (by have := HL.out; omega) hall h
      have HN : Hid (nmB (nth t k) = false → nmOk t = false) := fun h => by
        unfold nmOk; rw [allN_bad (by have := HL.out; omega) h]; rfl
      have hx := nth_lt hB k
      have HC : Hid (∀ w, Calls Tryz.prog 190 #[.int .u8 (nth t k : Int)] w fun e w' => e = .returned (.bool (nmB (nth t k))) ∧ w = w') := fun w => l4NameByte_any (nth t k) w hx
      generalize hbv : nmB (nth t k) = bv at *
      clear hbv hall
      generalize nth t k = x at *
      cases bv with
      | true =>
        have HM : Hid (_) := HY.out rfl
        clear HY HN
        go_wp2_with fail
        refine (HC.out _).mono ?_
        rintro e w' ⟨rfl, rfl⟩
        go_wp2
        go_round
        case rel => exact ⟨k + 1, by omega, by go_num, HM.out⟩
        case measure => simp [intOf]; omega
      | false =>
        have HM : Hid (_) := HN.out rfl
        clear HY HN
        go_wp2_with fail
        refine (HC.out _).mono ?_
        rintro e w' ⟨rfl, rfl⟩
        go_wp2
        go_ret
        exact ⟨by rw [HM.out]; rfl, rfl⟩
    · have hki : ¬ (k : Int) < (n : Int) := by omega
      have HM : Hid (nmOk t = decide (1 ≤ (n : Int) ∧ (n : Int) ≤ 30)) := by
        show _ = _
        unfold nmOk
        rw [show k = t.length by have := HL.out; omega, List.take_length] at hall
        rw [hall, HL.out, Bool.true_and]
        exact decide_eq_decide.2 (by omega)
      clear hall
      go_wp2_with fail
      refine (l1In_any _ _ _ _).mono ?_
      rintro e w' ⟨rfl, rfl⟩
      generalize hd : decide (1 ≤ (n : Int) ∧ (n : Int) ≤ 30) = d at *
      clear hd
      go_wp2
      go_ret
      exact ⟨by rw [HM.out]; rfl, rfl⟩

set_option maxHeartbeats 1600000 in
set_option maxRecDepth 100000 in
theorem l4Value_any (t : List Nat) (n : Nat) (w : World) (hl : t.length = n) (hB : IsB t) (hn : n ≤ 1048576) : Calls Tryz.prog 167 #[.string (str t)] w fun e w' => e = .returned (.bool (vlOk t)) ∧ Below w.heap.size w w' := by
  have hsz : (str t).size = n := by rw [str_size, hl]
  have HL : Hid (t.length = n) := hl
  clear hl
  go_enter Tryz.func167, Tryz.ntmps167
  go_wp2
  go_loopw [3] (fun v wr => ∃ k : Nat, k ≤ n ∧ v = .int .i64 k ∧ (t.take k).all vlB = true ∧ Below w.heap.size w wr) (fun v _ => n - (intOf v).toNat)
  case atStart => exact ⟨0, Nat.zero_le _, rfl, by simp, Below.refl _ _⟩
  case round =>
    obtain ⟨k, hk, rfl, hall, hbel⟩ := hrel
    by_cases hkn : k < n
    · have hki : (k : Int) < (n : Int) := by omega
      have g0 := str_get hB (i := k) (by rw [hsz]; exact hkn)
      have HY : Hid (vlB (nth t k) = true → (t.take (k + 1)).all vlB = true) := fun h => allN_step (by have := HL.out; omega) hall h
      have HN : Hid (vlB (nth t k) = false → vlOk t = false) := fun h => by
        unfold vlOk; rw [allN_bad (by have := HL.out; omega) h]; rfl
      have hx := nth_lt hB k
      clear hall
      generalize nth t k = x at *
      by_cases c1 : x < 32
      · have c1' : (x : Int) < 32 := by omega
        have HM : Hid (_) := HN.out (decide_eq_false (by omega))
        clear HY HN
        go_wp2
        go_ret
        exact ⟨by rw [HM.out]; rfl, hbel⟩
      · have c1' : ¬ (x : Int) < 32 := by omega
        by_cases c2 : x = 127
        · subst c2
          have HM : Hid (_) := HN.out (by decide)
          clear HY HN
          go_wp2
          go_ret
          exact ⟨by rw [HM.out]; rfl, hbel⟩
        · have c2' : ((x : Int) == 127) = false := by simp; omega
          have HM : Hid (_) := HY.out (decide_eq_true (by omega))
          clear HY HN
          go_wp2
          go_roundw
          case rel => exact ⟨k + 1, by omega, by go_num, HM.out, hbel⟩
          case measure => simp [intOf]; omega
    · have hki : ¬ (k : Int) < (n : Int) := by omega
      have HM : Hid (vlOk t = decide ((n : Int) ≤ 120)) := by
        show _ = _
        unfold vlOk
        rw [show k = t.length by have := HL.out; omega, List.take_length] at hall
        rw [hall, HL.out]
        simp
        omega
      clear hall
      go_wp2
      go_ret
      exact ⟨by rw [HM.out]; rfl, hbel⟩

theorem allF_bad {p : FldP → Bool} {l : List FldP} {k : Nat} (h : k < l.length) (hb : p (nthF l k) = false) : l.all p = false := by
  rw [List.all_eq_false]
  exact ⟨nthF l k, by rw [nthF_get h]; exact List.getElem_mem h, by rw [hb]; simp⟩
theorem allF_step {p : FldP → Bool} {l : List FldP} {k : Nat} (h : k < l.length) (h0 : (l.take k).all p = true) (hb : p (nthF l k) = true) : (l.take (k + 1)).all p = true := by
  rw [take_snocF l k h, List.all_append, h0]
  simp [hb]
/-- Fields whose texts are not too great for the laws. -/
def Fit (l : List FldP) : Prop := ∀ p ∈ l, p.1.size ≤ 1048576 ∧ p.2.size ≤ 1048576

set_option maxHeartbeats 1600000 in
set_option maxRecDepth 100000 in
theorem l4Fault_any (a : Option Addr) (n cap : Nat) (l : List FldP) (w : World) (hl : l.length = n) (hr : RdF w a l) (hn : n ≤ 1048576) (hfit : Fit l) :
    Calls Tryz.prog 141 #[.slice a n cap] w fun e w' => e = .returned (.int .i64 (fdF l)) ∧ Below w.heap.size w w' := by
  have HL : Hid (l.length = n) := hl
  by_cases h8 : 8 < n
  · have h8' : (8 : Int) < (n : Int) := by omega
    have HM : Hid (fdF l = 2) := fdF_many (by omega)
    go_enter Tryz.func141, Tryz.ntmps141
    go_wp2
    go_ret
    exact ⟨by rw [HM.out]; rfl, Below.refl _ _⟩
  · have h8' : ¬ (8 : Int) < (n : Int) := by omega
    clear hl
    go_enter Tryz.func141, Tryz.ntmps141
    go_wp2
    go_loopw [3] (fun v wr => ∃ k : Nat, k ≤ n ∧ v = .int .i64 k ∧ (l.take k).all fdOk = true ∧ Below w.heap.size w wr) (fun v _ => n - (intOf v).toNat)
    case atStart => exact ⟨0, Nat.zero_le _, rfl, by simp, Below.refl _ _⟩
    case round =>
      obtain ⟨k, hk, rfl, hall, hbel⟩ := hrel
      by_cases hkn : k < n
      · obtain ⟨b, off, rfl, hblt, hcell⟩ := hr.at_ (by have := HL.out; omega)
        have hc0 : wr.cell? ⟨b, off + k * 2, none⟩ = some (.string (nthF l k).1) := (hbel.cell (p := ⟨b, off + k * 2, none⟩) hblt).trans (hcell k (by have := HL.out; omega)).1
        have hc1 : wr.cell? ⟨b, off + k * 2 + 1, none⟩ = some (.string (nthF l k).2) := (hbel.cell (p := ⟨b, off + k * 2 + 1, none⟩) hblt).trans (hcell k (by have := HL.out; omega)).2
        have hf := hfit (nthF l k) (by rw [nthF_get (by have := HL.out; omega)]; exact List.getElem_mem _)
        have hki : (k : Int) < (n : Int) := by omega
        have HY : Hid (fdOk (nthF l k) = true → (l.take (k + 1)).all fdOk = true) := fun h => allF_step (by have := HL.out; omega) hall h
        have HN : Hid (fdOk (nthF l k) = false → fdF l = 5) := fun h => fdF_bad (by have := HL.out; omega) (allF_bad (by have := HL.out; omega) h)
        clear hcell hall
        generalize nthF l k = p at *
        obtain ⟨x, y⟩ := p
        simp only at hc0 hc1 hf
        have HX : Hid (∀ w, Calls Tryz.prog 166 #[.string x] w fun e w' => e = .returned (.bool (nmOk (bts x))) ∧ w = w') := fun w => by
          have h := l4Name_any (bts x) _ w rfl (bts_isB x) (by rw [bts_len]; exact hf.1)
          rw [str_bts] at h; exact h
        have HV : Hid (∀ w, Calls Tryz.prog 167 #[.string y] w fun e w' => e = .returned (.bool (vlOk (bts y))) ∧ Below w.heap.size w w') := fun w => by
          have h := l4Value_any (bts y) _ w rfl (bts_isB y) (by rw [bts_len]; exact hf.2)
          rw [str_bts] at h; exact h
        have hok : fdOk (x, y) = (nmOk (bts x) && vlOk (bts y)) := rfl
        rw [hok] at HY HN
        clear hok hf
        generalize nmOk (bts x) = b1 at *
        generalize vlOk (bts y) = b2 at *
        cases b1 with
        | false =>
          have HM : Hid (_) := HN.out rfl
          clear HY HN
          go_wp2_with fail
          refine (HX.out _).mono ?_
          rintro e w' ⟨rfl, rfl⟩
          go_wp2
          go_ret
          exact ⟨by rw [HM.out]; rfl, hbel⟩
        | true =>
          go_wp2_with fail
          refine (HX.out _).mono ?_
          rintro e w' ⟨rfl, rfl⟩
          go_wp2_with fail
          refine (HV.out _).mono ?_
          rintro e w1 ⟨rfl, hb1⟩
          have hbel1 := hbel.trans (hb1.mono hbel.size)
          clear hb1
          cases b2 with
          | false =>
            have HM : Hid (_) := HN.out rfl
            clear HY HN
            go_wp2
            go_ret
            exact ⟨by rw [HM.out]; rfl, hbel1⟩
          | true =>
            have HM : Hid (_) := HY.out rfl
            clear HY HN
            go_wp2
            go_roundw
            case rel => exact ⟨k + 1, by omega, by go_num, HM.out, hbel1⟩
            case measure => simp [intOf]; omega
      · have hki : ¬ (k : Int) < (n : Int) := by omega
        have HM : Hid (fdF l = 0) := fdF_ok (by have := HL.out; omega) (by rw [show k = l.length by have := HL.out; omega, List.take_length] at hall; exact hall)
        clear hall
        go_wp2
        go_ret
        exact ⟨by rw [HM.out]; rfl, hbel⟩

end Go.Proofs.YtooifkdbpghcfaaGreatDoor
