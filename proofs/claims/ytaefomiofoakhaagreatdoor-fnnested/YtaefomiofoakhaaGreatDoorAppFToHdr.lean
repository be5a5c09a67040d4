/- A slice of fields of the call's own, and what an append to it leaves: laws for this program's types · A slice of fields that came in: what the row tells of it gives its cells; no program in it · The laws' helpers over slices of fields: they copy one, reckon its size, and hold two against each other · More of the laws' helpers over slices of fields: a slice's size, and whether two are the same · Which numbers are characters, and which lie between two others: plain functions; at every number · FieldsFault, the model's, at every slice of fields: by a plain function. -/
import Derived.Test.YtaefomiofoakhaaGreatDoorAppToMemF
import Derived.Test.YtaefomiofoakhaaGreatDoorJfzToInf
import Derived.ChangeArms
import Derived.DataReads
import Derived.Deep.RegionHeld3
import Derived.Test.YtaefomiofoakhaaGreatDoorProg
import Derived.WalkKit
import Derived.Handy
import Derived.Below
namespace Go.Proofs.YtaefomiofoakhaaGreatDoor
open Go.RowKit

def zeroF : Value := .agg #[.string ⟨#[]⟩, .string ⟨#[]⟩]
theorem infoF : (Tryz.prog.info? 122).map (fun i => (i.zero, i.size, i.bytes)) = some (some zeroF, 2, 32) := by kernel_rfl

/-- THE SLICE v IS THE CALL's OWN AND HOLDS THE FIELDS l. -/
def OwnF (w : World) (B : Nat) (v : Value) (l : List FldP) : Prop := w.ownsRow B 122 2 v l.length (fc l)
theorem OwnF.nil (w : World) (B : Nat) : OwnF w B (.slice none 0 0) [] := World.ownsRow_nil _ _ _ _
theorem OwnF.alloc {w : World} {B : Nat} {v : Value} {l : List FldP} (h : OwnF w B v l) (o : Obj) : OwnF (w.alloc o) B v l := World.ownsRow.alloc h o
theorem OwnF.below {w w' : World} {B C : Nat} {v : Value} {l : List FldP} (h : OwnF w B v l) (hb : Below C w w') (hC : w.heap.size ≤ C) : OwnF w' B v l := by
  refine ⟨h.1, ?_⟩
  rcases h.2 with h' | ⟨g, cap, cur, h1, h2, h3, h4⟩
  · exact .inl h'
  · refine .inr ⟨g, cap, cur, h1, h2, ?_, h4⟩
    have hg : g < w.heap.size := by
      rcases Nat.lt_or_ge g w.heap.size with hlt | hge
      · exact hlt
      · simp [Array.getElem?_eq_none hge] at h3
    rw [hb.block g (by omega)]; exact h3
theorem OwnF.form {w : World} {B : Nat} {v : Value} {l : List FldP} (h : OwnF w B v l) : ∃ a cap, v = .slice a l.length cap ∧ l.length ≤ cap ∧ cap ≤ maxLen := by
  rcases h.2 with ⟨h', h0⟩ | ⟨g, cap, cur, h', _, _, h4, h5, _⟩
  · exact ⟨none, 0, by rw [h', h0], by omega, by decide⟩
  · exact ⟨_, cap, h', h4, h5⟩
theorem OwnF.rd {w : World} {B n cap : Nat} {a : Option Addr} {l : List FldP} (h : OwnF w B (.slice a n cap) l) : l.length = n ∧ RdF w a l := by
  have hf : l.length = n := by
    obtain ⟨a', c', e, _⟩ := h.form
    simp at e; omega
  subst hf
  exact ⟨rfl, RdF.own h⟩
theorem OwnF.low {w : World} {B C : Nat} {v : Value} {l : List FldP} (h : OwnF w B v l) (hC : C ≤ B) : OwnF w C v l := by
  refine ⟨h.1, ?_⟩
  rcases h.2 with h' | ⟨g, cap, cur, h1, h2, h3⟩
  · exact .inl h'
  · exact .inr ⟨g, cap, cur, h1, Nat.le_trans hC h2, h3⟩
theorem OwnF.kept {w : World} {B : Nat} {v : Value} {l : List FldP} (h : OwnF w B v l) (p : Addr) (hp : p.block < B) (u : Value) : OwnF (w.setCell p u) B v l := ownsRow_setCell_below h hp u
theorem OwnF.far {w w' : World} {B : Nat} {v : Value} {l : List FldP} {row : Option Nat} (h : OwnF w B v l) (hg : w.grownBy w' row) (hne : ∀ b, v.ownBlock = some b → some b ≠ row) : OwnF w' B v l := by
  refine ⟨h.1, ?_⟩
  rcases h.2 with h' | ⟨g, cap, cur, h1, h2, h3, h4⟩
  · exact .inl h'
  · refine .inr ⟨g, cap, cur, h1, h2, ?_, h4⟩
    have hlt : g < w.heap.size := by
      rcases Nat.lt_or_ge g w.heap.size with hlt | hge
      · exact hlt
      · simp [Array.getElem?_eq_none hge] at h3
    rw [hg.block g hlt (hne g (by rw [h1]; rfl))]; exact h3

/-- AN APPEND: what stands at the second slice's address is there behind what was. -/
theorem wpList_appF {w : World} {ops : Array Oper} {rest : List Oper} {o : Oper} {a : Act} {Q : Exit → Act → World → Prop} (hgd : o.guard = none) (s x : Operand)
    (ho : o.op = .call { callee := .builtin .append, args := #[s, x], argTypes := #[80, 80] })
    (B : Nat) (v : Value) (l : List FldP) (hs : a.eval s = v) (hown : OwnF w B v l) (ad : Addr) (m c : Nat) (new : List FldP) (hx : a.eval x = .slice (some ad) m c) (hm : new.length = m)
    (hnew : ∀ j, j < m → w.cell? (ad.add (j * 2)) = some (.string (nthF new j).1) ∧ w.cell? (ad.add (j * 2 + 1)) = some (.string (nthF new j).2)) (hsz : l.length + m ≤ 1048576) (hB : B ≤ w.heap.size)
    (h : ∀ v' w1, OwnF w1 B v' (l ++ new) → Below B w w1 → wpList Tryz.prog ops Q rest (a.put o.dst v') w1) : wpList Tryz.prog ops Q (o :: rest) a w := by
  obtain ⟨i0, hi, hz0, hz1, hz2⟩ := info_parts infoF
  refine wpList_append_own w hgd s x 80 ho B 122 i0 zeroF 2 32 Tryz.underlying80 hi hz0 hz1 hz2 rfl (by decide) v l.length (fc l) hs hown ad m c (fc new) hx (by rw [fc_len, hm]) ?_ (fc_one new) (by unfold maxLen; omega) (by omega) hB ?_
  · intro j u hj
    have hjl : j < new.length * 2 := by
      rcases Nat.lt_or_ge j (new.length * 2) with hlt | hge
      · exact hlt
      · rw [List.getElem?_eq_none (by rw [fc_len]; exact hge)] at hj; cases hj
    have hf := fc_get new (j / 2) (by omega)
    have hn := hnew (j / 2) (by omega)
    have hjj : j = j / 2 * 2 ∨ j = j / 2 * 2 + 1 := by omega
    rcases hjj with e | e
    · rw [e, hf.1] at hj
      rw [e, hn.1]; exact hj
    · rw [e, hf.2] at hj
      rw [e, hn.2]; exact hj
  · intro v' w1 hown' hgr _
    refine h v' w1 ?_ ((Below.refl _ _).grown hgr hB (fun k hk => (hown.lt k hk).1))
    unfold OwnF
    rw [fc_app, List.length_append, hm]
    exact hown'
/-- AN APPEND AT A STEP OF A REGION THAT DRAWS ITS ORDER. -/
theorem step_appF {w : World} {ops : Array Oper} {o : Oper} {a : Act} {K : Act → World → Prop} {Q : Exit → Act → World → Prop} {E : Prop} (hgd : o.guard = none) (s x : Operand)
    (ho : o.op = .call { callee := .builtin .append, args := #[s, x], argTypes := #[80, 80] })
    (B : Nat) (v : Value) (l : List FldP) (hs : a.eval s = v) (hown : OwnF w B v l) (ad : Addr) (m c : Nat) (new : List FldP) (hx : a.eval x = .slice (some ad) m c) (hm : new.length = m)
    (hnew : ∀ j, j < m → w.cell? (ad.add (j * 2)) = some (.string (nthF new j).1) ∧ w.cell? (ad.add (j * 2 + 1)) = some (.string (nthF new j).2)) (hsz : l.length + m ≤ 1048576) (hB : B ≤ w.heap.size)
    (h : ∀ v' w1, OwnF w1 B v' (l ++ new) → Below B w w1 → w.grownBy w1 v.ownBlock → K (a.put o.dst v') w1) : if Region.wanted o (yielded ops a.tmps) = true then Oper.wp Tryz.prog o a w K Q else E := by
  have hw : Region.wanted o (yielded ops a.tmps) = true := by simp [Region.wanted, hgd]
  rw [if_pos hw]
  obtain ⟨i0, hi, hz0, hz1, hz2⟩ := info_parts infoF
  refine wp_append_own w s x 80 ho B 122 i0 zeroF 2 32 Tryz.underlying80 hi hz0 hz1 hz2 rfl (by decide) v l.length (fc l) hs hown ad m c (fc new) hx (by rw [fc_len, hm]) ?_ (fc_one new) (by unfold maxLen; omega) (by omega) hB ?_
  · intro j u hj
    have hjl : j < new.length * 2 := by
      rcases Nat.lt_or_ge j (new.length * 2) with hlt | hge
      · exact hlt
      · rw [List.getElem?_eq_none (by rw [fc_len]; exact hge)] at hj; cases hj
    have hf := fc_get new (j / 2) (by omega)
    have hn := hnew (j / 2) (by omega)
    have hjj : j = j / 2 * 2 ∨ j = j / 2 * 2 + 1 := by omega
    rcases hjj with e | e
    · rw [e, hf.1] at hj
      rw [e, hn.1]; exact hj
    · rw [e, hf.2] at hj
      rw [e, hn.2]; exact hj
  · intro v' w1 hown' hgr _
    refine h v' w1 ?_ ((Below.refl _ _).grown hgr hB (fun k hk => (hown.lt k hk).1)) hgr
    unfold OwnF
    rw [fc_app, List.length_append, hm]
    exact hown'
end Go.Proofs.YtaefomiofoakhaaGreatDoor

namespace Go.Proofs.YtaefomiofoakhaaGreatDoor
open Go.RowKit

theorem add_zero (a : Addr) : a.add 0 = a := by cases a; simp [Addr.add]
end Go.Proofs.YtaefomiofoakhaaGreatDoor

namespace Go.Proofs.YtaefomiofoakhaaGreatDoor
open Go.RowKit

end Go.Proofs.YtaefomiofoakhaaGreatDoor

namespace Go.Proofs.YtaefomiofoakhaaGreatDoor
open Go.RowKit

end Go.Proofs.YtaefomiofoakhaaGreatDoor

namespace Go.Proofs.YtaefomiofoakhaaGreatDoor
open Go.RowKit

/-- A character. -/
def chr (c : Int) : Bool := decide (0 ≤ c ∧ c ≤ 65535 ∧ (c < 55296 ∨ 57343 < c))
theorem chr_iff {c : Int} : chr c = true ↔ (0 ≤ c ∧ c ≤ 65535 ∧ (c < 55296 ∨ 57343 < c)) := decide_eq_true_iff
theorem ret_bool {b b' : Bool} {w : World} (h : b = b') : Ending.returned (Value.bool b) = .returned (.bool b') ∧ w = w := ⟨by rw [h], rfl⟩
theorem ret_int {b b' : Int} {w : World} (h : b = b') : Ending.returned (Value.int .i64 b) = .returned (.int .i64 b') ∧ w = w := ⟨by rw [h], rfl⟩

theorem l1In_any (c a b : Int) (w : World) : Calls Tryz.prog 52 #[.int .i64 c, .int .i64 a, .int .i64 b] w fun e w' => e = .returned (.bool (decide (a ≤ c ∧ c ≤ b))) ∧ w = w' := by
  go_enter Tryz.func52, Tryz.ntmps52
  go_wp2
  all_goals (go_ret; refine ret_bool ?_; rw [Bool.eq_iff_iff]; simp; try omega)

end Go.Proofs.YtaefomiofoakhaaGreatDoor

namespace Go.Proofs.YtaefomiofoakhaaGreatDoor
open Go.RowKit

/-- The bytes of a text. -/
def bts (s : ByteArray) : List Nat := s.data.toList.map UInt8.toNat
theorem str_bts (s : ByteArray) : str (bts s) = s := by
  obtain ⟨d⟩ := s
  unfold str bts
  congr 1
  rw [List.map_map]
  have : (UInt8.ofNat ∘ UInt8.toNat) = id := by funext b; simp
  rw [this]
  simp
theorem bts_isB (s : ByteArray) : IsB (bts s) := by
  intro b hb
  simp only [bts, List.mem_map] at hb
  obtain ⟨u, _, rfl⟩ := hb
  exact u.toNat_lt
theorem bts_len (s : ByteArray) : (bts s).length = s.size := by unfold bts; rw [List.length_map, Array.length_toList]; rfl

/-- A byte of a name. -/
def nmB (c : Nat) : Bool := decide ((97 ≤ c ∧ c ≤ 122) ∨ (65 ≤ c ∧ c ≤ 90) ∨ (48 ≤ c ∧ c ≤ 57) ∨ c = 45)
/-- A name. -/
def nmOk (t : List Nat) : Bool := t.all nmB && decide (1 ≤ t.length ∧ t.length ≤ 30)
/-- A byte of a value. -/
def vlB (c : Nat) : Bool := decide (32 ≤ c ∧ c ≠ 127)
/-- A value. -/
def vlOk (t : List Nat) : Bool := t.all vlB && decide (t.length ≤ 120)
/-- A field. -/
def fdOk (p : FldP) : Bool := nmOk (bts p.1) && vlOk (bts p.2)
/-- The fault of some fields. -/
def fdF (l : List FldP) : Int := if 8 < l.length then 2 else if l.all fdOk then 0 else 5
theorem fdF_many {l : List FldP} (h : 8 < l.length) : fdF l = 2 := if_pos h
theorem fdF_ok {l : List FldP} (h : ¬ 8 < l.length) (ha : l.all fdOk = true) : fdF l = 0 := by unfold fdF; rw [if_neg h, if_pos ha]
theorem fdF_bad {l : List FldP} (h : ¬ 8 < l.length) (ha : l.all fdOk = false) : fdF l = 5 := by unfold fdF; rw [if_neg h, ha]; rfl

theorem l4NameByte_any (c : Nat) (w : World) (hc : c < 256) : Calls Tryz.prog 118 #[.int .u8 (c : Int)] w fun e w' => e = .returned (.bool (nmB c)) ∧ w = w' := by
  go_enter Tryz.func118, Tryz.ntmps118
  go_wp2
  all_goals (go_ret; refine ret_bool ?_; rw [Bool.eq_iff_iff]; unfold nmB; simp; try omega)

theorem allN_bad {p : Nat → Bool} {t : List Nat} {k : Nat} (h : k < t.length) (hb : p (nth t k) = false) : t.all p = false := by
  rw [List.all_eq_false]
  exact ⟨nth t k, by rw [nth_get h]; exact List.getElem_mem h, by rw [hb]; simp⟩
theorem allN_step {p : Nat → Bool} {t : List Nat} {k : Nat} (h : k < t.length) (h0 : (t.take k).all p = true) (hb : p (nth t k) = true) : (t.take (k + 1)).all p = true := by
  rw [take_snoc t k h, List.all_append, h0]
  simp [hb]

set_option maxHeartbeats 1600000 in
set_option maxRecDepth 100000 in
theorem l4Name_any (t : List Nat) (n : Nat) (w : World) (hl : t.length = n) (hB : IsB t) (hn : n ≤ 1048576) : Calls Tryz.prog 109 #[.string (str t)] w fun e w' => e = .returned (.bool (nmOk t)) ∧ w = w' := by
  have hsz : (str t).size = n := by rw [str_size, hl]
  have HL : Hid (t.length = n) := hl
  clear hl
  go_enter Tryz.func109, Tryz.ntmps109
  go_wp2
  go_loop [3] (fun v => ∃ k : Nat, k ≤ n ∧ v = .int .i64 k ∧ (t.take k).all nmB = true) (fun v => n - (intOf v).toNat)
  case atStart => exact ⟨0, Nat.zero_le _, rfl, by simp⟩
  case round =>
    obtain ⟨k, hk, rfl, hall⟩ := hrel
    by_cases hkn : k < n
    · have hki : (k : Int) < (n : Int) := by omega
      have g0 := str_get hB (i := k) (by rw [hsz]; exact hkn)
      have HY : Hid (nmB (nth t k) = true → (t.take (k + 1)).all nmB = true) := fun h => allN_step (by have := HL.out; omega) hall h
      have HN : Hid (nmB (nth t k) = false → nmOk t = false) := fun h => by
        unfold nmOk; rw [allN_bad (by have := HL.out; omega) h]; rfl
      have hx := nth_lt hB k
      have HC : Hid (∀ w, Calls Tryz.prog 118 #[.int .u8 (nth t k : Int)] w fun e w' => e = .returned (.bool (nmB (nth t k))) ∧ w = w') := fun w => l4NameByte_any (nth t k) w hx
      generalize hbv : nmB (nth t k) = bv at *
      clear hbv hall
      generalize nth t k = x at *
      cases bv with
      | true =>
        have HM : Hid (_) := HY.out rfl
        clear HY HN
        go_wp2_with fail
        refine (HC.out _).mono ?_
        rintro e w' ⟨rfl, rfl⟩
        go_wp2
        go_round
        case rel => exact ⟨k + 1, by omega, by go_num, HM.out⟩
        case measure => simp [intOf]; omega
      | false =>
        have HM : Hid (_) := HN.out rfl
        clear HY HN
        go_wp2_with fail
        refine (HC.out _).mono ?_
        rintro e w' ⟨rfl, rfl⟩
        go_wp2
        go_ret
        exact ⟨by rw [HM.out]; rfl, rfl⟩
    · have hki : ¬ (k : Int) < (n : Int) := by omega
      have HM : Hid (nmOk t = decide (1 ≤ (n : Int) ∧ (n : Int) ≤ 30)) := by
        show _ = _
        unfold nmOk
        rw [show k = t.length by have := HL.out; omega, List.take_length] at hall
        rw [hall, HL.out, Bool.true_and]
        exact decide_eq_decide.2 (by omega)
      clear hall
      go_wp2_with fail
      refine (l1In_any _ _ _ _).mono ?_
      rintro e w' ⟨rfl, rfl⟩
      generalize hd : decide (1 ≤ (n : Int) ∧ (n : Int) ≤ 30) = d at *
      clear hd
      go_wp2
      go_ret
      exact ⟨by rw [HM.out]; rfl, rfl⟩

set_option maxHeartbeats 1600000 in
set_option maxRecDepth 100000 in
theorem l4Value_any (t : List Nat) (n : Nat) (w : World) (hl : t.length = n) (hB : IsB t) (hn : n ≤ 1048576) : Calls Tryz.prog 110 #[.string (str t)] w fun e w' => e = .returned (.bool (vlOk t)) ∧ Below w.heap.size w w' := by
  have hsz : (str t).size = n := by rw [str_size, hl]
  have HL : Hid (t.length = n) := hl
  clear hl
  go_enter Tryz.func110, Tryz.ntmps110
  go_wp2
  go_loopw [3] (fun v wr => ∃ k : Nat, k ≤ n ∧ v = .int .i64 k ∧ (t.take k).all vlB = true ∧ Below w.heap.size w wr) (fun v _ => n - (intOf v).toNat)
  case atStart => exact ⟨0, Nat.zero_le _, rfl, by simp, Below.refl _ _⟩
  case round =>
    obtain ⟨k, hk, rfl, hall, hbel⟩ := hrel
    by_cases hkn : k < n
    · have hki : (k : Int) < (n : Int) := by omega
      have g0 := str_get hB (i := k) (by rw [hsz]; exact hkn)
      have HY : Hid (vlB (nth t k) = true → (t.take (k + 1)).all vlB = true) := fun h => allN_step (by have := HL.out; omega) hall h
      have HN : Hid (vlB (nth t k) = false → vlOk t = false) := fun h => by
        unfold vlOk; rw [allN_bad (by have := HL.out; omega) h]; rfl
      have hx := nth_lt hB k
      clear hall
      generalize nth t k = x at *
      by_cases c1 : x < 32
      · have c1' : (x : Int) < 32 := by omega
        have HM : Hid (_) := HN.out (decide_eq_false (by omega))
        clear HY HN
        go_wp2
        go_ret
        exact ⟨by rw [HM.out]; rfl, hbel⟩
      · have c1' : ¬ (x : Int) < 32 := by omega
        by_cases c2 : x = 127
        · subst c2
          have HM : Hid (_) := HN.out (by decide)
          clear HY HN
          go_wp2
          go_ret
          exact ⟨by rw [HM.out]; rfl, hbel⟩
        · have c2' : ((x : Int) == 127) = false := by simp; omega
          have HM : Hid (_) := HY.out (decide_eq_true (by omega))
          clear HY HN
          go_wp2
          go_roundw
          case rel => exact ⟨k + 1, by omega, by go_num, HM.out, hbel⟩
          case measure => simp [intOf]; omega
    · have hki : ¬ (k : Int) < (n : Int) := by omega
      have HM : Hid (vlOk t = decide ((n : Int) ≤ 120)) := by
        show _ = _
        unfold vlOk
        rw [show k = t.length by have := HL.out; omega, List.take_length] at hall
        rw [hall, HL.out]
        simp
        omega
      clear hall
      go_wp2
      go_ret
      exact ⟨by rw [HM.out]; rfl, hbel⟩

theorem allF_bad {p : FldP → Bool} {l : List FldP} {k : Nat} (h : k < l.length) (hb : p (nthF l k) = false) : l.all p = false := by
  rw [List.all_eq_false]
  exact ⟨nthF l k, by rw [nthF_get h]; exact List.getElem_mem h, by rw [hb]; simp⟩
theorem allF_step {p : FldP → Bool} {l : List FldP} {k : Nat} (h : k < l.length) (h0 : (l.take k).all p = true) (hb : p (nthF l k) = true) : (l.take (k + 1)).all p = true := by
  rw [take_snocF l k h, List.all_append, h0]
  simp [hb]
/-- Fields whose texts are not too great for the laws. -/
def Fit (l : List FldP) : Prop := ∀ p ∈ l, p.1.size ≤ 1048576 ∧ p.2.size ≤ 1048576

set_option maxHeartbeats 1600000 in
set_option maxRecDepth 100000 in
theorem l4Fault_any (a : Option Addr) (n cap : Nat) (l : List FldP) (w : World) (hl : l.length = n) (hr : RdF w a l) (hn : n ≤ 1048576) (hfit : Fit l) :
    Calls Tryz.prog 96 #[.slice a n cap] w fun e w' => e = .returned (.int .i64 (fdF l)) ∧ Below w.heap.size w w' := by
  have HL : Hid (l.length = n) := hl
  by_cases h8 : 8 < n
  · have h8' : (8 : Int) < (n : Int) := by omega
    have HM : Hid (fdF l = 2) := fdF_many (by omega)
    go_enter Tryz.func96, Tryz.ntmps96
    go_wp2
    go_ret
    exact ⟨by rw [HM.out]; rfl, Below.refl _ _⟩
  · have h8' : ¬ (8 : Int) < (n : Int) := by omega
    clear hl
    go_enter Tryz.func96, Tryz.ntmps96
    go_wp2
    go_loopw [3] (fun v wr => ∃ k : Nat, k ≤ n ∧ v = .int .i64 k ∧ (l.take k).all fdOk = true ∧ Below w.heap.size w wr) (fun v _ => n - (intOf v).toNat)
    case atStart => exact ⟨0, Nat.zero_le _, rfl, by simp, Below.refl _ _⟩
    case round =>
      obtain ⟨k, hk, rfl, hall, hbel⟩ := hrel
      by_cases hkn : k < n
      · obtain ⟨b, off, rfl, hblt, hcell⟩ := hr.at_ (by have := HL.out; omega)
        have hc0 : wr.cell? ⟨b, off + k * 2, none⟩ = some (.string (nthF l k).1) := (hbel.cell (p := ⟨b, off + k * 2, none⟩) hblt).trans (hcell k (by have := HL.out; omega)).1
        have hc1 : wr.cell? ⟨b, off + k * 2 + 1, none⟩ = some (.string (nthF l k).2) := (hbel.cell (p := ⟨b, off + k * 2 + 1, none⟩) hblt).trans (hcell k (by have := HL.out; omega)).2
        have hf := hfit (nthF l k) (by rw [nthF_get (by have := HL.out; omega)]; exact List.getElem_mem _)
        have hki : (k : Int) < (n : Int) := by omega
        have HY : Hid (fdOk (nthF l k) = true → (l.take (k + 1)).all fdOk = true) := fun h => allF_step (by have := HL.out; omega) hall h
        have HN : Hid (fdOk (nthF l k) = false → fdF l = 5) := fun h => fdF_bad (by have := HL.out; omega) (allF_bad (by have := HL.out; omega) h)
        clear hcell hall
        generalize nthF l k = p at *
        obtain ⟨x, y⟩ := p
        simp only at hc0 hc1 hf
        have HX : Hid (∀ w, Calls Tryz.prog 109 #[.string x] w fun e w' => e = .returned (.bool (nmOk (bts x))) ∧ w = w') := fun w => by
          have h := l4Name_any (bts x) _ w rfl (bts_isB x) (by rw [bts_len]; exact hf.1)
          rw [str_bts] at h; exact h
        have HV : Hid (∀ w, Calls Tryz.prog 110 #[.string y] w fun e w' => e = .returned (.bool (vlOk (bts y))) ∧ Below w.heap.size w w') := fun w => by
          have h := l4Value_any (bts y) _ w rfl (bts_isB y) (by rw [bts_len]; exact hf.2)
          rw [str_bts] at h; exact h
        have hok : fdOk (x, y) = (nmOk (bts x) && vlOk (bts y)) := rfl
        rw [hok] at HY HN
        clear hok hf
        generalize nmOk (bts x) = b1 at *
        generalize vlOk (bts y) = b2 at *
        cases b1 with
        | false =>
          have HM : Hid (_) := HN.out rfl
          clear HY HN
          go_wp2_with fail
          refine (HX.out _).mono ?_
          rintro e w' ⟨rfl, rfl⟩
          go_wp2
          go_ret
          exact ⟨by rw [HM.out]; rfl, hbel⟩
        | true =>
          go_wp2_with fail
          refine (HX.out _).mono ?_
          rintro e w' ⟨rfl, rfl⟩
          go_wp2_with fail
          refine (HV.out _).mono ?_
          rintro e w1 ⟨rfl, hb1⟩
          have hbel1 := hbel.trans (hb1.mono hbel.size)
          clear hb1
          cases b2 with
          | false =>
            have HM : Hid (_) := HN.out rfl
            clear HY HN
            go_wp2
            go_ret
            exact ⟨by rw [HM.out]; rfl, hbel1⟩
          | true =>
            have HM : Hid (_) := HY.out rfl
            clear HY HN
            go_wp2
            go_roundw
            case rel => exact ⟨k + 1, by omega, by go_num, HM.out, hbel1⟩
            case measure => simp [intOf]; omega
      · have hki : ¬ (k : Int) < (n : Int) := by omega
        have HM : Hid (fdF l = 0) := fdF_ok (by have := HL.out; omega) (by rw [show k = l.length by have := HL.out; omega, List.take_length] at hall; exact hall)
        clear hall
        go_wp2
        go_ret
        exact ⟨by rw [HM.out]; rfl, hbel⟩

end Go.Proofs.YtaefomiofoakhaaGreatDoor
