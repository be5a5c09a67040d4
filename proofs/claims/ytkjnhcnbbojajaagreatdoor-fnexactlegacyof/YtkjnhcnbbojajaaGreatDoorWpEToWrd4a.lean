/- A told word by its parts and by its places: the same; plain functions, with no program in them · EncodeWords, the program's, at every slice of characters; the bytes that are seen · A told word at a place, the model's, where the form is there. -/
import Derived.Test.YtkjnhcnbbojajaaGreatDoorWPmToWpm
import Derived.Test.YtkjnhcnbbojajaaGreatDoorEncB2ToEncQ
import Derived.Test.YtkjnhcnbbojajaaGreatDoorEncB3ToDecB3
import Derived.Test.YtkjnhcnbbojajaaGreatDoorWrdToWrd3
import Derived.Test.YtkjnhcnbbojajaaGreatDoorShf
import Derived.Test.YtkjnhcnbbojajaaGreatDoorNamToJmp
import Derived.Test.YtkjnhcnbbojajaaGreatDoorDecQToMxi
import Derived.Handy
import Derived.Test.YtkjnhcnbbojajaaGreatDoorDec6ToDec7
namespace Go.Proofs.YtkjnhcnbbojajaaGreatDoor
open Go.RowKit

/-- The bytes of a word, by the text of its way. -/
def toldP (p2 t : List Nat) : Option (List Nat) := if p2.length = 1 then toldV (nth p2 0) t else none
/-- A told word, by its parts. -/
def tdP (v : List Nat) : Option (List Int × Nat) := match spl 4 v with
  | [p0, p1, p2, p3, p4] => if p0 = [61] ∧ nth p4 0 = 61 then (if csI (str (p1.map low)) = 0 then none else match toldP p2 p3 with
      | none => none
      | some bs => (decL (csI (str (p1.map low))) bs).map fun u => (u, v.length - p4.length + 1)) else none
  | _ => none
theorem tw_pre {p : Nat → Bool} : ∀ (a : List Nat) (x : Nat) (r : List Nat), a.all p = true → p x = false → (a ++ x :: r).takeWhile p = a
  | [], x, r, _, h => by rw [List.nil_append, List.takeWhile_cons, h]; rfl
  | c :: a, x, r, ha, h => by
    rw [List.all_cons, Bool.and_eq_true] at ha
    rw [List.cons_append, List.takeWhile_cons, ha.1, if_pos rfl, tw_pre a x r ha.2 h]
theorem drop_pre (a : List Nat) (x : Nat) (r : List Nat) : (a ++ x :: r).drop (a.length + 1) = r := by
  rw [show a ++ x :: r = (a ++ [x]) ++ r by simp, show a.length + 1 = (a ++ [x]).length by simp]
  exact List.drop_left
theorem spl_cut (k : Nat) (a r : List Nat) (ha : a.all noQu = true) : spl (k + 1) (a ++ 63 :: r) = a :: spl k r := by
  unfold spl
  rw [tw_pre a 63 r ha (by decide), if_pos (by rw [List.length_append, List.length_cons]; omega), drop_pre]
  cases k <;> rfl
theorem runL_pre (a r : List Nat) (k : Nat) (b : List Nat) (ha : a.all noQu = true) (hb : b.length = k) : runL noQu (b ++ (a ++ 63 :: r)) k = a.length := by
  unfold runL
  rw [← hb, List.drop_left, tw_pre a 63 r ha (by decide)]
/-- The form of a told word. -/
theorem wd_form (p1 p3 z : List Nat) (c : Nat) (h1 : p1.all noQu = true) (h3 : p3.all noQu = true) (v : List Nat) (hv : v = 61 :: 63 :: (p1 ++ 63 :: (c :: 63 :: (p3 ++ 63 :: (61 :: z))))) :
    wdA v = 2 + p1.length ∧ wdZ v = 2 + p1.length + 3 + p3.length ∧ wdF v ∧ (v.take (wdA v)).drop 2 = p1 ∧ nth v (wdA v + 1) = c ∧ (v.take (wdZ v)).drop (wdA v + 3) = p3 ∧ v.length = wdZ v + 2 + z.length := by
  have hA : wdA v = 2 + p1.length := by
    unfold wdA
    rw [hv, show 61 :: 63 :: (p1 ++ 63 :: (c :: 63 :: (p3 ++ 63 :: (61 :: z)))) = [61, 63] ++ (p1 ++ 63 :: (c :: 63 :: (p3 ++ 63 :: (61 :: z)))) from rfl, runL_pre _ _ 2 [61, 63] h1 rfl]
  have e2 : v = ([61, 63] ++ p1 ++ [63, c, 63]) ++ (p3 ++ 63 :: (61 :: z)) := by rw [hv]; simp
  have hl2 : ([61, 63] ++ p1 ++ [63, c, 63]).length = 2 + p1.length + 3 := by simp; omega
  have hZ : wdZ v = 2 + p1.length + 3 + p3.length := by
    unfold wdZ
    rw [hA]
    conv => lhs; rhs; rw [e2]
    rw [runL_pre p3 (61 :: z) _ _ h3 hl2]
  have gen : ∀ (a b : List Nat) (k j : Nat), a.length = k → nth (a ++ b) (k + j) = nth b j := fun a b k j h => by
    subst h
    simp [nth, List.getD_eq_getElem?_getD, List.getElem?_append_right]
  have e1 : v = ([61, 63] ++ p1) ++ (63 :: c :: 63 :: (p3 ++ 63 :: (61 :: z))) := by rw [hv]; simp
  have hl1 : ([61, 63] ++ p1).length = 2 + p1.length := by simp; omega
  have e3 : v = ([61, 63] ++ p1 ++ [63, c, 63] ++ p3) ++ (63 :: 61 :: z) := by rw [hv]; simp
  have hl3 : ([61, 63] ++ p1 ++ [63, c, 63] ++ p3).length = 2 + p1.length + 3 + p3.length := by simp; omega
  refine ⟨hA, hZ, ⟨?_, ?_, ?_, ?_⟩, ?_, ?_, ?_, ?_⟩
  · rw [hv]; rfl
  · rw [hv]; rfl
  · rw [hA]; conv => lhs; rw [e1]
    rw [gen _ _ _ 2 hl1]; rfl
  · rw [hZ]; conv => lhs; rw [e3]
    rw [gen _ _ _ 1 hl3]; rfl
  · rw [hA]; conv => lhs; rw [e1]
    rw [← hl1, List.take_left]; rfl
  · rw [hA]; conv => lhs; rw [e1]
    rw [gen _ _ _ 1 hl1]; rfl
  · rw [hZ, hA]; conv => lhs; rw [e3]
    rw [← hl3, List.take_left, ← hl2, List.drop_left]
  · rw [hZ, e3, List.length_append, hl3]; simp; omega
theorem noQu_no {x : Nat} (h : noQu x = false) : x = 63 := by
  have := of_decide_eq_false h
  omega
/-- What has the form is so built. -/
theorem wd_parts {v : List Nat} (hf : wdF v) : ∃ p1 c p3 z, p1.all noQu = true ∧ p3.all noQu = true ∧ v = 61 :: 63 :: (p1 ++ 63 :: (c :: 63 :: (p3 ++ 63 :: (61 :: z)))) := by
  obtain ⟨h0, h1, h2, h3⟩ := hf
  have l1 := nth_lt_len (l := v) (k := wdZ v + 1) (by rw [h3]; decide)
  match v, h0, h1, h2, h3, l1 with
  | a :: b :: u, h0, h1, h2, h3, l1 =>
    have ea : a = 61 := h0
    have eb : b = 63 := h1
    subst ea eb
    have hA : wdA (61 :: 63 :: u) = 2 + (u.takeWhile noQu).length := rfl
    have hl : (u.takeWhile noQu).length < u.length := by
      have := nth_lt_len (l := 61 :: 63 :: u) (k := wdA (61 :: 63 :: u) + 2) (by rw [h2]; decide)
      rw [hA] at this
      simp only [List.length_cons] at this
      omega
    obtain ⟨x, r, e1, hx, -, -⟩ := tw_split u hl
    have hx63 := noQu_no hx
    subst hx63
    have hp1 := tw_allp noQu u
    generalize u.takeWhile noQu = p1 at *
    subst e1
    -- r has the way and a mark
    have gen : ∀ (a b : List Nat) (k j : Nat), a.length = k → nth (a ++ b) (k + j) = nth b j := fun a b k j h => by
      subst h
      simp [nth, List.getD_eq_getElem?_getD, List.getElem?_append_right]
    have e2 : (61 :: 63 :: (p1 ++ 63 :: r)) = ([61, 63] ++ p1) ++ (63 :: r) := by simp
    have hl1 : ([61, 63] ++ p1).length = 2 + p1.length := by simp; omega
    have hr1 : nth r 1 = 63 := by
      rw [hA, e2, gen _ _ _ 2 hl1] at h2
      exact h2
    match r, hr1 with
    | c :: d :: y, hr1 =>
      have ed : d = 63 := hr1
      subst ed
      have hZ : wdZ (61 :: 63 :: (p1 ++ 63 :: c :: 63 :: y)) = 2 + p1.length + 3 + (y.takeWhile noQu).length := by
        unfold wdZ runL
        rw [hA, show 61 :: 63 :: (p1 ++ 63 :: c :: 63 :: y) = ([61, 63] ++ p1 ++ [63, c, 63]) ++ y by simp, show 2 + p1.length + 3 = ([61, 63] ++ p1 ++ [63, c, 63]).length by simp; omega, List.drop_left]
      have hly : (y.takeWhile noQu).length < y.length := by
        rw [hZ] at l1
        simp only [List.length_cons, List.length_append] at l1
        omega
      obtain ⟨x, q, e3, hx, -, -⟩ := tw_split y hly
      have hx63 := noQu_no hx
      subst hx63
      have hp3 := tw_allp noQu y
      generalize y.takeWhile noQu = p3 at *
      subst e3
      have e4 : (61 :: 63 :: (p1 ++ 63 :: c :: 63 :: (p3 ++ 63 :: q))) = ([61, 63] ++ p1 ++ [63, c, 63] ++ p3) ++ (63 :: q) := by simp
      have hl3 : ([61, 63] ++ p1 ++ [63, c, 63] ++ p3).length = 2 + p1.length + 3 + p3.length := by simp; omega
      have hq0 : nth q 0 = 61 := by
        rw [hZ, e4, gen _ _ _ 1 hl3] at h3
        exact h3
      match q, hq0 with
      | g :: z, hq0 =>
        have eg : g = 61 := hq0
        subst eg
        exact ⟨p1, c, p3, z, hp1, hp3, rfl⟩
theorem spl_step {k : Nat} {v p : List Nat} {ps : List (List Nat)} (h : spl (k + 1) v = p :: ps) (hp : ps ≠ []) : p.all noQu = true ∧ ∃ r, v = p ++ 63 :: r ∧ spl k r = ps := by
  unfold spl at h
  split at h
  · rename_i hl
    obtain ⟨x, r, e1, hx, h3, -⟩ := tw_split v hl
    have hx63 := noQu_no hx
    subst hx63
    rw [h3] at h
    cases h
    exact ⟨tw_allp noQu v, r, e1, by cases k <;> rfl⟩
  · cases h
    exact absurd rfl hp
theorem td_same (v : List Nat) : tdP v = wdV v := by
  cases hs : wdV v with
  | some r =>
    obtain ⟨hf, hc, bs, hb, hd, e⟩ := wdV_some hs
    obtain ⟨p1, c, p3, z, h1, h3, hv⟩ := wd_parts hf
    obtain ⟨hA, hZ, _, hq1, hqc, hq3, hlen⟩ := wd_form p1 p3 z c h1 h3 v hv
    have hc63 : noQu c = true := by
      unfold wdB at hb
      rw [hqc] at hb
      refine decide_eq_true (fun e => ?_)
      subst e
      rw [toldV_no (by decide) (by decide)] at hb
      cases hb
    have hsp : spl 4 v = [[61], p1, [c], p3, 61 :: z] := by
      rw [hv, show 61 :: 63 :: (p1 ++ 63 :: (c :: 63 :: (p3 ++ 63 :: (61 :: z)))) = [61] ++ 63 :: (p1 ++ 63 :: ([c] ++ 63 :: (p3 ++ 63 :: (61 :: z)))) from rfl,
        spl_cut 3 _ _ (by decide), spl_cut 2 _ _ h1, spl_cut 1 _ _ (by rw [List.all_cons, hc63]; rfl), spl_cut 0 _ _ h3]
      rfl
    unfold tdP
    rw [hsp]
    simp only
    rw [if_pos ⟨trivial, rfl⟩]
    unfold wdC at hc hd
    rw [hq1] at hc hd
    rw [if_neg hc]
    unfold wdB at hb
    rw [hqc, hq3] at hb
    have ht : toldP [c] p3 = some bs := (if_pos (show [c].length = 1 from rfl)).trans hb
    rw [ht]
    simp only
    rw [hd, hlen, List.length_cons]
    obtain ⟨r1, r2⟩ := r
    simp only at e
    subst e
    show some (r1, _) = some (r1, _)
    congr 2
    omega
  | none =>
    unfold tdP
    split
    · rename_i p0 p1 p2 p3 p4 hsp
      split
      · rename_i hc
        obtain ⟨h0, h4⟩ := hc
        obtain ⟨_, r0, e0, hs0⟩ := spl_step hsp (by simp)
        obtain ⟨ha1, r1, e1, hs1⟩ := spl_step hs0 (by simp)
        obtain ⟨ha2, r2, e2, hs2⟩ := spl_step hs1 (by simp)
        obtain ⟨ha3, r3, e3, hs3⟩ := spl_step hs2 (by simp)
        have e4 : r3 = p4 := by
          have : [r3] = [p4] := hs3
          simpa using this
        subst e4 e3 e2 e1 h0
        split
        · rfl
        · rename_i hcs
          cases htp : toldP p2 p3 with
          | none => rfl
          | some bs =>
            simp only
            unfold toldP at htp
            split at htp
            · rename_i h1
              match p2, h1 with
              | [c], _ =>
                match r3, h4 with
                | g :: z, h4 =>
                  have eg : g = 61 := h4
                  subst eg
                  obtain ⟨hA, hZ, hf, hq1, hqc, hq3, hlen⟩ := wd_form p1 p3 z c ha1 ha3 v (by rw [e0]; rfl)
                  have hd := wdV_dec (v := v) (bs := bs) hf (by unfold wdC; rw [hq1]; exact hcs) (by unfold wdB; rw [hqc, hq3]; exact htp)
                  rw [hs] at hd
                  unfold wdC at hd
                  rw [hq1] at hd
                  cases hdl : decL (csI (str (p1.map low))) bs with
                  | none => rfl
                  | some u => rw [hdl] at hd; cases hd
            · cases htp
      · rfl
    · rfl
end Go.Proofs.YtkjnhcnbbojajaaGreatDoor

namespace Go.Proofs.YtkjnhcnbbojajaaGreatDoor
open Go.RowKit

theorem isSeen_any (c : Nat) (w : World) (hc : c < 256) : Calls Tryz.prog 278 #[.int .u8 (c : Int)] w fun e w' => e = .returned (.bool (seenB c)) ∧ w = w' := by
  go_enter Tryz.func278, Tryz.ntmps278
  go_wp2
  all_goals (go_ret; refine ret_bool ?_; rw [Bool.eq_iff_iff]; unfold seenB; simp; try omega)
theorem isBlankOrSeen_any (c : Nat) (w : World) (hc : c < 256) : Calls Tryz.prog 259 #[.int .u8 (c : Int)] w fun e w' => e = .returned (.bool (bosB c)) ∧ w = w' := by
  by_cases h : c = 32
  · subst h
    go_enter Tryz.func259, Tryz.ntmps259
    go_wp2
    go_ret
    exact ⟨rfl, rfl⟩
  · have h' : ((c : Int) == 32) = false := by simp; omega
    have HM : Hid (bosB c = seenB c) := decide_eq_decide.2 (by omega)
    have HC := isSeen_any c w hc
    generalize seenB c = b at *
    go_enter Tryz.func259, Tryz.ntmps259
    go_wp2_with fail
    refine HC.mono ?_
    rintro e w' ⟨rfl, rfl⟩
    go_wp2
    go_ret
    exact ⟨by rw [HM.out]; simp, rfl⟩

set_option maxHeartbeats 1600000 in
set_option maxRecDepth 100000 in
theorem areBytes_seen (t : List Nat) (n : Nat) (w : World) (hl : t.length = n) (hB : IsB t) (hn : n ≤ 1048576) :
    Calls Tryz.prog 234 #[.string (str t), .func (.func 278) #[] #[]] w fun e w' => e = .returned (.bool (t.all seenB)) ∧ w = w' := by
  have hsz : (str t).size = n := by rw [str_size, hl]
  have HL : Hid (t.length = n) := hl
  clear hl
  go_enter Tryz.func234, Tryz.ntmps234
  go_wp2
  go_loop [8] (fun v => ∃ k : Nat, k ≤ n ∧ v = .int .i64 k ∧ (t.take k).all seenB = true) (fun v => n - (intOf v).toNat)
  case atStart => exact ⟨0, Nat.zero_le _, rfl, by simp⟩
  case round =>
    obtain ⟨k, hk, rfl, hall⟩ := hrel
    by_cases hkn : k < n
    · have hki : (k : Int) < (n : Int) := by omega
      have g0 := str_get hB (i := k) (by rw [hsz]; exact hkn)
      have HY : Hid (seenB (nth t k) = true → (t.take (k + 1)).all seenB = true) := fun h => allN_step (by have := HL.out; omega) hall h
      have HN : Hid (seenB (nth t k) = false → t.all seenB = false) := fun h => allN_bad (by have := HL.out; omega) h
      have hx := nth_lt hB k
      have HC : Hid (∀ w, Calls Tryz.prog 278 #[.int .u8 (nth t k : Int)] w fun e w' => e = .returned (.bool (seenB (nth t k))) ∧ w = w') := fun w => isSeen_any (nth t k) w hx
      generalize hbv : seenB (nth t k) = bv at *
      clear hbv hall
      generalize nth t k = x at *
      cases bv with
      | true =>
        have HM : Hid (_) := HY.out rfl
        clear HY HN
        go_wp2_with fail
        refine (HC.out _).mono ?_
        rintro e w' ⟨rfl, rfl⟩
        go_wp2
        go_round
        case rel => exact ⟨k + 1, by omega, by go_num, HM.out⟩
        case measure => simp [intOf]; omega
      | false =>
        have HM : Hid (_) := HN.out rfl
        clear HY HN
        go_wp2_with fail
        refine (HC.out _).mono ?_
        rintro e w' ⟨rfl, rfl⟩
        go_wp2
        go_ret
        exact ⟨by rw [HM.out]; rfl, rfl⟩
    · have hki : ¬ (k : Int) < (n : Int) := by omega
      have HM : Hid (t.all seenB = true) := by
        show _ = _
        rw [show k = t.length by have := HL.out; omega, List.take_length] at hall
        exact hall
      clear hall
      go_wp2
      go_ret
      exact ⟨by rw [HM.out]; rfl, rfl⟩

set_option maxHeartbeats 1600000 in
set_option maxRecDepth 100000 in
theorem areBytes_self (t : List Nat) (n : Nat) (w : World) (hl : t.length = n) (hB : IsB t) (hn : n ≤ 1048576) :
    Calls Tryz.prog 234 #[.string (str t), .func (.func 259) #[] #[]] w fun e w' => e = .returned (.bool (t.all bosB)) ∧ w = w' := by
  have hsz : (str t).size = n := by rw [str_size, hl]
  have HL : Hid (t.length = n) := hl
  clear hl
  go_enter Tryz.func234, Tryz.ntmps234
  go_wp2
  go_loop [8] (fun v => ∃ k : Nat, k ≤ n ∧ v = .int .i64 k ∧ (t.take k).all bosB = true) (fun v => n - (intOf v).toNat)
  case atStart => exact ⟨0, Nat.zero_le _, rfl, by simp⟩
  case round =>
    obtain ⟨k, hk, rfl, hall⟩ := hrel
    by_cases hkn : k < n
    · have hki : (k : Int) < (n : Int) := by omega
      have g0 := str_get hB (i := k) (by rw [hsz]; exact hkn)
      have HY : Hid (bosB (nth t k) = true → (t.take (k + 1)).all bosB = true) := fun h => allN_step (by have := HL.out; omega) hall h
      have HN : Hid (bosB (nth t k) = false → t.all bosB = false) := fun h => allN_bad (by have := HL.out; omega) h
      have hx := nth_lt hB k
      have HC : Hid (∀ w, Calls Tryz.prog 259 #[.int .u8 (nth t k : Int)] w fun e w' => e = .returned (.bool (bosB (nth t k))) ∧ w = w') := fun w => isBlankOrSeen_any (nth t k) w hx
      generalize hbv : bosB (nth t k) = bv at *
      clear hbv hall
      generalize nth t k = x at *
      cases bv with
      | true =>
        have HM : Hid (_) := HY.out rfl
        clear HY HN
        go_wp2_with fail
        refine (HC.out _).mono ?_
        rintro e w' ⟨rfl, rfl⟩
        go_wp2
        go_round
        case rel => exact ⟨k + 1, by omega, by go_num, HM.out⟩
        case measure => simp [intOf]; omega
      | false =>
        have HM : Hid (_) := HN.out rfl
        clear HY HN
        go_wp2_with fail
        refine (HC.out _).mono ?_
        rintro e w' ⟨rfl, rfl⟩
        go_wp2
        go_ret
        exact ⟨by rw [HM.out]; rfl, rfl⟩
    · have hki : ¬ (k : Int) < (n : Int) := by omega
      have HM : Hid (t.all bosB = true) := by
        show _ = _
        rw [show k = t.length by have := HL.out; omega, List.take_length] at hall
        exact hall
      clear hall
      go_wp2
      go_ret
      exact ⟨by rw [HM.out]; rfl, rfl⟩

theorem contains_any (t : List Nat) (n : Nat) (w : World) (hl : t.length = n) (hB : IsB t) (hn : n ≤ 1048576) (hm : MaxI w) : Calls Tryz.prog 231 #[.string (str t), .string ⟨#[61, 63]⟩] w fun e w' => e = .returned (.bool (eqq t)) ∧ w = w' := by
  obtain ⟨m, hm⟩ := hm
  have h := Tryz.strings_Contains (str t) ⟨#[61, 63]⟩ m w (by rw [str_size]; omega) hm
  rw [show (⟨#[61, 63]⟩ : ByteArray).data.toList = [61, 63] from rfl, show (str t).data.toList = t.map UInt8.ofNat by simp [str], contains_eqq t hB] at h
  exact h.mono fun e w' h => ⟨h.1, h.2.symm⟩
theorem str_sum (a b : List Nat) : str (a ++ b) = str a ++ str b := by
  unfold str
  apply ByteArray.ext
  simp [ByteArray.data_append]
theorem told_sum (o : List Nat) (h : (toldW o).length ≤ 1048576) : ∃ u : ByteArray, (∀ w, (Op.stringOp .add ⟨#[61, 63, 117, 116, 102, 45, 56, 63, 66, 63]⟩ (str (Xf.enc o))).run Tryz.prog w = .ok (.string u) w) ∧ ∀ w, (Op.stringOp .add u ⟨#[63, 61]⟩).run Tryz.prog w = .ok (.string (str (toldW o))) w := by
  rw [toldW_len] at h
  have e0 : (⟨#[61, 63, 117, 116, 102, 45, 56, 63, 66, 63]⟩ : ByteArray) = str twB := rfl
  have e1 : (⟨#[63, 61]⟩ : ByteArray) = str [63, 61] := rfl
  refine ⟨str (twB ++ Xf.enc o), fun w => ?_, fun w => ?_⟩
  · rw [e0, str_sum]
    exact run_string_add_sum w _ _ (by rw [str_size, str_size]; simp only [twB, List.length_cons, List.length_nil]; omega)
  · unfold toldW
    rw [e1, str_sum (twB ++ Xf.enc o)]
    exact run_string_add_sum w _ _ (by rw [str_size, str_size, List.length_append]; simp only [twB, List.length_cons, List.length_nil]; omega)
theorem enc_few {o : List Nat} (h : o.length ≤ 400) : (Xf.enc o).length ≤ 1000 := by
  rw [Xf.enc_len]; omega

/-- An answer with a text. -/
def TxtEnd (r : Int × List Nat) (w : World) (e : Ending) (w' : World) : Prop := e = .returned (.agg #[.int .i64 r.1, .string (str r.2)]) ∧ Below w.heap.size w w'
theorem TxtEnd.put {r : Int × List Nat} {w w1 : World} (hbel : Below w.heap.size w w1) (x y : Value) : TxtEnd r w (.returned (.agg #[.int .i64 r.1, .string (str r.2)])) ((w1.setCell ⟨w.heap.size, 0, none⟩ x).setCell ⟨w.heap.size, 1, none⟩ y) :=
  ⟨rfl, (hbel.setCell (by simp) _).setCell (by simp) _⟩

set_option maxHeartbeats 3200000 in
set_option maxRecDepth 100000 in
theorem encodeWords_any (a : Option Addr) (n cap : Nat) (l : List Int) (w : World) (hl : l.length = n) (hr : RdI w a l) (hn : n ≤ 1048576) (ht : TabB w) (hm : MaxI w) :
    Calls Tryz.prog 221 #[.slice a n cap] w fun e w' => TxtEnd (ewV l) w e w' := by
  have hb0 : Below w.heap.size w (w.alloc (.cells #[.int .i64 0, .string ⟨#[]⟩] 51)) := (Below.refl _ _).alloc (Nat.le_refl _) _
  have HE := encodeText_any 4 a n cap l _ hl (hr.below hb0) hn
  have hsW : (w.alloc (.cells #[.int .i64 0, .string ⟨#[]⟩] 51)).heap.size = w.heap.size + 1 := by simp
  have HB : Hid ((encT 4 l).1 ≠ 0 → ewV l = ((encT 4 l).1, [])) := ewV_bad
  have HS : Hid ((encT 4 l).1 = 0 → sfV l = true → ewV l = (0, (encT 4 l).2)) := ewV_self
  have HMn : Hid ((encT 4 l).1 = 0 → sfV l = false → 400 < (toldW (encT 4 l).2).length → ewV l = (2, [])) := ewV_many
  have HT : Hid ((encT 4 l).1 = 0 → sfV l = false → ¬ 400 < (toldW (encT 4 l).2).length → ewV l = (0, toldW (encT 4 l).2)) := ewV_told
  have HI : Hid ((encT 4 l).1 = 0 → IsB (encT 4 l).2 ∧ (encT 4 l).2.length ≤ 400 ∧ ((encT 4 l).2.all bosB && !eqq (encT 4 l).2) = sfV l) := fun h => by
    obtain ⟨hf, he, h4⟩ := encT_zero h
    exact ⟨encT_isB h, h4, by rw [he]; exact self_bytes l (flt_zero hf).2⟩
  clear hr hl
  generalize encT 4 l = r at *
  obtain ⟨c, o⟩ := r
  generalize sfV l = sf at *
  generalize ewV l = x at *
  simp only at HB HS HMn HT HI
  go_enter Tryz.func221, Tryz.ntmps221
  go_wp2_with fail
  refine HE.mono ?_
  rintro e w1 ⟨v, rfl, hown, hb1⟩
  simp only at hown
  have hbl : Below (w.heap.size + 1) (w.alloc (.cells #[.int .i64 0, .string ⟨#[]⟩] 51)) w1 := hb1.mono (by simp)
  clear HE hb1
  generalize hW : w.alloc (.cells #[.int .i64 0, .string ⟨#[]⟩] 51) = W at *
  rw [hsW] at hown
  have hz1 := hbl.size
  rw [hsW] at hz1
  obtain ⟨ao, oc, rfl, ho1, ho2⟩ := hown.form
  have hrd := hown.rd.2
  have hbA : Below w1.heap.size w1 (w1.alloc (.cells #[.int .i64 c, .slice ao o.length oc] 46)) := (Below.refl _ _).alloc (Nat.le_refl _) _
  have hblA := hbl.trans (hbA.mono hz1)
  have hbwA := hb0.trans (hblA.mono (by omega))
  have hrA := hrd.below hbA
  have htA := ht.below hbwA
  have hmA := hm.below hbwA
  obtain ⟨hcw, hcw1, hfw, hfw1⟩ := res_block hW hblA
  have hne : w.heap.size ≠ w1.heap.size := by omega
  have hlt1 : w.heap.size < w1.heap.size := by omega
  by_cases hc : c = 0
  · subst hc
    obtain ⟨hBo, h4o, HX⟩ := HI.out (by first | rfl | trivial)
    have HX' : Hid (_) := HX
    clear HX
    have hst := run_str (cap := oc) (n := o.length) rfl hrA
    have HA : ∀ w, Calls Tryz.prog 234 #[.string (str o), .func (.func 259) #[] #[]] w fun e w' => e = .returned (.bool (o.all bosB)) ∧ w = w' := fun w => areBytes_self o o.length w rfl hBo (by omega)
    have HC := contains_any o o.length _ rfl hBo (by omega) hmA
    have HEb := implEncodeBase_few ao o.length oc o _ rfl hrA hBo ho1 h4o htA
    clear hrd hown hrA htA hmA hbA ht hm hbl
    obtain ⟨tu, ht1, ht2⟩ := told_sum o (by rw [toldW_len]; have := enc_few h4o; omega)
    have fT1 := fldT1
    go_wp2_with fail
    generalize hWA : w1.alloc (.cells #[.int .i64 0, .slice ao o.length oc] 46) = WA at *
    have hA1 : WA.cell? ⟨w1.heap.size, 1, none⟩ = some (.slice ao o.length oc) := by rw [← hWA]; simp
    generalize o.all bosB = b1 at *
    generalize eqq o = b2 at *
    cases b1 with
    | false =>
      have HF : Hid (sf = false) := HX'.out.symm
      clear HC HX'
      refine (HA _).mono ?_
      rintro e w' ⟨rfl, rfl⟩
      go_wp2_with fail
      refine HEb.mono ?_
      rintro e w2 ⟨rfl, hb2⟩
      have hsA : w.heap.size + 1 ≤ WA.heap.size := by have := hblA.size; omega
      have hbl2 := hblA.trans (hb2.mono hsA)
      have hbw2 := hb0.trans (hbl2.mono (by omega))
      obtain ⟨hcw2, hcw21, hfw2, hfw21⟩ := res_block hW hbl2
      clear hb2 HEb hcw hcw1 hfw hfw1 hA1 hWA
      by_cases h4 : 400 < (toldW o).length
      · have h4' : (400 : Int) < ((toldW o).length : Int) := by omega
        have HM : Hid (_) := HMn.out (by first | rfl | trivial) HF.out h4
        have hsz : (str (toldW o)).size = (toldW o).length := str_size _
        clear HS HMn HT HI HB
        generalize toldW o = tw at *
        obtain ⟨hk0, hk1⟩ := res_cells hcw2 hcw21 (.int .i64 2) (.string ⟨#[]⟩)
        go_wp2
        refine bodyPost_ret (v := .agg #[.int .i64 2, .string ⟨#[]⟩]) (by simp [results, Tryz.results221, go_sem, hk0, hk1]) rfl ?_
        rw [HM.out]
        exact TxtEnd.put (r := (2, [])) hbw2 _ _
      · have h4' : ¬ (400 : Int) < ((toldW o).length : Int) := by omega
        have HM : Hid (_) := HT.out (by first | rfl | trivial) HF.out h4
        have hsz : (str (toldW o)).size = (toldW o).length := str_size _
        clear HS HMn HT HI HB
        generalize toldW o = tw at *
        obtain ⟨hk0, hk1⟩ := res_cells hcw2 hcw21 (.int .i64 0) (.string (str tw))
        go_wp2
        refine bodyPost_ret (v := .agg #[.int .i64 0, .string (str tw)]) (by simp [results, Tryz.results221, go_sem, hk0, hk1]) rfl ?_
        rw [HM.out]
        exact TxtEnd.put (r := (0, tw)) hbw2 _ _
    | true =>
      cases b2 with
      | false =>
        have HF : Hid (sf = true) := HX'.out.symm
        have HM : Hid (_) := HS.out (by first | rfl | trivial) HF.out
        clear HX' HS HMn HT HI HB HEb ht1 ht2
        obtain ⟨hk0, hk1⟩ := res_cells hcw hcw1 (.int .i64 0) (.string (str o))
        refine (HA _).mono ?_
        rintro e w' ⟨rfl, rfl⟩
        go_wp2_with fail
        refine HC.mono ?_
        rintro e w' ⟨rfl, rfl⟩
        go_wp2
        refine bodyPost_ret (v := .agg #[.int .i64 0, .string (str o)]) (by simp [results, Tryz.results221, go_sem, hk0, hk1]) rfl ?_
        rw [HM.out]
        exact TxtEnd.put (r := (0, o)) hbwA _ _
      | true =>
        have HF : Hid (sf = false) := HX'.out.symm
        clear HX'
        refine (HA _).mono ?_
        rintro e w' ⟨rfl, rfl⟩
        go_wp2_with fail
        refine HC.mono ?_
        rintro e w' ⟨rfl, rfl⟩
        clear HC
        go_wp2_with fail
        refine HEb.mono ?_
        rintro e w2 ⟨rfl, hb2⟩
        have hsA : w.heap.size + 1 ≤ WA.heap.size := by have := hblA.size; omega
        have hbl2 := hblA.trans (hb2.mono hsA)
        have hbw2 := hb0.trans (hbl2.mono (by omega))
        obtain ⟨hcw2, hcw21, hfw2, hfw21⟩ := res_block hW hbl2
        clear hb2 HEb hcw hcw1 hfw hfw1 hA1 hWA
        by_cases h4 : 400 < (toldW o).length
        · have h4' : (400 : Int) < ((toldW o).length : Int) := by omega
          have HM : Hid (_) := HMn.out (by first | rfl | trivial) HF.out h4
          have hsz : (str (toldW o)).size = (toldW o).length := str_size _
          clear HS HMn HT HI HB
          generalize toldW o = tw at *
          obtain ⟨hk0, hk1⟩ := res_cells hcw2 hcw21 (.int .i64 2) (.string ⟨#[]⟩)
          go_wp2
          refine bodyPost_ret (v := .agg #[.int .i64 2, .string ⟨#[]⟩]) (by simp [results, Tryz.results221, go_sem, hk0, hk1]) rfl ?_
          rw [HM.out]
          exact TxtEnd.put (r := (2, [])) hbw2 _ _
        · have h4' : ¬ (400 : Int) < ((toldW o).length : Int) := by omega
          have HM : Hid (_) := HT.out (by first | rfl | trivial) HF.out h4
          have hsz : (str (toldW o)).size = (toldW o).length := str_size _
          clear HS HMn HT HI HB
          generalize toldW o = tw at *
          obtain ⟨hk0, hk1⟩ := res_cells hcw2 hcw21 (.int .i64 0) (.string (str tw))
          go_wp2
          refine bodyPost_ret (v := .agg #[.int .i64 0, .string (str tw)]) (by simp [results, Tryz.results221, go_sem, hk0, hk1]) rfl ?_
          rw [HM.out]
          exact TxtEnd.put (r := (0, tw)) hbw2 _ _
  · have HM : Hid (_) := HB.out hc
    clear HS HMn HT HI HB
    have hc' : (c == 0) = false := by simp [hc]
    obtain ⟨hdw, hdw1, hdf, hdf1⟩ := res_block hW hbl
    obtain ⟨hk0, hk1⟩ := res_cells hdw hdw1 (.int .i64 c) (.string ⟨#[]⟩)
    have hbw1 := hb0.trans (hbl.mono (by omega))
    have hq0 : ∀ ob, (((w1.setCell ⟨w.heap.size, 0, none⟩ (.int .i64 c)).setCell ⟨w.heap.size, 1, none⟩ (.string ⟨#[]⟩)).alloc ob).cell? ⟨w.heap.size, 0, none⟩ = some (.int .i64 c) := fun ob => by
      rw [World.cell?_alloc_old _ _ _ (by simp; omega)]
      simp [go_sem, hk0]
    have hq1 : ∀ ob, (((w1.setCell ⟨w.heap.size, 0, none⟩ (.int .i64 c)).setCell ⟨w.heap.size, 1, none⟩ (.string ⟨#[]⟩)).alloc ob).cell? ⟨w.heap.size, 1, none⟩ = some (.string ⟨#[]⟩) := fun ob => by
      rw [World.cell?_alloc_old _ _ _ (by simp; omega)]
      exact hk1
    clear hcw hcw1 hfw hfw1 hrA htA hmA
    go_wp2
    refine bodyPost_ret (v := .agg #[.int .i64 c, .string ⟨#[]⟩]) (by simp [results, Tryz.results221, go_sem, hq0, hq1]) rfl ?_
    rw [HM.out]
    exact ⟨rfl, ((hbw1.setCell (by simp) _).setCell (by simp) _).alloc (by simp; omega) _⟩
end Go.Proofs.YtkjnhcnbbojajaaGreatDoor

namespace Go.Proofs.YtkjnhcnbbojajaaGreatDoor
open Go.RowKit

/-- How a word's answer lies. -/
def WdEnd (o : Option (List Int × Nat)) (w : World) (e : Ending) (w' : World) : Prop := Below w.heap.size w w' ∧ match o with
  | some r => ∃ v, e = .returned (.tuple #[v, .int .i64 (r.2 : Int)]) ∧ OwnI w' w.heap.size v r.1
  | none => e = .returned (.tuple #[.slice none 0 0, .int .i64 0])
theorem WdEnd.no {o : Option (List Int × Nat)} {w w' : World} (hb : Below w.heap.size w w') (h : o = none) : WdEnd o w (.returned (.tuple #[.slice none 0 0, .int .i64 0])) w' := by subst h; exact ⟨hb, rfl⟩
/-- What is told where the form is there. -/
def resY (cs : Int) (ob : Option (List Nat)) (z : Nat) : Option (List Int × Nat) := if cs = 0 then none else match ob with
  | none => none
  | some bs => (decL cs bs).map fun u => (u, z + 2)
theorem resY_by (cs : Int) (z : Nat) : resY cs none z = none := by unfold resY; split <;> rfl
theorem dec_few {t l : List Nat} (h : Xf.dec t = some l) : l.length ≤ t.length ∧ IsB l := by
  obtain ⟨he, hb⟩ := Xf.dec_some t l h
  refine ⟨?_, hb⟩
  rw [← he, Xf.enc_len]; omega
theorem toldV_len {kind : Nat} {t bs : List Nat} (h : toldV kind t = some bs) (hB : IsB t) : bs.length ≤ t.length ∧ IsB bs := by
  unfold toldV at h
  split at h
  · exact dec_few h
  · split at h
    · have := ltV_len t.length t bs (Nat.le_refl _) h
      exact ⟨this.1, this.2 hB⟩
    · cases h

set_option maxHeartbeats 3000000 in
set_option maxRecDepth 100000 in
theorem l4Word_yes (t : List Nat) (n i ia iz z : Nat) (p1 p3 : List Nat) (w : World) (hl : t.length = n) (hB : IsB t) (hn : n ≤ 1048576) {q0 : i < (str t).size} {q1 : i + 1 < (str t).size} (g0 : ((str t)[i]).toNat = 61) (g1 : ((str t)[i + 1]).toNat = 63)
    (h632 : nth t (ia + 2) = 63) (h613 : nth t (iz + 1) = 61) (hm1 : mkV t (i + 2) = (ia : Int)) (hm2 : mkV t (ia + 3) = (iz : Int)) (ha2 : i + 2 ≤ ia) (hz3 : ia + 3 ≤ iz) (h4 : iz + 1 < n) (HZ : iz = i + z)
    (he1 : (str t).extract (i + 2) ia = str p1) (he3 : (str t).extract (ia + 3) iz = str p3) (hBp1 : IsB p1) (hBp3 : IsB p3) (hlp1 : p1.length ≤ n) (hlp3 : p3.length ≤ n) :
    Calls Tryz.prog 181 #[.string (str t), .int .i64 (i : Int)] w fun e w' => WdEnd (resY (csI (str (p1.map low))) (toldV (nth t (ia + 1)) p3) z) w e w' := by
  have hsz : (str t).size = n := by rw [str_size, hl]
  have h1' : ¬ (n : Int) ≤ (i : Int) + 1 := by omega
  have h1i : (i : Int) + 1 < (n : Int) := by omega
  have hi0 : (i : Int) < (n : Int) := by omega
  have HK1 := fun w => l4Mark_any t n (i + 2) w hl hB hn (by omega)
  have HK2 := fun w => l4Mark_any t n (ia + 3) w hl hB hn (by omega)
  rw [hm1, show ((i + 2 : Nat) : Int) = (i : Int) + 2 by omega] at HK1
  rw [hm2, show ((ia + 3 : Nat) : Int) = (ia : Int) + 3 by omega] at HK2
  have q1' : ¬ (ia : Int) < 0 := by omega
  have q2' : ¬ (n : Int) ≤ (ia : Int) + 2 := by omega
  have q2i : (ia : Int) + 2 < (n : Int) := by omega
  have g2 := str_get hB (i := ia + 2) (by rw [hsz]; omega)
  have q3' : ¬ (iz : Int) < 0 := by omega
  have q4' : ¬ (n : Int) ≤ (iz : Int) + 1 := by omega
  have q4i : (iz : Int) + 1 < (n : Int) := by omega
  have g3 := str_get hB (i := iz + 1) (by rw [hsz]; omega)
  rw [h632] at g2
  rw [h613] at g3
  have HCs : Hid (∀ w, Calls Tryz.prog 149 #[.string (str p1)] w fun e w' => e = .returned (.int .i64 (csI (str (p1.map low)))) ∧ Below w.heap.size w w') := fun w => l2Of_any p1 _ w rfl hBp1 (by omega)
  have hcs := csI_in (str (p1.map low))
  have ga := str_get hB (i := ia + 1) (by rw [hsz]; omega)
  have HT : Hid (∀ w', Calls Tryz.prog 227 #[.int .u8 (nth t (ia + 1) : Int), .string (str p3)] w' fun e w'' => OptEnd (toldV (nth t (ia + 1)) p3) w' e w'') := fun w' => l4Told_any (nth t (ia + 1)) p3 _ w' (nth_lt hB _) rfl hBp3 (by omega)
  have HBs : Hid (∀ bs, toldV (nth t (ia + 1)) p3 = some bs → bs.length ≤ p3.length ∧ IsB bs) := fun bs h => toldV_len h hBp3
  generalize csI (str (p1.map low)) = cs at *
  generalize toldV (nth t (ia + 1)) p3 = ob at *
  have hx1 : ((ia : Int) + 1).toNat = ia + 1 := by omega
  have hx3 : ((ia : Int) + 3).toNat = ia + 3 := by omega
  have hx4 : (iz : Int).toNat = iz := by omega
  have hw1 : IntKind.i64.wrap ((ia : Int) + 1) = (ia : Int) + 1 := wrap_small _ (by omega) (by omega)
  have hw3 : IntKind.i64.wrap ((ia : Int) + 3) = (ia : Int) + 3 := wrap_small _ (by omega) (by omega)
  have hb1 : (0 : Int) ≤ (ia : Int) + 3 := by omega
  have hb2 : (ia : Int) + 3 ≤ (iz : Int) := by omega
  have hb3 : (iz : Int) ≤ (n : Int) := by omega
  have hs1 : (i : Int) + 2 ≤ (ia : Int) := by omega
  have hs2 : (ia : Int) ≤ (n : Int) := by omega
  have hai : (ia : Int) + 1 < (n : Int) := by omega
  have hx2 : ((i : Int) + 2).toNat = i + 2 := by omega
  have hret : (iz : Int) + 2 - (i : Int) = ((z + 2 : Nat) : Int) := by omega
  clear HZ
  go_enter Tryz.func181, Tryz.ntmps181
  go_wp2_with fail
  refine (HK1 _).mono ?_
  rintro e u1 ⟨rfl, rfl⟩
  go_wp2_with fail
  refine (HK2 _).mono ?_
  rintro e u1 ⟨rfl, rfl⟩
  go_wp2_with fail
  refine (HCs.out _).mono ?_
  rintro e uC ⟨rfl, hbC⟩
  go_wp2_with fail
  refine wp_region_held_drew (S := fun _ => True) (by kernel_rfl) ?hS1 (fun hHeld => ?_)
  case hS1 => exact trivial
  refine wpAnyH_take (i := 0) (v := ?_) rfl (by kernel_rfl) (by kernel_rfl) (by kernel_rfl) (fun _ _ _ h => h) (Or.inl ⟨by rfl, ?hy2⟩) (by assumption) ?ty2
  case hy2 => (intro w hSw; (try dsimp only at hSw); go_simp; all_goals with_reducible rfl)
  simp only [Act.put, List.getElem_toArray, List.getElem_cons_zero, List.setIfInBounds_toArray, List.set_cons_zero, List.set_cons_succ]
  refine wpAnyH_take (i := 1) (v := ?_) rfl (by kernel_rfl) (by kernel_rfl) (by kernel_rfl) (fun _ _ _ h => h) (Or.inl ⟨by rfl, ?hy3⟩) (by assumption) ?ty3
  case hy3 => (intro w hSw; (try dsimp only at hSw); go_simp; all_goals with_reducible rfl)
  simp only [Act.put, List.getElem_toArray, List.getElem_cons_zero, List.getElem_cons_succ, List.setIfInBounds_toArray, List.set_cons_zero, List.set_cons_succ]
  refine wpAnyH_take (i := 2) (v := .int .i64 ((ia : Int) + 1)) rfl (by kernel_rfl) (by kernel_rfl) (by kernel_rfl) (fun _ _ _ h => h) (Or.inl ⟨by rfl, ?hy4⟩) (by assumption) ?ty4
  case hy4 => (intro w hSw; (try dsimp only at hSw); go_simp; first | (simp [hw1]; done) | (all_goals with_reducible rfl))
  simp only [Act.put, List.getElem_toArray, List.getElem_cons_zero, List.getElem_cons_succ, List.setIfInBounds_toArray, List.set_cons_zero, List.set_cons_succ]
  refine wpAnyH_take (i := 3) (v := .int .u8 (nth t (ia + 1) : Int)) rfl (by kernel_rfl) (by kernel_rfl) (by kernel_rfl) (fun _ _ _ h => h) (Or.inl ⟨by rfl, ?hy5⟩) (by assumption) ?ty5
  case hy5 => (intro w hSw; (try dsimp only at hSw); go_simp; all_goals first | (simp [hx1, ga]; done) | (intro hneg; omega))
  simp only [Act.put, List.getElem_toArray, List.getElem_cons_zero, List.getElem_cons_succ, List.setIfInBounds_toArray, List.set_cons_zero, List.set_cons_succ]
  refine wpAnyH_take (i := 4) (v := ?_) rfl (by kernel_rfl) (by kernel_rfl) (by kernel_rfl) (fun _ _ _ h => h) (Or.inl ⟨by rfl, ?hy6⟩) (by assumption) ?ty6
  case hy6 => (intro w hSw; (try dsimp only at hSw); go_simp; all_goals with_reducible rfl)
  simp only [Act.put, List.getElem_toArray, List.getElem_cons_zero, List.getElem_cons_succ, List.setIfInBounds_toArray, List.set_cons_zero, List.set_cons_succ]
  refine wpAnyH_take (i := 5) (v := ?_) rfl (by kernel_rfl) (by kernel_rfl) (by kernel_rfl) (fun _ _ _ h => h) (Or.inl ⟨by rfl, ?hy7⟩) (by assumption) ?ty7
  case hy7 => (intro w hSw; (try dsimp only at hSw); go_simp; all_goals with_reducible rfl)
  simp only [Act.put, List.getElem_toArray, List.getElem_cons_zero, List.getElem_cons_succ, List.setIfInBounds_toArray, List.set_cons_zero, List.set_cons_succ]
  refine wpAnyH_take (i := 6) (v := .int .i64 ((ia : Int) + 3)) rfl (by kernel_rfl) (by kernel_rfl) (by kernel_rfl) (fun _ _ _ h => h) (Or.inl ⟨by rfl, ?hy8⟩) (by assumption) ?ty8
  case hy8 => (intro w hSw; (try dsimp only at hSw); go_simp; first | (simp [hw3]; done) | (all_goals with_reducible rfl))
  simp only [Act.put, List.getElem_toArray, List.getElem_cons_zero, List.getElem_cons_succ, List.setIfInBounds_toArray, List.set_cons_zero, List.set_cons_succ]
  refine wpAnyH_take (i := 7) (v := ?_) rfl (by kernel_rfl) (by kernel_rfl) (by kernel_rfl) (fun _ _ _ h => h) (Or.inl ⟨by rfl, ?hy9⟩) (by assumption) ?ty9
  case hy9 => (intro w hSw; (try dsimp only at hSw); go_simp; all_goals with_reducible rfl)
  simp only [Act.put, List.getElem_toArray, List.getElem_cons_zero, List.getElem_cons_succ, List.setIfInBounds_toArray, List.set_cons_zero, List.set_cons_succ]
  refine wpAnyH_take (i := 8) (v := .string (str p3)) rfl (by kernel_rfl) (by kernel_rfl) (by kernel_rfl) (fun _ _ _ h => h) (Or.inl ⟨by rfl, ?hy10⟩) (by assumption) ?ty10
  case hy10 => (intro w hSw; (try dsimp only at hSw); go_simp; all_goals first | (simp [hx3, hx4, he3, hb1, hb2, hb3]; done) | (intro hneg; omega))
  simp only [Act.put, List.getElem_toArray, List.getElem_cons_zero, List.getElem_cons_succ, List.setIfInBounds_toArray, List.set_cons_zero, List.set_cons_succ]
  refine wpAnyH_ready (rs := [9]) (by kernel_rfl) (by simp) ?_
  refine AllReadyH.cons rfl (fun K hK => ?_) AllReadyH.nil
  go_simp
  refine (HT.out _).mono ?_
  intro e u2 hend
  clear HT
  cases ob with
  | none =>
    have HM : Hid (resY cs none z = none) := resY_by cs z
    obtain ⟨hb2, v, rfl⟩ := hend
    have hbE := hbC.trans ((((Below.refl _ _).drew).trans hb2).mono hbC.size)
    clear hb2
    simp only
    refine hK.out _ _ trivial (fun hHeld => ?_)
    clear hK K
    refine wpAnyH_take (i := 10) (v := ?_) rfl (by kernel_rfl) (by kernel_rfl) (by kernel_rfl) (fun _ _ _ h => h) (Or.inl ⟨by rfl, ?hy11⟩) (by assumption) ?ty11
    case hy11 => (intro w hSw; (try dsimp only at hSw); go_simp; all_goals with_reducible rfl)
    simp only [Act.put, List.getElem_toArray, List.getElem_cons_zero, List.getElem_cons_succ, List.setIfInBounds_toArray, List.set_cons_zero, List.set_cons_succ]
    refine wpAnyH_take (i := 11) (v := ?_) rfl (by kernel_rfl) (by kernel_rfl) (by kernel_rfl) (fun _ _ _ h => h) (Or.inl ⟨by rfl, ?hy12⟩) (by assumption) ?ty12
    case hy12 => (intro w hSw; (try dsimp only at hSw); go_simp; all_goals with_reducible rfl)
    simp only [Act.put, List.getElem_toArray, List.getElem_cons_zero, List.getElem_cons_succ, List.setIfInBounds_toArray, List.set_cons_zero, List.set_cons_succ]
    refine wpAnyH_take (i := 12) (v := ?_) rfl (by kernel_rfl) (by kernel_rfl) (by kernel_rfl) (fun _ _ _ h => h) (Or.inl ⟨by rfl, ?hy13⟩) (by assumption) ?ty13
    case hy13 => (intro w hSw; (try dsimp only at hSw); go_simp; all_goals with_reducible rfl)
    simp only [Act.put, List.getElem_toArray, List.getElem_cons_zero, List.getElem_cons_succ, List.setIfInBounds_toArray, List.set_cons_zero, List.set_cons_succ]
    refine wpAnyH_take (i := 13) (v := ?_) rfl (by kernel_rfl) (by kernel_rfl) (by kernel_rfl) (fun _ _ _ h => h) (Or.inl ⟨by rfl, ?hy14⟩) (by assumption) ?ty14
    case hy14 => (intro w hSw; (try dsimp only at hSw); go_simp; all_goals with_reducible rfl)
    simp only [Act.put, List.getElem_toArray, List.getElem_cons_zero, List.getElem_cons_succ, List.setIfInBounds_toArray, List.set_cons_zero, List.set_cons_succ]
    refine wpAnyH_take (i := 14) (v := ?_) rfl (by kernel_rfl) (by kernel_rfl) (by kernel_rfl) (fun _ _ _ h => h) (Or.inl ⟨by rfl, ?hy15⟩) (by assumption) ?ty15
    case hy15 => (intro w hSw; (try dsimp only at hSw); go_simp; all_goals with_reducible rfl)
    simp only [Act.put, List.getElem_toArray, List.getElem_cons_zero, List.getElem_cons_succ, List.setIfInBounds_toArray, List.set_cons_zero, List.set_cons_succ]
    refine wpAnyH_done (by kernel_rfl) ?_ _
    by_cases hc0 : cs = 0
    · subst hc0
      go_wp2
      go_ret2
      exact .no hbE HM.out
    · have hc0' : (cs == 0) = false := by simp [hc0]
      go_wp2
      go_ret2
      exact .no hbE HM.out
  | some bs =>
    obtain ⟨hb2, v, rfl, hown⟩ := hend
    have hbE := hbC.trans ((((Below.refl _ _).drew).trans hb2).mono hbC.size)
    obtain ⟨bo, bcp, rfl, -, -⟩ := hown.form
    obtain ⟨hlb, hBb⟩ := HBs.out bs rfl
    clear HBs hb2
    simp only
    refine hK.out _ _ trivial (fun hHeld => ?_)
    clear hK K
    refine wpAnyH_take (i := 10) (v := ?_) rfl (by kernel_rfl) (by kernel_rfl) (by kernel_rfl) (fun _ _ _ h => h) (Or.inl ⟨by rfl, ?hy16⟩) (by assumption) ?ty16
    case hy16 => (intro w hSw; (try dsimp only at hSw); go_simp; all_goals with_reducible rfl)
    simp only [Act.put, List.getElem_toArray, List.getElem_cons_zero, List.getElem_cons_succ, List.setIfInBounds_toArray, List.set_cons_zero, List.set_cons_succ]
    refine wpAnyH_take (i := 11) (v := ?_) rfl (by kernel_rfl) (by kernel_rfl) (by kernel_rfl) (fun _ _ _ h => h) (Or.inl ⟨by rfl, ?hy17⟩) (by assumption) ?ty17
    case hy17 => (intro w hSw; (try dsimp only at hSw); go_simp; all_goals with_reducible rfl)
    simp only [Act.put, List.getElem_toArray, List.getElem_cons_zero, List.getElem_cons_succ, List.setIfInBounds_toArray, List.set_cons_zero, List.set_cons_succ]
    refine wpAnyH_take (i := 12) (v := ?_) rfl (by kernel_rfl) (by kernel_rfl) (by kernel_rfl) (fun _ _ _ h => h) (Or.inl ⟨by rfl, ?hy18⟩) (by assumption) ?ty18
    case hy18 => (intro w hSw; (try dsimp only at hSw); go_simp; all_goals with_reducible rfl)
    simp only [Act.put, List.getElem_toArray, List.getElem_cons_zero, List.getElem_cons_succ, List.setIfInBounds_toArray, List.set_cons_zero, List.set_cons_succ]
    refine wpAnyH_take (i := 13) (v := ?_) rfl (by kernel_rfl) (by kernel_rfl) (by kernel_rfl) (fun _ _ _ h => h) (Or.inl ⟨by rfl, ?hy19⟩) (by assumption) ?ty19
    case hy19 => (intro w hSw; (try dsimp only at hSw); go_simp; all_goals with_reducible rfl)
    simp only [Act.put, List.getElem_toArray, List.getElem_cons_zero, List.getElem_cons_succ, List.setIfInBounds_toArray, List.set_cons_zero, List.set_cons_succ]
    refine wpAnyH_take (i := 14) (v := ?_) rfl (by kernel_rfl) (by kernel_rfl) (by kernel_rfl) (fun _ _ _ h => h) (Or.inl ⟨by rfl, ?hy20⟩) (by assumption) ?ty20
    case hy20 => (intro w hSw; (try dsimp only at hSw); go_simp; all_goals with_reducible rfl)
    simp only [Act.put, List.getElem_toArray, List.getElem_cons_zero, List.getElem_cons_succ, List.setIfInBounds_toArray, List.set_cons_zero, List.set_cons_succ]
    refine wpAnyH_done (by kernel_rfl) ?_ _
    by_cases hc0 : cs = 0
    · subst hc0
      have HM : Hid (resY 0 (some bs) z = none) := rfl
      go_wp2
      go_ret2
      exact .no hbE HM.out
    · have hc0' : (cs == 0) = false := by simp [hc0]
      have HM0 : Hid (resY cs (some bs) z = (decL cs bs).map fun u => (u, z + 2)) := if_neg hc0
      have HD := l2Decode_any cs bo bs.length bcp bs _ (by omega) rfl hown.rd.2 hBb (by omega)
      go_wp2_with fail
      refine HD.mono ?_
      clear HD
      rintro e u4 (⟨v4, u, rfl, hd, ho4, hlu, hb4⟩ | ⟨rfl, hd, hb4⟩)
      · have HM : Hid (resY cs (some bs) z = some (u, z + 2)) := by
          show _ = _
          rw [HM0.out, hd]; rfl
        have hbF := hbE.trans (hb4.mono hbE.size)
        have ho5 := ho4.lower hbE.size
        clear HM0 hd hb4
        go_wp2
        go_ret2
        rw [HM.out]
        exact ⟨hbF, v4, rfl, ho5⟩
      · have HM : Hid (resY cs (some bs) z = none) := by
          show _ = _
          rw [HM0.out, hd]; rfl
        have hbF := hbE.trans (hb4.mono hbE.size)
        clear HM0 hd hb4
        go_wp2
        go_ret2
        exact .no hbF HM.out
end Go.Proofs.YtkjnhcnbbojajaaGreatDoor
