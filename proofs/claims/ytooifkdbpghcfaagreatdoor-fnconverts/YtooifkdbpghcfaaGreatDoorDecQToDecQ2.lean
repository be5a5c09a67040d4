/- The parts of DecodeQuoted, the program's: a digit's value, a line that is broken, a byte that is quoted; slices of at least one byte · DecodeQuoted, the program's, at every text: the bytes of its quoted text, or a code; texts of whatever length. -/
import Derived.Test.YtooifkdbpghcfaaGreatDoorDecBToEncQ
import Derived.Laws.BitsAllLaws
import Derived.WalkLawsBesides
import Derived.Test.YtooifkdbpghcfaaGreatDoorMathToEncB2
namespace Go.Proofs.YtooifkdbpghcfaaGreatDoor
open Go.RowKit

/-- Does r begin with a fill and a line feed? -/
def brk (r : List Nat) : Bool := decide (2 ≤ r.length ∧ nth r 0 = 61 ∧ nth r 1 = 10)
/-- The byte that r begins with, quoted. -/
def rdq (r : List Nat) : Option Nat :=
  if 3 ≤ r.length ∧ nth r 0 = 61 ∧ Xq.unhex (nth r 1) < 16 ∧ Xq.unhex (nth r 2) < 16 then some (Xq.unhex (nth r 1) * 16 + Xq.unhex (nth r 2)) else none

theorem unq_step_self {r : List Nat} (hp : 0 < r.length) (h : selfL r = true) : Xq.unq r = (Xq.unq (r.drop 1)).map (nth r 0 :: ·) := by
  match r, hp with
  | c :: r, _ => exact Xq.unq_self (by simpa [selfL, nth] using h)
theorem unq_step_brk {r : List Nat} (h : brk r = true) : Xq.unq r = Xq.unq (r.drop 2) := by
  have h' := of_decide_eq_true h
  match r, h' with
  | c :: d :: r, h' =>
    obtain ⟨_, h1, h2⟩ := h'
    simp only [nth, List.getD_cons_zero, List.getD_cons_succ] at h1 h2
    subst h1 h2
    simpa using Xq.unq_break r
theorem unq_step_hex {r : List Nat} {x : Nat} (hb : brk r = false) (h : rdq r = some x) : Xq.unq r = (Xq.unq (r.drop 3)).map (x :: ·) := by
  unfold rdq at h
  split at h
  · rename_i hh
    obtain ⟨h3, h0, h1, h2⟩ := hh
    have hb' := of_decide_eq_false hb
    match r, h3 with
    | c :: d :: e :: r, _ =>
      simp only [nth, List.getD_cons_zero, List.getD_cons_succ] at h0 h1 h2 hb' h
      subst h0
      have hd : d ≠ 10 := fun hd => hb' ⟨by simp, rfl, hd⟩
      rw [Xq.unq_byte hd ⟨h1, h2⟩]
      simp only [Option.some.injEq] at h
      rw [h]
      simp
  · cases h
theorem unq_step_bad {r : List Nat} (hp : 0 < r.length) (hs : selfL r = false) (hb : brk r = false) (h : rdq r = none) : Xq.unq r = none := by
  have hb' := of_decide_eq_false hb
  unfold rdq at h
  split at h
  · cases h
  · rename_i hh
    match r, hp with
    | c :: r, _ =>
      have hs' : Xq.self c r = false := by simpa [selfL, nth] using hs
      by_cases hc : c = 61
      · subst hc
        match r with
        | [] => exact Xq.unq_short1
        | [d] =>
          have hd : d ≠ 10 := fun hd => hb' ⟨by simp, by simp [nth], by simpa [nth] using hd⟩
          exact Xq.unq_short2 hd
        | d :: e :: r =>
          have hd : d ≠ 10 := fun hd => hb' ⟨by simp, by simp [nth], by simpa [nth] using hd⟩
          exact Xq.unq_bad hd (fun h2 => hh ⟨by simp, by simp [nth], by simpa [nth] using h2.1, by simpa [nth] using h2.2⟩)
      · exact Xq.unq_none hs' hc

/-- What hexValue answers. -/
def hexV (c : Nat) : Value := if Xq.unhex c < 16 then .tuple #[.int .u8 (Xq.unhex c : Int), .bool true] else .tuple #[.int .u8 0, .bool false]
theorem hexV_in {c : Nat} (h : Xq.unhex c < 16) : hexV c = .tuple #[.int .u8 (Xq.unhex c : Int), .bool true] := if_pos h
theorem hexV_out {c : Nat} (h : ¬ Xq.unhex c < 16) : hexV c = .tuple #[.int .u8 0, .bool false] := if_neg h

set_option maxHeartbeats 1600000 in
set_option maxRecDepth 100000 in
theorem hexValue_any (c : Nat) (w : World) (_hc : c < 256) (ht : TabH w) :
    Calls Tryz.prog 136 #[.int .u8 (c : Int)] w fun e w' =>
      e = .returned (hexV c) ∧ w = w' := by
  have hle := Xq.unhex_le c
  go_enter Tryz.func136, Tryz.ntmps136
  go_wp2
  go_loop [5] (fun i => ∃ k : Nat, k ≤ 16 ∧ k ≤ Xq.unhex c ∧ i = .int .u8 k) (fun i => 16 - (intOf i).toNat)
  case atStart => exact ⟨0, by omega, by omega, rfl⟩
  case round =>
    obtain ⟨k, hk, hku, rfl⟩ := hrel
    by_cases hk16 : k < 16
    · have hT := ht k hk16
      have hiff := Xq.hex_eq_iff hk16 hku
      have hi : (k : Int) < 16 := by omega
      by_cases he : k = Xq.unhex c
      · have e1 : ((Xq.hex k : Nat) : Int) = (c : Int) := by rw [hiff.2 he]
        have H : Hid (hexV c = .tuple #[.int .u8 (k : Int), .bool true]) := by
          show _ = _
          rw [hexV_in (by omega), he]
        rw [e1] at hT
        clear hiff he e1 ht
        go_wp2
        go_ret2
        exact ⟨by rw [H.out]; rfl, rfl⟩
      · have hne : Xq.hex k ≠ c := fun h => he (hiff.1 h)
        have e1 : (((Xq.hex k : Nat) : Int) == (c : Int)) = false := beq_eq_false_iff_ne.2 (by omega)
        have hlt : k + 1 ≤ Xq.unhex c := by omega
        clear hiff he ht
        go_wp2
        go_round
        case rel => exact ⟨k + 1, by omega, hlt, by go_num⟩
        case measure => simp [intOf]; omega
    · have hu : ¬ Xq.unhex c < 16 := by omega
      have hi : ¬ (k : Int) < 16 := by omega
      have H : Hid (hexV c = .tuple #[.int .u8 0, .bool false]) := hexV_out hu
      go_wp2
      go_ret2
      exact ⟨by rw [H.out]; rfl, rfl⟩

set_option maxHeartbeats 1600000 in
set_option maxRecDepth 100000 in
theorem breaksLine_any (a : Option Addr) (n cap : Nat) (l : List Nat) (w : World) (hl : l.length = n) (hr : Rd w a l) :
    Calls Tryz.prog 104 #[.slice a n cap] w fun e w' => e = .returned (.bool (brk l)) ∧ w = w' := by
  by_cases hn : 2 ≤ n
  · obtain ⟨b, off, rfl, _, hcell⟩ := hr.at_ (by omega)
    have c0 := hcell 0 (by omega)
    have c1 := hcell 1 (by omega)
    rw [Nat.add_zero] at c0
    have hn' : (2 : Int) ≤ (n : Int) := by omega
    have i0 : (0 : Int) < (n : Int) := by omega
    have i1 : (1 : Int) < (n : Int) := by omega
    clear hcell hr
    by_cases h0 : nth l 0 = 61
    · rw [h0] at c0
      by_cases h1 : nth l 1 = 10
      · have H : Hid (brk l = true) := decide_eq_true ⟨by omega, h0, h1⟩
        rw [h1] at c1
        go_enter Tryz.func104, Tryz.ntmps104
        go_wp2
        go_ret
        exact ⟨by rw [H.out]; rfl, rfl⟩
      · have H : Hid (brk l = false) := decide_eq_false (fun h => h1 h.2.2)
        have e1 : (((nth l 1 : Nat) : Int) == 10) = false := beq_eq_false_iff_ne.2 (by omega)
        go_enter Tryz.func104, Tryz.ntmps104
        go_wp2
        go_ret
        exact ⟨by rw [H.out]; simp, rfl⟩
    · have H : Hid (brk l = false) := decide_eq_false (fun h => h0 h.2.1)
      have e1 : (((nth l 0 : Nat) : Int) == 61) = false := beq_eq_false_iff_ne.2 (by omega)
      go_enter Tryz.func104, Tryz.ntmps104
      go_wp2
      go_ret
      exact ⟨by rw [H.out]; rfl, rfl⟩
  · have H : Hid (brk l = false) := decide_eq_false (fun h => hn (by omega))
    have hn' : ¬ (2 : Int) ≤ (n : Int) := by omega
    go_enter Tryz.func104, Tryz.ntmps104
    go_wp2
    go_ret
    exact ⟨by rw [H.out]; rfl, rfl⟩

/-- What readQuoted answers. -/
def rdqV (r : List Nat) : Value := match rdq r with
  | some x => .tuple #[.int .u8 (x : Int), .bool true]
  | none => .tuple #[.int .u8 0, .bool false]
theorem rdqV_some {r : List Nat} {x : Nat} (h : rdq r = some x) : rdqV r = .tuple #[.int .u8 (x : Int), .bool true] := by simp [rdqV, h]
theorem rdqV_none {r : List Nat} (h : rdq r = none) : rdqV r = .tuple #[.int .u8 0, .bool false] := by simp [rdqV, h]
theorem or_hex (x y : Nat) (hx : x < 16) (hy : y < 16) : Go.bits BinOp.or IntKind.u8 ((x : Int) * 16) (y : Int) = ((x * 16 + y : Nat) : Int) := by
  have := u8_or_nat (x * 16) y (by omega) (by omega)
  rw [show ((x * 16 : Nat) : Int) = (x : Int) * 16 by omega] at this
  rw [this]
  have h := Nat.shiftLeft_add_eq_or_of_lt (show y < 2 ^ 4 by omega) x
  rw [Nat.shiftLeft_eq] at h
  rw [show x * 16 = x * 2 ^ 4 from rfl, ← h]

set_option maxHeartbeats 1600000 in
set_option maxRecDepth 100000 in
theorem readQuoted_any (a : Option Addr) (n cap : Nat) (l : List Nat) (w : World) (hl : l.length = n) (hr : Rd w a l) (hB : IsB l) (hp : 0 < n) (ht : TabH w) :
    Calls Tryz.prog 105 #[.slice a n cap] w fun e w' => e = .returned (rdqV l) ∧ w = w' := by
  obtain ⟨b, off, rfl, _, hcell⟩ := hr.at_ (by omega)
  have c0 := hcell 0 (by omega)
  rw [Nat.add_zero] at c0
  have i0 : (0 : Int) < (n : Int) := by omega
  by_cases hn : 3 ≤ n
  · have c1 := hcell 1 (by omega)
    have c2 := hcell 2 (by omega)
    have hn' : ¬ (n : Int) < 3 := by omega
    have i1 : (1 : Int) < (n : Int) := by omega
    have i2 : (2 : Int) < (n : Int) := by omega
    have x1 := nth_lt hB 1
    have x2 := nth_lt hB 2
    clear hcell hr
    by_cases h0 : nth l 0 = 61
    · rw [h0] at c0
      by_cases h1 : Xq.unhex (nth l 1) < 16
      · have H1 : Hid (hexV (nth l 1) = .tuple #[.int .u8 (Xq.unhex (nth l 1) : Int), .bool true]) := hexV_in h1
        by_cases h2 : Xq.unhex (nth l 2) < 16
        · have H2 : Hid (hexV (nth l 2) = .tuple #[.int .u8 (Xq.unhex (nth l 2) : Int), .bool true]) := hexV_in h2
          have H : Hid (rdqV l = .tuple #[.int .u8 ((Xq.unhex (nth l 1) * 16 + Xq.unhex (nth l 2) : Nat) : Int), .bool true]) := rdqV_some (by unfold rdq; rw [if_pos ⟨by omega, h0, h1, h2⟩])
          have e1 := or_hex _ _ h1 h2
          obtain ⟨q, hq⟩ : ∃ q, q = Xq.unhex (nth l 1) * 16 + Xq.unhex (nth l 2) := ⟨_, rfl⟩
          rw [← hq] at e1 H
          clear hq
          go_enter Tryz.func105, Tryz.ntmps105
          go_wp2_with fail
          refine (hexValue_any (nth l 1) _ x1 ht).mono ?_
          rintro e w1 ⟨rfl, rfl⟩
          rw [H1.out]
          go_wp2_with fail
          refine (hexValue_any (nth l 2) _ x2 ht).mono ?_
          rintro e w1 ⟨rfl, rfl⟩
          rw [H2.out]
          go_wp2
          go_ret2
          exact ⟨by rw [H.out]; rfl, rfl⟩
        · have H2 : Hid (hexV (nth l 2) = .tuple #[.int .u8 0, .bool false]) := hexV_out h2
          have H : Hid (rdqV l = .tuple #[.int .u8 0, .bool false]) := rdqV_none (by unfold rdq; rw [if_neg (fun h => h2 h.2.2.2)])
          go_enter Tryz.func105, Tryz.ntmps105
          go_wp2_with fail
          refine (hexValue_any (nth l 1) _ x1 ht).mono ?_
          rintro e w1 ⟨rfl, rfl⟩
          rw [H1.out]
          go_wp2_with fail
          refine (hexValue_any (nth l 2) _ x2 ht).mono ?_
          rintro e w1 ⟨rfl, rfl⟩
          rw [H2.out]
          go_wp2
          go_ret2
          exact ⟨by rw [H.out]; rfl, rfl⟩
      · have H1 : Hid (hexV (nth l 1) = .tuple #[.int .u8 0, .bool false]) := hexV_out h1
        have H : Hid (rdqV l = .tuple #[.int .u8 0, .bool false]) := rdqV_none (by unfold rdq; rw [if_neg (fun h => h1 h.2.2.1)])
        obtain ⟨u, hu⟩ : ∃ u b, hexV (nth l 2) = .tuple #[.int .u8 u, .bool b] := by
          by_cases h2 : Xq.unhex (nth l 2) < 16
          · exact ⟨_, _, hexV_in h2⟩
          · exact ⟨_, _, hexV_out h2⟩
        obtain ⟨bb, hu⟩ := hu
        have H2 : Hid (hexV (nth l 2) = .tuple #[.int .u8 u, .bool bb]) := hu
        clear hu
        go_enter Tryz.func105, Tryz.ntmps105
        go_wp2_with fail
        refine (hexValue_any (nth l 1) _ x1 ht).mono ?_
        rintro e w1 ⟨rfl, rfl⟩
        rw [H1.out]
        go_wp2_with fail
        refine (hexValue_any (nth l 2) _ x2 ht).mono ?_
        rintro e w1 ⟨rfl, rfl⟩
        rw [H2.out]
        go_wp2
        go_ret2
        exact ⟨by rw [H.out]; rfl, rfl⟩
    · have H : Hid (rdqV l = .tuple #[.int .u8 0, .bool false]) := rdqV_none (by unfold rdq; rw [if_neg (fun h => h0 h.2.1)])
      have e1 : (((nth l 0 : Nat) : Int) != 61) = true := by rw [bne_iff_ne]; omega
      go_enter Tryz.func105, Tryz.ntmps105
      go_wp2
      go_ret2
      exact ⟨by rw [H.out]; rfl, rfl⟩
  · have H : Hid (rdqV l = .tuple #[.int .u8 0, .bool false]) := rdqV_none (by unfold rdq; rw [if_neg (fun h => hn (by omega))])
    have hn' : (n : Int) < 3 := by omega
    go_enter Tryz.func105, Tryz.ntmps105
    go_wp2
    go_ret2
    exact ⟨by rw [H.out]; rfl, rfl⟩
end Go.Proofs.YtooifkdbpghcfaaGreatDoor

namespace Go.Proofs.YtooifkdbpghcfaaGreatDoor
open Go.RowKit

/-- What DecodeQuoted answers: a code and bytes. -/
def decQ (t : List Nat) : Int × List Nat :=
  if 1600 < t.length then (2, []) else match Xq.unq t with
    | none => (7, [])
    | some b => if 400 < b.length then (2, []) else (0, b)
theorem decQ_long {t : List Nat} (h : 1600 < t.length) : decQ t = (2, []) := by unfold decQ; rw [if_pos h]
theorem decQ_none {t : List Nat} (h : ¬ 1600 < t.length) (hn : Xq.unq t = none) : decQ t = (7, []) := by unfold decQ; rw [if_neg h, hn]
theorem decQ_many {t b : List Nat} (h : ¬ 1600 < t.length) (hn : Xq.unq t = some b) (hb : 400 < b.length) : decQ t = (2, []) := by unfold decQ; rw [if_neg h, hn]; simp only; rw [if_pos hb]
theorem decQ_some {t b : List Nat} (h : ¬ 1600 < t.length) (hn : Xq.unq t = some b) (hb : ¬ 400 < b.length) : decQ t = (0, b) := by unfold decQ; rw [if_neg h, hn]; simp only; rw [if_neg hb]

theorem Own.low {w : World} {B C : Nat} {v : Value} {l : List Nat} (h : Own w B v l) (hC : C ≤ B) : Own w C v l := by
  refine ⟨h.1, ?_⟩
  rcases h.2 with h' | ⟨g, cap, cur, h1, h2, h3⟩
  · exact .inl h'
  · exact .inr ⟨g, cap, cur, h1, Nat.le_trans hC h2, h3⟩
theorem Own.set {w : World} {B : Nat} {v : Value} {l : List Nat} (h : Own w B v l) (p : Addr) (hp : p.block < B) (u : Value) : Own (w.setCell p u) B v l := ownsRow_setCell_below h hp u

set_option maxHeartbeats 3200000 in
set_option maxRecDepth 100000 in
theorem implDecodeQuoted_any (t : List Nat) (n : Nat) (w : World) (hl : t.length = n) (hB : IsB t) (ht : TabH w) :
    Calls Tryz.prog 82 #[.string (str t)] w fun e w' => ∃ v, e = .returned (.agg #[.int .i64 (decQ t).1, v]) ∧ Own w' w.heap.size v (decQ t).2 ∧ Below w.heap.size w w' := by
  have hsz : (str t).size = n := by rw [str_size, hl]
  by_cases hbig : 1600 < n
  · have H : Hid (decQ t = (2, [])) := decQ_long (by omega)
    have hn' : (1600 : Int) < (n : Int) := by omega
    go_enter Tryz.func82, Tryz.ntmps82
    go_wp2
    go_returns
    exact ⟨.slice none 0 0, by rw [H.out], by rw [H.out]; exact Own.nil _ _, by go_grown⟩
  · have hn' : ¬ (1600 : Int) < (n : Int) := by omega
    have hcv := fun wx => run_bytes_of_string (P := Tryz.prog) wx 9 22 5 (str t) Tryz.underlying9 Tryz.underlying22 Tryz.underlying5
    rw [hsz] at hcv
    go_enter Tryz.func82, Tryz.ntmps82
    go_wp2
    have hcap := grownCap_ge (w.alloc (Obj.cells #[Value.int IntKind.i64 0, Value.slice none 0 0] 27)) n 0 5
    clear hcv
    generalize grownCap (w.alloc (Obj.cells #[Value.int IntKind.i64 0, Value.slice none 0 0] 27)) n 0 5 = cp at *
    have hb1 : Below w.heap.size w (w.alloc (.cells #[.int .i64 0, .slice none 0 0] 27)) := (Below.refl _ _).alloc (Nat.le_refl _) _
    have hW1s : (w.alloc (.cells #[.int .i64 0, .slice none 0 0] 27)).heap.size = w.heap.size + 1 := by simp
    generalize hW1 : w.alloc (.cells #[.int .i64 0, .slice none 0 0] 27) = W1 at *
    have hb2 : Below (w.heap.size + 1) W1 (W1.alloc (.cells (bytesRow (str t) cp) 5 ((bytesRow (str t) cp).size, (bytesRow (str t) cp).size + 1))).drew := ((Below.refl _ _).alloc (by omega) _).drew
    have hr0 : Rd (W1.alloc (.cells (bytesRow (str t) cp) 5 ((bytesRow (str t) cp).size, (bytesRow (str t) cp).size + 1))).drew (some ⟨w.heap.size + 1, 0, none⟩) t := by
      have := bytesRow_rd W1 t hB cp ((bytesRow (str t) cp).size, (bytesRow (str t) cp).size + 1)
      rw [hW1s] at this
      exact this
    have hWs : (W1.alloc (.cells (bytesRow (str t) cp) 5 ((bytesRow (str t) cp).size, (bytesRow (str t) cp).size + 1))).drew.heap.size = w.heap.size + 2 := by simp; omega
    generalize (W1.alloc (.cells (bytesRow (str t) cp) 5 ((bytesRow (str t) cp).size, (bytesRow (str t) cp).size + 1))).drew = W at *
    have hb0 : Below w.heap.size w W := hb1.trans (hb2.mono (by omega))
    have ht0 : TabH W := ht.below hb0
    have hGl := ht.lt
    go_loopw [3, 4] (fun v r wr => ∃ (k m c : Nat) (out : List Nat) (a' : Option Addr), k + m = n ∧ m ≤ c ∧ r = .slice a' m c ∧ Rd W a' (t.drop k) ∧ Own wr (w.heap.size + 2) v out ∧ Below (w.heap.size + 2) W wr ∧ Hid (Xq.unq t = (Xq.unq (t.drop k)).map (out ++ ·)) ∧ out.length ≤ k)
      (fun _ r _ => sliceLen r)
    case atStart => exact ⟨0, n, cp, [], _, by omega, hcap, rfl, hr0, Own.nil _ _, Below.refl _ _, by show _ = _; rw [List.drop_zero]; cases Xq.unq t <;> simp, Nat.le_refl _⟩
    case round =>
      obtain ⟨k, m, c, out, a', hk, hmc, rfl, hrk, hown, hbel, hq, hol⟩ := hrel
      have hz : w.heap.size + 2 ≤ wr.heap.size := by have := hbel.size; omega
      have hlk : (t.drop k).length = m := by rw [List.length_drop, hl]; omega
      have htr : TabH wr := ht0.below (by rw [hWs]; exact hbel)
      have hrw : Rd wr a' (t.drop k) := hrk.below (by rw [hWs]; exact hbel)
      by_cases hm : 0 < m
      · obtain ⟨b, off, rfl, hblt, hcell⟩ := hrk.at_ (by omega)
        have c0 : wr.cell? ⟨b, off, none⟩ = some (.int .u8 (nth (t.drop k) 0 : Int)) := (hbel.cell (p := ⟨b, off, none⟩) (by simp; omega)).trans (by have := hcell 0 (by omega); rw [Nat.add_zero] at this; exact this)
        have hm' : (0 : Int) < (m : Int) := by omega
        clear hcell
        go_wp2_with fail
        refine (stands_any _ m c (t.drop k) _ hlk hrw hm).mono ?_
        rintro e w1 ⟨rfl, rfl⟩
        cases hs : selfL (t.drop k) with
        | true =>
          have HQ : Hid (Xq.unq t = (Xq.unq (t.drop (k + 1))).map ((out ++ [nth (t.drop k) 0]) ++ ·)) := by
            show _ = _
            rw [hq.out, unq_step_self (by omega) hs, List.drop_drop]
            cases Xq.unq (t.drop (k + 1)) <;> simp
          have HR : Hid (Rd W (if c = 1 then some ⟨b, off, none⟩ else some ⟨b, off + 1, none⟩) (t.drop (k + 1))) := (by
            have h := hrk.drop 1
            rw [List.drop_drop] at h
            exact h.cut (fun hh => List.drop_of_length_le (by omega)))
          have i1 : (1 : Int) ≤ (m : Int) := by omega
          generalize nth (t.drop k) 0 = x at *
          clear hq hs hrw hlk
          go_wp2_with (at_builtin; refine wpList_app_new rfl _ _ rfl (w.heap.size + 2) _ out rfl hown 1 1 [x] rfl rfl rfl (by omega) hz ?_; intro v' w2 hown' hb')
          go_wp2
          go_roundw
          case rel => exact ⟨k + 1, m - 1, c - 1, out ++ [x], _, by omega, by omega, rfl, HR.out, hown', hbel.trans hb', HQ, by simp; omega⟩
          case measure => simp [sliceLen]; omega
        | false =>
          go_wp2_with fail
          refine (breaksLine_any _ m c (t.drop k) _ hlk hrw).mono ?_
          rintro e w2 ⟨rfl, rfl⟩
          cases hbk : brk (t.drop k) with
          | true =>
            have h2 : 2 ≤ m := by have := (of_decide_eq_true hbk).1; omega
            have HQ : Hid (Xq.unq t = (Xq.unq (t.drop (k + 2))).map (out ++ ·)) := by
              show _ = _
              rw [hq.out, unq_step_brk hbk, List.drop_drop]
            have HR : Hid (Rd W (if c = 2 then some ⟨b, off, none⟩ else some ⟨b, off + 2, none⟩) (t.drop (k + 2))) := (by
              have h := hrk.drop 2
              rw [List.drop_drop] at h
              exact h.cut (fun hh => List.drop_of_length_le (by omega)))
            have i2 : (2 : Int) ≤ (m : Int) := by omega
            clear hq hs hrw hlk hbk c0
            go_wp2
            go_roundw
            case rel => exact ⟨k + 2, m - 2, c - 2, out, _, by omega, by omega, rfl, HR.out, hown, hbel, HQ, by omega⟩
            case measure => simp [sliceLen]; omega
          | false =>
            go_wp2_with fail
            refine (readQuoted_any _ m c (t.drop k) _ hlk hrw (isB_drop hB k) hm htr).mono ?_
            rintro e w3 ⟨rfl, rfl⟩
            cases hx : rdq (t.drop k) with
            | none =>
              rw [rdqV_none hx]
              have H : Hid (decQ t = (7, [])) := decQ_none (by omega) (by rw [hq.out, unq_step_bad (by omega) hs hbk hx]; rfl)
              obtain ⟨hcw, hcw1, hfw, hfw1⟩ := res_block hW1 (hb2.trans (hbel.mono (by omega)))
              obtain ⟨hk0, hk1⟩ := res_cells hcw hcw1 (.int .i64 7) (.slice none 0 0)
              clear hq hs hrw hlk hbk c0 hx
              go_wp2
              refine bodyPost_ret (v := .agg #[.int .i64 7, .slice none 0 0]) (by simp [results, Tryz.results82, go_sem, hk0, hk1]) rfl ?_
              exact ⟨.slice none 0 0, by rw [H.out], by rw [H.out]; exact Own.nil _ _, ((hb0.trans (hbel.mono (by omega))).setCell (by simp) _).setCell (by simp) _⟩
            | some x =>
              rw [rdqV_some hx]
              have h3 : 3 ≤ m := by
                unfold rdq at hx
                split at hx
                · rename_i hh; have := hh.1; omega
                · cases hx
              have HQ : Hid (Xq.unq t = (Xq.unq (t.drop (k + 3))).map ((out ++ [x]) ++ ·)) := by
                show _ = _
                rw [hq.out, unq_step_hex hbk hx, List.drop_drop]
                cases Xq.unq (t.drop (k + 3)) <;> simp
              have HR : Hid (Rd W (if c = 3 then some ⟨b, off, none⟩ else some ⟨b, off + 3, none⟩) (t.drop (k + 3))) := (by
                have h := hrk.drop 3
                rw [List.drop_drop] at h
                exact h.cut (fun hh => List.drop_of_length_le (by omega)))
              have i3 : (3 : Int) ≤ (m : Int) := by omega
              clear hq hs hrw hlk hbk c0 hx
              go_wp2_with (at_builtin; refine wpList_app_new rfl _ _ rfl (w.heap.size + 2) _ out rfl hown 1 1 [x] rfl rfl rfl (by omega) hz ?_; intro v' w2 hown' hb')
              go_wp2
              go_roundw
              case rel => exact ⟨k + 3, m - 3, c - 3, out ++ [x], _, by omega, by omega, rfl, HR.out, hown', hbel.trans hb', HQ, by simp; omega⟩
              case measure => simp [sliceLen]; omega
      · have hm0 : m = 0 := by omega
        subst hm0
        have hu : Xq.unq t = some out := by rw [hq.out, List.drop_of_length_le (by omega)]; simp [Xq.unq]
        obtain ⟨ao, ocap, rfl, hoc⟩ := hown.form
        obtain ⟨hcw, hcw1, hfw, hfw1⟩ := res_block hW1 (hb2.trans (hbel.mono (by omega)))
        generalize hN : out.length = N at *
        by_cases h4 : 400 < N
        · have h4' : (400 : Int) < (N : Int) := by omega
          have H : Hid (decQ t = (2, [])) := decQ_many (by omega) hu (by omega)
          obtain ⟨hk0, hk1⟩ := res_cells hcw hcw1 (.int .i64 2) (.slice none 0 0)
          clear hq hu hrw hlk hN
          go_wp2
          refine bodyPost_ret (v := .agg #[.int .i64 2, .slice none 0 0]) (by simp [results, Tryz.results82, go_sem, hk0, hk1]) rfl ?_
          exact ⟨.slice none 0 0, by rw [H.out], by rw [H.out]; exact Own.nil _ _, ((hb0.trans (hbel.mono (by omega))).setCell (by simp) _).setCell (by simp) _⟩
        · have h4' : ¬ (400 : Int) < (N : Int) := by omega
          have H : Hid (decQ t = (0, out)) := decQ_some (by omega) hu (by omega)
          obtain ⟨hk0, hk1⟩ := res_cells hcw hcw1 (.int .i64 0) (.slice ao N ocap)
          clear hq hu hrw hlk hN
          go_wp2
          refine bodyPost_ret (v := .agg #[.int .i64 0, .slice ao N ocap]) (by simp [results, Tryz.results82, go_sem, hk0, hk1]) rfl ?_
          exact ⟨.slice ao N ocap, by rw [H.out], by rw [H.out]; exact ((hown.set _ (by simp) _).set _ (by simp) _).low (by omega), ((hb0.trans (hbel.mono (by omega))).setCell (by simp) _).setCell (by simp) _⟩
end Go.Proofs.YtooifkdbpghcfaaGreatDoor
