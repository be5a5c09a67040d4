/- Words for the model's packing: a copy into a slice that grew, a text turned into bytes at a step of a drawn region, ways that meet; two bytes of a number, the sum of some bytes: the model's; no conditions beyond those that each fact names. -/
import Derived.Test.YtdcgihcjiiemdaaDoorPkd
import Derived.Laws.IdiomCopy
import Derived.Deep.RegionHeld3
namespace Go.Proofs.YtdcgihcjiiemdaaDoor
open Go.RowKit
set_option linter.unusedVariables false

theorem Gr.ne {w : World} {B k : Nat} {v : Value} {l : List Nat} (h : Gr w B v l) (hk : w.heap.size ≤ k) : v.ownBlock ≠ some k := by
  obtain ⟨g, cap, rfl, -, -, hc⟩ := h
  have := hc.2.2.1
  intro e
  simp [Value.ownBlock] at e
  omega
theorem wpList_copy_gr {w : World} {ops : Array Oper} {rest : List Oper} {o : Oper} {a : Act} {Q : Exit → Act → World → Prop} (hgd : o.guard = none) (d s : Operand)
    (ho : o.op = .call { callee := .builtin .copy, args := #[d, s], argTypes := #[22, 22] }) (B : Nat) (v : Value) (l new : List Nat) (m c : Nat) (ad : Addr) (hm : new.length = m) (hml : m ≤ l.length)
    (hd : a.eval d = v) (hv : Gr w B v l) (hs : a.eval s = .slice (some ad) m c) (hr : ∀ j, j < m → w.cell? (ad.add j) = some (.int .u8 (nth new j : Int)))
    (h : ∀ w1, Gr w1 B v (new ++ l.drop m) → Below B w w1 → wpList Tryd.prog ops Q rest (a.put o.dst (goInt m)) w1) : wpList Tryd.prog ops Q (o :: rest) a w := by
  refine wpList_plain hgd fun K hK => ?_
  obtain ⟨i, hi, hz, hsize, hby⟩ := info_parts infoB
  obtain ⟨g, cap, rfl, hBg, hcm, hl, hn, hlt, hc, hf⟩ := hv
  have hrun := run_copy_cells (P := Tryd.prog) w 22 22 o.type 5 g 0 l.length cap ad m c (bc new) Tryd.underlying22 (by rw [hi]; simp [hsize]) (by rw [bc_len, hm]; exact (Nat.min_eq_left hml).symm)
    (fun j u hj => by
      have hjl : j < new.length := by
        rcases Nat.lt_or_ge j new.length with h | h
        · exact h
        · rw [List.getElem?_eq_none (by rw [bc_len]; exact h)] at hj; cases hj
      rw [bc_get hjl] at hj
      cases hj
      exact hr j (by omega)) (fun j hj => by rw [bc_len] at hj; rw [Nat.zero_add]; exact (hf j (by omega)).1) (fun j hj => by rw [bc_len] at hj; rw [Nat.zero_add]; exact (hf j (by omega)).2) (bc_one new)
  rw [bc_len, hm] at hrun
  unfold Oper.wp
  simp [execOp, ho, resolve, invoke, builtin, hd, hs, hrun, Result.andThen]
  refine hK _ _ (h _ ⟨g, cap, ?_, hBg, hcm, rfl, ?_, ?_, fun j hj => ?_, fun j hj => ⟨?_, ?_⟩⟩ ((below_setCells g _ _ _).mono hBg))
  · rw [List.length_append, List.length_drop, hm, Nat.add_sub_cancel' hml]
  · rw [List.length_append, List.length_drop, hm]; omega
  · exact Nat.lt_of_lt_of_le hlt (below_setCells g _ _ _).size
  · rw [List.length_append, List.length_drop, hm] at hj
    have hin := World.cell?_setCells_in g (bc new) 0 w (fun j hj => by rw [bc_len] at hj; rw [Nat.zero_add]; exact (hf j (by omega)).1)
    rcases Nat.lt_or_ge j m with h1 | h1
    · have := hin j (by rw [bc_len]; omega)
      rw [Nat.zero_add] at this
      rw [this, nth_get (by rw [List.length_append, List.length_drop]; omega), List.getElem_append_left (by omega)]
      simp [bc]
    · rw [World.cell?_setCells_out g (bc new) 0 w ⟨g, j, none⟩ (fun _ _ => .inr (by rw [bc_len]; simp; omega)), hc j (by omega), nth_get (by omega), nth_get (by rw [List.length_append, List.length_drop]; omega), List.getElem_append_right (by omega)]
      simp [hm, show m + (j - m) = j by omega]
  · exact World.isSome_setCells g (bc new) _ w _ (hf j hj).1
  · exact (World.frozen?_setCells g _ _ _ _).trans (hf j hj).2

/-- A TEXT TURNED INTO BYTES AT A STEP OF A REGION THAT DRAWS ITS ORDER. -/
theorem step_conv {w : World} {ops : Array Oper} {o : Oper} {a : Act} {K : Act → World → Prop} {Q : Exit → Act → World → Prop} {E : Prop} (hgd : o.guard = none) (s : Operand)
    (ho : o.op = .convert 9 22 s) (l : List Nat) (hB : IsB l) (n : Nat) (hn : l.length = n) (hs : a.eval s = .string (str l)) (hsz : n ≤ 1000000)
    (h : ∀ cap w1, Rd w1 (some ⟨w.heap.size, 0, none⟩) l → Below w.heap.size w w1 → w.heap.size < w1.heap.size → K (a.put o.dst (.slice (some ⟨w.heap.size, 0, none⟩) n cap)) w1) : if Region.wanted o (yielded ops a.tmps) = true then Oper.wp Tryd.prog o a w K Q else E := by
  have hw : Region.wanted o (yielded ops a.tmps) = true := by simp [Region.wanted, hgd]
  rw [if_pos hw]
  have hcvt := run_bytes_of_string (P := Tryd.prog) w 9 22 5 (str l) Tryd.underlying9 Tryd.underlying22 Tryd.underlying5
  rw [str_size, hn] at hcvt
  have hcp := grownCap_ge w n 0 5
  have hcv := (Cv.conv w.drew l hB (grownCap w n 0 5) (by rw [hn]; exact hcp)).rd
  unfold Oper.wp
  simp [execOp, ho, hs, hcvt, Result.andThen]
  exact h _ _ hcv (((Below.refl _ _).drew).alloc (Nat.le_refl _) _) (by simp)

/-- Values put into slots one behind the other. -/
def putJ (a : Act) : List Nat → List Value → Act
  | s :: ss, v :: vs => putJ (a.put (some s) v) ss vs
  | _, _ => a
/-- The ways of a piece of code meet, whatever it put into its slots. -/
theorem wp_meetJ {P : Program} {c : Code} {Q : Exit → Act → World → Prop} {a : Act} {w : World} (ss : List Nat) (R : List Value → World → Prop)
    (h1 : c.wp P (fun ex a' w' => ex = .normal ∧ R (ss.map fun s => a'.tmps.getD s undef) w' ∧ a' = putJ a ss (ss.map fun s => a'.tmps.getD s undef)) a w)
    (h2 : ∀ (vs : List Value) (w' : World), vs.length = ss.length → R vs w' → Q .normal (putJ a ss vs) w') : c.wp P Q a w :=
  Code.wp_mono (fun e a' w' ⟨he, hR, ha⟩ => by subst he; have h := h2 _ w' (by simp) hR; rw [← ha] at h; exact h) h1

set_option maxHeartbeats 800000 in
set_option maxRecDepth 100000 in
theorem l9Two_any (n : Nat) (w : World) (hn : n < 65536) : Calls Tryd.prog 44 #[.int .i64 (n : Int)] w fun e w' => e = .returned (.slice (some ⟨w.heap.size, 0, none⟩) 2 2) ∧ Rd w' (some ⟨w.heap.size, 0, none⟩) (twoB n) ∧ w.heap.size < w'.heap.size ∧ Below w.heap.size w w' := by
  have hb : Below w.heap.size w (w.alloc (.cells #[.int .u8 ((n : Int) / 256), .int .u8 ((n : Int) % 256)] 5)) := (Below.refl _ _).alloc (Nat.le_refl _) _
  have hr : Rd (w.alloc (.cells #[.int .u8 ((n : Int) / 256), .int .u8 ((n : Int) % 256)] 5)) (some ⟨w.heap.size, 0, none⟩) (twoB n) :=
    .inr ⟨w.heap.size, 0, rfl, by simp, fun i hi => by
        have hi2 : i < 2 := hi
        obtain rfl | rfl : i = 0 ∨ i = 1 := by omega
        · simp [nth, twoB]; omega
        · simp [nth, twoB]⟩
  go_enter Tryd.func44, Tryd.ntmps44
  go_wp2
  go_ret
  exact ⟨rfl, hr, by simp, hb⟩

set_option maxHeartbeats 1600000 in
set_option maxRecDepth 100000 in
theorem l9Sum_any (a : Option Addr) (n cap : Nat) (l : List Nat) (w : World) (hl : l.length = n) (hr : Rd w a l) (hB : IsB l) (hn : n ≤ 1000000) :
    Calls Tryd.prog 45 #[.slice a n cap] w fun e w' => e = .returned (.int .i64 ((smJ 1 l : Nat) : Int)) ∧ w = w' := by
  have HL : Hid (l.length = n) := hl
  clear hl
  go_enter Tryd.func45, Tryd.ntmps45
  go_wp2
  go_loop [3, 4] (fun q i => ∃ (j s : Nat), j ≤ n ∧ i = .int .i64 j ∧ q = .int .i64 (s : Int) ∧ s = smJ 1 (l.take j) ∧ s < 65536) (fun _ i => n - (intOf i).toNat)
  case atStart => exact ⟨0, 1, Nat.zero_le _, rfl, rfl, rfl, by omega⟩
  case round =>
    obtain ⟨j, s, hj, rfl, rfl, hs, hs1⟩ := hrel
    have HS : Hid (s = smJ 1 (l.take j)) := hs
    clear hs
    by_cases hjn : j < n
    · have hji : (j : Int) < (n : Int) := by omega
      obtain ⟨b, off, ea, -, hc⟩ := hr.at_ (by rw [HL.out]; omega)
      subst ea
      have hcj := hc j (by rw [HL.out]; omega)
      have hby := nth_lt hB j
      have HS2 : Hid ((s * 31 + nth l j) % 65521 = smJ 1 (l.take (j + 1))) := by show _ = _; rw [smJ_snoc 1 l j (by rw [HL.out]; omega), ← HS.out]
      clear hc
      generalize nth l j = y at *
      obtain ⟨m, hm⟩ : ∃ m, m = (s * 31 + y) % 65521 := ⟨_, rfl⟩
      have hm1 : m < 65536 := by omega
      have hme : ((s : Int) * 31 + (y : Int)) % 65521 = (m : Int) := by rw [hm]; omega
      rw [← hm] at HS2
      clear hm
      go_wp2
      go_round
      case rel => exact ⟨j + 1, m, by omega, by go_num, by rw [hme], HS2.out, hm1⟩
      case measure => simp [intOf]; omega
    · have hjj : j = n := by omega
      have hji : ¬ (j : Int) < (n : Int) := by omega
      have HS2 : Hid (s = smJ 1 l) := by show _ = _; rw [HS.out, hjj, ← HL.out, List.take_length]
      clear HS
      go_wp2
      go_ret
      exact ⟨by rw [← HS2.out]; rfl, rfl⟩
end Go.Proofs.YtdcgihcjiiemdaaDoor
