/- HasCodes, the program's and the model's, at every comparator and slices of at most 1048576 numbers: both by one plain function. -/
import Derived.Test.YtjkhlkmibajhiaaCmp2
namespace Go.Proofs.Ytjkhlkmibajhiaa
open Go.RowKit

theorem nthI_take {l : List Int} {k i : Nat} (h : i < k) : nthI (l.take k) i = nthI l i := by
  simp [nthI, List.getD_eq_getElem?_getD, h]
/-- A piece of a slice, read. -/
theorem RdI.piece {w : World} {a : Option Addr} {l : List Int} (h : RdI w a l) (j m : Nat) : RdI w (a.map (fun x => x.add j)) ((l.drop j).take m) := by
  rcases h with h | ⟨b, off, rfl, hlt, hc⟩
  · left; subst h; simp
  · right
    refine ⟨b, off + j, ?_, hlt, fun i hi => ?_⟩
    · show some _ = some _
      exact congrArg some (Go.WideShapes.add_plain ..)
    · rw [List.length_take, List.length_drop] at hi
      rw [nthI_take (by omega), nthI_drop, Nat.add_assoc]
      exact hc (j + i) (by omega)
theorem piece_len {l : List Int} {j m n : Nat} (hl : l.length = n) (h : j + m ≤ n) : ((l.drop j).take m).length = m := by rw [List.length_take, List.length_drop]; omega

set_option maxHeartbeats 3200000 in
set_option maxRecDepth 100000 in
theorem hasPiece_any (a c : Option Addr) (n m cap cap' : Nat) (l s : List Int) (w : World) (hl : l.length = n) (hs : s.length = m) (hr : RdI w a l) (hq : RdI w c s) (hn : n ≤ 1048576) (hm : m ≤ 1048576) (hcap : n ≤ cap) :
    Calls Try.prog 69 #[.slice a n cap, .slice c m cap'] w fun e w' => e = .returned (.bool (hasP l s)) ∧ Below w.heap.size w w' := by
  by_cases hm0 : m = 0
  · subst hm0
    have hs0 : s = [] := List.length_eq_zero_iff.1 hs
    subst hs0
    have HY : Hid (hasP l [] = true) := hasP_nil _
    clear hs hq
    have hn0 : (0 : Int) < (n : Int) + 1 := by omega
    have HC : Hid (∀ (x : Option Addr) (q : Nat) w, Calls Try.prog 68 #[.slice x 0 q, .slice c 0 cap'] w fun e w' => e = .returned (.int .i64 0) ∧ Below w.heap.size w w') := fun x q w => by
      have h := compareLists_any x c 0 0 q cap' [] [] w rfl rfl (.inl rfl) (.inl rfl) (by omega) (by omega)
      exact h
    go_enter Try.func69, Try.ntmps69
    go_wp2
    go_loopw [12] (fun i wr => i = .int .i64 0 ∧ wr = w) (fun _ _ => 0)
    case atStart => exact ⟨rfl, rfl⟩
    case round =>
      obtain ⟨rfl, rfl⟩ := hrel
      by_cases hc0 : cap = 0
      · subst hc0
        go_wp2_with fail
        refine (HC.out _ _ _).mono ?_
        rintro e w1 ⟨rfl, hb1⟩
        go_wp2
        go_ret
        exact ⟨by rw [HY.out]; rfl, hb1⟩
      · go_wp2_with fail
        refine (HC.out _ _ _).mono ?_
        rintro e w1 ⟨rfl, hb1⟩
        go_wp2
        go_ret
        exact ⟨by rw [HY.out]; rfl, hb1⟩
  · have HS : Hid (s.length = m) := hs
    have HL : Hid (l.length = n) := hl
    clear hs hl
    go_enter Try.func69, Try.ntmps69
    go_wp2
    go_loopw [12] (fun i wr => ∃ j : Nat, j ≤ n + 1 - m ∧ i = .int .i64 j ∧ (∀ i, i < j → hasAt l s i = false) ∧ Below w.heap.size w wr) (fun i _ => n + 1 - m - (intOf i).toNat)
    case atStart => exact ⟨0, Nat.zero_le _, rfl, fun i hi => by omega, Below.refl _ _⟩
    case round =>
      obtain ⟨j, hj, rfl, hno, hbel⟩ := hrel
      by_cases hjn : j + m ≤ n
      · have h1 : (j : Int) < (n : Int) - (m : Int) + 1 := by omega
        have h2 : (j : Int) + (m : Int) ≤ (n : Int) := by omega
        have h3 : (j : Int) + (m : Int) ≤ (cap : Int) := by omega
        have hcj : ¬ cap = j := by omega
        have hR := (hr.below hbel).piece j m
        have hQ := hq.below hbel
        have HX : Hid (hasAt l s j = (cmpL ((l.drop j).take m) s == 0)) := by
          show _ = _
          unfold hasAt; rw [HS.out]
        obtain ⟨x, hx⟩ : ∃ x, cmpL ((l.drop j).take m) s = x := ⟨_, rfl⟩
        have HC : Hid (Calls Try.prog 68 #[.slice (a.map (fun x => x.add j)) m (cap - j), .slice c m cap'] wr fun e w' => e = .returned (.int .i64 x) ∧ Below wr.heap.size wr w') := by
          have h := compareLists_any (a.map (fun x => x.add j)) c m m (cap - j) cap' ((l.drop j).take m) s wr (piece_len HL.out hjn) HS.out hR hQ hm hm
          rw [hx] at h
          exact h
        rw [hx] at HX
        clear hx hR hQ
        go_wp2_with fail
        refine Calls.mono HC.out ?_
        rintro e w1 ⟨rfl, hb1⟩
        have hbE : Below w.heap.size w w1 := hbel.trans (hb1.mono hbel.size)
        clear hb1 HC
        by_cases hx : x = 0
        · subst hx
          have HY : Hid (hasP l s = true) := hasP_yes (i := j) (by (try simp only [List.length_map]); rw [HS.out, HL.out]; omega) (by rw [HX.out]; rfl)
          clear HX hno
          go_wp2
          go_ret
          exact ⟨by rw [HY.out]; rfl, hbE⟩
        · have e0 : (x == 0) = false := by simp; omega
          have HN : Hid (∀ i, i < j + 1 → hasAt l s i = false) := fun i hi => by
            by_cases hij : i < j
            · exact hno i hij
            · have : i = j := by omega
              subst this; rw [HX.out]; exact e0
          clear HX hno
          go_wp2
          go_roundw
          case rel => exact ⟨j + 1, by omega, by go_num, HN.out, hbE⟩
          case measure => simp [intOf]; omega
      · have HF : Hid (hasP l s = false) := hasP_no (fun i hi => hno i (by (try simp only [List.length_map] at hi); rw [HS.out, HL.out] at hi; omega))
        have h1 : ¬ (j : Int) < (n : Int) - (m : Int) + 1 := by omega
        have h2 : ¬ (j : Int) + (m : Int) ≤ (n : Int) := by omega
        clear hno
        go_wp2
        go_ret
        exact ⟨by rw [HF.out]; rfl, hbel⟩

set_option maxHeartbeats 3200000 in
set_option maxRecDepth 100000 in
theorem l3Has_any (k : Int) (a c : Option Addr) (n m cap cap' : Nat) (l s : List Int) (w : World) (hk : 1 ≤ k ∧ k ≤ 3) (hl : l.length = n) (hs : s.length = m) (hr : RdI w a l) (hq : RdI w c s) (hn : n ≤ 1048576) (hm : m ≤ 1048576) (hcap : n ≤ cap) :
    Calls Try.prog 73 #[.int .i64 k, .slice a n cap, .slice c m cap'] w fun e w' => e = .returned (.bool (hasP (l.map (mapC k)) (s.map (mapC k)))) ∧ Below w.heap.size w w' := by
  by_cases hm0 : m = 0
  · subst hm0
    have hs0 : s = [] := List.length_eq_zero_iff.1 hs
    subst hs0
    have HY : Hid (hasP (l.map (mapC k)) ([].map (mapC k)) = true) := hasP_nil _
    clear hs hq
    have hn0 : (0 : Int) < (n : Int) + 1 := by omega
    have HC : Hid (∀ (x : Option Addr) (q : Nat) w, Calls Try.prog 71 #[.int .i64 k, .slice x 0 q, .slice c 0 cap'] w fun e w' => e = .returned (.int .i64 0) ∧ Below w.heap.size w w') := fun x q w => by
      have h := l3Compare_any k x c 0 0 q cap' [] [] w hk rfl rfl (.inl rfl) (.inl rfl) (by omega) (by omega)
      exact h
    go_enter Try.func73, Try.ntmps73
    go_wp2
    go_loopw [7] (fun i wr => i = .int .i64 0 ∧ wr = w) (fun _ _ => 0)
    case atStart => exact ⟨rfl, rfl⟩
    case round =>
      obtain ⟨rfl, rfl⟩ := hrel
      by_cases hc0 : cap = 0
      · subst hc0
        go_wp2_with fail
        refine (HC.out _ _ _).mono ?_
        rintro e w1 ⟨rfl, hb1⟩
        go_wp2
        go_ret
        exact ⟨by rw [HY.out]; rfl, hb1⟩
      · go_wp2_with fail
        refine (HC.out _ _ _).mono ?_
        rintro e w1 ⟨rfl, hb1⟩
        go_wp2
        go_ret
        exact ⟨by rw [HY.out]; rfl, hb1⟩
  · have HS : Hid (s.length = m) := hs
    have HL : Hid (l.length = n) := hl
    clear hs hl
    go_enter Try.func73, Try.ntmps73
    go_wp2
    go_loopw [7] (fun i wr => ∃ j : Nat, j ≤ n + 1 - m ∧ i = .int .i64 j ∧ (∀ i, i < j → hasAt (l.map (mapC k)) (s.map (mapC k)) i = false) ∧ Below w.heap.size w wr) (fun i _ => n + 1 - m - (intOf i).toNat)
    case atStart => exact ⟨0, Nat.zero_le _, rfl, fun i hi => by omega, Below.refl _ _⟩
    case round =>
      obtain ⟨j, hj, rfl, hno, hbel⟩ := hrel
      by_cases hjn : j + m ≤ n
      · have h1 : (j : Int) < (n : Int) - (m : Int) + 1 := by omega
        have h2 : (j : Int) + (m : Int) ≤ (n : Int) := by omega
        have h3 : (j : Int) + (m : Int) ≤ (cap : Int) := by omega
        have hcj : ¬ cap = j := by omega
        have hR := (hr.below hbel).piece j m
        have hQ := hq.below hbel
        have HX : Hid (hasAt (l.map (mapC k)) (s.map (mapC k)) j = (cmpL (((l.drop j).take m).map (mapC k)) (s.map (mapC k)) == 0)) := by
          show _ = _
          unfold hasAt; rw [List.length_map, HS.out, ← List.map_drop, ← List.map_take]
        obtain ⟨x, hx⟩ : ∃ x, cmpL (((l.drop j).take m).map (mapC k)) (s.map (mapC k)) = x := ⟨_, rfl⟩
        have HC : Hid (Calls Try.prog 71 #[.int .i64 k, .slice (a.map (fun x => x.add j)) m (cap - j), .slice c m cap'] wr fun e w' => e = .returned (.int .i64 x) ∧ Below wr.heap.size wr w') := by
          have h := l3Compare_any k (a.map (fun x => x.add j)) c m m (cap - j) cap' ((l.drop j).take m) s wr hk (piece_len HL.out hjn) HS.out hR hQ hm hm
          rw [hx] at h
          exact h
        rw [hx] at HX
        clear hx hR hQ
        go_wp2_with fail
        refine Calls.mono HC.out ?_
        rintro e w1 ⟨rfl, hb1⟩
        have hbE : Below w.heap.size w w1 := hbel.trans (hb1.mono hbel.size)
        clear hb1 HC
        by_cases hx : x = 0
        · subst hx
          have HY : Hid (hasP (l.map (mapC k)) (s.map (mapC k)) = true) := hasP_yes (i := j) (by (try simp only [List.length_map]); rw [HS.out, HL.out]; omega) (by rw [HX.out]; rfl)
          clear HX hno
          go_wp2
          go_ret
          exact ⟨by rw [HY.out]; rfl, hbE⟩
        · have e0 : (x == 0) = false := by simp; omega
          have HN : Hid (∀ i, i < j + 1 → hasAt (l.map (mapC k)) (s.map (mapC k)) i = false) := fun i hi => by
            by_cases hij : i < j
            · exact hno i hij
            · have : i = j := by omega
              subst this; rw [HX.out]; exact e0
          clear HX hno
          go_wp2
          go_roundw
          case rel => exact ⟨j + 1, by omega, by go_num, HN.out, hbE⟩
          case measure => simp [intOf]; omega
      · have HF : Hid (hasP (l.map (mapC k)) (s.map (mapC k)) = false) := hasP_no (fun i hi => hno i (by (try simp only [List.length_map] at hi); rw [HS.out, HL.out] at hi; omega))
        have h1 : ¬ (j : Int) < (n : Int) - (m : Int) + 1 := by omega
        have h2 : ¬ (j : Int) + (m : Int) ≤ (n : Int) := by omega
        clear hno
        go_wp2
        go_ret
        exact ⟨by rw [HF.out]; rfl, hbel⟩

end Go.Proofs.Ytjkhlkmibajhiaa
