/- ParseParts, the program's, at every slice of bytes: by a plain function. -/
import Derived.Test.YtkjnhcnbbojajaaDoorRdp
import Derived.Test.YtkjnhcnbbojajaaDoorMemP
namespace Go.Proofs.YtkjnhcnbbojajaaDoor
open Go.RowKit

/-- The parts of a message, or why there are none. -/
def psV (d : List Nat) : Int × List PtP := if 400 < d.length then (2, []) else (0, adV d 2 0 d.length (-1) 0 [])
/-- How a reading of all parts ends. -/
def PsEnd (r : Int × List PtP) (w : World) (e : Ending) (w' : World) : Prop := ∃ v, e = .returned (.agg #[.int .i64 r.1, v]) ∧ OwnP w' w.heap.size v r.2 ∧ Below w.heap.size w w'

set_option maxHeartbeats 3200000 in
set_option maxRecDepth 100000 in
theorem parseParts_any (b m : Nat) (d : List Nat) (w : World) (hr : Rd w (some ⟨b, 0, none⟩) d) (hT : TabC w) (hB : IsB d) (hl : d.length = m) :
    Calls Tryd.prog 10 #[.slice (some ⟨b, 0, none⟩) m m] w (PsEnd (psV d) w) := by
  by_cases h4 : 400 < m
  · have h4' : (400 : Int) < (m : Int) := by omega
    have HM : Hid (psV d = (2, [])) := if_pos (by omega)
    go_enter Tryd.func10, Tryd.ntmps10
    go_wp2
    go_returns
    rw [HM.out]
    exact ⟨_, rfl, OwnP.nil _ _, by go_grown⟩
  · have h4' : ¬ (400 : Int) < (m : Int) := by omega
    have HM : Hid (psV d = (0, adV d 2 0 m (-1) 0 [])) := by show _ = _; unfold psV; rw [if_neg (by omega), hl]
    generalize psV d = r at *
    have hm : m ≤ 400 := by omega
    have HRd := read_any b m d w hr hT hB hl hm 2 (Nat.le_refl _)
    go_enter Tryd.func10, Tryd.ntmps10
    have HRH : Hid (∀ (R P fr tt : Nat) (u nu : Int) (v : Value) (l : List (Nat × PtP)) (w1 : World), fr ≤ tt → tt ≤ m → RSt w w1 R b m v l → l.length ≤ 8 → w.heap.size ≤ P → PtAt w1 P 0 0 0 0 0 u nu → (∀ p ∈ l, p.1 ≠ P) → Calls Tryd.prog 36 #[.pointer (some ⟨R, 0, none⟩), .agg #[.int .i64 (fr : Int), .int .i64 (tt : Int)], .pointer (some ⟨P, 0, none⟩), .int .i64 (3 - ((2 : Nat) : Int))] w1 (RdEnd w R b m P (adV d 2 fr tt u nu (l.map (·.2))) w1)) := HRd
    clear HRd
    go_wp2_with fail
    have hX : Below w.heap.size w (((w.alloc (.cells #[.int .i64 0, .slice none 0 0] 32)).alloc (.cells #[.slice (some ⟨b, 0, none⟩) m m, .slice none 0 0] 63)).alloc (.cells #[.int .i64 0, .int .i64 0, .int .i64 0, .int .i64 0, .int .i64 0, .int .i64 (-1), .int .i64 0] 35)) := (((Below.refl _ w).alloc (Nat.le_refl _) _).alloc (by simp) _).alloc (by simp; omega) _
    have hA : (((w.alloc (.cells #[.int .i64 0, .slice none 0 0] 32)).alloc (.cells #[.slice (some ⟨b, 0, none⟩) m m, .slice none 0 0] 63)).alloc (.cells #[.int .i64 0, .int .i64 0, .int .i64 0, .int .i64 0, .int .i64 0, .int .i64 (-1), .int .i64 0] 35)).heap[w.heap.size]? = some (.cells #[.int .i64 0, .slice none 0 0] 32 (0, 0)) := (Below.heap_alloc _ _ _ (by simp; omega)).trans ((Below.heap_alloc _ _ _ (by simp)).trans (heap_alloc_new w _))
    have hR0 : RdrAt (((w.alloc (.cells #[.int .i64 0, .slice none 0 0] 32)).alloc (.cells #[.slice (some ⟨b, 0, none⟩) m m, .slice none 0 0] 63)).alloc (.cells #[.int .i64 0, .int .i64 0, .int .i64 0, .int .i64 0, .int .i64 0, .int .i64 (-1), .int .i64 0] 35)) (w.heap.size + 1) b m (.slice none 0 0) := by
      have h := heap_alloc_new (w.alloc (.cells #[.int .i64 0, .slice none 0 0] 32)) (.cells #[.slice (some ⟨b, 0, none⟩) m m, .slice none 0 0] 63)
      rw [World.size_alloc] at h
      exact (Below.heap_alloc _ _ _ (by simp)).trans h
    have hp0 : PtAt (((w.alloc (.cells #[.int .i64 0, .slice none 0 0] 32)).alloc (.cells #[.slice (some ⟨b, 0, none⟩) m m, .slice none 0 0] 63)).alloc (.cells #[.int .i64 0, .int .i64 0, .int .i64 0, .int .i64 0, .int .i64 0, .int .i64 (-1), .int .i64 0] 35)) (w.heap.size + 1 + 1) 0 0 0 0 0 (-1) 0 := by
      have h := heap_alloc_new ((w.alloc (.cells #[.int .i64 0, .slice none 0 0] 32)).alloc (.cells #[.slice (some ⟨b, 0, none⟩) m m, .slice none 0 0] 63)) (.cells #[.int .i64 0, .int .i64 0, .int .i64 0, .int .i64 0, .int .i64 0, .int .i64 (-1), .int .i64 0] 35)
      rw [World.size_alloc, World.size_alloc] at h
      exact h
    have hXz : (((w.alloc (.cells #[.int .i64 0, .slice none 0 0] 32)).alloc (.cells #[.slice (some ⟨b, 0, none⟩) m m, .slice none 0 0] 63)).alloc (.cells #[.int .i64 0, .int .i64 0, .int .i64 0, .int .i64 0, .int .i64 0, .int .i64 (-1), .int .i64 0] 35)).heap.size = w.heap.size + 1 + 1 + 1 := by simp
    generalize (((w.alloc (.cells #[.int .i64 0, .slice none 0 0] 32)).alloc (.cells #[.slice (some ⟨b, 0, none⟩) m m, .slice none 0 0] 63)).alloc (.cells #[.int .i64 0, .int .i64 0, .int .i64 0, .int .i64 0, .int .i64 0, .int .i64 (-1), .int .i64 0] 35)) = X at *
    have HC := HRH.out (w.heap.size + 1) (w.heap.size + 1 + 1) 0 m (-1) 0 (.slice none 0 0) [] X (Nat.zero_le _) (Nat.le_refl _) ⟨hX, by omega, hR0, World.ownsRow_nil _ _ _ _, fun p hp => by cases hp⟩ (by simp) (by omega) hp0 (fun p hp => by cases hp)
    rw [show (3 : Int) - ((2 : Nat) : Int) = 1 from rfl] at HC
    refine HC.mono ?_
    rintro e w1 ⟨v1, l1, rfl, S1, hm1, hfr1⟩
    have hA1 : w1.heap[w.heap.size]? = some (.cells #[.int .i64 0, .slice none 0 0] 32 (0, 0)) := (hfr1.2 w.heap.size (by omega) (by omega) (by omega) (fun c fz e => by rw [hA] at e; simp at e)).trans hA
    have hl1 : l1.length ≤ 8 := by
      have h := adV_le d 2 0 m (-1) 0 [] (by simp)
      simp only [List.map_nil] at hm1
      rw [← hm1] at h
      simpa using h
    simp only [List.map_nil] at hm1
    have HM1 : Hid (r = (0, l1.map (·.2))) := by show _ = _; rw [HM.out, hm1]
    clear HM hm1 HC HRH hR0 hp0 hA hfr1 hX hXz
    obtain ⟨a1, c1, hv1, -, -⟩ := OwnQ.form S1.2.2.2.1
    have hlm : (l1.map (·.1)).length = l1.length := by simp
    rw [hlm] at hv1
    subst hv1
    obtain ⟨q0, q1⟩ := S1.2.2.1.cells
    have hrd1 := S1.2.2.2.1.rd.2
    have hbw1 := S1.1
    have hwz : w.heap.size < w1.heap.size := (Array.getElem?_eq_some_iff.1 hA1).1
    have HPt : Hid (∀ p ∈ l1, PtV w1 p.1 p.2) := fun p hp => (S1.2.2.2.2 p hp).2
    clear S1
    go_wp2
    go_loopw [4, 22] (fun v c wr => ∃ k : Nat, k ≤ l1.length ∧ c = .int .i64 k ∧ OwnP wr w1.heap.size v ((l1.take k).map (·.2)) ∧ Below w1.heap.size w1 wr) (fun _ c _ => l1.length - (intOf c).toNat)
    case atStart => exact ⟨0, Nat.zero_le _, rfl, OwnP.nil _ _, Below.refl _ _⟩
    case round =>
      obtain ⟨k, hk, rfl, hown, hbel⟩ := hrel
      obtain ⟨av, cv, hv, -, -⟩ := hown.form
      have hlk : ((l1.take k).map (·.2)).length = k := by rw [List.length_map, List.length_take]; omega
      rw [hlk] at hv
      subst hv
      have hz := hbel.size
      by_cases hkn : k < l1.length
      · have hki : (k : Int) < (l1.length : Int) := by omega
        have hk8 : (k : Int) < 8 := by omega
        obtain ⟨g, off, rfl, hglt, hcell⟩ := hrd1.at_ (by rw [hlm]; omega)
        have hn : nthQ (l1.map (·.1)) k = (l1[k]).1 := by rw [nthQ_get (by rw [hlm]; exact hkn)]; simp
        have hcp : wr.cell? ⟨g, off + k, none⟩ = some (.pointer (some ⟨(l1[k]).1, 0, none⟩)) := by
          rw [hbel.cell (p := ⟨g, off + k, none⟩) hglt, hcell k (by rw [hlm]; exact hkn), hn]
        have hpt := HPt.out l1[k] (List.getElem_mem _)
        have htk : (l1.take (k + 1)).map (·.2) = (l1.take k).map (·.2) ++ [(l1[k]).2] := by rw [List.take_succ_eq_append_getElem hkn, List.map_append]; rfl
        generalize l1[k] = pk at *
        obtain ⟨P, y⟩ := pk
        dsimp only at hcp hpt htk
        have hpr : PtV wr P y := PtAt.kept hpt (hbel.block P hpt.lt)
        obtain ⟨c0, c1, c2, c3, c4, c5, c6⟩ := PtAt.cells hpr
        have HT2 : Hid (_) := htk
        clear hpt hpr htk hn hcell
        go_wp2_with (at_builtin; refine wpList_appP rfl _ _ rfl w1.heap.size _ _ rfl (hown.alloc _) ⟨wr.heap.size, 0, none⟩ y rfl (new_oneP rfl y) (by rw [hlk]; omega) (by simp; omega) ?_; intro v' w2 hown' hb')
        go_roundw
        case rel => exact ⟨k + 1, by omega, by go_num, by rw [HT2.out]; exact hown', hbel.trans (((Below.refl _ _).alloc hz _).trans hb')⟩
        case measure => simp [intOf]; omega
      · have hki : ¬ (k : Int) < (l1.length : Int) := by omega
        have hke : l1.take k = l1 := List.take_of_length_le (by omega)
        rw [hke] at hown
        have hAr : wr.heap[w.heap.size]? = some (.cells #[.int .i64 0, .slice none 0 0] 32 (0, 0)) := (hbel.block w.heap.size hwz).trans hA1
        have a0 : wr.cell? ⟨w.heap.size, 0, none⟩ = some (.int .i64 0) := by simp [World.cell?, hAr]
        have a1' : wr.cell? ⟨w.heap.size, 1, none⟩ = some (.slice none 0 0) := by simp [World.cell?, hAr]
        have b0 : wr.frozen? ⟨w.heap.size, 0, none⟩ = false := by simp [World.frozen?, hAr]
        have b1 : wr.frozen? ⟨w.heap.size, 1, none⟩ = false := by simp [World.frozen?, hAr]
        obtain ⟨k0, k1⟩ := res_cells a0 a1' (.int .i64 0) (.slice av k cv)
        go_wp2
        refine bodyPost_ret (v := .agg #[.int .i64 0, .slice av k cv]) (by simp [results, Tryd.results10, go_sem, k0, k1]) rfl ?_
        rw [HM1.out]
        refine ⟨_, rfl, ((hown.kept _ (by simp; omega) _).kept _ (by simp; omega) _).low (by omega), ?_⟩
        exact ((hbw1.trans (hbel.mono (by omega))).setCell (p := ⟨w.heap.size, 0, none⟩) (Nat.le_refl _) _).setCell (p := ⟨w.heap.size, 1, none⟩) (Nat.le_refl _) _
end Go.Proofs.YtkjnhcnbbojajaaDoor
