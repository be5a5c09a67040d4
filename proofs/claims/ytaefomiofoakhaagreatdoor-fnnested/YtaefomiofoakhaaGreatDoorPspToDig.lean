/- ParseParts, the program's, at every slice of bytes: by a plain function · The parts of a message of which one is asked: partsWith, partIn · The part that is asked, the bytes that it tells: partIn, bytesOfPart · Plain facts on lists of bytes, with no program in them: the text of some bytes in base digits is read back from it and from no other text, and so is the quoted text, which is plain; no conditions · Plain facts on groups of four base letters, with no program in them; letters are bytes · The digit of each number from 0 to 63, as the program's table and the model's text have it: the two are one; the number is 0 to 63. -/
import Derived.Test.YtaefomiofoakhaaGreatDoorRdp
import Derived.Test.YtaefomiofoakhaaGreatDoorRdmToBytI
import Derived.Test.YtaefomiofoakhaaGreatDoorPdlToMus
import Derived.Test.YtaefomiofoakhaaGreatDoorRdp0ToPth
import Derived.Test.YtaefomiofoakhaaGreatDoorJfzToInf
import Derived.Handy
namespace Go.Proofs.YtaefomiofoakhaaGreatDoor
open Go.RowKit

/-- The parts of a message, or why there are none. -/
def psV (d : List Nat) : Int × List PtP := if 400 < d.length then (2, []) else (0, adV d 2 0 d.length (-1) 0 [])
/-- How a reading of all parts ends. -/
def PsEnd (r : Int × List PtP) (w : World) (e : Ending) (w' : World) : Prop := ∃ v, e = .returned (.agg #[.int .i64 r.1, v]) ∧ OwnP w' w.heap.size v r.2 ∧ Below w.heap.size w w'

set_option maxHeartbeats 3200000 in
set_option maxRecDepth 100000 in
theorem parseParts_any {cp : Nat} (b m : Nat) (d : List Nat) (w : World) (hr : Rd w (some ⟨b, 0, none⟩) d) (hT : TabC w) (hB : IsB d) (hl : d.length = m) (hcp : m ≤ cp := by omega) :
    Calls Tryz.prog 6 #[.slice (some ⟨b, 0, none⟩) m cp] w (PsEnd (psV d) w) := by
  by_cases h4 : 400 < m
  · have h4' : (400 : Int) < (m : Int) := by omega
    have HM : Hid (psV d = (2, [])) := if_pos (by omega)
    go_enter Tryz.func6, Tryz.ntmps6
    go_wp2
    go_returns
    rw [HM.out]
    exact ⟨_, rfl, OwnP.nil _ _, by go_grown⟩
  · have h4' : ¬ (400 : Int) < (m : Int) := by omega
    have HM : Hid (psV d = (0, adV d 2 0 m (-1) 0 [])) := by show _ = _; unfold psV; rw [if_neg (by omega), hl]
    generalize psV d = r at *
    have hm : m ≤ 400 := by omega
    have HRd := read_any (cp := cp) b m d w hr hT hB hl hm 2 (Nat.le_refl _)
    go_enter Tryz.func6, Tryz.ntmps6
    have HRH : Hid (∀ (R P fr tt : Nat) (u nu : Int) (v : Value) (l : List (Nat × PtP)) (w1 : World), fr ≤ tt → tt ≤ m → RSt w w1 R b m cp v l → l.length ≤ 8 → w.heap.size ≤ P → PtAt w1 P 0 0 0 0 0 u nu → (∀ p ∈ l, p.1 ≠ P) → Calls Tryz.prog 15 #[.pointer (some ⟨R, 0, none⟩), .agg #[.int .i64 (fr : Int), .int .i64 (tt : Int)], .pointer (some ⟨P, 0, none⟩), .int .i64 (3 - ((2 : Nat) : Int))] w1 (RdEnd w R b m cp P (adV d 2 fr tt u nu (l.map (·.2))) w1)) := HRd
    clear HRd
    go_wp2_with fail
    have hX : Below w.heap.size w (((w.alloc (.cells #[.int .i64 0, .slice none 0 0] 27)).alloc (.cells #[.slice (some ⟨b, 0, none⟩) m cp, .slice none 0 0] 45)).alloc (.cells #[.int .i64 0, .int .i64 0, .int .i64 0, .int .i64 0, .int .i64 0, .int .i64 (-1), .int .i64 0] 30)) := (((Below.refl _ w).alloc (Nat.le_refl _) _).alloc (by simp) _).alloc (by simp; omega) _
    have hA : (((w.alloc (.cells #[.int .i64 0, .slice none 0 0] 27)).alloc (.cells #[.slice (some ⟨b, 0, none⟩) m cp, .slice none 0 0] 45)).alloc (.cells #[.int .i64 0, .int .i64 0, .int .i64 0, .int .i64 0, .int .i64 0, .int .i64 (-1), .int .i64 0] 30)).heap[w.heap.size]? = some (.cells #[.int .i64 0, .slice none 0 0] 27 (0, 0)) := (Below.heap_alloc _ _ _ (by simp; omega)).trans ((Below.heap_alloc _ _ _ (by simp)).trans (heap_alloc_new w _))
    have hR0 : RdrAt (((w.alloc (.cells #[.int .i64 0, .slice none 0 0] 27)).alloc (.cells #[.slice (some ⟨b, 0, none⟩) m cp, .slice none 0 0] 45)).alloc (.cells #[.int .i64 0, .int .i64 0, .int .i64 0, .int .i64 0, .int .i64 0, .int .i64 (-1), .int .i64 0] 30)) (w.heap.size + 1) b m cp (.slice none 0 0) := by
      have h := heap_alloc_new (w.alloc (.cells #[.int .i64 0, .slice none 0 0] 27)) (.cells #[.slice (some ⟨b, 0, none⟩) m cp, .slice none 0 0] 45)
      rw [World.size_alloc] at h
      exact (Below.heap_alloc _ _ _ (by simp)).trans h
    have hp0 : PtAt (((w.alloc (.cells #[.int .i64 0, .slice none 0 0] 27)).alloc (.cells #[.slice (some ⟨b, 0, none⟩) m cp, .slice none 0 0] 45)).alloc (.cells #[.int .i64 0, .int .i64 0, .int .i64 0, .int .i64 0, .int .i64 0, .int .i64 (-1), .int .i64 0] 30)) (w.heap.size + 1 + 1) 0 0 0 0 0 (-1) 0 := by
      have h := heap_alloc_new ((w.alloc (.cells #[.int .i64 0, .slice none 0 0] 27)).alloc (.cells #[.slice (some ⟨b, 0, none⟩) m cp, .slice none 0 0] 45)) (.cells #[.int .i64 0, .int .i64 0, .int .i64 0, .int .i64 0, .int .i64 0, .int .i64 (-1), .int .i64 0] 30)
      rw [World.size_alloc, World.size_alloc] at h
      exact h
    have hXz : (((w.alloc (.cells #[.int .i64 0, .slice none 0 0] 27)).alloc (.cells #[.slice (some ⟨b, 0, none⟩) m cp, .slice none 0 0] 45)).alloc (.cells #[.int .i64 0, .int .i64 0, .int .i64 0, .int .i64 0, .int .i64 0, .int .i64 (-1), .int .i64 0] 30)).heap.size = w.heap.size + 1 + 1 + 1 := by simp
    generalize (((w.alloc (.cells #[.int .i64 0, .slice none 0 0] 27)).alloc (.cells #[.slice (some ⟨b, 0, none⟩) m cp, .slice none 0 0] 45)).alloc (.cells #[.int .i64 0, .int .i64 0, .int .i64 0, .int .i64 0, .int .i64 0, .int .i64 (-1), .int .i64 0] 30)) = X at *
    have HC := HRH.out (w.heap.size + 1) (w.heap.size + 1 + 1) 0 m (-1) 0 (.slice none 0 0) [] X (Nat.zero_le _) (Nat.le_refl _) ⟨hX, by omega, hR0, World.ownsRow_nil _ _ _ _, fun p hp => by cases hp⟩ (by simp) (by omega) hp0 (fun p hp => by cases hp)
    rw [show (3 : Int) - ((2 : Nat) : Int) = 1 from rfl] at HC
    refine HC.mono ?_
    rintro e w1 ⟨v1, l1, rfl, S1, hm1, hfr1⟩
    have hA1 : w1.heap[w.heap.size]? = some (.cells #[.int .i64 0, .slice none 0 0] 27 (0, 0)) := (hfr1.2 w.heap.size (by omega) (by omega) (by omega) (fun c fz e => by rw [hA] at e; simp at e)).trans hA
    have hl1 : l1.length ≤ 8 := by
      have h := adV_le d 2 0 m (-1) 0 [] (by simp)
      simp only [List.map_nil] at hm1
      rw [← hm1] at h
      simpa using h
    simp only [List.map_nil] at hm1
    have HM1 : Hid (r = (0, l1.map (·.2))) := by show _ = _; rw [HM.out, hm1]
    clear HM hm1 HC HRH hR0 hp0 hA hfr1 hX hXz
    obtain ⟨a1, c1, hv1, -, -⟩ := OwnQ.form S1.2.2.2.1
    have hlm : (l1.map (·.1)).length = l1.length := by simp
    rw [hlm] at hv1
    subst hv1
    obtain ⟨q0, q1⟩ := S1.2.2.1.cells
    have hrd1 := S1.2.2.2.1.rd.2
    have hbw1 := S1.1
    have hwz : w.heap.size < w1.heap.size := (Array.getElem?_eq_some_iff.1 hA1).1
    have HPt : Hid (∀ p ∈ l1, PtV w1 p.1 p.2) := fun p hp => (S1.2.2.2.2 p hp).2
    clear S1
    go_wp2
    go_loopw [4, 22] (fun v c wr => ∃ k : Nat, k ≤ l1.length ∧ c = .int .i64 k ∧ OwnP wr w1.heap.size v ((l1.take k).map (·.2)) ∧ Below w1.heap.size w1 wr) (fun _ c _ => l1.length - (intOf c).toNat)
    case atStart => exact ⟨0, Nat.zero_le _, rfl, OwnP.nil _ _, Below.refl _ _⟩
    case round =>
      obtain ⟨k, hk, rfl, hown, hbel⟩ := hrel
      obtain ⟨av, cv, hv, -, -⟩ := hown.form
      have hlk : ((l1.take k).map (·.2)).length = k := by rw [List.length_map, List.length_take]; omega
      rw [hlk] at hv
      subst hv
      have hz := hbel.size
      by_cases hkn : k < l1.length
      · have hki : (k : Int) < (l1.length : Int) := by omega
        have hk8 : (k : Int) < 8 := by omega
        obtain ⟨g, off, rfl, hglt, hcell⟩ := hrd1.at_ (by rw [hlm]; omega)
        have hn : nthZq (l1.map (·.1)) k = (l1[k]).1 := by rw [nthZq_get (by rw [hlm]; exact hkn)]; simp
        have hcp : wr.cell? ⟨g, off + k, none⟩ = some (.pointer (some ⟨(l1[k]).1, 0, none⟩)) := by
          rw [hbel.cell (p := ⟨g, off + k, none⟩) hglt, hcell k (by rw [hlm]; exact hkn), hn]
        have hpt := HPt.out l1[k] (List.getElem_mem _)
        have htk : (l1.take (k + 1)).map (·.2) = (l1.take k).map (·.2) ++ [(l1[k]).2] := by rw [List.take_succ_eq_append_getElem hkn, List.map_append]; rfl
        generalize l1[k] = pk at *
        obtain ⟨P, y⟩ := pk
        dsimp only at hcp hpt htk
        have hpr : PtV wr P y := PtAt.kept hpt (hbel.block P hpt.lt)
        obtain ⟨c0, c1, c2, c3, c4, c5, c6⟩ := PtAt.cells hpr
        have HT2 : Hid (_) := htk
        clear hpt hpr htk hn hcell
        go_wp2_with (at_builtin; refine wpList_appP rfl _ _ rfl w1.heap.size _ _ rfl (hown.alloc _) ⟨wr.heap.size, 0, none⟩ y rfl (new_oneP rfl y) (by rw [hlk]; omega) (by simp; omega) ?_; intro v' w2 hown' hb')
        go_roundw
        case rel => exact ⟨k + 1, by omega, by go_num, by rw [HT2.out]; exact hown', hbel.trans (((Below.refl _ _).alloc hz _).trans hb')⟩
        case measure => simp [intOf]; omega
      · have hki : ¬ (k : Int) < (l1.length : Int) := by omega
        have hke : l1.take k = l1 := List.take_of_length_le (by omega)
        rw [hke] at hown
        have hAr : wr.heap[w.heap.size]? = some (.cells #[.int .i64 0, .slice none 0 0] 27 (0, 0)) := (hbel.block w.heap.size hwz).trans hA1
        have a0 : wr.cell? ⟨w.heap.size, 0, none⟩ = some (.int .i64 0) := by simp [World.cell?, hAr]
        have a1' : wr.cell? ⟨w.heap.size, 1, none⟩ = some (.slice none 0 0) := by simp [World.cell?, hAr]
        have b0 : wr.frozen? ⟨w.heap.size, 0, none⟩ = false := by simp [World.frozen?, hAr]
        have b1 : wr.frozen? ⟨w.heap.size, 1, none⟩ = false := by simp [World.frozen?, hAr]
        obtain ⟨k0, k1⟩ := res_cells a0 a1' (.int .i64 0) (.slice av k cv)
        go_wp2
        refine bodyPost_ret (v := .agg #[.int .i64 0, .slice av k cv]) (by simp [results, Tryz.results6, go_sem, k0, k1]) rfl ?_
        rw [HM1.out]
        refine ⟨_, rfl, ((hown.kept _ (by simp; omega) _).kept _ (by simp; omega) _).low (by omega), ?_⟩
        exact ((hbw1.trans (hbel.mono (by omega))).setCell (p := ⟨w.heap.size, 0, none⟩) (Nat.le_refl _) _).setCell (p := ⟨w.heap.size, 1, none⟩) (Nat.le_refl _) _
end Go.Proofs.YtaefomiofoakhaaGreatDoor

namespace Go.Proofs.YtaefomiofoakhaaGreatDoor
open Go.RowKit

theorem res_both {wr : World} {sz : Nat} {x0 x1 : Value} (h0 : wr.cell? ⟨sz, 0, none⟩ = some x0) (h1 : wr.cell? ⟨sz, 1, none⟩ = some x1) (c t : Value) :
    ((wr.setCell ⟨sz, 0, none⟩ c).setCell ⟨sz, 1, none⟩ t).cell? ⟨sz, 0, none⟩ = some c ∧ ((wr.setCell ⟨sz, 0, none⟩ c).setCell ⟨sz, 1, none⟩ t).cell? ⟨sz, 1, none⟩ = some t := by
  obtain ⟨q0, q1⟩ := res_cells h0 h1 c t
  exact ⟨by simp [go_sem, q0], q1⟩
/-- The parts, where the place asked is one of theirs. -/
def pwV (d : List Nat) (k : Int) : Int × List PtP := if (psV d).1 = 0 ∧ (k < 0 ∨ ((psV d).2.length : Int) ≤ k) then (3, []) else psV d
theorem PsEnd.some {c : Int} {w w1 : World} {v : Value} {l : List PtP} (hbel : Below w.heap.size w w1) (hown : OwnP w1 (w.heap.size + 1) v l) (x y : Value) : PsEnd (c, l) w (.returned (.agg #[.int .i64 c, v])) ((w1.setCell ⟨w.heap.size, 0, none⟩ x).setCell ⟨w.heap.size, 1, none⟩ y) :=
  ⟨v, rfl, ((hown.kept _ (by simp) _).kept _ (by simp) _).low (by omega), (hbel.setCell (p := ⟨w.heap.size, 0, none⟩) (Nat.le_refl _) _).setCell (p := ⟨w.heap.size, 1, none⟩) (Nat.le_refl _) _⟩
theorem psV_le (d : List Nat) : (psV d).2.length ≤ 8 := by
  unfold psV
  split
  · simp
  · exact parts_le d

set_option maxHeartbeats 1600000 in
set_option maxRecDepth 100000 in
theorem partsWith_any {cp : Nat} (b m : Nat) (d : List Nat) (k : Int) (w : World) (hr : Rd w (some ⟨b, 0, none⟩) d) (hT : TabC w) (hB : IsB d) (hl : d.length = m) (hcp : m ≤ cp := by omega) :
    Calls Tryz.prog 17 #[.slice (some ⟨b, 0, none⟩) m cp, .int .i64 k] w (PsEnd (pwV d k) w) := by
  have hb0 : Below w.heap.size w (w.alloc (.cells #[.int .i64 0, .slice none 0 0] 27)) := (Below.refl _ _).alloc (Nat.le_refl _) _
  have HP := parseParts_any (cp := cp) b m d _ (hr.below hb0) (hT.below hb0) hB hl
  have HV : Hid (pwV d k = if (psV d).1 = 0 ∧ (k < 0 ∨ ((psV d).2.length : Int) ≤ k) then (3, []) else psV d) := rfl
  have hlen := psV_le d
  generalize pwV d k = rr at *
  generalize psV d = r at *
  obtain ⟨c, l⟩ := r
  obtain ⟨N, hN⟩ : ∃ N, l.length = N := ⟨_, rfl⟩
  dsimp only at HV hlen
  go_enter Tryz.func17, Tryz.ntmps17
  go_wp2_with fail
  refine HP.mono ?_
  rintro e w1 ⟨v, rfl, ho, hb1⟩
  dsimp only at ho
  obtain ⟨a, cp, hv, -, -⟩ := ho.form
  rw [hN] at hv
  subst hv
  have hbl : Below (w.heap.size + 1) (w.alloc (.cells #[.int .i64 0, .slice none 0 0] 27)) w1 := hb1.mono (by simp)
  have hbw := hb0.trans (hbl.mono (by omega))
  have ho1 : OwnP w1 (w.heap.size + 1) (.slice a N cp) l := ho.low (by simp)
  obtain ⟨a0, a1, z0, z1⟩ := res_block rfl hbl
  have hlt : w.heap.size < w1.heap.size := by have hz := hbl.size; rw [World.size_alloc] at hz; omega
  clear HP hb1 ho
  have HR : Hid (∀ (ob : Obj) (x y : Value), (((w1.setCell ⟨w.heap.size, 0, none⟩ x).setCell ⟨w.heap.size, 1, none⟩ y).alloc ob).cell? ⟨w.heap.size, 0, none⟩ = some x ∧ (((w1.setCell ⟨w.heap.size, 0, none⟩ x).setCell ⟨w.heap.size, 1, none⟩ y).alloc ob).cell? ⟨w.heap.size, 1, none⟩ = some y) := fun ob x y => by
    obtain ⟨q0, q1⟩ := res_both a0 a1 x y
    exact ⟨cellA q0, cellA q1⟩
  have HE : Hid (∀ (c : Int) (v : Value) (l : List PtP) (ob : Obj) (x y : Value), OwnP w1 (w.heap.size + 1) v l → PsEnd (c, l) w (.returned (.agg #[.int .i64 c, v])) (((w1.setCell ⟨w.heap.size, 0, none⟩ x).setCell ⟨w.heap.size, 1, none⟩ y).alloc ob)) := fun c v l ob x y hown =>
    ⟨v, rfl, (((hown.kept _ (by simp) _).kept _ (by simp) _).low (by omega)).alloc _, ((hbw.setCell (p := ⟨w.heap.size, 0, none⟩) (Nat.le_refl _) _).setCell (p := ⟨w.heap.size, 1, none⟩) (Nat.le_refl _) _).alloc (by simp; omega) _⟩
  by_cases hc : c = 0
  · subst hc
    by_cases hk : k < 0 ∨ (N : Int) ≤ k
    · have HM : Hid (rr = (3, [])) := by show _ = _; rw [HV.out, if_pos ⟨rfl, by rw [hN]; exact hk⟩]
      clear HV
      obtain ⟨q0, q1⟩ := HR.out (.cells #[.int .i64 0, .slice a N cp] 27) (.int .i64 3) (.slice none 0 0)
      by_cases hk0 : k < 0
      · go_wp2
        refine bodyPost_ret (v := .agg #[.int .i64 3, .slice none 0 0]) (by simp [results, Tryz.results17, go_sem, q0, q1]) rfl ?_
        rw [HM.out]
        exact HE.out 3 _ [] _ _ _ (OwnP.nil _ _)
      · have hk1 : (N : Int) ≤ k := by omega
        have hk2 : 0 ≤ k := by omega
        clear hk
        go_wp2
        refine bodyPost_ret (v := .agg #[.int .i64 3, .slice none 0 0]) (by simp [results, Tryz.results17, go_sem, q0, q1]) rfl ?_
        rw [HM.out]
        exact HE.out 3 _ [] _ _ _ (OwnP.nil _ _)
    · have HM : Hid (rr = (0, l)) := by show _ = _; rw [HV.out, if_neg (fun h => hk (by rw [hN] at h; exact h.2))]
      have hk0 : ¬ k < 0 := by omega
      have hk1 : ¬ (N : Int) ≤ k := by omega
      clear hk HV
      obtain ⟨q0, q1⟩ := HR.out (.cells #[.int .i64 0, .slice a N cp] 27) (.int .i64 0) (.slice a N cp)
      go_wp2
      refine bodyPost_ret (v := .agg #[.int .i64 0, .slice a N cp]) (by simp [results, Tryz.results17, go_sem, q0, q1]) rfl ?_
      rw [HM.out]
      exact HE.out 0 _ l _ _ _ ho1
  · have HM : Hid (rr = (c, l)) := by show _ = _; rw [HV.out, if_neg (fun h => hc h.1)]
    have hc' : (c == 0) = false := by simpa using hc
    clear HV
    obtain ⟨q0, q1⟩ := HR.out (.cells #[.int .i64 c, .slice a N cp] 27) (.int .i64 c) (.slice a N cp)
    go_wp2
    refine bodyPost_ret (v := .agg #[.int .i64 c, .slice a N cp]) (by simp [results, Tryz.results17, go_sem, q0, q1]) rfl ?_
    rw [HM.out]
    exact HE.out c _ l _ _ _ ho1
end Go.Proofs.YtaefomiofoakhaaGreatDoor

namespace Go.Proofs.YtaefomiofoakhaaGreatDoor
open Go.RowKit

theorem pwV_in {d : List Nat} {k : Int} (h : (pwV d k).1 = 0) : pwV d k = psV d ∧ ∃ n : Nat, k = (n : Int) ∧ n < (psV d).2.length ∧ (psV d).1 = 0 := by
  unfold pwV at h ⊢
  by_cases h1 : (psV d).1 = 0 ∧ (k < 0 ∨ ((psV d).2.length : Int) ≤ k)
  · rw [if_pos h1] at h; cases h
  · rw [if_neg h1] at h ⊢
    refine ⟨rfl, k.toNat, ?_, ?_, h⟩
    · by_cases hk : k < 0
      · exact absurd ⟨h, .inl hk⟩ h1
      · omega
    · by_cases hk : k < 0 ∨ ((psV d).2.length : Int) ≤ k
      · exact absurd ⟨h, hk⟩ h1
      · omega

end Go.Proofs.YtaefomiofoakhaaGreatDoor

namespace Go.Proofs.YtaefomiofoakhaaGreatDoor
namespace Xf

/-- The 64 digits, as numbers. -/
def digs : List Nat := [65, 66, 67, 68, 69, 70, 71, 72, 73, 74, 75, 76, 77, 78, 79, 80, 81, 82, 83, 84, 85, 86, 87, 88, 89, 90, 97, 98, 99, 100, 101, 102, 103, 104, 105, 106, 107, 108, 109, 110, 111, 112, 113, 114, 115, 116, 117, 118, 119, 120, 121, 122, 48, 49, 50, 51, 52, 53, 54, 55, 56, 57, 43, 47]
def dig (v : Nat) : Nat := digs.getD v 0
def pos (c : Nat) : Nat := digs.findIdx (fun x => x == c)

theorem digs_len : digs.length = 64 := by decide
theorem dig_lt (v : Nat) : dig v < 128 := by
  by_cases h : v < 64
  · have : ∀ v, v < 64 → dig v < 128 := by decide
    exact this v h
  · unfold dig; rw [List.getD_eq_getElem?_getD, List.getElem?_eq_none (by rw [digs_len]; omega)]; decide
theorem dig_pos {v : Nat} (h : v < 64) : 1 ≤ dig v := by
  have : ∀ v, v < 64 → 1 ≤ dig v := by decide
  exact this v h
/- Arithmetic of four digits and three bytes. -/
/-- The base text of some bytes. -/
def enc : List Nat → List Nat
  | [] => []
  | [a] => [dig (a * 65536 / 262144), dig (a * 65536 / 4096 % 64), 61, 61]
  | [a, b] => [dig ((a * 65536 + b * 256) / 262144), dig ((a * 65536 + b * 256) / 4096 % 64), dig ((a * 65536 + b * 256) / 64 % 64), 61]
  | a :: b :: c :: r => dig ((a * 65536 + b * 256 + c) / 262144) :: dig ((a * 65536 + b * 256 + c) / 4096 % 64) :: dig ((a * 65536 + b * 256 + c) / 64 % 64) :: dig ((a * 65536 + b * 256 + c) % 64) :: enc r

theorem enc_len : ∀ l : List Nat, (enc l).length = (l.length + 2) / 3 * 4
  | [] => rfl
  | [_] => by simp [enc]
  | [_, _] => by simp [enc]
  | a :: b :: c :: r => by
    have := enc_len r
    simp only [enc, List.length_cons, this]
    omega


theorem enc_plain : ∀ l : List Nat, IsB l → ∀ x ∈ enc l, 1 ≤ x ∧ x < 128
  | [], _ => by simp [enc]
  | [a], h => by
    have ha := h a (by simp)
    intro x hx
    simp only [enc, List.mem_cons, List.not_mem_nil, or_false] at hx
    rcases hx with rfl | rfl | rfl | rfl
    · exact ⟨dig_pos (by omega), dig_lt _⟩
    · exact ⟨dig_pos (by omega), dig_lt _⟩
    · omega
    · omega
  | [a, b], h => by
    have ha := h a (by simp)
    have hb := h b (by simp)
    intro x hx
    simp only [enc, List.mem_cons, List.not_mem_nil, or_false] at hx
    rcases hx with rfl | rfl | rfl | rfl
    · exact ⟨dig_pos (by omega), dig_lt _⟩
    · exact ⟨dig_pos (by omega), dig_lt _⟩
    · exact ⟨dig_pos (by omega), dig_lt _⟩
    · omega
  | a :: b :: c :: r, h => by
    have ha := h a (by simp)
    have hb := h b (by simp)
    have hc := h c (by simp)
    intro x hx
    simp only [enc, List.mem_cons] at hx
    rcases hx with rfl | rfl | rfl | rfl | hx
    · exact ⟨dig_pos (by omega), dig_lt _⟩
    · exact ⟨dig_pos (by omega), dig_lt _⟩
    · exact ⟨dig_pos (by omega), dig_lt _⟩
    · exact ⟨dig_pos (by omega), dig_lt _⟩
    · exact enc_plain r (fun y hy => h y (by simp [hy])) x hx

/-- The value of a letter at a place of a group of which n are told. -/
def at_ (n k x : Nat) : Nat := if k < n then pos x else 0
def three (v m : Nat) : List Nat := [v / 65536, v / 256 % 256, v % 256].take m
/-- What lies behind the bytes that are told. -/
def left (v m : Nat) : Nat := if m = 1 then v % 65536 else if m = 2 then v % 256 else 0

end Xf
end Go.Proofs.YtaefomiofoakhaaGreatDoor

namespace Go.Proofs.YtaefomiofoakhaaGreatDoor
namespace Xf

/-- The bits of the first k letters of a group of which n are told. -/
def acc (n : Nat) (g : List Nat) : Nat → Nat
  | 0 => 0
  | k + 1 => acc n g k * 64 + at_ n k (nth g k)
/-- The first c bytes of 24 bits, as the program takes them off. -/
def bts : Nat → Nat → List Nat
  | _, 0 => []
  | b, c + 1 => b / 65536 % 256 :: bts (b * 256 % 4294967296) c
theorem bts_len : ∀ (b c : Nat), (bts b c).length = c
  | _, 0 => rfl
  | b, c + 1 => by rw [bts, List.length_cons, bts_len]
end Xf
end Go.Proofs.YtaefomiofoakhaaGreatDoor

namespace Go.Proofs.YtaefomiofoakhaaGreatDoor
open Go.RowKit

theorem ret_intD {k : IntKind} {a b : Int} (h : a = b) : Ending.returned (.int k a) = .returned (.int k b) := by rw [h]
theorem base_text (k : Nat) (h : k < 64) : ((⟨#[65, 66, 67, 68, 69, 70, 71, 72, 73, 74, 75, 76, 77, 78, 79, 80, 81, 82, 83, 84, 85, 86, 87, 88, 89, 90, 97, 98, 99, 100, 101, 102, 103, 104, 105, 106, 107, 108, 109, 110, 111, 112, 113, 114, 115, 116, 117, 118, 119, 120, 121, 122, 48, 49, 50, 51, 52, 53, 54, 55, 56, 57, 43, 47]⟩ : ByteArray)[k]'h).toNat = Xf.dig k := by
  have : ∀ k (h : k < 64), ((⟨#[65, 66, 67, 68, 69, 70, 71, 72, 73, 74, 75, 76, 77, 78, 79, 80, 81, 82, 83, 84, 85, 86, 87, 88, 89, 90, 97, 98, 99, 100, 101, 102, 103, 104, 105, 106, 107, 108, 109, 110, 111, 112, 113, 114, 115, 116, 117, 118, 119, 120, 121, 122, 48, 49, 50, 51, 52, 53, 54, 55, 56, 57, 43, 47]⟩ : ByteArray)[k]'h).toNat = Xf.dig k := by decide +kernel
  exact this k h

set_option maxHeartbeats 800000 in
set_option maxRecDepth 100000 in
theorem l1Base_any (k : Nat) (h : k < 64) (w : World) : Calls Tryz.prog 85 #[.int .i64 (k : Int)] w fun e w' => e = .returned (.int .u8 (Xf.dig k : Int)) ∧ w' = w := by
  have h' : (k : Int) < 64 := by omega
  go_enter Tryz.func85, Tryz.ntmps85
  go_wp2
  go_ret
  exact ⟨ret_intD (by rw [← base_text k h]), rfl⟩

end Go.Proofs.YtaefomiofoakhaaGreatDoor
