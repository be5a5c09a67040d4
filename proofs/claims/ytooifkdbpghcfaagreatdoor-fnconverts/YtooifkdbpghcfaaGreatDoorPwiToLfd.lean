/- The parts of a message of which one is asked: partsWith, partIn · The part that is asked, the bytes that it tells: partIn, bytesOfPart · Where a byte stands first in bytes: plain functions, with no program in them · Line feeds taken out of bytes: a plain function; strings.ReplaceAll does it. -/
import Derived.Test.YtooifkdbpghcfaaGreatDoorByeToHdr
import Derived.Test.YtooifkdbpghcfaaGreatDoorMemPToPth
import Derived.Test.YtooifkdbpghcfaaGreatDoorMemToApp
import Derived.Lib.Replace
import Derived.Lib.IndexBytes
import Derived.Lib.SplitLaws
namespace Go.Proofs.YtooifkdbpghcfaaGreatDoor
open Go.RowKit

theorem res_both {wr : World} {sz : Nat} {x0 x1 : Value} (h0 : wr.cell? ⟨sz, 0, none⟩ = some x0) (h1 : wr.cell? ⟨sz, 1, none⟩ = some x1) (c t : Value) :
    ((wr.setCell ⟨sz, 0, none⟩ c).setCell ⟨sz, 1, none⟩ t).cell? ⟨sz, 0, none⟩ = some c ∧ ((wr.setCell ⟨sz, 0, none⟩ c).setCell ⟨sz, 1, none⟩ t).cell? ⟨sz, 1, none⟩ = some t := by
  obtain ⟨q0, q1⟩ := res_cells h0 h1 c t
  exact ⟨by simp [go_sem, q0], q1⟩
/-- The parts, where the place asked is one of theirs. -/
def pwV (d : List Nat) (k : Int) : Int × List PtP := if (psV d).1 = 0 ∧ (k < 0 ∨ ((psV d).2.length : Int) ≤ k) then (3, []) else psV d
theorem PsEnd.some {c : Int} {w w1 : World} {v : Value} {l : List PtP} (hbel : Below w.heap.size w w1) (hown : OwnP w1 (w.heap.size + 1) v l) (x y : Value) : PsEnd (c, l) w (.returned (.agg #[.int .i64 c, v])) ((w1.setCell ⟨w.heap.size, 0, none⟩ x).setCell ⟨w.heap.size, 1, none⟩ y) :=
  ⟨v, rfl, ((hown.kept _ (by simp) _).kept _ (by simp) _).low (by omega), (hbel.setCell (p := ⟨w.heap.size, 0, none⟩) (Nat.le_refl _) _).setCell (p := ⟨w.heap.size, 1, none⟩) (Nat.le_refl _) _⟩
theorem psV_le (d : List Nat) : (psV d).2.length ≤ 8 := by
  unfold psV
  split
  · simp
  · exact parts_le d

set_option maxHeartbeats 1600000 in
set_option maxRecDepth 100000 in
theorem partsWith_any {cp : Nat} (b m : Nat) (d : List Nat) (k : Int) (w : World) (hr : Rd w (some ⟨b, 0, none⟩) d) (hT : TabC w) (hB : IsB d) (hl : d.length = m) (hcp : m ≤ cp := by omega) :
    Calls Tryz.prog 72 #[.slice (some ⟨b, 0, none⟩) m cp, .int .i64 k] w (PsEnd (pwV d k) w) := by
  have hb0 : Below w.heap.size w (w.alloc (.cells #[.int .i64 0, .slice none 0 0] 41)) := (Below.refl _ _).alloc (Nat.le_refl _) _
  have HP := parseParts_any (cp := cp) b m d _ (hr.below hb0) (hT.below hb0) hB hl
  have HV : Hid (pwV d k = if (psV d).1 = 0 ∧ (k < 0 ∨ ((psV d).2.length : Int) ≤ k) then (3, []) else psV d) := rfl
  have hlen := psV_le d
  generalize pwV d k = rr at *
  generalize psV d = r at *
  obtain ⟨c, l⟩ := r
  obtain ⟨N, hN⟩ : ∃ N, l.length = N := ⟨_, rfl⟩
  dsimp only at HV hlen
  go_enter Tryz.func72, Tryz.ntmps72
  go_wp2_with fail
  refine HP.mono ?_
  rintro e w1 ⟨v, rfl, ho, hb1⟩
  dsimp only at ho
  obtain ⟨a, cp, hv, -, -⟩ := ho.form
  rw [hN] at hv
  subst hv
  have hbl : Below (w.heap.size + 1) (w.alloc (.cells #[.int .i64 0, .slice none 0 0] 41)) w1 := hb1.mono (by simp)
  have hbw := hb0.trans (hbl.mono (by omega))
  have ho1 : OwnP w1 (w.heap.size + 1) (.slice a N cp) l := ho.low (by simp)
  obtain ⟨a0, a1, z0, z1⟩ := res_block rfl hbl
  have hlt : w.heap.size < w1.heap.size := by have hz := hbl.size; rw [World.size_alloc] at hz; omega
  clear HP hb1 ho
  have HR : Hid (∀ (ob : Obj) (x y : Value), (((w1.setCell ⟨w.heap.size, 0, none⟩ x).setCell ⟨w.heap.size, 1, none⟩ y).alloc ob).cell? ⟨w.heap.size, 0, none⟩ = some x ∧ (((w1.setCell ⟨w.heap.size, 0, none⟩ x).setCell ⟨w.heap.size, 1, none⟩ y).alloc ob).cell? ⟨w.heap.size, 1, none⟩ = some y) := fun ob x y => by
    obtain ⟨q0, q1⟩ := res_both a0 a1 x y
    exact ⟨cellA q0, cellA q1⟩
  have HE : Hid (∀ (c : Int) (v : Value) (l : List PtP) (ob : Obj) (x y : Value), OwnP w1 (w.heap.size + 1) v l → PsEnd (c, l) w (.returned (.agg #[.int .i64 c, v])) (((w1.setCell ⟨w.heap.size, 0, none⟩ x).setCell ⟨w.heap.size, 1, none⟩ y).alloc ob)) := fun c v l ob x y hown =>
    ⟨v, rfl, (((hown.kept _ (by simp) _).kept _ (by simp) _).low (by omega)).alloc _, ((hbw.setCell (p := ⟨w.heap.size, 0, none⟩) (Nat.le_refl _) _).setCell (p := ⟨w.heap.size, 1, none⟩) (Nat.le_refl _) _).alloc (by simp; omega) _⟩
  by_cases hc : c = 0
  · subst hc
    by_cases hk : k < 0 ∨ (N : Int) ≤ k
    · have HM : Hid (rr = (3, [])) := by show _ = _; rw [HV.out, if_pos ⟨rfl, by rw [hN]; exact hk⟩]
      clear HV
      obtain ⟨q0, q1⟩ := HR.out (.cells #[.int .i64 0, .slice a N cp] 41) (.int .i64 3) (.slice none 0 0)
      by_cases hk0 : k < 0
      · go_wp2
        refine bodyPost_ret (v := .agg #[.int .i64 3, .slice none 0 0]) (by simp [results, Tryz.results72, go_sem, q0, q1]) rfl ?_
        rw [HM.out]
        exact HE.out 3 _ [] _ _ _ (OwnP.nil _ _)
      · have hk1 : (N : Int) ≤ k := by omega
        have hk2 : 0 ≤ k := by omega
        clear hk
        go_wp2
        refine bodyPost_ret (v := .agg #[.int .i64 3, .slice none 0 0]) (by simp [results, Tryz.results72, go_sem, q0, q1]) rfl ?_
        rw [HM.out]
        exact HE.out 3 _ [] _ _ _ (OwnP.nil _ _)
    · have HM : Hid (rr = (0, l)) := by show _ = _; rw [HV.out, if_neg (fun h => hk (by rw [hN] at h; exact h.2))]
      have hk0 : ¬ k < 0 := by omega
      have hk1 : ¬ (N : Int) ≤ k := by omega
      clear hk HV
      obtain ⟨q0, q1⟩ := HR.out (.cells #[.int .i64 0, .slice a N cp] 41) (.int .i64 0) (.slice a N cp)
      go_wp2
      refine bodyPost_ret (v := .agg #[.int .i64 0, .slice a N cp]) (by simp [results, Tryz.results72, go_sem, q0, q1]) rfl ?_
      rw [HM.out]
      exact HE.out 0 _ l _ _ _ ho1
  · have HM : Hid (rr = (c, l)) := by show _ = _; rw [HV.out, if_neg (fun h => hc h.1)]
    have hc' : (c == 0) = false := by simpa using hc
    clear HV
    obtain ⟨q0, q1⟩ := HR.out (.cells #[.int .i64 c, .slice a N cp] 41) (.int .i64 c) (.slice a N cp)
    go_wp2
    refine bodyPost_ret (v := .agg #[.int .i64 c, .slice a N cp]) (by simp [results, Tryz.results72, go_sem, q0, q1]) rfl ?_
    rw [HM.out]
    exact HE.out c _ l _ _ _ ho1
end Go.Proofs.YtooifkdbpghcfaaGreatDoor

namespace Go.Proofs.YtooifkdbpghcfaaGreatDoor
open Go.RowKit

/-- A part as a value. -/
def ptA (p : PtP) : Value := .agg #[.int .i64 p.1.1, .int .i64 p.1.2.1, .int .i64 p.1.2.2, .int .i64 p.2.1.1, .int .i64 p.2.1.2, .int .i64 p.2.2.1, .int .i64 p.2.2.2]
/-- How the look for a part ends. -/
def PiEnd (r : Int × List PtP) (k : Nat) (w : World) (e : Ending) (w' : World) : Prop := ((r.1 = 0 ∧ e = .returned (ptA (nthP r.2 k))) ∨ (r.1 ≠ 0 ∧ e = .panicked [{ v := .iface 91 (.int .i64 r.1), recovered := false }])) ∧ Below w.heap.size w w'
theorem pwV_in {d : List Nat} {k : Int} (h : (pwV d k).1 = 0) : pwV d k = psV d ∧ ∃ n : Nat, k = (n : Int) ∧ n < (psV d).2.length ∧ (psV d).1 = 0 := by
  unfold pwV at h ⊢
  by_cases h1 : (psV d).1 = 0 ∧ (k < 0 ∨ ((psV d).2.length : Int) ≤ k)
  · rw [if_pos h1] at h; cases h
  · rw [if_neg h1] at h ⊢
    refine ⟨rfl, k.toNat, ?_, ?_, h⟩
    · by_cases hk : k < 0
      · exact absurd ⟨h, .inl hk⟩ h1
      · omega
    · by_cases hk : k < 0 ∨ ((psV d).2.length : Int) ≤ k
      · exact absurd ⟨h, hk⟩ h1
      · omega

set_option maxHeartbeats 1600000 in
set_option maxRecDepth 100000 in
theorem partIn_any {cp : Nat} (b m : Nat) (d : List Nat) (k : Int) (w : World) (hr : Rd w (some ⟨b, 0, none⟩) d) (hT : TabC w) (hB : IsB d) (hl : d.length = m) (hcp : m ≤ cp := by omega) :
    Calls Tryz.prog 47 #[.slice (some ⟨b, 0, none⟩) m cp, .int .i64 k] w (PiEnd (pwV d k) k.toNat w) := by
  have hb0 : Below w.heap.size w (w.alloc (.cells #[.int .i64 0, .int .i64 0, .int .i64 0, .int .i64 0, .int .i64 0, .int .i64 0, .int .i64 0] 44)) := (Below.refl _ _).alloc (Nat.le_refl _) _
  have HP := partsWith_any (cp := cp) b m d k _ (hr.below hb0) (hT.below hb0) hB hl
  have HI : Hid ((pwV d k).1 = 0 → ∃ n : Nat, k = (n : Int) ∧ n < (pwV d k).2.length) := fun h => by
    obtain ⟨e, n, h1, h2, _⟩ := pwV_in h
    rw [e]; exact ⟨n, h1, h2⟩
  have hlen : (pwV d k).2.length ≤ 8 := by
    unfold pwV
    split
    · simp
    · exact psV_le d
  generalize pwV d k = r at *
  obtain ⟨c, l⟩ := r
  obtain ⟨N, hN⟩ : ∃ N, l.length = N := ⟨_, rfl⟩
  dsimp only at hlen HI
  go_enter Tryz.func47, Tryz.ntmps47
  go_wp2_with fail
  refine HP.mono ?_
  rintro e w1 ⟨v, rfl, ho, hb1⟩
  dsimp only at ho
  obtain ⟨a, cp, hv, -, -⟩ := ho.form
  rw [hN] at hv
  subst hv
  have hbl : Below (w.heap.size + 1) (w.alloc (.cells #[.int .i64 0, .int .i64 0, .int .i64 0, .int .i64 0, .int .i64 0, .int .i64 0, .int .i64 0] 44)) w1 := hb1.mono (by simp)
  have hbw := hb0.trans (hbl.mono (by omega))
  have hrd := ho.rd.2
  clear HP hb1 ho
  by_cases hc : c = 0
  · subst hc
    obtain ⟨n, hkn, hnl⟩ := HI.out rfl
    subst hkn
    obtain ⟨g, rfl, hglt, hcell⟩ := hrd.at_ (by omega)
    go_wp2_with fail
    refine (mustSee_ok _).mono ?_
    rintro e w2 ⟨rfl, hw2⟩
    have hbA : Below w1.heap.size w1 w2 := hw2 ▸ (Below.refl _ _).alloc (Nat.le_refl _) _
    have h27 : w2.heap[w1.heap.size]? = some (.cells #[.int .i64 0, .slice (some ⟨g, 0, none⟩) N cp] 41 (0, 0)) := hw2 ▸ heap_alloc_new w1 _
    have q1 : w2.cell? ⟨w1.heap.size, 1, none⟩ = some (.slice (some ⟨g, 0, none⟩) N cp) := by simp [World.cell?, h27]
    have hbl2 := hbl.trans (hbA.mono (by have := hbl.size; simpa using this))
    have hbw2 := hb0.trans (hbl2.mono (by omega))
    obtain ⟨⟨hc0, hc1, hc2, hc3, hc4, hc5, hc6⟩, ⟨hf0, hf1, hf2, hf3, hf4, hf5, hf6⟩⟩ := res_block7 rfl hbl2
    obtain ⟨y0, y1, y2, y3, y4, y5, y6⟩ := hcell n hnl
    have HC : Hid (∀ j v, w1.cell? ⟨g, j, none⟩ = some v → w2.cell? ⟨g, j, none⟩ = some v) := fun j v h => (hbA.cell (p := ⟨g, j, none⟩) hglt).trans h
    have x0 := HC.out _ _ y0
    have x1 := HC.out _ _ y1
    have x2 := HC.out _ _ y2
    have x3 := HC.out _ _ y3
    have x4 := HC.out _ _ y4
    have x5 := HC.out _ _ y5
    have x6 := HC.out _ _ y6
    have hnN : (n : Int) < (N : Int) := by omega
    have HE : Hid (PiEnd (0, l) n w (.returned (ptA (nthP l n))) w2 → True) := fun _ => trivial
    have HQ : Hid (ptA (nthP l n) = .agg #[.int .i64 (nthP l n).1.1, .int .i64 (nthP l n).1.2.1, .int .i64 (nthP l n).1.2.2, .int .i64 (nthP l n).2.1.1, .int .i64 (nthP l n).2.1.2, .int .i64 (nthP l n).2.2.1, .int .i64 (nthP l n).2.2.2]) := rfl
    have HW : Hid (∀ (v : Value) (w' : World), v = ptA (nthP l n) → Below w.heap.size w w' → PiEnd (0, l) (n : Int).toNat w (.returned v) w') := fun v w' hv hb => by
      rw [Int.toNat_natCast, hv]; exact ⟨.inl ⟨rfl, rfl⟩, hb⟩
    clear y0 y1 y2 y3 y4 y5 y6 hcell HC HE h27 hw2 hbA HI hrd
    generalize nthP l n = pt at *
    obtain ⟨⟨p0, p1, p2⟩, ⟨p3, p4⟩, p5, p6⟩ := pt
    dsimp only at x0 x1 x2 x3 x4 x5 x6 HQ
    obtain ⟨hk0, hk1, hk2, hk3, hk4, hk5, hk6⟩ := res_cells7 ⟨hc0, hc1, hc2, hc3, hc4, hc5, hc6⟩ (.int .i64 p0) (.int .i64 p1) (.int .i64 p2) (.int .i64 p3) (.int .i64 p4) (.int .i64 p5) (.int .i64 p6)
    go_wp2
    refine bodyPost_ret (v := .agg #[.int .i64 p0, .int .i64 p1, .int .i64 p2, .int .i64 p3, .int .i64 p4, .int .i64 p5, .int .i64 p6]) (by simp [results, Tryz.results47, go_sem, hk0, hk1, hk2, hk3, hk4, hk5, hk6]) rfl ?_
    exact HW.out _ _ HQ.out.symm (below_sets7 hbw2 _ _ _ _ _ _ _)
  · go_wp2_with fail
    refine (mustSee_bad c hc _).mono ?_
    rintro e w2 ⟨rfl, hw2⟩
    subst hw2
    exact ⟨rfl, .inr ⟨hc, rfl⟩, hbw.alloc hbw.size _⟩
end Go.Proofs.YtooifkdbpghcfaaGreatDoor

namespace Go.Proofs.YtooifkdbpghcfaaGreatDoor
open Go.RowKit

theorem u8_neW {b c : Nat} (hb : b < 256) (hc : c < 256) (h : b ≠ c) : (UInt8.ofNat b == UInt8.ofNat c) = false := by
  rw [beq_eq_false_iff_ne]
  intro e
  have := congrArg UInt8.toNat e
  rw [UInt8.toNat_ofNat', UInt8.toNat_ofNat'] at this
  omega
theorem idx_natW {c : Nat} (hc : c < 256) {p : Nat → Bool} (hp : ∀ b, p b = decide (b ≠ c)) : ∀ l : List Nat, IsB l → Lib.indexByte (l.map UInt8.ofNat) (UInt8.ofNat c) = if (l.takeWhile p).length < l.length then ((l.takeWhile p).length : Int) else -1
  | [], _ => rfl
  | b :: l, h => by
    have hb := h b (by simp)
    have ih := idx_natW hc hp l (fun x hx => h x (by simp [hx]))
    rw [List.map_cons, Lib.indexByte, List.takeWhile_cons, hp b]
    by_cases e : b = c
    · subst e
      simp
    · rw [u8_neW hb hc e, decide_eq_true e]
      simp only [if_true, List.length_cons, Bool.false_eq_true, if_false]
      by_cases hl : (l.takeWhile p).length < l.length
      · have ih' := ih.trans (if_pos hl)
        rw [ih', if_pos (show (l.takeWhile p).length + 1 < l.length + 1 by omega), if_neg (by simp)]
        omega
      · have ih' := ih.trans (if_neg hl)
        rw [ih', if_neg (show ¬ (l.takeWhile p).length + 1 < l.length + 1 by omega), if_pos (by simp)]
theorem tw_split {p : Nat → Bool} : ∀ l : List Nat, (l.takeWhile p).length < l.length → ∃ x r, l = l.takeWhile p ++ x :: r ∧ p x = false ∧ l.drop ((l.takeWhile p).length + 1) = r ∧ l.take (l.takeWhile p).length = l.takeWhile p
  | [], h => by simp at h
  | b :: l, h => by
    rw [List.takeWhile_cons] at h ⊢
    cases e : p b with
    | false => exact ⟨b, l, by simp, e, by simp, by simp⟩
    | true =>
      rw [e] at h
      simp only [if_true, List.length_cons] at h ⊢
      obtain ⟨x, r, h1, h2, h3, h4⟩ := tw_split (p := p) l (by omega)
      refine ⟨x, r, ?_, h2, ?_, ?_⟩
      · rw [List.cons_append, ← h1]
      · rw [List.drop_succ_cons]; exact h3
      · rw [List.take_succ_cons, h4]
theorem tw_all {p : Nat → Bool} : ∀ l : List Nat, ¬ (l.takeWhile p).length < l.length → l.all p = true
  | [], _ => rfl
  | b :: l, h => by
    rw [List.takeWhile_cons] at h
    cases e : p b with
    | false => rw [e] at h; simp at h
    | true =>
      rw [e] at h
      simp only [if_true, List.length_cons] at h
      rw [List.all_cons, e, tw_all l (by omega)]; rfl
theorem tw_allp (p : Nat → Bool) (l : List Nat) : (l.takeWhile p).all p = true := by
  rw [List.all_eq_true]
  intro x hx
  induction l with
  | nil => cases hx
  | cons b l ih =>
    rw [List.takeWhile_cons] at hx
    cases e : p b with
    | false => rw [e] at hx; cases hx
    | true =>
      rw [e] at hx
      rcases List.mem_cons.1 hx with rfl | hx
      · exact e
      · exact ih hx
end Go.Proofs.YtooifkdbpghcfaaGreatDoor

namespace Go.Proofs.YtooifkdbpghcfaaGreatDoor
open Go.RowKit

/-- Bytes without their line feeds. -/
def repL (t : List Nat) : List Nat := t.flatMap fun c => if c = 10 then [] else [c]
theorem repL_cons (c : Nat) (t : List Nat) : repL (c :: t) = (if c = 10 then [] else [c]) ++ repL t := rfl
def noLfL (c : Nat) : Bool := decide (c ≠ 10)
theorem repL_none {l : List Nat} (h : l.all noLfL = true) : repL l = l := by
  induction l with
  | nil => rfl
  | cons c l ih =>
    rw [List.all_cons, Bool.and_eq_true] at h
    have hc := of_decide_eq_true h.1
    rw [repL_cons, if_neg hc, ih h.2]; rfl
theorem repL_app (a b : List Nat) : repL (a ++ b) = repL a ++ repL b := by simp [repL, List.flatMap_append]
theorem replKL : ∀ (k : Nat) (t : List Nat), IsB t → (Lib.countByte (t.map UInt8.ofNat) 10) = k → Lib.replaceK [10] [] k (t.map UInt8.ofNat) = (repL t).map UInt8.ofNat := by
  intro k
  induction k with
  | zero =>
    intro t hB hc
    have hall : t.all noLfL = true := by
      rw [List.all_eq_true]
      intro x hx
      refine decide_eq_true (fun e => ?_)
      subst e
      have h0 : List.count (10 : UInt8) (t.map UInt8.ofNat) = 0 := hc
      rw [List.count_eq_zero] at h0
      exact h0 (List.mem_map.2 ⟨10, hx, rfl⟩)
    rw [repL_none hall]
    rfl
  | succ k ih =>
    intro t hB hc
    have hi := idx_natW (c := 10) (by omega) (p := noLfL) (fun b => rfl) t hB
    rw [show (UInt8.ofNat 10) = (10 : UInt8) from rfl] at hi
    by_cases hl : (t.takeWhile noLfL).length < t.length
    · rw [if_pos hl] at hi
      obtain ⟨x, r, h1, h2, h3, h4⟩ := tw_split t hl
      have hx : x = 10 := by
        have := of_decide_eq_false h2
        omega
      subst hx
      rw [Lib.replaceK_hit _ _ k _ (t.takeWhile noLfL).length (by rw [Lib.index_one]; exact hi), ← List.map_take, ← List.map_drop, h4]
      rw [show (t.takeWhile noLfL).length + [(10 : UInt8)].length = (t.takeWhile noLfL).length + 1 from rfl, h3]
      have hBr : IsB r := fun y hy => hB y (by rw [h1]; simp [hy])
      have hcr : Lib.countByte (r.map UInt8.ofNat) 10 = k := by
        have h5 : List.count (10 : UInt8) (t.map UInt8.ofNat) = k + 1 := hc
        rw [h1, List.map_append, List.map_cons, List.count_append, List.count_cons] at h5
        have h6 : List.count (10 : UInt8) ((t.takeWhile noLfL).map UInt8.ofNat) = 0 := by
          rw [List.count_eq_zero]
          intro hm
          obtain ⟨y, hy, e⟩ := List.mem_map.1 hm
          have hy' := of_decide_eq_true (List.all_eq_true.1 (tw_allp noLfL t) y hy)
          have hyB := hB y (by rw [h1]; simp [hy])
          have := u8_neW hyB (by omega : (10 : Nat) < 256) hy'
          rw [show (UInt8.ofNat 10) = (10 : UInt8) from rfl, e] at this
          simp at this
        rw [h6] at h5
        have h7 : ((UInt8.ofNat 10 == (10 : UInt8)) = true) := rfl
        rw [if_pos h7] at h5
        show List.count (10 : UInt8) (r.map UInt8.ofNat) = k
        omega
      rw [ih r hBr hcr]
      conv => rhs; rw [h1]
      rw [repL_app, repL_cons, if_pos rfl, repL_none (tw_allp noLfL t), List.map_append, List.map_append, List.append_assoc]
      rfl
    · exfalso
      have hall := tw_all t hl
      have h0 : List.count (10 : UInt8) (t.map UInt8.ofNat) = 0 := by
        rw [List.count_eq_zero]
        intro hm
        obtain ⟨y, hy, e⟩ := List.mem_map.1 hm
        have hy' := of_decide_eq_true (List.all_eq_true.1 hall y hy)
        have := u8_neW (hB y hy) (by omega : (10 : Nat) < 256) hy'
        rw [show (UInt8.ofNat 10) = (10 : UInt8) from rfl, e] at this
        simp at this
      have h5 : List.count (10 : UInt8) (t.map UInt8.ofNat) = k + 1 := hc
      omega
theorem replAllL (t : List Nat) (hB : IsB t) : (⟨(Lib.replaceAll (str t).data.toList [10] []).toArray⟩ : ByteArray) = str (repL t) := by
  have e : (str t).data.toList = t.map UInt8.ofNat := by simp [str]
  rw [e]
  unfold Lib.replaceAll Lib.replace
  rw [if_neg (by decide)]
  unfold Lib.replaceNum
  rw [if_pos (.inl (by decide)), Lib.count_one]
  have hk := replKL _ t hB rfl
  unfold Lib.countByte at hk
  rw [hk]
  rfl
theorem repL_len : ∀ t : List Nat, (repL t).length ≤ t.length
  | [] => by simp [repL]
  | c :: t => by
    have := repL_len t
    rw [repL_cons, List.length_append, List.length_cons]
    split
    · simp only [List.length_nil]; omega
    · simp only [List.length_cons, List.length_nil]; omega
theorem repL_isB {t : List Nat} (hB : IsB t) : IsB (repL t) := by
  intro b hb
  unfold repL at hb
  obtain ⟨c, hc, hb⟩ := List.mem_flatMap.1 hb
  split at hb
  · cases hb
  · rw [List.mem_singleton] at hb; subst hb; exact hB _ hc
end Go.Proofs.YtooifkdbpghcfaaGreatDoor
