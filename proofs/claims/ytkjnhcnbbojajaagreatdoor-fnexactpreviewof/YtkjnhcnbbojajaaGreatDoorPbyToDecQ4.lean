/- The part that is asked, the bytes that it tells: partIn, bytesOfPart · Line feeds taken out of bytes: a plain function; strings.ReplaceAll does it · The bytes that a part tells, the program's: withoutLineFeeds, bytesOfPart · The model's copy of bytes · What is seen of a part, the model's: l1Copy, l6Joined, l6Part, l6Bytes, PartBytes · The model's l1Unquote and DecodeQuoted at every text of at most 1048576 letters. -/
import Derived.Test.YtkjnhcnbbojajaaGreatDoorMrkPToPwi
import Derived.Test.YtkjnhcnbbojajaaGreatDoorTwhToEncB
import Derived.Test.YtkjnhcnbbojajaaGreatDoorDecQToMxi
import Derived.Test.YtkjnhcnbbojajaaGreatDoorShf
import Derived.Test.YtkjnhcnbbojajaaGreatDoorMemToMrk0
import Derived.Test.YtkjnhcnbbojajaaGreatDoorDecB4ToEncQ2
import Derived.Test.YtkjnhcnbbojajaaGreatDoorEncQ3ToSeo
namespace Go.Proofs.YtkjnhcnbbojajaaGreatDoor
open Go.RowKit

/-- A part as a value. -/
def ptA (p : PtP) : Value := .agg #[.int .i64 p.1.1, .int .i64 p.1.2.1, .int .i64 p.1.2.2, .int .i64 p.2.1.1, .int .i64 p.2.1.2, .int .i64 p.2.2.1, .int .i64 p.2.2.2]
/-- How the look for a part ends. -/
def PiEnd (r : Int × List PtP) (k : Nat) (w : World) (e : Ending) (w' : World) : Prop := ((r.1 = 0 ∧ e = .returned (ptA (nthP r.2 k))) ∨ (r.1 ≠ 0 ∧ e = .panicked [{ v := .iface 156 (.int .i64 r.1), recovered := false }])) ∧ Below w.heap.size w w'
theorem pwV_in {d : List Nat} {k : Int} (h : (pwV d k).1 = 0) : pwV d k = psV d ∧ ∃ n : Nat, k = (n : Int) ∧ n < (psV d).2.length ∧ (psV d).1 = 0 := by
  unfold pwV at h ⊢
  by_cases h1 : (psV d).1 = 0 ∧ (k < 0 ∨ ((psV d).2.length : Int) ≤ k)
  · rw [if_pos h1] at h; cases h
  · rw [if_neg h1] at h ⊢
    refine ⟨rfl, k.toNat, ?_, ?_, h⟩
    · by_cases hk : k < 0
      · exact absurd ⟨h, .inl hk⟩ h1
      · omega
    · by_cases hk : k < 0 ∨ ((psV d).2.length : Int) ≤ k
      · exact absurd ⟨h, hk⟩ h1
      · omega

set_option maxHeartbeats 1600000 in
set_option maxRecDepth 100000 in
theorem partIn_any (b m : Nat) (d : List Nat) (k : Int) (w : World) (hr : Rd w (some ⟨b, 0, none⟩) d) (hT : TabC w) (hB : IsB d) (hl : d.length = m) :
    Calls Tryz.prog 97 #[.slice (some ⟨b, 0, none⟩) m m, .int .i64 k] w (PiEnd (pwV d k) k.toNat w) := by
  have hb0 : Below w.heap.size w (w.alloc (.cells #[.int .i64 0, .int .i64 0, .int .i64 0, .int .i64 0, .int .i64 0, .int .i64 0, .int .i64 0] 30)) := (Below.refl _ _).alloc (Nat.le_refl _) _
  have HP := partsWith_any b m d k _ (hr.below hb0) (hT.below hb0) hB hl
  have HI : Hid ((pwV d k).1 = 0 → ∃ n : Nat, k = (n : Int) ∧ n < (pwV d k).2.length) := fun h => by
    obtain ⟨e, n, h1, h2, _⟩ := pwV_in h
    rw [e]; exact ⟨n, h1, h2⟩
  have hlen : (pwV d k).2.length ≤ 8 := by
    unfold pwV
    split
    · simp
    · exact psV_le d
  generalize pwV d k = r at *
  obtain ⟨c, l⟩ := r
  obtain ⟨N, hN⟩ : ∃ N, l.length = N := ⟨_, rfl⟩
  dsimp only at hlen HI
  go_enter Tryz.func97, Tryz.ntmps97
  go_wp2_with fail
  refine HP.mono ?_
  rintro e w1 ⟨v, rfl, ho, hb1⟩
  dsimp only at ho
  obtain ⟨a, cp, hv, -, -⟩ := ho.form
  rw [hN] at hv
  subst hv
  have hbl : Below (w.heap.size + 1) (w.alloc (.cells #[.int .i64 0, .int .i64 0, .int .i64 0, .int .i64 0, .int .i64 0, .int .i64 0, .int .i64 0] 30)) w1 := hb1.mono (by simp)
  have hbw := hb0.trans (hbl.mono (by omega))
  have hrd := ho.rd.2
  clear HP hb1 ho
  by_cases hc : c = 0
  · subst hc
    obtain ⟨n, hkn, hnl⟩ := HI.out rfl
    subst hkn
    obtain ⟨g, rfl, hglt, hcell⟩ := hrd.at_ (by omega)
    go_wp2_with fail
    refine (mustSee_ok _).mono ?_
    rintro e w2 ⟨rfl, hw2⟩
    have hbA : Below w1.heap.size w1 w2 := hw2 ▸ (Below.refl _ _).alloc (Nat.le_refl _) _
    have h27 : w2.heap[w1.heap.size]? = some (.cells #[.int .i64 0, .slice (some ⟨g, 0, none⟩) N cp] 27 (0, 0)) := hw2 ▸ heap_alloc_new w1 _
    have q1 : w2.cell? ⟨w1.heap.size, 1, none⟩ = some (.slice (some ⟨g, 0, none⟩) N cp) := by simp [World.cell?, h27]
    have hbl2 := hbl.trans (hbA.mono (by have := hbl.size; simpa using this))
    have hbw2 := hb0.trans (hbl2.mono (by omega))
    obtain ⟨⟨hc0, hc1, hc2, hc3, hc4, hc5, hc6⟩, ⟨hf0, hf1, hf2, hf3, hf4, hf5, hf6⟩⟩ := res_block7 rfl hbl2
    obtain ⟨y0, y1, y2, y3, y4, y5, y6⟩ := hcell n hnl
    have HC : Hid (∀ j v, w1.cell? ⟨g, j, none⟩ = some v → w2.cell? ⟨g, j, none⟩ = some v) := fun j v h => (hbA.cell (p := ⟨g, j, none⟩) hglt).trans h
    have x0 := HC.out _ _ y0
    have x1 := HC.out _ _ y1
    have x2 := HC.out _ _ y2
    have x3 := HC.out _ _ y3
    have x4 := HC.out _ _ y4
    have x5 := HC.out _ _ y5
    have x6 := HC.out _ _ y6
    have hnN : (n : Int) < (N : Int) := by omega
    have HE : Hid (PiEnd (0, l) n w (.returned (ptA (nthP l n))) w2 → True) := fun _ => trivial
    have HQ : Hid (ptA (nthP l n) = .agg #[.int .i64 (nthP l n).1.1, .int .i64 (nthP l n).1.2.1, .int .i64 (nthP l n).1.2.2, .int .i64 (nthP l n).2.1.1, .int .i64 (nthP l n).2.1.2, .int .i64 (nthP l n).2.2.1, .int .i64 (nthP l n).2.2.2]) := rfl
    have HW : Hid (∀ (v : Value) (w' : World), v = ptA (nthP l n) → Below w.heap.size w w' → PiEnd (0, l) (n : Int).toNat w (.returned v) w') := fun v w' hv hb => by
      rw [Int.toNat_natCast, hv]; exact ⟨.inl ⟨rfl, rfl⟩, hb⟩
    clear y0 y1 y2 y3 y4 y5 y6 hcell HC HE h27 hw2 hbA HI hrd
    generalize nthP l n = pt at *
    obtain ⟨⟨p0, p1, p2⟩, ⟨p3, p4⟩, p5, p6⟩ := pt
    dsimp only at x0 x1 x2 x3 x4 x5 x6 HQ
    obtain ⟨hk0, hk1, hk2, hk3, hk4, hk5, hk6⟩ := res_cells7 ⟨hc0, hc1, hc2, hc3, hc4, hc5, hc6⟩ (.int .i64 p0) (.int .i64 p1) (.int .i64 p2) (.int .i64 p3) (.int .i64 p4) (.int .i64 p5) (.int .i64 p6)
    go_wp2
    refine bodyPost_ret (v := .agg #[.int .i64 p0, .int .i64 p1, .int .i64 p2, .int .i64 p3, .int .i64 p4, .int .i64 p5, .int .i64 p6]) (by simp [results, Tryz.results97, go_sem, hk0, hk1, hk2, hk3, hk4, hk5, hk6]) rfl ?_
    exact HW.out _ _ HQ.out.symm (below_sets7 hbw2 _ _ _ _ _ _ _)
  · go_wp2_with fail
    refine (mustSee_bad c hc _).mono ?_
    rintro e w2 ⟨rfl, hw2⟩
    subst hw2
    exact ⟨rfl, .inr ⟨hc, rfl⟩, hbw.alloc hbw.size _⟩
end Go.Proofs.YtkjnhcnbbojajaaGreatDoor

namespace Go.Proofs.YtkjnhcnbbojajaaGreatDoor
open Go.RowKit

/-- Bytes without their line feeds. -/
def repL (t : List Nat) : List Nat := t.flatMap fun c => if c = 10 then [] else [c]
theorem repL_cons (c : Nat) (t : List Nat) : repL (c :: t) = (if c = 10 then [] else [c]) ++ repL t := rfl
def noLfL (c : Nat) : Bool := decide (c ≠ 10)
theorem repL_none {l : List Nat} (h : l.all noLfL = true) : repL l = l := by
  induction l with
  | nil => rfl
  | cons c l ih =>
    rw [List.all_cons, Bool.and_eq_true] at h
    have hc := of_decide_eq_true h.1
    rw [repL_cons, if_neg hc, ih h.2]; rfl
theorem repL_app (a b : List Nat) : repL (a ++ b) = repL a ++ repL b := by simp [repL, List.flatMap_append]
theorem replKL : ∀ (k : Nat) (t : List Nat), IsB t → (Lib.countByte (t.map UInt8.ofNat) 10) = k → Lib.replaceK [10] [] k (t.map UInt8.ofNat) = (repL t).map UInt8.ofNat := by
  intro k
  induction k with
  | zero =>
    intro t hB hc
    have hall : t.all noLfL = true := by
      rw [List.all_eq_true]
      intro x hx
      refine decide_eq_true (fun e => ?_)
      subst e
      have h0 : List.count (10 : UInt8) (t.map UInt8.ofNat) = 0 := hc
      rw [List.count_eq_zero] at h0
      exact h0 (List.mem_map.2 ⟨10, hx, rfl⟩)
    rw [repL_none hall]
    rfl
  | succ k ih =>
    intro t hB hc
    have hi := idx_natW (c := 10) (by omega) (p := noLfL) (fun b => rfl) t hB
    rw [show (UInt8.ofNat 10) = (10 : UInt8) from rfl] at hi
    by_cases hl : (t.takeWhile noLfL).length < t.length
    · rw [if_pos hl] at hi
      obtain ⟨x, r, h1, h2, h3, h4⟩ := tw_split t hl
      have hx : x = 10 := by
        have := of_decide_eq_false h2
        omega
      subst hx
      rw [Lib.replaceK_hit _ _ k _ (t.takeWhile noLfL).length (by rw [Lib.index_one]; exact hi), ← List.map_take, ← List.map_drop, h4]
      rw [show (t.takeWhile noLfL).length + [(10 : UInt8)].length = (t.takeWhile noLfL).length + 1 from rfl, h3]
      have hBr : IsB r := fun y hy => hB y (by rw [h1]; simp [hy])
      have hcr : Lib.countByte (r.map UInt8.ofNat) 10 = k := by
        have h5 : List.count (10 : UInt8) (t.map UInt8.ofNat) = k + 1 := hc
        rw [h1, List.map_append, List.map_cons, List.count_append, List.count_cons] at h5
        have h6 : List.count (10 : UInt8) ((t.takeWhile noLfL).map UInt8.ofNat) = 0 := by
          rw [List.count_eq_zero]
          intro hm
          obtain ⟨y, hy, e⟩ := List.mem_map.1 hm
          have hy' := of_decide_eq_true (List.all_eq_true.1 (tw_allp noLfL t) y hy)
          have hyB := hB y (by rw [h1]; simp [hy])
          have := u8_neW hyB (by omega : (10 : Nat) < 256) hy'
          rw [show (UInt8.ofNat 10) = (10 : UInt8) from rfl, e] at this
          simp at this
        rw [h6] at h5
        have h7 : ((UInt8.ofNat 10 == (10 : UInt8)) = true) := rfl
        rw [if_pos h7] at h5
        show List.count (10 : UInt8) (r.map UInt8.ofNat) = k
        omega
      rw [ih r hBr hcr]
      conv => rhs; rw [h1]
      rw [repL_app, repL_cons, if_pos rfl, repL_none (tw_allp noLfL t), List.map_append, List.map_append, List.append_assoc]
      rfl
    · exfalso
      have hall := tw_all t hl
      have h0 : List.count (10 : UInt8) (t.map UInt8.ofNat) = 0 := by
        rw [List.count_eq_zero]
        intro hm
        obtain ⟨y, hy, e⟩ := List.mem_map.1 hm
        have hy' := of_decide_eq_true (List.all_eq_true.1 hall y hy)
        have := u8_neW (hB y hy) (by omega : (10 : Nat) < 256) hy'
        rw [show (UInt8.ofNat 10) = (10 : UInt8) from rfl, e] at this
        simp at this
      have h5 : List.count (10 : UInt8) (t.map UInt8.ofNat) = k + 1 := hc
      omega
theorem replAllL (t : List Nat) (hB : IsB t) : (⟨(Lib.replaceAll (str t).data.toList [10] []).toArray⟩ : ByteArray) = str (repL t) := by
  have e : (str t).data.toList = t.map UInt8.ofNat := by simp [str]
  rw [e]
  unfold Lib.replaceAll Lib.replace
  rw [if_neg (by decide)]
  unfold Lib.replaceNum
  rw [if_pos (.inl (by decide)), Lib.count_one]
  have hk := replKL _ t hB rfl
  unfold Lib.countByte at hk
  rw [hk]
  rfl
theorem repL_len : ∀ t : List Nat, (repL t).length ≤ t.length
  | [] => by simp [repL]
  | c :: t => by
    have := repL_len t
    rw [repL_cons, List.length_append, List.length_cons]
    split
    · simp only [List.length_nil]; omega
    · simp only [List.length_cons, List.length_nil]; omega
theorem repL_isB {t : List Nat} (hB : IsB t) : IsB (repL t) := by
  intro b hb
  unfold repL at hb
  obtain ⟨c, hc, hb⟩ := List.mem_flatMap.1 hb
  split at hb
  · cases hb
  · rw [List.mem_singleton] at hb; subst hb; exact hB _ hc
end Go.Proofs.YtkjnhcnbbojajaaGreatDoor

namespace Go.Proofs.YtkjnhcnbbojajaaGreatDoor
open Go.RowKit

/-- The bytes that a body tells by its coding, or a code. -/
def byV (body : List Nat) (g : Int) : Int × List Nat := if g = 2 then decB (repL body) else if g = 3 then decQ body else (0, body)

set_option maxHeartbeats 800000 in
set_option maxRecDepth 100000 in
theorem withoutLineFeeds_any (a : Option Addr) (n cap : Nat) (l : List Nat) (w : World) (hl : l.length = n) (hr : Rd w a l) (hB : IsB l) (hn : n ≤ 1048576) (hm : MaxI w) :
    Calls Tryz.prog 153 #[.slice a n cap] w fun e w' => e = .returned (.string (str (repL l))) ∧ Below w.heap.size w w' := by
  obtain ⟨m, hm'⟩ := hm
  have HR := Tryz.strings_ReplaceAll (str l) ⟨#[10]⟩ ⟨#[]⟩ m w (by rw [str_size]; omega) hm' (by decide) (by
    rw [str_size, show (⟨#[]⟩ : ByteArray).size = 0 from rfl]; omega)
  rw [show (⟨#[10]⟩ : ByteArray).data.toList = [10] from rfl, show (⟨#[]⟩ : ByteArray).data.toList = [] from rfl, replAllL l hB] at HR
  have hst := run_str (w := w) (a := a) (n := n) (cap := cap) (l := l) hl hr
  generalize str (repL l) = s at *
  go_enter Tryz.func153, Tryz.ntmps153
  go_wp2_with fail
  refine HR.mono ?_
  rintro e w1 ⟨rfl, hb⟩
  go_wp2
  go_ret
  exact ⟨rfl, hb⟩

set_option maxHeartbeats 3200000 in
set_option maxRecDepth 100000 in
theorem bytesOfPart_any (b m : Nat) (d : List Nat) (p : PtP) (f t : Nat) (w : World) (hr : Rd w (some ⟨b, 0, none⟩) d) (hB : IsB d) (hl : d.length = m) (hm : m ≤ 400) (hp : p.2.1 = ((f : Int), (t : Int))) (hft : f ≤ t) (htm : t ≤ m) (hTB : TabB w) (hTH : TabH w) (hMI : MaxI w) :
    Calls Tryz.prog 96 #[.slice (some ⟨b, 0, none⟩) m m, ptA p] w (SeeB (byV (cutN d f t) p.1.2.2) w) := by
  unfold ptA
  obtain ⟨⟨p0, p1, p2⟩, ⟨p3, p4⟩, p5, p6⟩ := p
  dsimp only at hp ⊢
  obtain ⟨rfl, rfl⟩ : p3 = (f : Int) ∧ p4 = (t : Int) := by simpa using hp
  have hBc : IsB (cutN d f t) := isB_drop (isB_take hB _) _
  have hcl : (cutN d f t).length = t - f := by unfold cutN; rw [List.length_drop, List.length_take]; omega
  have HR1 : Hid (∀ W, Below w.heap.size w W → Rd W (some ⟨b, f, none⟩) (cutN d f t)) := fun W hW => by
    have h := (rd_takeH (hr.below hW) t).drop f
    rw [Nat.zero_add] at h; exact h
  have HR0 : Hid (m = f → ∀ W, Below w.heap.size w W → Rd W (some ⟨b, 0, none⟩) (cutN d f t)) := fun hmf W hW => by
    rw [List.length_eq_zero_iff.1 (show (cutN d f t).length = 0 by omega)]; exact .inl rfl
  have hbx : Below w.heap.size w (w.alloc (.cells #[.int .i64 p0, .int .i64 p1, .int .i64 p2, .int .i64 (f : Int), .int .i64 (t : Int), .int .i64 p5, .int .i64 p6] 30)) := (Below.refl _ _).alloc (Nat.le_refl _) _
  have hi1 : (f : Int) ≤ (t : Int) := by omega
  have hi2 : (t : Int) ≤ (m : Int) := by omega
  by_cases h2 : p2 = 2
  · subst h2
    have HD := fun w (hw : TabB w) => implDecodeBase_any (repL (cutN d f t)) _ w rfl (repL_isB hBc) hw
    have hV : byV (cutN d f t) 2 = decB (repL (cutN d f t)) := if_pos rfl
    rw [hV]
    clear hV hp
    generalize decB (repL (cutN d f t)) = r at *
    go_enter Tryz.func96, Tryz.ntmps96
    go_wp2_with fail
    case inl =>
      have RD := HR0.out (by omega) _ hbx
      refine (withoutLineFeeds_any _ (t - f) _ (cutN d f t) _ hcl RD hBc (by omega) (hMI.below hbx)).mono ?_
      rintro e w1 ⟨rfl, hb1⟩
      have hbw1 := hbx.trans (hb1.mono hbx.size)
      go_wp2_with fail
      refine (HD _ (hTB.below hbw1)).mono ?_
      rintro e w2 ⟨v, rfl, ho, hb2⟩
      have hbw2 := hbw1.trans (hb2.mono hbw1.size)
      have ho2 := ho.lower (C := w.heap.size) hbw1.size
      obtain ⟨a, cp, hv, -, -⟩ := ho2.form
      subst hv
      by_cases hc : r.1 = 0
      · rw [hc]
        go_wp2_with fail
        refine (bytesIn_ok a _ cp _).mono ?_
        rintro e w3 ⟨rfl, hb3⟩
        have ho3 := ho2.below hb3 (Nat.le_refl _)
        have hbw3 := hbw2.trans (hb3.mono hbw2.size)
        clear ho ho2 hb2 hb3 HD
        go_wp2
        go_ret
        exact ⟨.inl ⟨hc, _, rfl, ho3⟩, hbw3⟩
      · go_wp2_with fail
        refine (bytesIn_bad _ hc a _ cp _).mono ?_
        rintro e w3 ⟨rfl, hb3⟩
        exact ⟨rfl, .inr ⟨hc, rfl⟩, hbw2.trans (hb3.mono hbw2.size)⟩
    case inr =>
      have RD := HR1.out _ hbx
      refine (withoutLineFeeds_any _ (t - f) _ (cutN d f t) _ hcl RD hBc (by omega) (hMI.below hbx)).mono ?_
      rintro e w1 ⟨rfl, hb1⟩
      have hbw1 := hbx.trans (hb1.mono hbx.size)
      go_wp2_with fail
      refine (HD _ (hTB.below hbw1)).mono ?_
      rintro e w2 ⟨v, rfl, ho, hb2⟩
      have hbw2 := hbw1.trans (hb2.mono hbw1.size)
      have ho2 := ho.lower (C := w.heap.size) hbw1.size
      obtain ⟨a, cp, hv, -, -⟩ := ho2.form
      subst hv
      by_cases hc : r.1 = 0
      · rw [hc]
        go_wp2_with fail
        refine (bytesIn_ok a _ cp _).mono ?_
        rintro e w3 ⟨rfl, hb3⟩
        have ho3 := ho2.below hb3 (Nat.le_refl _)
        have hbw3 := hbw2.trans (hb3.mono hbw2.size)
        clear ho ho2 hb2 hb3 HD
        go_wp2
        go_ret
        exact ⟨.inl ⟨hc, _, rfl, ho3⟩, hbw3⟩
      · go_wp2_with fail
        refine (bytesIn_bad _ hc a _ cp _).mono ?_
        rintro e w3 ⟨rfl, hb3⟩
        exact ⟨rfl, .inr ⟨hc, rfl⟩, hbw2.trans (hb3.mono hbw2.size)⟩
  · have h2' : (p2 == 2) = false := by simpa using h2
    by_cases h3 : p2 = 3
    · subst h3
      have HD := fun w (hw : TabH w) => implDecodeQuoted_any (cutN d f t) _ w rfl hBc hw
      have hV : byV (cutN d f t) 3 = decQ (cutN d f t) := (if_neg (by decide)).trans (if_pos rfl)
      have hst1 := fun W hW c => run_str (cap := c) hcl (HR1.out W hW)
      have hst0 := fun h W hW c => run_str (cap := c) hcl (HR0.out h W hW)
      have HS1 := hst1 _ hbx
      have HS0 : Hid (m = f → _) := fun h => hst0 h _ hbx
      rw [hV]
      clear hV hp hst1 hst0
      generalize decQ (cutN d f t) = r at *
      go_enter Tryz.func96, Tryz.ntmps96
      by_cases hmf : m = f
      · have HS := HS0.out hmf
        clear HS0 HS1
        go_wp2_with fail
        have RD := HR0.out hmf _ hbx
        have hbw1 := hbx
        refine (HD _ (hTH.below hbw1)).mono ?_
        rintro e w2 ⟨v, rfl, ho, hb2⟩
        have hbw2 := hbw1.trans (hb2.mono hbw1.size)
        have ho2 := ho.lower (C := w.heap.size) hbw1.size
        obtain ⟨a, cp, hv, -, -⟩ := ho2.form
        subst hv
        by_cases hc : r.1 = 0
        · rw [hc]
          go_wp2_with fail
          refine (bytesIn_ok a _ cp _).mono ?_
          rintro e w3 ⟨rfl, hb3⟩
          have ho3 := ho2.below hb3 (Nat.le_refl _)
          have hbw3 := hbw2.trans (hb3.mono hbw2.size)
          clear ho ho2 hb2 hb3 HD
          go_wp2
          go_ret
          exact ⟨.inl ⟨hc, _, rfl, ho3⟩, hbw3⟩
        · go_wp2_with fail
          refine (bytesIn_bad _ hc a _ cp _).mono ?_
          rintro e w3 ⟨rfl, hb3⟩
          exact ⟨rfl, .inr ⟨hc, rfl⟩, hbw2.trans (hb3.mono hbw2.size)⟩
      · clear HS0
        go_wp2_with fail
        have RD := HR1.out _ hbx
        have hbw1 := hbx
        refine (HD _ (hTH.below hbw1)).mono ?_
        rintro e w2 ⟨v, rfl, ho, hb2⟩
        have hbw2 := hbw1.trans (hb2.mono hbw1.size)
        have ho2 := ho.lower (C := w.heap.size) hbw1.size
        obtain ⟨a, cp, hv, -, -⟩ := ho2.form
        subst hv
        by_cases hc : r.1 = 0
        · rw [hc]
          go_wp2_with fail
          refine (bytesIn_ok a _ cp _).mono ?_
          rintro e w3 ⟨rfl, hb3⟩
          have ho3 := ho2.below hb3 (Nat.le_refl _)
          have hbw3 := hbw2.trans (hb3.mono hbw2.size)
          clear ho ho2 hb2 hb3 HD
          go_wp2
          go_ret
          exact ⟨.inl ⟨hc, _, rfl, ho3⟩, hbw3⟩
        · go_wp2_with fail
          refine (bytesIn_bad _ hc a _ cp _).mono ?_
          rintro e w3 ⟨rfl, hb3⟩
          exact ⟨rfl, .inr ⟨hc, rfl⟩, hbw2.trans (hb3.mono hbw2.size)⟩
    · have h3' : (p2 == 3) = false := by simpa using h3
      have hV : byV (cutN d f t) p2 = (0, cutN d f t) := (if_neg h2).trans (if_neg h3)
      rw [hV]
      clear hV hp
      go_enter Tryz.func96, Tryz.ntmps96
      go_wp2_with fail
      case inl =>
        have RD := HR0.out (by omega) _ hbx
        refine (copied_any _ (t - f) _ (cutN d f t) _ hcl RD (by omega)).mono ?_
        rintro e w1 ⟨v, rfl, ho, hb1⟩
        have hbw1 := hbx.trans (hb1.mono hbx.size)
        have ho2 := ho.lower (C := w.heap.size) hbx.size
        obtain ⟨a, cp, hv, -, -⟩ := ho2.form
        rw [hcl] at hv
        subst hv
        clear ho
        go_wp2
        go_ret
        exact ⟨.inl ⟨rfl, _, rfl, ho2⟩, hbw1⟩
      case inr =>
        have RD := HR1.out _ hbx
        refine (copied_any _ (t - f) _ (cutN d f t) _ hcl RD (by omega)).mono ?_
        rintro e w1 ⟨v, rfl, ho, hb1⟩
        have hbw1 := hbx.trans (hb1.mono hbx.size)
        have ho2 := ho.lower (C := w.heap.size) hbx.size
        obtain ⟨a, cp, hv, -, -⟩ := ho2.form
        rw [hcl] at hv
        subst hv
        clear ho
        go_wp2
        go_ret
        exact ⟨.inl ⟨rfl, _, rfl, ho2⟩, hbw1⟩
end Go.Proofs.YtkjnhcnbbojajaaGreatDoor

namespace Go.Proofs.YtkjnhcnbbojajaaGreatDoor
open Go.RowKit

set_option maxHeartbeats 800000 in
set_option maxRecDepth 100000 in
theorem l1Copy_any (b off n cap : Nat) (l : List Nat) (w : World) (hl : l.length = n) (hr : Rd w (some ⟨b, off, none⟩) l) (hn : n ≤ 1048576) :
    Calls Tryz.prog 87 #[.slice (some ⟨b, off, none⟩) n cap] w fun e w' => ∃ v, e = .returned v ∧ Own w' w.heap.size v l ∧ Below w.heap.size w w' := by
  have HC : Hid (∀ j, j < n → (w.alloc (.cells #[] 5)).cell? ((⟨b, off, none⟩ : Addr).add j) = some (.int .u8 (nth l j : Int))) := fun j hj => by
    obtain ⟨b', off', e, -, hc⟩ := (hr.below ((Below.refl _ w).alloc (Nat.le_refl _) (.cells #[] 5))).at_ (by omega)
    cases e
    rw [Go.WideShapes.add_plain]
    exact hc j (by omega)
  go_enter Tryz.func87, Tryz.ntmps87
  go_wp2_with (at_builtin; refine wpList_app rfl _ _ rfl w.heap.size _ [] rfl (Own.lit w w.heap.size (Nat.le_refl _) #[] [] rfl (Nat.zero_le _)) ⟨b, off, none⟩ n cap l rfl hl HC.out (by simp; omega) (by simp) ?_; intro v' w1 hown' hb')
  have hb : Below w.heap.size w w1 := ((Below.refl _ _).alloc (Nat.le_refl _) _).trans hb'
  obtain ⟨a, cp, hv, -, -⟩ := hown'.form
  subst hv
  go_wp2
  go_ret
  exact ⟨_, rfl, hown', hb⟩
end Go.Proofs.YtkjnhcnbbojajaaGreatDoor

namespace Go.Proofs.YtkjnhcnbbojajaaGreatDoor
open Go.RowKit

theorem repL_snoc (l : List Nat) (k : Nat) (h : k < l.length) : repL (l.take (k + 1)) = repL (l.take k) ++ (if nth l k = 10 then [] else [nth l k]) := by
  rw [take_snoc l k h, repL_app, repL_cons]
  simp [repL]

set_option maxHeartbeats 1600000 in
set_option maxRecDepth 100000 in
theorem l6Joined_any (a : Option Addr) (n cap : Nat) (l : List Nat) (w : World) (hl : l.length = n) (hr : Rd w a l) (hB : IsB l) (hn : n ≤ 1048576) :
    Calls Tryz.prog 158 #[.slice a n cap] w fun e w' => e = .returned (.string (str (repL l))) ∧ Below w.heap.size w w' := by
  have hown0 : Own (w.alloc (.cells #[] 5)) w.heap.size (.slice (some ⟨w.heap.size, 0, none⟩) 0 0) [] := Own.lit w _ (Nat.le_refl _) #[] [] rfl (by decide)
  go_enter Tryz.func158, Tryz.ntmps158
  go_wp2
  go_loopw [3, 4] (fun v i wr => ∃ k : Nat, k ≤ n ∧ i = .int .i64 k ∧ Own wr w.heap.size v (repL (l.take k)) ∧ Below w.heap.size w wr) (fun _ i _ => n - (intOf i).toNat)
  case atStart => exact ⟨0, Nat.zero_le _, rfl, hown0, (Below.refl _ _).alloc (Nat.le_refl _) _⟩
  case round =>
    obtain ⟨k, hk, rfl, hown, hbel⟩ := hrel
    clear hown0
    obtain ⟨av, cv, hv, -, -⟩ := hown.form
    have hol : (repL (l.take k)).length ≤ 1048576 := by have := repL_len (l.take k); rw [List.length_take] at this; omega
    by_cases hkn : k < n
    · obtain ⟨b, off, rfl, hblt, hcell⟩ := hr.at_ (by omega)
      have hc : wr.cell? ⟨b, off + k, none⟩ = some (.int .u8 (nth l k : Int)) := (hbel.cell (p := ⟨b, off + k, none⟩) hblt).trans (hcell k (by omega))
      have hki : (k : Int) < (n : Int) := by omega
      have HS : Hid (repL (l.take (k + 1)) = repL (l.take k) ++ (if nth l k = 10 then [] else [nth l k])) := repL_snoc l k (by omega)
      have hx : nth l k < 256 := nth_lt hB k
      clear hcell
      generalize nth l k = x at *
      generalize repL (l.take k) = out at *
      by_cases h10 : x = 10
      · have HS2 : Hid (repL (l.take (k + 1)) = out) := by show _ = _; rw [HS.out, if_pos h10, List.append_nil]
        have hxi : (x : Int) = 10 := by omega
        rw [hxi] at hc
        clear HS
        subst hv
        go_wp2
        go_roundw
        case rel => exact ⟨k + 1, by omega, by go_num, by rw [HS2.out]; exact hown, hbel⟩
        case measure => simp [intOf]; omega
      · have HS2 : Hid (repL (l.take (k + 1)) = out ++ [x]) := by show _ = _; rw [HS.out, if_neg h10]
        have hxi : ((x : Int) != 10) = true := by simp; omega
        clear HS
        have hz := hbel.size
        go_wp2_with (at_builtin; refine wpList_app_new rfl _ _ rfl w.heap.size _ out rfl hown 1 1 [x] rfl rfl rfl (by omega) hz ?_; intro v' w1 hown' hb')
        have hb2 := hbel.trans hb'
        go_roundw
        case rel => exact ⟨k + 1, by omega, by go_num, by rw [HS2.out]; exact hown', hb2⟩
        case measure => simp [intOf]; omega
    · have hke : l.take k = l := List.take_of_length_le (by omega)
      rw [hke] at hown hv
      have hki : ¬ (k : Int) < (n : Int) := by omega
      subst hv
      have hst := fun c => run_str (cap := c) hown.rd.1 hown.rd.2
      go_wp2
      go_ret
      exact ⟨rfl, hbel⟩
end Go.Proofs.YtkjnhcnbbojajaaGreatDoor

namespace Go.Proofs.YtkjnhcnbbojajaaGreatDoor
open Go.RowKit

theorem self_blk {t : List Nat} {i : Nat} (h10 : nth t i ≠ 10) (h : ¬ (33 ≤ nth t i ∧ nth t i ≤ 126)) : selfL (t.drop i) = blk t i := by
  obtain ⟨e0, e1⟩ := selfL_at (l := t) (k := i)
  by_cases hb : nth t i = 32 ∨ nth t i = 9
  · by_cases hc : i + 1 < t.length ∧ nth t (i + 1) ≠ 10
    · rw [selfL_bl (by rw [e0]; exact hb) (by simp; omega) (by rw [e1]; exact hc.2)]
      exact (decide_eq_true ⟨hb, hc.1, hc.2⟩).symm
    · rw [selfL_bl_no (by rw [e0]; exact hb) (by rw [e1, List.length_drop]; omega)]
      exact (decide_eq_false (fun h => hc ⟨h.2.1, h.2.2⟩)).symm
  · rw [selfL_other (by rw [e0]; exact h10) (by rw [e0]; exact hb), e0]
    have h1 : decide (33 ≤ nth t i ∧ nth t i ≤ 126 ∧ nth t i ≠ 61) = false := decide_eq_false (fun hh => h ⟨hh.1, hh.2.1⟩)
    rw [h1]
    exact (decide_eq_false (fun hh => hb hh.1)).symm

/-- What is read, and whether. -/
def UnqSays (t : List Nat) (ok : Bool) (l : List Nat) : Prop := (ok = true ∧ Xq.unq t = some l) ∨ (ok = false ∧ Xq.unq t = none ∧ l = [])

/-- How l1Unquote ends: a plain word, so that no walk opens it. -/
def UnqEnd (t : List Nat) (w : World) (e : Ending) (w' : World) : Prop := ∃ v ok l, e = .returned (.tuple #[v, .bool ok]) ∧ Own w' w.heap.size v l ∧ Below w.heap.size w w' ∧ UnqSays t ok l
theorem unqEnd_no {t : List Nat} {w w' : World} (hb : Below w.heap.size w w') (h : Xq.unq t = none) : UnqEnd t w (.returned (.tuple #[.slice none 0 0, .bool false])) w' := ⟨_, _, [], rfl, Own.nil _ _, hb, .inr ⟨rfl, h, rfl⟩⟩
theorem unqEnd_yes {t l : List Nat} {w w' : World} {v : Value} (ho : Own w' w.heap.size v l) (hb : Below w.heap.size w w') (h : Xq.unq t = some l) : UnqEnd t w (.returned (.tuple #[v, .bool true])) w' := ⟨_, _, l, rfl, ho, hb, .inl ⟨rfl, h⟩⟩

set_option maxHeartbeats 4000000 in
set_option maxRecDepth 100000 in
theorem l1Unquote_any (t : List Nat) (n : Nat) (w : World) (hl : t.length = n) (hB : IsB t) (hn : n ≤ 1048576) :
    Calls Tryz.prog 215 #[.string (str t)] w fun e w' => UnqEnd t w e w' := by
  have hsz : (str t).size = n := by rw [str_size, hl]
  go_enter Tryz.func215, Tryz.ntmps215
  go_wp2
  have hown0 : Own (w.alloc (.cells #[] 5)) w.heap.size (.slice (some ⟨w.heap.size, 0, none⟩) 0 0) [] := Own.lit w _ (Nat.le_refl _) #[] [] rfl (by decide)
  have hbel0 : Below w.heap.size w (w.alloc (.cells #[] 5)) := (Below.refl _ _).alloc (Nat.le_refl _) _
  go_loopw [4, 5] (fun v i wr => ∃ (k : Nat) (out : List Nat), k ≤ n ∧ i = .int .i64 k ∧ Own wr w.heap.size v out ∧ Below w.heap.size w wr ∧ Hid (Xq.unq t = (Xq.unq (t.drop k)).map (out ++ ·)) ∧ out.length ≤ k)
    (fun _ i _ => n - (intOf i).toNat)
  case atStart => exact ⟨0, [], Nat.zero_le _, rfl, hown0, hbel0, by show _ = _; rw [List.drop_zero]; cases Xq.unq t <;> simp, Nat.le_refl _⟩
  case round =>
    obtain ⟨k, out, hk, rfl, hown, hbel, hq, hol⟩ := hrel
    clear hown0 hbel0
    have hz := hbel.size
    by_cases hkn : k < n
    · have g0 := str_get hB (i := k) (by rw [hsz]; exact hkn)
      have hk' : (k : Int) < (n : Int) := by omega
      have hlk : (t.drop k).length = n - k := by rw [List.length_drop, hl]
      obtain ⟨e0, e1⟩ := selfL_at (l := t) (k := k)
      have hstep : selfL (t.drop k) = true → Hid (Xq.unq t = (Xq.unq (t.drop (k + 1))).map ((out ++ [nth t k]) ++ ·)) := fun hs => by
        show _ = _
        rw [hq.out, unq_step_self (by omega) hs, List.drop_drop, e0]
        cases Xq.unq (t.drop (k + 1)) <;> simp
      have hx := nth_lt hB k
      by_cases h61 : nth t k = 61
      · have hs : selfL (t.drop k) = false := by rw [selfL_other (by omega) (by omega), e0]; exact decide_eq_false (fun h => h.2.2 h61)
        rw [h61] at g0
        clear hstep hx
        by_cases hn1 : k + 1 < n
        · have g1 := str_get hB (i := k + 1) (by rw [hsz]; exact hn1)
          have hn1' : (k : Int) + 1 < (n : Int) := by omega
          by_cases h10 : nth t (k + 1) = 10
          · have hbk : brk (t.drop k) = true := decide_eq_true ⟨by omega, by omega, by omega⟩
            have HQ : Hid (Xq.unq t = (Xq.unq (t.drop (k + 2))).map (out ++ ·)) := by
              show _ = _
              rw [hq.out, unq_step_brk hbk, List.drop_drop]
            rw [h10] at g1
            clear hq hs hbk e0 e1 hlk h61
            go_wp2
            go_roundw
            case rel => exact ⟨k + 2, out, by omega, by go_num, hown, hbel, HQ, by omega⟩
            case measure => simp [intOf]; omega
          · have hbk : brk (t.drop k) = false := decide_eq_false (fun h => h10 (by omega))
            have ec : (((nth t (k + 1) : Nat) : Int) == 10) = false := beq_eq_false_iff_ne.2 (by omega)
            have x1 := nth_lt hB (k + 1)
            by_cases hn2 : k + 2 < n
            · have g2 := str_get hB (i := k + 2) (by rw [hsz]; exact hn2)
              have hn2' : (k : Int) + 2 < (n : Int) := by omega
              have hn2'' : ¬ (n : Int) ≤ (k : Int) + 2 := by omega
              have x2 := nth_lt hB (k + 2)
              have e2 : nth (t.drop k) 2 = nth t (k + 2) := nth_drop _ _ _
              by_cases ha : Xq.unhex (nth t (k + 1)) < 16
              · have Ha : Hid (hexI (nth t (k + 1)) = (Xq.unhex (nth t (k + 1)) : Int)) := hexI_in ha
                by_cases hb : Xq.unhex (nth t (k + 2)) < 16
                · have Hb : Hid (hexI (nth t (k + 2)) = (Xq.unhex (nth t (k + 2)) : Int)) := hexI_in hb
                  obtain ⟨q, hq'⟩ : ∃ q, q = Xq.unhex (nth t (k + 1)) * 16 + Xq.unhex (nth t (k + 2)) := ⟨_, rfl⟩
                  have hr : rdq (t.drop k) = some q := by unfold rdq; rw [if_pos ⟨by omega, by omega, by rw [e1]; exact ha, by rw [e2]; exact hb⟩, e1, e2, hq']
                  have HQ : Hid (Xq.unq t = (Xq.unq (t.drop (k + 3))).map ((out ++ [q]) ++ ·)) := by
                    show _ = _
                    rw [hq.out, unq_step_hex hbk hr, List.drop_drop]
                    cases Xq.unq (t.drop (k + 3)) <;> simp
                  have ev : 16 * (Xq.unhex (nth t (k + 1)) : Int) + (Xq.unhex (nth t (k + 2)) : Int) = (q : Int) := by omega
                  have hq256 : q < 256 := by omega
                  have p1 : ¬ (Xq.unhex (nth t (k + 1)) : Int) < 0 := by omega
                  have p2 : ¬ (Xq.unhex (nth t (k + 2)) : Int) < 0 := by omega
                  clear hq hs hbk e0 e1 e2 hlk h61 hq' hr
                  go_wp2_with fail
                  refine (l1HexValue_any (nth t (k + 1)) _ x1).mono ?_
                  rintro e w1 ⟨rfl, rfl⟩
                  rw [Ha.out]
                  go_wp2_with fail
                  refine (l1HexValue_any (nth t (k + 2)) _ x2).mono ?_
                  rintro e w1 ⟨rfl, rfl⟩
                  rw [Hb.out]
                  go_wp2_with (at_builtin; refine wpList_app_new rfl _ _ rfl (w.heap.size) _ out rfl hown 1 1 [q] rfl rfl rfl (by omega) hz ?_; intro v' w2 hown' hb')
                  go_wp2
                  go_roundw
                  case rel => exact ⟨k + 3, out ++ [q], by omega, by go_num, hown', hbel.trans hb', HQ, by simp; omega⟩
                  case measure => simp [intOf]; omega
                · have Hb : Hid (hexI (nth t (k + 2)) = -1) := hexI_out hb
                  have hr : rdq (t.drop k) = none := by unfold rdq; rw [if_neg (fun h => hb (by rw [← e2]; exact h.2.2.2))]
                  have HN : Hid (Xq.unq t = none) := by
                    show _ = _
                    rw [hq.out, unq_step_bad (by omega) hs hbk hr]; rfl
                  have p1 : ¬ (Xq.unhex (nth t (k + 1)) : Int) < 0 := by omega
                  clear hq hs hbk e0 e1 e2 hlk h61 hr
                  go_wp2_with fail
                  refine (l1HexValue_any (nth t (k + 1)) _ x1).mono ?_
                  rintro e w1 ⟨rfl, rfl⟩
                  rw [Ha.out]
                  go_wp2_with fail
                  refine (l1HexValue_any (nth t (k + 2)) _ x2).mono ?_
                  rintro e w1 ⟨rfl, rfl⟩
                  rw [Hb.out]
                  go_wp2
                  go_ret2
                  exact unqEnd_no hbel HN.out
              · have Ha : Hid (hexI (nth t (k + 1)) = -1) := hexI_out ha
                have hr : rdq (t.drop k) = none := by unfold rdq; rw [if_neg (fun h => ha (by rw [← e1]; exact h.2.2.1))]
                have HN : Hid (Xq.unq t = none) := by
                  show _ = _
                  rw [hq.out, unq_step_bad (by omega) hs hbk hr]; rfl
                clear hq hs hbk e0 e1 e2 hlk h61 hr
                go_wp2_with fail
                refine (l1HexValue_any (nth t (k + 1)) _ x1).mono ?_
                rintro e w1 ⟨rfl, rfl⟩
                rw [Ha.out]
                go_wp2_with fail
                refine (l1HexValue_any (nth t (k + 2)) _ x2).mono ?_
                rintro e w1 ⟨rfl, rfl⟩
                go_wp2
                go_ret2
                exact unqEnd_no hbel HN.out
            · have hn2' : (n : Int) ≤ (k : Int) + 2 := by omega
              have hr : rdq (t.drop k) = none := by unfold rdq; rw [if_neg (fun h => by have := h.1; omega)]
              have HN : Hid (Xq.unq t = none) := by
                show _ = _
                rw [hq.out, unq_step_bad (by omega) hs hbk hr]; rfl
              clear hq hs hbk e0 e1 hlk h61 hr
              go_wp2
              go_ret2
              exact unqEnd_no hbel HN.out
        · have hn1' : ¬ (k : Int) + 1 < (n : Int) := by omega
          have hn2' : (n : Int) ≤ (k : Int) + 2 := by omega
          have hbk : brk (t.drop k) = false := decide_eq_false (fun h => by have := h.1; omega)
          have hr : rdq (t.drop k) = none := by unfold rdq; rw [if_neg (fun h => by have := h.1; omega)]
          have HN : Hid (Xq.unq t = none) := by
            show _ = _
            rw [hq.out, unq_step_bad (by omega) hs hbk hr]; rfl
          clear hq hs hbk e0 e1 hlk h61 hr
          go_wp2
          go_ret2
          exact unqEnd_no hbel HN.out
      · have n61 : (((nth t k : Nat) : Int) != 61) = true := by rw [bne_iff_ne]; omega
        by_cases h10 : nth t k = 10
        · have HQ := hstep (selfL_lf (by omega))
          rw [h10] at g0 HQ
          clear hq hstep e0 e1 hlk n61 h61
          go_wp2_with (at_builtin; refine wpList_app_new rfl _ _ rfl (w.heap.size) _ out rfl hown 1 1 [10] rfl rfl rfl (by omega) hz ?_; intro v' w2 hown' hb')
          go_wp2
          go_roundw
          case rel => exact ⟨k + 1, out ++ [10], by omega, by go_num, hown', hbel.trans hb', HQ, by simp; omega⟩
          case measure => simp [intOf]; omega
        · have n10 : (((nth t k : Nat) : Int) == 10) = false := beq_eq_false_iff_ne.2 (by omega)
          by_cases hr : 33 ≤ nth t k ∧ nth t k ≤ 126
          · have HQ := hstep (by rw [selfL_other (by omega) (by omega), e0]; exact decide_eq_true ⟨hr.1, hr.2, h61⟩)
            have r1 : (33 : Int) ≤ ((nth t k : Nat) : Int) := by omega
            have r2 : ((nth t k : Nat) : Int) ≤ 126 := by omega
            generalize nth t k = x at *
            clear hq hstep e0 e1 hlk h61
            go_wp2_with (at_builtin; refine wpList_app_new rfl _ _ rfl (w.heap.size) _ out rfl hown 1 1 [x] rfl rfl rfl (by omega) hz ?_; intro v' w2 hown' hb')
            go_wp2
            go_roundw
            case rel => exact ⟨k + 1, out ++ [x], by omega, by go_num, hown', hbel.trans hb', HQ, by simp; omega⟩
            case measure => simp [intOf]; omega
          · have hsb := self_blk h10 hr
            by_cases h33 : 33 ≤ nth t k
            · have r1 : (33 : Int) ≤ ((nth t k : Nat) : Int) := by omega
              have r2 : ¬ ((nth t k : Nat) : Int) ≤ 126 := by omega
              have hbf : blk t k = false := decide_eq_false (fun h => by have := h.1; omega)
              have HB : Hid (blk t k = false) := hbf
              have hnr : rdq (t.drop k) = none := by unfold rdq; rw [if_neg (fun h => h61 (by omega))]
              have HN : Hid (Xq.unq t = none) := by
                show _ = _
                rw [hq.out, unq_step_bad (by omega) (hsb.trans hbf) (decide_eq_false (fun h => h61 (by omega))) hnr]; rfl
              clear hq hstep e0 e1 hlk h61 hsb hnr hbf
              go_wp2_with fail
              refine (l1Blank_any t n k _ hl hB hkn hn).mono ?_
              rintro e w1 ⟨rfl, rfl⟩
              rw [HB.out]
              go_wp2
              go_ret2
              exact unqEnd_no hbel HN.out
            · have r1 : ¬ (33 : Int) ≤ ((nth t k : Nat) : Int) := by omega
              cases hbf : blk t k with
              | true =>
                have HB : Hid (blk t k = true) := hbf
                have HQ := hstep (hsb.trans hbf)
                clear hq hstep e0 e1 hlk h61 hsb hbf
                go_wp2_with fail
                refine (l1Blank_any t n k _ hl hB hkn hn).mono ?_
                rintro e w1 ⟨rfl, rfl⟩
                rw [HB.out]
                go_wp2_with (at_builtin; refine wpList_app_new rfl _ _ rfl (w.heap.size) _ out rfl hown 1 1 [nth t k] rfl rfl rfl (by omega) hz ?_; intro v' w2 hown' hb')
                go_wp2
                go_roundw
                case rel => exact ⟨k + 1, out ++ [nth t k], by omega, by go_num, hown', hbel.trans hb', HQ, by simp; omega⟩
                case measure => simp [intOf]; omega
              | false =>
                have HB : Hid (blk t k = false) := hbf
                have hnr : rdq (t.drop k) = none := by unfold rdq; rw [if_neg (fun h => h61 (by omega))]
                have HN : Hid (Xq.unq t = none) := by
                  show _ = _
                  rw [hq.out, unq_step_bad (by omega) (hsb.trans hbf) (decide_eq_false (fun h => h61 (by omega))) hnr]; rfl
                clear hq hstep e0 e1 hlk h61 hsb hnr hbf
                go_wp2_with fail
                refine (l1Blank_any t n k _ hl hB hkn hn).mono ?_
                rintro e w1 ⟨rfl, rfl⟩
                rw [HB.out]
                go_wp2
                go_ret2
                exact unqEnd_no hbel HN.out
    · have hkk : k = n := by omega
      have HS : Hid (Xq.unq t = some out) := by
        show _ = _
        rw [hq.out, List.drop_of_length_le (by omega)]; simp [Xq.unq]
      have hk' : ¬ (k : Int) < (n : Int) := by omega
      clear hq hkk
      go_wp2
      go_ret2
      exact unqEnd_yes hown hbel HS.out

set_option maxHeartbeats 1600000 in
set_option maxRecDepth 100000 in
theorem specDecodeQuoted_any (t : List Nat) (n : Nat) (w : World) (hl : t.length = n) (hB : IsB t) :
    Calls Tryz.prog 159 #[.string (str t)] w fun e w' => ∃ v, e = .returned (.agg #[.int .i64 (decQ t).1, v]) ∧ Own w' w.heap.size v (decQ t).2 ∧ Below w.heap.size w w' := by
  have hsz : (str t).size = n := by rw [str_size, hl]
  by_cases hbig : 1600 < n
  · have H : Hid (decQ t = (2, [])) := decQ_long (by omega)
    have hn' : (1600 : Int) < (n : Int) := by omega
    go_enter Tryz.func159, Tryz.ntmps159
    go_wp2
    go_returns
    exact ⟨.slice none 0 0, by rw [H.out], by rw [H.out]; exact Own.nil _ _, by go_grown⟩
  · have hn' : ¬ (1600 : Int) < (n : Int) := by omega
    have hb0 : Below w.heap.size w (w.alloc (.cells #[.int .i64 0, .slice none 0 0] 46)) := (Below.refl _ _).alloc (Nat.le_refl _) _
    go_enter Tryz.func159, Tryz.ntmps159
    go_wp2_with fail
    refine (l1Unquote_any t n _ hl hB (by omega)).mono ?_
    rintro e w1 ⟨v, ok, l, rfl, hown, hb1, hsay⟩
    have hbl : Below (w.heap.size + 1) (w.alloc (.cells #[.int .i64 0, .slice none 0 0] 46)) w1 := hb1.mono (by simp)
    have hown' : Own w1 (w.heap.size + 1) v l := hown.low (by simp)
    obtain ⟨hcw, hcw1, hfw, hfw1⟩ := res_block rfl hbl
    have hbel : Below w.heap.size w w1 := hb0.trans (hbl.mono (by omega))
    clear hown hb1
    rcases hsay with ⟨rfl, hu⟩ | ⟨rfl, hu, rfl⟩
    · obtain ⟨ao, ocap, hv, hoc⟩ := hown'.form
      rw [hv] at hown' ⊢
      clear hv
      generalize hN : l.length = N at *
      by_cases h4 : 400 < N
      · have h4' : (400 : Int) < (N : Int) := by omega
        have H : Hid (decQ t = (2, [])) := decQ_many (by omega) hu (by omega)
        obtain ⟨hk0, hk1⟩ := res_cells hcw hcw1 (.int .i64 2) (.slice none 0 0)
        clear hu hN
        go_wp2
        refine bodyPost_ret (v := .agg #[.int .i64 2, .slice none 0 0]) (by simp [results, Tryz.results159, go_sem, hk0, hk1]) rfl ?_
        exact ⟨.slice none 0 0, by rw [H.out], by rw [H.out]; exact Own.nil _ _, (hbel.setCell (by simp) _).setCell (by simp) _⟩
      · have h4' : ¬ (400 : Int) < (N : Int) := by omega
        have H : Hid (decQ t = (0, l)) := decQ_some (by omega) hu (by omega)
        obtain ⟨hk0, hk1⟩ := res_cells hcw hcw1 (.int .i64 0) (.slice ao N ocap)
        clear hu hN
        go_wp2
        refine bodyPost_ret (v := .agg #[.int .i64 0, .slice ao N ocap]) (by simp [results, Tryz.results159, go_sem, hk0, hk1]) rfl ?_
        exact ⟨.slice ao N ocap, by rw [H.out], by rw [H.out]; exact ((hown'.set _ (by simp) _).set _ (by simp) _).low (by omega), (hbel.setCell (by simp) _).setCell (by simp) _⟩
    · have H : Hid (decQ t = (7, [])) := decQ_none (by omega) hu
      obtain ⟨hk0, hk1⟩ := res_cells hcw hcw1 (.int .i64 7) (.slice none 0 0)
      clear hu
      go_wp2
      refine bodyPost_ret (v := .agg #[.int .i64 7, .slice none 0 0]) (by simp [results, Tryz.results159, go_sem, hk0, hk1]) rfl ?_
      exact ⟨.slice none 0 0, by rw [H.out], by rw [H.out]; exact Own.nil _ _, (hbel.setCell (by simp) _).setCell (by simp) _⟩

theorem decQ_few (t : List Nat) : (decQ t).2.length ≤ 400 := by
  unfold decQ
  split
  · simp
  · split
    · simp
    · split
      · simp
      · simp only; omega
/-- Both answer alike. -/
theorem decQ_both (t : List Nat) (hB : IsB t) : ∃ (c : Int) (l : List Nat), l.length ≤ 400 ∧
    (∀ w : World, Calls Tryz.prog 159 #[.string (str t)] w fun e w' => ∃ v, e = .returned (.agg #[.int .i64 c, v]) ∧ Own w' w.heap.size v l ∧ Below w.heap.size w w') ∧
    (∀ w : World, TabH w → Calls Tryz.prog 154 #[.string (str t)] w fun e w' => ∃ v, e = .returned (.agg #[.int .i64 c, v]) ∧ Own w' w.heap.size v l ∧ Below w.heap.size w w') :=
  ⟨_, _, decQ_few t, fun w => specDecodeQuoted_any t _ w rfl hB, fun w ht => implDecodeQuoted_any t _ w rfl hB ht⟩
end Go.Proofs.YtkjnhcnbbojajaaGreatDoor
