/- The characters of a part, the program's: codesOfPart. -/
import Derived.Test.YtkjnhcnbbojajaaGreatDoorPbg
import Derived.Test.YtkjnhcnbbojajaaGreatDoorCso
import Derived.Test.YtkjnhcnbbojajaaGreatDoorDec6ToDec7
namespace Go.Proofs.YtkjnhcnbbojajaaGreatDoor
open Go.RowKit

theorem decT_codesP (cs : Int) (l : List Nat) : (decT cs l).1 = 0 ∨ (decT cs l).1 ≠ 0 ∧ (decT cs l).2 = [] := by
  unfold decT
  split
  · split
    · exact .inr ⟨by decide, rfl⟩
    · cases decL cs l with
      | none => exact .inr ⟨by decide, rfl⟩
      | some v => exact .inl rfl
  · exact .inr ⟨by decide, rfl⟩
theorem unq_isB : ∀ (n : Nat) (t u : List Nat), t.length ≤ n → IsB t → Xq.unq t = some u → IsB u := by
  intro n
  induction n with
  | zero =>
    intro t u hn hB h
    obtain rfl : t = [] := List.length_eq_zero_iff.1 (by omega)
    cases h
    intro x hx; cases hx
  | succ n ih =>
    intro t u hn hB h
    cases t with
    | nil => cases h; intro x hx; cases hx
    | cons c r =>
      have hBr : IsB r := fun x hx => hB x (List.mem_cons_of_mem _ hx)
      rw [List.length_cons] at hn
      rw [Xq.unq.eq_def] at h
      dsimp only at h
      split at h
      · cases hr : Xq.unq r with
        | none => rw [hr] at h; cases h
        | some v =>
          rw [hr] at h
          cases h
          intro x hx
          rcases List.mem_cons.1 hx with rfl | hx
          · exact hB _ List.mem_cons_self
          · exact ih r v (by omega) hBr hr x hx
      · split at h
        · cases h
        · cases r with
          | nil => cases h
          | cons a r1 =>
            have hB1 : IsB r1 := fun x hx => hBr x (List.mem_cons_of_mem _ hx)
            rw [List.length_cons] at hn
            dsimp only at h
            split at h
            · exact ih r1 u (by omega) hB1 h
            · cases r1 with
              | nil => cases h
              | cons b r2 =>
                rw [List.length_cons] at hn
                dsimp only at h
                split at h
                · rename_i hh
                  cases hr : Xq.unq r2 with
                  | none => rw [hr] at h; cases h
                  | some v =>
                    rw [hr] at h
                    cases h
                    intro x hx
                    rcases List.mem_cons.1 hx with rfl | hx
                    · omega
                    · exact ih r2 v (by omega) (fun x hx => hB1 x (List.mem_cons_of_mem _ hx)) hr x hx
                · cases h
theorem isB_nil : IsB [] := fun x hx => by cases hx
theorem decB_isB (t : List Nat) : IsB (decB t).2 := by
  unfold decB
  split
  · exact isB_nil
  · split
    · exact isB_nil
    · rename_i h
      split
      · exact isB_nil
      · exact (Xf.dec_some _ _ h).2
theorem decQ_isB {t : List Nat} (hB : IsB t) : IsB (decQ t).2 := by
  unfold decQ
  split
  · exact isB_nil
  · split
    · exact isB_nil
    · rename_i h
      split
      · exact isB_nil
      · exact unq_isB _ _ _ (Nat.le_refl _) hB h
theorem byV_isB {l : List Nat} {g : Int} (hB : IsB l) : IsB (byV l g).2 := by
  unfold byV
  split
  · exact decB_isB _
  · split
    · exact decQ_isB hB
    · exact hB

/-- The characters of a part, or a code. -/
def pcP (d : List Nat) (p : PtP) : Int × List Int := if p.1.1 ≠ 1 then (1, []) else if (pbP d p).1 ≠ 0 then ((pbP d p).1, []) else if p.1.2.1 = 0 then (4, []) else decT p.1.2.1 (pbP d p).2
theorem pcP_zero {d : List Nat} {p : PtP} (h : (pcP d p).1 ≠ 0) : (pcP d p).2 = [] := by
  unfold pcP at h ⊢
  split
  · rfl
  · rename_i h1
    rw [if_neg h1] at h
    split
    · rfl
    · rename_i h2
      rw [if_neg h2] at h
      split
      · rfl
      · rename_i h3
        rw [if_neg h3] at h
        rcases decT_codesP p.1.2.1 (pbP d p).2 with h' | h'
        · exact absurd h' h
        · exact h'.2

set_option maxHeartbeats 1600000 in
set_option maxRecDepth 100000 in
theorem codesOfPart_any (b m : Nat) (d : List Nat) (p : PtP) (f t : Nat) (w : World) (hr : Rd w (some ⟨b, 0, none⟩) d) (hB : IsB d) (hl : d.length = m) (hm : m ≤ 400) (hp : p.2.1 = ((f : Int), (t : Int))) (hft : f ≤ t) (htm : t ≤ m) (hTB : TabB w) (hTH : TabH w) (hMI : MaxI w) :
    Calls Tryz.prog 108 #[.slice (some ⟨b, 0, none⟩) m m, ptA p] w (SeeI (pcP d p) w) := by
  have hE : pbP d p = byV (cutN d f t) p.1.2.2 := by unfold pbP; rw [hp]; simp
  have HB : Hid (IsB (pbP d p).2) := by
    show IsB _
    rw [hE]; exact byV_isB (isB_drop (isB_take hB _) _)
  have HY : Hid (∀ w', Below w.heap.size w w' → Calls Tryz.prog 96 #[.slice (some ⟨b, 0, none⟩) m m, ptA p] w' (SeeB (pbP d p) w')) := fun w' hb => by
    rw [hE]; exact bytesOfPart_any b m d p f t w' (hr.below hb) hB hl hm hp hft htm (hTB.below hb) (hTH.below hb) (hMI.below hb)
  have HV : Hid (pcP d p = if p.1.1 ≠ 1 then (1, []) else if (pbP d p).1 ≠ 0 then ((pbP d p).1, []) else if p.1.2.1 = 0 then (4, []) else decT p.1.2.1 (pbP d p).2) := rfl
  generalize pcP d p = r at *
  generalize pbP d p = q at *
  clear hE hr hB hTB hTH hMI hp
  unfold ptA at *
  obtain ⟨⟨p0, p1, p2⟩, ⟨p3, p4⟩, p5, p6⟩ := p
  dsimp only at HY HV ⊢
  have hbx : Below w.heap.size w (w.alloc (.cells #[.int .i64 p0, .int .i64 p1, .int .i64 p2, .int .i64 p3, .int .i64 p4, .int .i64 p5, .int .i64 p6] 30)) := (Below.refl _ _).alloc (Nat.le_refl _) _
  by_cases h1 : p0 = 1
  · subst h1
    go_enter Tryz.func108, Tryz.ntmps108
    go_wp2_with fail
    refine (HY.out _ hbx).mono ?_
    rintro e w1 ⟨⟨h3, v, rfl, ho⟩ | ⟨h3, rfl⟩, hb1⟩
    · have hbw1 := hbx.trans (hb1.mono hbx.size)
      obtain ⟨a, cp, hv, hcp, -⟩ := ho.form
      subst hv
      have hP : PtAt w1 w.heap.size 1 p1 p2 p3 p4 p5 p6 := (hb1.block w.heap.size (by simp)).trans (heap_alloc_new w _)
      obtain ⟨x0, x1, x2, x3, x4, x5, x6⟩ := hP.cells
      by_cases h5 : p1 = 0
      · subst h5
        have hM : r = (4, []) := by rw [HV.out, if_neg (by simp), if_neg (by simpa using h3), if_pos rfl]
        subst hM
        clear HV HY
        go_wp2
        exact ⟨rfl, .inr ⟨by simp, rfl⟩, hbw1⟩
      · have h5' : (p1 == 0) = false := by simpa using h5
        have hM : r = decT p1 q.2 := by rw [HV.out, if_neg (by simp), if_neg (by simpa using h3), if_neg h5]
        have HD := decodeText_any p1 a q.2.length cp q.2 w1 rfl ho.rd.2 HB.out hcp
        rw [← hM] at HD
        clear HV HY hM
        go_wp2_with fail
        refine HD.mono ?_
        rintro e w2 ⟨v2, rfl, ho2, hb2⟩
        have hbw2 := hbw1.trans (hb2.mono hbw1.size)
        have ho3 : OwnI w2 w.heap.size v2 r.2 := row_low ho2 hbw1.size
        obtain ⟨a2, c2, hv2, -, -⟩ := ho3.form
        subst hv2
        by_cases hc : r.1 = 0
        · rw [hc]
          go_wp2_with fail
          refine (codesIn_ok a2 _ c2 _).mono ?_
          rintro e w3 ⟨rfl, hb3⟩
          have ho4 := ho3.below hb3 (Nat.le_refl _)
          have hbw3 := hbw2.trans (hb3.mono hbw2.size)
          clear ho ho2 ho3 hb2 hb3 HD
          go_wp2
          go_ret
          exact ⟨.inl ⟨hc, _, rfl, ho4⟩, hbw3⟩
        · go_wp2_with fail
          refine (codesIn_bad _ hc a2 _ c2 _).mono ?_
          rintro e w3 ⟨rfl, hb3⟩
          exact ⟨rfl, .inr ⟨hc, rfl⟩, hbw2.trans (hb3.mono hbw2.size)⟩
    · have hM : r = (q.1, []) := by rw [HV.out, if_neg (by simp), if_pos h3]
      subst hM
      exact ⟨rfl, .inr ⟨h3, rfl⟩, hbx.trans (hb1.mono hbx.size)⟩
  · have h1' : (p0 != 1) = true := by simpa using h1
    have hM : r = (1, []) := by rw [HV.out, if_pos h1]
    subst hM
    clear HV HY
    go_enter Tryz.func108, Tryz.ntmps108
    go_wp2
    exact ⟨rfl, .inr ⟨by simp, rfl⟩, hbx⟩
end Go.Proofs.YtkjnhcnbbojajaaGreatDoor
