/- The characters of a part, the model's: l6Codes. -/
import Derived.Test.YtkjnhcnbbojajaaGreatDoorPco
import Derived.Test.YtkjnhcnbbojajaaGreatDoorDec6ToDec7
namespace Go.Proofs.YtkjnhcnbbojajaaGreatDoor
open Go.RowKit

set_option maxHeartbeats 1600000 in
set_option maxRecDepth 100000 in
theorem l6Codes_any (b m P o0 : Nat) (d : List Nat) (p : PtP) (f t : Nat) (w : World) (hr : Rd w (some ⟨b, 0, none⟩) d) (hB : IsB d) (hl : d.length = m) (hm : m ≤ 400) (hp : p.2.1 = ((f : Int), (t : Int))) (hft : f ≤ t) (htm : t ≤ m) (hcs : 0 ≤ p.1.2.1 ∧ p.1.2.1 ≤ 5) (hP : PtC w P o0 p) :
    Calls Tryz.prog 112 #[.slice (some ⟨b, 0, none⟩) m m, .pointer (some ⟨P, o0, none⟩)] w fun e w' => ∃ v, e = .returned (.tuple #[v, .int .i64 (pcP d p).1]) ∧ OwnI w' w.heap.size v (pcP d p).2 ∧ Below w.heap.size w w' := by
  have hE : pbP d p = byV (cutN d f t) p.1.2.2 := by unfold pbP; rw [hp]; simp
  have HB : Hid (IsB (pbP d p).2) := by
    show IsB _
    rw [hE]; exact byV_isB (isB_drop (isB_take hB _) _)
  have hln : (pbP d p).2.length ≤ 400 := by
    rw [hE]; refine byV_len ?_
    unfold cutN
    rw [List.length_drop, List.length_take]; omega
  have HY := l6Bytes_any b m P o0 d p f t w hr hB hl hm hp hft htm hP
  rw [← hE] at HY
  have HV : Hid (pcP d p = if p.1.1 ≠ 1 then (1, []) else if (pbP d p).1 ≠ 0 then ((pbP d p).1, []) else if p.1.2.1 = 0 then (4, []) else decT p.1.2.1 (pbP d p).2) := rfl
  generalize pcP d p = r at *
  generalize pbP d p = q at *
  obtain ⟨hPl, x0, x1, x2, x3, x4⟩ := hP
  clear hE hr hB hp
  obtain ⟨⟨p0, p1, p2⟩, ⟨p3, p4⟩, p5, p6⟩ := p
  dsimp only at HV hcs x0 x1 x2 x3 x4
  by_cases h1 : p0 = 1
  · subst h1
    go_enter Tryz.func112, Tryz.ntmps112
    go_wp2_with fail
    refine HY.mono ?_
    rintro e w1 ⟨v, rfl, ho, hb1⟩
    obtain ⟨a, cp, hv, -, -⟩ := ho.form
    subst hv
    have y1 : w1.cell? ⟨P, o0 + 1, none⟩ = some (.int .i64 p1) := (hb1.cell (p := ⟨P, o0 + 1, none⟩) hPl).trans x1
    clear HY x0 x1 x2 x3 x4
    by_cases h3 : q.1 = 0
    · rw [h3]
      by_cases h5 : p1 = 0
      · subst h5
        have hM : r = (4, []) := by rw [HV.out, if_neg (by simp), if_neg (by simpa using h3), if_pos rfl]
        subst hM
        clear HV
        go_wp2
        go_ret2
        exact ⟨_, rfl, OwnI.nil _ _, hb1⟩
      · have h5' : (p1 == 0) = false := by simpa using h5
        have hM : r = decT p1 q.2 := by rw [HV.out, if_neg (by simp), if_neg (by simpa using h3), if_neg h5]
        have HD := l2Decode_any p1 a q.2.length cp q.2 w1 (by omega) rfl ho.rd.2 HB.out (by omega)
        have HN : Hid (decL p1 q.2 = none → r = (8, [])) := fun h => by rw [hM]; exact decT_no (by omega) (by omega) h
        have HS : Hid (∀ u, decL p1 q.2 = some u → r = (0, u)) := fun u h => by rw [hM]; exact decT_ok (by omega) (by omega) h
        clear HV hM
        go_wp2_with fail
        refine HD.mono ?_
        rintro e w2 (⟨v, u, rfl, h6, ho2, -, hb2⟩ | ⟨rfl, h6, hb2⟩)
        · have hM := HS.out u h6
          subst hM
          obtain ⟨a2, c2, hv2, -, -⟩ := ho2.form
          subst hv2
          have ho3 : OwnI w2 w.heap.size (.slice a2 u.length c2) u := row_low ho2 hb1.size
          have hbw := hb1.trans (hb2.mono hb1.size)
          clear HD HN HS ho ho2 h6
          go_wp2
          go_ret2
          exact ⟨_, rfl, ho3, hbw⟩
        · have hM := HN.out h6
          subst hM
          have hbw := hb1.trans (hb2.mono hb1.size)
          clear HD HN HS ho h6
          go_wp2
          go_ret2
          exact ⟨_, rfl, OwnI.nil _ _, hbw⟩
    · have h3' : (q.1 != 0) = true := by simpa using h3
      have hM : r = (q.1, []) := by rw [HV.out, if_neg (by simp), if_pos h3]
      subst hM
      clear HV
      go_wp2
      go_ret2
      exact ⟨_, rfl, OwnI.nil _ _, hb1⟩
  · have h1' : (p0 != 1) = true := by simpa using h1
    have hM : r = (1, []) := by rw [HV.out, if_pos h1]
    subst hM
    clear HV HY
    go_enter Tryz.func112, Tryz.ntmps112
    go_wp2
    go_ret2
    exact ⟨_, rfl, OwnI.nil _ _, Below.refl _ _⟩
end Go.Proofs.YtkjnhcnbbojajaaGreatDoor
