/- The program's and the model's DecodeText at once · The characters of a part, the program's: codesOfPart · The characters of a part, the model's: l6Codes. -/
import Derived.Test.YtooifkdbpghcfaaGreatDoorDecLToDec4
import Derived.Test.YtooifkdbpghcfaaGreatDoorDec5ToDec6
import Derived.Test.YtooifkdbpghcfaaGreatDoorDecQ4ToCso
namespace Go.Proofs.YtooifkdbpghcfaaGreatDoor
open Go.RowKit

theorem decL_len (cs : Int) : ∀ (n : Nat) (l : List Nat) (u : List Int), l.length ≤ n → decL cs l = some u → u.length ≤ l.length := by
  intro n
  induction n with
  | zero =>
    intro l u hl h
    rw [decL_nil (by omega)] at h
    cases h
    exact Nat.zero_le _
  | succ n ih =>
    intro l u hl h
    by_cases h0 : l.length = 0
    · rw [decL_nil h0] at h
      cases h
      exact Nat.zero_le _
    · by_cases hs : (rdC cs l).2 = 0
      · rw [decL_none (by omega) hs] at h; cases h
      · rw [decL_step (c := (rdC cs l).1) (s := (rdC cs l).2) (by omega) hs rfl] at h
        cases hd : decL cs (l.drop (rdC cs l).2) with
        | none => rw [hd] at h; cases h
        | some v =>
          rw [hd] at h
          simp only [Option.map_some, Option.some.injEq] at h
          subst h
          have := ih _ _ (by rw [List.length_drop]; omega) hd
          rw [List.length_drop] at this
          rw [List.length_cons]
          omega
theorem decT_few (cs : Int) (l : List Nat) : (decT cs l).2.length ≤ 400 := by
  unfold decT
  split
  · split
    · simp
    · cases hd : decL cs l with
      | none => simp
      | some u =>
        have := decL_len cs l.length l u (Nat.le_refl _) hd
        simp only
        omega
  · simp
end Go.Proofs.YtooifkdbpghcfaaGreatDoor

namespace Go.Proofs.YtooifkdbpghcfaaGreatDoor
open Go.RowKit

theorem decT_codesP (cs : Int) (l : List Nat) : (decT cs l).1 = 0 ∨ (decT cs l).1 ≠ 0 ∧ (decT cs l).2 = [] := by
  unfold decT
  split
  · split
    · exact .inr ⟨by decide, rfl⟩
    · cases decL cs l with
      | none => exact .inr ⟨by decide, rfl⟩
      | some v => exact .inl rfl
  · exact .inr ⟨by decide, rfl⟩
theorem unq_isB : ∀ (n : Nat) (t u : List Nat), t.length ≤ n → IsB t → Xq.unq t = some u → IsB u := by
  intro n
  induction n with
  | zero =>
    intro t u hn hB h
    obtain rfl : t = [] := List.length_eq_zero_iff.1 (by omega)
    cases h
    intro x hx; cases hx
  | succ n ih =>
    intro t u hn hB h
    cases t with
    | nil => cases h; intro x hx; cases hx
    | cons c r =>
      have hBr : IsB r := fun x hx => hB x (List.mem_cons_of_mem _ hx)
      rw [List.length_cons] at hn
      rw [Xq.unq.eq_def] at h
      dsimp only at h
      split at h
      · cases hr : Xq.unq r with
        | none => rw [hr] at h; cases h
        | some v =>
          rw [hr] at h
          cases h
          intro x hx
          rcases List.mem_cons.1 hx with rfl | hx
          · exact hB _ List.mem_cons_self
          · exact ih r v (by omega) hBr hr x hx
      · split at h
        · cases h
        · cases r with
          | nil => cases h
          | cons a r1 =>
            have hB1 : IsB r1 := fun x hx => hBr x (List.mem_cons_of_mem _ hx)
            rw [List.length_cons] at hn
            dsimp only at h
            split at h
            · exact ih r1 u (by omega) hB1 h
            · cases r1 with
              | nil => cases h
              | cons b r2 =>
                rw [List.length_cons] at hn
                dsimp only at h
                split at h
                · rename_i hh
                  cases hr : Xq.unq r2 with
                  | none => rw [hr] at h; cases h
                  | some v =>
                    rw [hr] at h
                    cases h
                    intro x hx
                    rcases List.mem_cons.1 hx with rfl | hx
                    · omega
                    · exact ih r2 v (by omega) (fun x hx => hB1 x (List.mem_cons_of_mem _ hx)) hr x hx
                · cases h
theorem isB_nil : IsB [] := fun x hx => by cases hx
theorem decB_isB (t : List Nat) : IsB (decB t).2 := by
  unfold decB
  split
  · exact isB_nil
  · split
    · exact isB_nil
    · rename_i h
      split
      · exact isB_nil
      · exact (Xf.dec_some _ _ h).2
theorem decQ_isB {t : List Nat} (hB : IsB t) : IsB (decQ t).2 := by
  unfold decQ
  split
  · exact isB_nil
  · split
    · exact isB_nil
    · rename_i h
      split
      · exact isB_nil
      · exact unq_isB _ _ _ (Nat.le_refl _) hB h
theorem byV_isB {l : List Nat} {g : Int} (hB : IsB l) : IsB (byV l g).2 := by
  unfold byV
  split
  · exact decB_isB _
  · split
    · exact decQ_isB hB
    · exact hB

/-- The characters of a part, or a code. -/
def pcP (d : List Nat) (p : PtP) : Int × List Int := if p.1.1 ≠ 1 then (1, []) else if (pbP d p).1 ≠ 0 then ((pbP d p).1, []) else if p.1.2.1 = 0 then (4, []) else decT p.1.2.1 (pbP d p).2
theorem pcP_zero {d : List Nat} {p : PtP} (h : (pcP d p).1 ≠ 0) : (pcP d p).2 = [] := by
  unfold pcP at h ⊢
  split
  · rfl
  · rename_i h1
    rw [if_neg h1] at h
    split
    · rfl
    · rename_i h2
      rw [if_neg h2] at h
      split
      · rfl
      · rename_i h3
        rw [if_neg h3] at h
        rcases decT_codesP p.1.2.1 (pbP d p).2 with h' | h'
        · exact absurd h' h
        · exact h'.2

set_option maxHeartbeats 1600000 in
set_option maxRecDepth 100000 in
theorem codesOfPart_any {cp : Nat} (b m : Nat) (d : List Nat) (p : PtP) (f t : Nat) (w : World) (hr : Rd w (some ⟨b, 0, none⟩) d) (hB : IsB d) (hl : d.length = m) (hm : m ≤ 400) (hp : p.2.1 = ((f : Int), (t : Int))) (hft : f ≤ t) (htm : t ≤ m) (hTB : TabB w) (hTH : TabH w) (hMI : MaxI w) (hcp : m ≤ cp := by omega) :
    Calls Tryz.prog 46 #[.slice (some ⟨b, 0, none⟩) m cp, ptA p] w (SeeI (pcP d p) w) := by
  have hE : pbP d p = byV (cutN d f t) p.1.2.2 := by unfold pbP; rw [hp]; simp
  have HB : Hid (IsB (pbP d p).2) := by
    show IsB _
    rw [hE]; exact byV_isB (isB_drop (isB_take hB _) _)
  have HY : Hid (∀ w', Below w.heap.size w w' → Calls Tryz.prog 55 #[.slice (some ⟨b, 0, none⟩) m cp, ptA p] w' (SeeB (pbP d p) w')) := fun w' hb => by
    rw [hE]; exact bytesOfPart_any b m d p f t w' (hr.below hb) hB hl hm hp hft htm (hTB.below hb) (hTH.below hb) (hMI.below hb)
  have HV : Hid (pcP d p = if p.1.1 ≠ 1 then (1, []) else if (pbP d p).1 ≠ 0 then ((pbP d p).1, []) else if p.1.2.1 = 0 then (4, []) else decT p.1.2.1 (pbP d p).2) := rfl
  generalize pcP d p = r at *
  generalize pbP d p = q at *
  clear hE hr hB hTB hTH hMI hp
  unfold ptA at *
  obtain ⟨⟨p0, p1, p2⟩, ⟨p3, p4⟩, p5, p6⟩ := p
  dsimp only at HY HV ⊢
  have hbx : Below w.heap.size w (w.alloc (.cells #[.int .i64 p0, .int .i64 p1, .int .i64 p2, .int .i64 p3, .int .i64 p4, .int .i64 p5, .int .i64 p6] 44)) := (Below.refl _ _).alloc (Nat.le_refl _) _
  by_cases h1 : p0 = 1
  · subst h1
    go_enter Tryz.func46, Tryz.ntmps46
    go_wp2_with fail
    refine (HY.out _ hbx).mono ?_
    rintro e w1 ⟨⟨h3, v, rfl, ho⟩ | ⟨h3, rfl⟩, hb1⟩
    · have hbw1 := hbx.trans (hb1.mono hbx.size)
      obtain ⟨a, cp, hv, hcp, -⟩ := ho.form
      subst hv
      have hP : PtAt w1 w.heap.size 1 p1 p2 p3 p4 p5 p6 := (hb1.block w.heap.size (by simp)).trans (heap_alloc_new w _)
      obtain ⟨x0, x1, x2, x3, x4, x5, x6⟩ := hP.cells
      by_cases h5 : p1 = 0
      · subst h5
        have hM : r = (4, []) := by rw [HV.out, if_neg (by simp), if_neg (by simpa using h3), if_pos rfl]
        subst hM
        clear HV HY
        go_wp2
        exact ⟨rfl, .inr ⟨by simp, rfl⟩, hbw1⟩
      · have h5' : (p1 == 0) = false := by simpa using h5
        have hM : r = decT p1 q.2 := by rw [HV.out, if_neg (by simp), if_neg (by simpa using h3), if_neg h5]
        have HD := decodeText_any p1 a q.2.length cp q.2 w1 rfl ho.rd.2 HB.out hcp
        rw [← hM] at HD
        clear HV HY hM
        go_wp2_with fail
        refine HD.mono ?_
        rintro e w2 ⟨v2, rfl, ho2, hb2⟩
        have hbw2 := hbw1.trans (hb2.mono hbw1.size)
        have ho3 : OwnI w2 w.heap.size v2 r.2 := row_low ho2 hbw1.size
        obtain ⟨a2, c2, hv2, -, -⟩ := ho3.form
        subst hv2
        by_cases hc : r.1 = 0
        · rw [hc]
          go_wp2_with fail
          refine (codesIn_ok a2 _ c2 _).mono ?_
          rintro e w3 ⟨rfl, hb3⟩
          have ho4 := ho3.below hb3 (Nat.le_refl _)
          have hbw3 := hbw2.trans (hb3.mono hbw2.size)
          clear ho ho2 ho3 hb2 hb3 HD
          go_wp2
          go_ret
          exact ⟨.inl ⟨hc, _, rfl, ho4⟩, hbw3⟩
        · go_wp2_with fail
          refine (codesIn_bad _ hc a2 _ c2 _).mono ?_
          rintro e w3 ⟨rfl, hb3⟩
          exact ⟨rfl, .inr ⟨hc, rfl⟩, hbw2.trans (hb3.mono hbw2.size)⟩
    · have hM : r = (q.1, []) := by rw [HV.out, if_neg (by simp), if_pos h3]
      subst hM
      exact ⟨rfl, .inr ⟨h3, rfl⟩, hbx.trans (hb1.mono hbx.size)⟩
  · have h1' : (p0 != 1) = true := by simpa using h1
    have hM : r = (1, []) := by rw [HV.out, if_pos h1]
    subst hM
    clear HV HY
    go_enter Tryz.func46, Tryz.ntmps46
    go_wp2
    exact ⟨rfl, .inr ⟨by simp, rfl⟩, hbx⟩
end Go.Proofs.YtooifkdbpghcfaaGreatDoor

namespace Go.Proofs.YtooifkdbpghcfaaGreatDoor
open Go.RowKit

set_option maxHeartbeats 1600000 in
set_option maxRecDepth 100000 in
theorem l6Codes_any {cp : Nat} (b m P o0 : Nat) (d : List Nat) (p : PtP) (f t : Nat) (w : World) (hr : Rd w (some ⟨b, 0, none⟩) d) (hB : IsB d) (hl : d.length = m) (hm : m ≤ 400) (hp : p.2.1 = ((f : Int), (t : Int))) (hft : f ≤ t) (htm : t ≤ m) (hcs : 0 ≤ p.1.2.1 ∧ p.1.2.1 ≤ 5) (hP : PtC w P o0 p) (hcp : m ≤ cp := by omega) :
    Calls Tryz.prog 38 #[.slice (some ⟨b, 0, none⟩) m cp, .pointer (some ⟨P, o0, none⟩)] w fun e w' => ∃ v, e = .returned (.tuple #[v, .int .i64 (pcP d p).1]) ∧ OwnI w' w.heap.size v (pcP d p).2 ∧ Below w.heap.size w w' := by
  have hE : pbP d p = byV (cutN d f t) p.1.2.2 := by unfold pbP; rw [hp]; simp
  have HB : Hid (IsB (pbP d p).2) := by
    show IsB _
    rw [hE]; exact byV_isB (isB_drop (isB_take hB _) _)
  have hln : (pbP d p).2.length ≤ 400 := by
    rw [hE]; refine byV_len ?_
    unfold cutN
    rw [List.length_drop, List.length_take]; omega
  have HY := l6Bytes_any (cp := cp) b m P o0 d p f t w hr hB hl hm hp hft htm hP
  rw [← hE] at HY
  have HV : Hid (pcP d p = if p.1.1 ≠ 1 then (1, []) else if (pbP d p).1 ≠ 0 then ((pbP d p).1, []) else if p.1.2.1 = 0 then (4, []) else decT p.1.2.1 (pbP d p).2) := rfl
  generalize pcP d p = r at *
  generalize pbP d p = q at *
  obtain ⟨hPl, x0, x1, x2, x3, x4⟩ := hP
  clear hE hr hB hp
  obtain ⟨⟨p0, p1, p2⟩, ⟨p3, p4⟩, p5, p6⟩ := p
  dsimp only at HV hcs x0 x1 x2 x3 x4
  by_cases h1 : p0 = 1
  · subst h1
    go_enter Tryz.func38, Tryz.ntmps38
    go_wp2_with fail
    refine HY.mono ?_
    rintro e w1 ⟨v, rfl, ho, hb1⟩
    obtain ⟨a, cp, hv, -, -⟩ := ho.form
    subst hv
    have y1 : w1.cell? ⟨P, o0 + 1, none⟩ = some (.int .i64 p1) := (hb1.cell (p := ⟨P, o0 + 1, none⟩) hPl).trans x1
    clear HY x0 x1 x2 x3 x4
    by_cases h3 : q.1 = 0
    · rw [h3]
      by_cases h5 : p1 = 0
      · subst h5
        have hM : r = (4, []) := by rw [HV.out, if_neg (by simp), if_neg (by simpa using h3), if_pos rfl]
        subst hM
        clear HV
        go_wp2
        go_ret2
        exact ⟨_, rfl, OwnI.nil _ _, hb1⟩
      · have h5' : (p1 == 0) = false := by simpa using h5
        have hM : r = decT p1 q.2 := by rw [HV.out, if_neg (by simp), if_neg (by simpa using h3), if_neg h5]
        have HD := l2Decode_any p1 a q.2.length cp q.2 w1 (by omega) rfl ho.rd.2 HB.out (by omega)
        have HN : Hid (decL p1 q.2 = none → r = (8, [])) := fun h => by rw [hM]; exact decT_no (by omega) (by omega) h
        have HS : Hid (∀ u, decL p1 q.2 = some u → r = (0, u)) := fun u h => by rw [hM]; exact decT_ok (by omega) (by omega) h
        clear HV hM
        go_wp2_with fail
        refine HD.mono ?_
        rintro e w2 (⟨v, u, rfl, h6, ho2, -, hb2⟩ | ⟨rfl, h6, hb2⟩)
        · have hM := HS.out u h6
          subst hM
          obtain ⟨a2, c2, hv2, -, -⟩ := ho2.form
          subst hv2
          have ho3 : OwnI w2 w.heap.size (.slice a2 u.length c2) u := row_low ho2 hb1.size
          have hbw := hb1.trans (hb2.mono hb1.size)
          clear HD HN HS ho ho2 h6
          go_wp2
          go_ret2
          exact ⟨_, rfl, ho3, hbw⟩
        · have hM := HN.out h6
          subst hM
          have hbw := hb1.trans (hb2.mono hb1.size)
          clear HD HN HS ho h6
          go_wp2
          go_ret2
          exact ⟨_, rfl, OwnI.nil _ _, hbw⟩
    · have h3' : (q.1 != 0) = true := by simpa using h3
      have hM : r = (q.1, []) := by rw [HV.out, if_neg (by simp), if_pos h3]
      subst hM
      clear HV
      go_wp2
      go_ret2
      exact ⟨_, rfl, OwnI.nil _ _, hb1⟩
  · have h1' : (p0 != 1) = true := by simpa using h1
    have hM : r = (1, []) := by rw [HV.out, if_pos h1]
    subst hM
    clear HV HY
    go_enter Tryz.func38, Tryz.ntmps38
    go_wp2
    go_ret2
    exact ⟨_, rfl, OwnI.nil _ _, Below.refl _ _⟩
end Go.Proofs.YtooifkdbpghcfaaGreatDoor
