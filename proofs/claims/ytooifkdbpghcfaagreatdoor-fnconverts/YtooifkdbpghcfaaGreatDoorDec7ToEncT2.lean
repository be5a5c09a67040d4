/- The program's and the model's DecodeText at once · The characters of a part, the program's: codesOfPart · The characters of a part, the model's: l6Codes · PartCodes, both sides · The model's EncodeText, and both at once. -/
import Derived.Test.YtooifkdbpghcfaaGreatDoorDecLToDec4
import Derived.Test.YtooifkdbpghcfaaGreatDoorDec5ToDec6
import Derived.Test.YtooifkdbpghcfaaGreatDoorVwoToPbg
import Derived.Test.YtooifkdbpghcfaaGreatDoorCsoToAll
import Derived.Test.YtooifkdbpghcfaaGreatDoorEncTToDec2
namespace Go.Proofs.YtooifkdbpghcfaaGreatDoor
open Go.RowKit

theorem decL_len (cs : Int) : ∀ (n : Nat) (l : List Nat) (u : List Int), l.length ≤ n → decL cs l = some u → u.length ≤ l.length := by
  intro n
  induction n with
  | zero =>
    intro l u hl h
    rw [decL_nil (by omega)] at h
    cases h
    exact Nat.zero_le _
  | succ n ih =>
    intro l u hl h
    by_cases h0 : l.length = 0
    · rw [decL_nil h0] at h
      cases h
      exact Nat.zero_le _
    · by_cases hs : (rdC cs l).2 = 0
      · rw [decL_none (by omega) hs] at h; cases h
      · rw [decL_step (c := (rdC cs l).1) (s := (rdC cs l).2) (by omega) hs rfl] at h
        cases hd : decL cs (l.drop (rdC cs l).2) with
        | none => rw [hd] at h; cases h
        | some v =>
          rw [hd] at h
          simp only [Option.map_some, Option.some.injEq] at h
          subst h
          have := ih _ _ (by rw [List.length_drop]; omega) hd
          rw [List.length_drop] at this
          rw [List.length_cons]
          omega
theorem decT_few (cs : Int) (l : List Nat) : (decT cs l).2.length ≤ 400 := by
  unfold decT
  split
  · split
    · simp
    · cases hd : decL cs l with
      | none => simp
      | some u =>
        have := decL_len cs l.length l u (Nat.le_refl _) hd
        simp only
        omega
  · simp
end Go.Proofs.YtooifkdbpghcfaaGreatDoor

namespace Go.Proofs.YtooifkdbpghcfaaGreatDoor
open Go.RowKit

theorem decT_codesP (cs : Int) (l : List Nat) : (decT cs l).1 = 0 ∨ (decT cs l).1 ≠ 0 ∧ (decT cs l).2 = [] := by
  unfold decT
  split
  · split
    · exact .inr ⟨by decide, rfl⟩
    · cases decL cs l with
      | none => exact .inr ⟨by decide, rfl⟩
      | some v => exact .inl rfl
  · exact .inr ⟨by decide, rfl⟩
theorem unq_isB : ∀ (n : Nat) (t u : List Nat), t.length ≤ n → IsB t → Xq.unq t = some u → IsB u := by
  intro n
  induction n with
  | zero =>
    intro t u hn hB h
    obtain rfl : t = [] := List.length_eq_zero_iff.1 (by omega)
    cases h
    intro x hx; cases hx
  | succ n ih =>
    intro t u hn hB h
    cases t with
    | nil => cases h; intro x hx; cases hx
    | cons c r =>
      have hBr : IsB r := fun x hx => hB x (List.mem_cons_of_mem _ hx)
      rw [List.length_cons] at hn
      rw [Xq.unq.eq_def] at h
      dsimp only at h
      split at h
      · cases hr : Xq.unq r with
        | none => rw [hr] at h; cases h
        | some v =>
          rw [hr] at h
          cases h
          intro x hx
          rcases List.mem_cons.1 hx with rfl | hx
          · exact hB _ List.mem_cons_self
          · exact ih r v (by omega) hBr hr x hx
      · split at h
        · cases h
        · cases r with
          | nil => cases h
          | cons a r1 =>
            have hB1 : IsB r1 := fun x hx => hBr x (List.mem_cons_of_mem _ hx)
            rw [List.length_cons] at hn
            dsimp only at h
            split at h
            · exact ih r1 u (by omega) hB1 h
            · cases r1 with
              | nil => cases h
              | cons b r2 =>
                rw [List.length_cons] at hn
                dsimp only at h
                split at h
                · rename_i hh
                  cases hr : Xq.unq r2 with
                  | none => rw [hr] at h; cases h
                  | some v =>
                    rw [hr] at h
                    cases h
                    intro x hx
                    rcases List.mem_cons.1 hx with rfl | hx
                    · omega
                    · exact ih r2 v (by omega) (fun x hx => hB1 x (List.mem_cons_of_mem _ hx)) hr x hx
                · cases h
theorem isB_nil : IsB [] := fun x hx => by cases hx
theorem decB_isB (t : List Nat) : IsB (decB t).2 := by
  unfold decB
  split
  · exact isB_nil
  · split
    · exact isB_nil
    · rename_i h
      split
      · exact isB_nil
      · exact (Xf.dec_some _ _ h).2
theorem decQ_isB {t : List Nat} (hB : IsB t) : IsB (decQ t).2 := by
  unfold decQ
  split
  · exact isB_nil
  · split
    · exact isB_nil
    · rename_i h
      split
      · exact isB_nil
      · exact unq_isB _ _ _ (Nat.le_refl _) hB h
theorem byV_isB {l : List Nat} {g : Int} (hB : IsB l) : IsB (byV l g).2 := by
  unfold byV
  split
  · exact decB_isB _
  · split
    · exact decQ_isB hB
    · exact hB

/-- The characters of a part, or a code. -/
def pcP (d : List Nat) (p : PtP) : Int × List Int := if p.1.1 ≠ 1 then (1, []) else if (pbP d p).1 ≠ 0 then ((pbP d p).1, []) else if p.1.2.1 = 0 then (4, []) else decT p.1.2.1 (pbP d p).2
theorem pcP_zero {d : List Nat} {p : PtP} (h : (pcP d p).1 ≠ 0) : (pcP d p).2 = [] := by
  unfold pcP at h ⊢
  split
  · rfl
  · rename_i h1
    rw [if_neg h1] at h
    split
    · rfl
    · rename_i h2
      rw [if_neg h2] at h
      split
      · rfl
      · rename_i h3
        rw [if_neg h3] at h
        rcases decT_codesP p.1.2.1 (pbP d p).2 with h' | h'
        · exact absurd h' h
        · exact h'.2

set_option maxHeartbeats 1600000 in
set_option maxRecDepth 100000 in
theorem codesOfPart_any {cp : Nat} (b m : Nat) (d : List Nat) (p : PtP) (f t : Nat) (w : World) (hr : Rd w (some ⟨b, 0, none⟩) d) (hB : IsB d) (hl : d.length = m) (hm : m ≤ 400) (hp : p.2.1 = ((f : Int), (t : Int))) (hft : f ≤ t) (htm : t ≤ m) (hTB : TabB w) (hTH : TabH w) (hMI : MaxI w) (hcp : m ≤ cp := by omega) :
    Calls Tryz.prog 46 #[.slice (some ⟨b, 0, none⟩) m cp, ptA p] w (SeeI (pcP d p) w) := by
  have hE : pbP d p = byV (cutN d f t) p.1.2.2 := by unfold pbP; rw [hp]; simp
  have HB : Hid (IsB (pbP d p).2) := by
    show IsB _
    rw [hE]; exact byV_isB (isB_drop (isB_take hB _) _)
  have HY : Hid (∀ w', Below w.heap.size w w' → Calls Tryz.prog 55 #[.slice (some ⟨b, 0, none⟩) m cp, ptA p] w' (SeeB (pbP d p) w')) := fun w' hb => by
    rw [hE]; exact bytesOfPart_any b m d p f t w' (hr.below hb) hB hl hm hp hft htm (hTB.below hb) (hTH.below hb) (hMI.below hb)
  have HV : Hid (pcP d p = if p.1.1 ≠ 1 then (1, []) else if (pbP d p).1 ≠ 0 then ((pbP d p).1, []) else if p.1.2.1 = 0 then (4, []) else decT p.1.2.1 (pbP d p).2) := rfl
  generalize pcP d p = r at *
  generalize pbP d p = q at *
  clear hE hr hB hTB hTH hMI hp
  unfold ptA at *
  obtain ⟨⟨p0, p1, p2⟩, ⟨p3, p4⟩, p5, p6⟩ := p
  dsimp only at HY HV ⊢
  have hbx : Below w.heap.size w (w.alloc (.cells #[.int .i64 p0, .int .i64 p1, .int .i64 p2, .int .i64 p3, .int .i64 p4, .int .i64 p5, .int .i64 p6] 44)) := (Below.refl _ _).alloc (Nat.le_refl _) _
  by_cases h1 : p0 = 1
  · subst h1
    go_enter Tryz.func46, Tryz.ntmps46
    go_wp2_with fail
    refine (HY.out _ hbx).mono ?_
    rintro e w1 ⟨⟨h3, v, rfl, ho⟩ | ⟨h3, rfl⟩, hb1⟩
    · have hbw1 := hbx.trans (hb1.mono hbx.size)
      obtain ⟨a, cp, hv, hcp, -⟩ := ho.form
      subst hv
      have hP : PtAt w1 w.heap.size 1 p1 p2 p3 p4 p5 p6 := (hb1.block w.heap.size (by simp)).trans (heap_alloc_new w _)
      obtain ⟨x0, x1, x2, x3, x4, x5, x6⟩ := hP.cells
      by_cases h5 : p1 = 0
      · subst h5
        have hM : r = (4, []) := by rw [HV.out, if_neg (by simp), if_neg (by simpa using h3), if_pos rfl]
        subst hM
        clear HV HY
        go_wp2
        exact ⟨rfl, .inr ⟨by simp, rfl⟩, hbw1⟩
      · have h5' : (p1 == 0) = false := by simpa using h5
        have hM : r = decT p1 q.2 := by rw [HV.out, if_neg (by simp), if_neg (by simpa using h3), if_neg h5]
        have HD := decodeText_any p1 a q.2.length cp q.2 w1 rfl ho.rd.2 HB.out hcp
        rw [← hM] at HD
        clear HV HY hM
        go_wp2_with fail
        refine HD.mono ?_
        rintro e w2 ⟨v2, rfl, ho2, hb2⟩
        have hbw2 := hbw1.trans (hb2.mono hbw1.size)
        have ho3 : OwnI w2 w.heap.size v2 r.2 := row_low ho2 hbw1.size
        obtain ⟨a2, c2, hv2, -, -⟩ := ho3.form
        subst hv2
        by_cases hc : r.1 = 0
        · rw [hc]
          go_wp2_with fail
          refine (codesIn_ok a2 _ c2 _).mono ?_
          rintro e w3 ⟨rfl, hb3⟩
          have ho4 := ho3.below hb3 (Nat.le_refl _)
          have hbw3 := hbw2.trans (hb3.mono hbw2.size)
          clear ho ho2 ho3 hb2 hb3 HD
          go_wp2
          go_ret
          exact ⟨.inl ⟨hc, _, rfl, ho4⟩, hbw3⟩
        · go_wp2_with fail
          refine (codesIn_bad _ hc a2 _ c2 _).mono ?_
          rintro e w3 ⟨rfl, hb3⟩
          exact ⟨rfl, .inr ⟨hc, rfl⟩, hbw2.trans (hb3.mono hbw2.size)⟩
    · have hM : r = (q.1, []) := by rw [HV.out, if_neg (by simp), if_pos h3]
      subst hM
      exact ⟨rfl, .inr ⟨h3, rfl⟩, hbx.trans (hb1.mono hbx.size)⟩
  · have h1' : (p0 != 1) = true := by simpa using h1
    have hM : r = (1, []) := by rw [HV.out, if_pos h1]
    subst hM
    clear HV HY
    go_enter Tryz.func46, Tryz.ntmps46
    go_wp2
    exact ⟨rfl, .inr ⟨by simp, rfl⟩, hbx⟩
end Go.Proofs.YtooifkdbpghcfaaGreatDoor

namespace Go.Proofs.YtooifkdbpghcfaaGreatDoor
open Go.RowKit

set_option maxHeartbeats 1600000 in
set_option maxRecDepth 100000 in
theorem l6Codes_any {cp : Nat} (b m P o0 : Nat) (d : List Nat) (p : PtP) (f t : Nat) (w : World) (hr : Rd w (some ⟨b, 0, none⟩) d) (hB : IsB d) (hl : d.length = m) (hm : m ≤ 400) (hp : p.2.1 = ((f : Int), (t : Int))) (hft : f ≤ t) (htm : t ≤ m) (hcs : 0 ≤ p.1.2.1 ∧ p.1.2.1 ≤ 5) (hP : PtC w P o0 p) (hcp : m ≤ cp := by omega) :
    Calls Tryz.prog 38 #[.slice (some ⟨b, 0, none⟩) m cp, .pointer (some ⟨P, o0, none⟩)] w fun e w' => ∃ v, e = .returned (.tuple #[v, .int .i64 (pcP d p).1]) ∧ OwnI w' w.heap.size v (pcP d p).2 ∧ Below w.heap.size w w' := by
  have hE : pbP d p = byV (cutN d f t) p.1.2.2 := by unfold pbP; rw [hp]; simp
  have HB : Hid (IsB (pbP d p).2) := by
    show IsB _
    rw [hE]; exact byV_isB (isB_drop (isB_take hB _) _)
  have hln : (pbP d p).2.length ≤ 400 := by
    rw [hE]; refine byV_len ?_
    unfold cutN
    rw [List.length_drop, List.length_take]; omega
  have HY := l6Bytes_any (cp := cp) b m P o0 d p f t w hr hB hl hm hp hft htm hP
  rw [← hE] at HY
  have HV : Hid (pcP d p = if p.1.1 ≠ 1 then (1, []) else if (pbP d p).1 ≠ 0 then ((pbP d p).1, []) else if p.1.2.1 = 0 then (4, []) else decT p.1.2.1 (pbP d p).2) := rfl
  generalize pcP d p = r at *
  generalize pbP d p = q at *
  obtain ⟨hPl, x0, x1, x2, x3, x4⟩ := hP
  clear hE hr hB hp
  obtain ⟨⟨p0, p1, p2⟩, ⟨p3, p4⟩, p5, p6⟩ := p
  dsimp only at HV hcs x0 x1 x2 x3 x4
  by_cases h1 : p0 = 1
  · subst h1
    go_enter Tryz.func38, Tryz.ntmps38
    go_wp2_with fail
    refine HY.mono ?_
    rintro e w1 ⟨v, rfl, ho, hb1⟩
    obtain ⟨a, cp, hv, -, -⟩ := ho.form
    subst hv
    have y1 : w1.cell? ⟨P, o0 + 1, none⟩ = some (.int .i64 p1) := (hb1.cell (p := ⟨P, o0 + 1, none⟩) hPl).trans x1
    clear HY x0 x1 x2 x3 x4
    by_cases h3 : q.1 = 0
    · rw [h3]
      by_cases h5 : p1 = 0
      · subst h5
        have hM : r = (4, []) := by rw [HV.out, if_neg (by simp), if_neg (by simpa using h3), if_pos rfl]
        subst hM
        clear HV
        go_wp2
        go_ret2
        exact ⟨_, rfl, OwnI.nil _ _, hb1⟩
      · have h5' : (p1 == 0) = false := by simpa using h5
        have hM : r = decT p1 q.2 := by rw [HV.out, if_neg (by simp), if_neg (by simpa using h3), if_neg h5]
        have HD := l2Decode_any p1 a q.2.length cp q.2 w1 (by omega) rfl ho.rd.2 HB.out (by omega)
        have HN : Hid (decL p1 q.2 = none → r = (8, [])) := fun h => by rw [hM]; exact decT_no (by omega) (by omega) h
        have HS : Hid (∀ u, decL p1 q.2 = some u → r = (0, u)) := fun u h => by rw [hM]; exact decT_ok (by omega) (by omega) h
        clear HV hM
        go_wp2_with fail
        refine HD.mono ?_
        rintro e w2 (⟨v, u, rfl, h6, ho2, -, hb2⟩ | ⟨rfl, h6, hb2⟩)
        · have hM := HS.out u h6
          subst hM
          obtain ⟨a2, c2, hv2, -, -⟩ := ho2.form
          subst hv2
          have ho3 : OwnI w2 w.heap.size (.slice a2 u.length c2) u := row_low ho2 hb1.size
          have hbw := hb1.trans (hb2.mono hb1.size)
          clear HD HN HS ho ho2 h6
          go_wp2
          go_ret2
          exact ⟨_, rfl, ho3, hbw⟩
        · have hM := HN.out h6
          subst hM
          have hbw := hb1.trans (hb2.mono hb1.size)
          clear HD HN HS ho h6
          go_wp2
          go_ret2
          exact ⟨_, rfl, OwnI.nil _ _, hbw⟩
    · have h3' : (q.1 != 0) = true := by simpa using h3
      have hM : r = (q.1, []) := by rw [HV.out, if_neg (by simp), if_pos h3]
      subst hM
      clear HV
      go_wp2
      go_ret2
      exact ⟨_, rfl, OwnI.nil _ _, hb1⟩
  · have h1' : (p0 != 1) = true := by simpa using h1
    have hM : r = (1, []) := by rw [HV.out, if_pos h1]
    subst hM
    clear HV HY
    go_enter Tryz.func38, Tryz.ntmps38
    go_wp2
    go_ret2
    exact ⟨_, rfl, OwnI.nil _ _, Below.refl _ _⟩
end Go.Proofs.YtooifkdbpghcfaaGreatDoor

namespace Go.Proofs.YtooifkdbpghcfaaGreatDoor
open Go.RowKit

/-- What PartCodes answers. -/
def pqV (d : List Nat) (k : Int) : Int × List Int := if (pwV d k).1 = 0 then pcP d (ppV d k) else ((pwV d k).1, [])
theorem pqV_zero {d : List Nat} {k : Int} (h : (pqV d k).1 ≠ 0) : (pqV d k).2 = [] := by
  unfold pqV at h ⊢
  split
  · rename_i h1; rw [if_pos h1] at h; exact pcP_zero h
  · rfl
theorem pcP_len (d : List Nat) (p : PtP) : (pcP d p).2.length ≤ 400 := by
  unfold pcP
  split
  · simp
  · split
    · simp
    · split
      · simp
      · exact decT_few _ _
theorem pqV_len (d : List Nat) (k : Int) : (pqV d k).2.length ≤ 400 := by
  unfold pqV
  split
  · exact pcP_len _ _
  · simp
theorem CodEnd.at_ {c : Int} {w w1 : World} {v : Value} {l : List Int} {R : Nat} (hbel : Below w.heap.size w w1) (hR : w.heap.size ≤ R) (hown : OwnI w1 (R + 1) v l) (x y : Value) : CodEnd (c, l) w (.returned (.agg #[.int .i64 c, v])) ((w1.setCell ⟨R, 0, none⟩ x).setCell ⟨R, 1, none⟩ y) :=
  ⟨v, rfl, row_low (ownsRow_setCell_below (ownsRow_setCell_below hown (by simp) _) (by simp) _) (by omega), (hbel.setCell (p := ⟨R, 0, none⟩) hR _).setCell (p := ⟨R, 1, none⟩) hR _⟩

set_option maxHeartbeats 1600000 in
set_option maxRecDepth 100000 in
theorem partCodes1_any {cp : Nat} (b m B0 B1 : Nat) (d : List Nat) (k : Int) (w : World) (hr : Rd w (some ⟨b, 0, none⟩) d) (hT : TabC w) (hTB : TabB w) (hTH : TabH w) (hMI : MaxI w) (hB : IsB d) (hl : d.length = m)
    (h0 : w.cell? ⟨B0, 0, none⟩ = some (.slice (some ⟨b, 0, none⟩) m cp)) (h1 : w.cell? ⟨B1, 0, none⟩ = some (.int .i64 k)) (hcp : m ≤ cp := by omega) :
    Calls Tryz.prog 48 #[.pointer (some ⟨B0, 0, none⟩), .pointer (some ⟨B1, 0, none⟩)] w (SeeI (pqV d k) w) := by
  have l0 := World.block_lt_of_cell? w ⟨B0, 0, none⟩ h0
  have l1 := World.block_lt_of_cell? w ⟨B1, 0, none⟩ h1
  dsimp only at l0 l1
  have HP := partIn_any (cp := cp) b m d k w.drew hr hT hB hl
  have HY : Hid (∀ w', Below w.heap.size w w' → (pwV d k).1 = 0 → Calls Tryz.prog 46 #[.slice (some ⟨b, 0, none⟩) m cp, ptA (ppV d k)] w' (SeeI (pqV d k) w')) := fun w' hb h => by
    obtain ⟨h4, f, t, h1, h2, h3⟩ := ppV_in h
    have e : pqV d k = pcP d (ppV d k) := if_pos h
    rw [e]
    exact codesOfPart_any b m d (ppV d k) f t w' (hr.below hb) hB hl (by omega) h1 h2 (by omega) (hTB.below hb) (hTH.below hb) (hMI.below hb)
  have HZ : Hid ((pwV d k).1 ≠ 0 → pqV d k = ((pwV d k).1, [])) := fun h => if_neg h
  have HQ : Hid ((pwV d k).1 = 0 → nthP (pwV d k).2 k.toNat = ppV d k) := fun h => (if_pos h).symm
  generalize pqV d k = r at *
  generalize ppV d k = q at *
  generalize pwV d k = pw at *
  unfold ptA at *
  obtain ⟨⟨p0, p1, p2⟩, ⟨p3, p4⟩, p5, p6⟩ := q
  dsimp only at HY
  go_enter Tryz.func48, Tryz.ntmps48
  go_wp2_with fail
  refine wp_region_held_drew (S := fun w' => w'.cell? ⟨B0, 0, none⟩ = some (.slice (some ⟨b, 0, none⟩) m cp) ∧ w'.cell? ⟨B1, 0, none⟩ = some (.int .i64 k)) (by kernel_rfl) ?hS1 (fun hHeld => ?_)
  case hS1 => exact ⟨h0, h1⟩
  refine wpAnyH_take (i := 0) (v := ?_) rfl (by kernel_rfl) (by kernel_rfl) (by kernel_rfl) (fun _ _ _ h => h) (Or.inl ⟨by rfl, ?hy2⟩) (by assumption) ?ty2
  case hy2 => (intro w hSw; (try dsimp only at hSw); go_simp; all_goals with_reducible rfl)
  simp only [Act.put, List.getElem_toArray, List.getElem_cons_zero, List.setIfInBounds_toArray, List.set_cons_zero, List.set_cons_succ]
  refine wpAnyH_take (i := 1) (v := ?_) rfl (by kernel_rfl) (by kernel_rfl) (by kernel_rfl) (fun _ _ _ h => h) (Or.inl ⟨by rfl, ?hy3⟩) (by assumption) ?ty3
  case hy3 => (intro w hSw; (try dsimp only at hSw); go_simp; all_goals with_reducible rfl)
  simp only [Act.put, List.getElem_toArray, List.getElem_cons_zero, List.getElem_cons_succ, List.setIfInBounds_toArray, List.set_cons_zero, List.set_cons_succ]
  refine wpAnyH_take (i := 2) (v := ?_) rfl (by kernel_rfl) (by kernel_rfl) (by kernel_rfl) (fun _ _ _ h => h) (Or.inl ⟨by rfl, ?hy4⟩) (by assumption) ?ty4
  case hy4 => (intro w hSw; (try dsimp only at hSw); go_simp; all_goals with_reducible rfl)
  simp only [Act.put, List.getElem_toArray, List.getElem_cons_zero, List.getElem_cons_succ, List.setIfInBounds_toArray, List.set_cons_zero, List.set_cons_succ]
  refine wpAnyH_ready (rs := [3]) (by kernel_rfl) (by simp) ?_
  refine AllReadyH.cons rfl (fun K hK => ?_) AllReadyH.nil
  go_simp
  refine HP.mono ?_
  rintro e w1 ⟨⟨h2, he⟩ | ⟨h2, rfl⟩, hb1⟩
  · rw [HQ.out h2] at he
    subst he
    dsimp only [ptA]
    have hW : Below w.heap.size w w1 := (Below.refl _ _).drew.trans hb1
    have hsS : w1.cell? ⟨B0, 0, none⟩ = some (.slice (some ⟨b, 0, none⟩) m cp) ∧ w1.cell? ⟨B1, 0, none⟩ = some (.int .i64 k) := ⟨(hW.cell (p := ⟨B0, 0, none⟩) l0).trans h0, (hW.cell (p := ⟨B1, 0, none⟩) l1).trans h1⟩
    refine hK.out _ _ hsS (fun hHeld => ?_)
    clear hK K
    refine wpAnyH_ready (rs := [4]) (by kernel_rfl) (by simp) ?_
    refine AllReadyH.cons rfl (fun K hK => ?_) AllReadyH.nil
    go_simp
    refine (HY.out _ hW h2).mono ?_
    rintro e w2 ⟨⟨h3, v, rfl, ho⟩ | ⟨h3, rfl⟩, hb2⟩
    · have hW2 := hW.trans (hb2.mono hW.size)
      have ho2 : OwnI w2 w.heap.size v r.2 := row_low ho hW.size
      obtain ⟨a, cpv, hv, -, -⟩ := ho2.form
      subst hv
      have hsS2 : w2.cell? ⟨B0, 0, none⟩ = some (.slice (some ⟨b, 0, none⟩) m cp) ∧ w2.cell? ⟨B1, 0, none⟩ = some (.int .i64 k) := ⟨(hW2.cell (p := ⟨B0, 0, none⟩) l0).trans h0, (hW2.cell (p := ⟨B1, 0, none⟩) l1).trans h1⟩
      refine hK.out _ _ hsS2 (fun hHeld => ?_)
      clear hK K
      refine wpAnyH_take (i := 5) (v := ?_) rfl (by kernel_rfl) (by kernel_rfl) (by kernel_rfl) (fun _ _ _ h => h) (Or.inl ⟨by rfl, ?hy5⟩) (by assumption) ?ty5
      case hy5 => (intro w hSw; (try dsimp only at hSw); go_simp; all_goals with_reducible rfl)
      simp only [Act.put, List.getElem_toArray, List.getElem_cons_zero, List.getElem_cons_succ, List.setIfInBounds_toArray, List.set_cons_zero, List.set_cons_succ]
      refine wpAnyH_done (by kernel_rfl) ?_ _
      clear hHeld
      go_wp2
      go_ret
      exact ⟨.inl ⟨h3, _, rfl, ho2⟩, hW2⟩
    · exact ⟨rfl, .inr ⟨h3, rfl⟩, hW.trans (hb2.mono hW.size)⟩
  · refine ⟨rfl, ?_⟩
    rw [HZ.out h2]
    exact ⟨.inr ⟨h2, rfl⟩, (Below.refl _ _).drew.trans hb1⟩

set_option maxHeartbeats 1600000 in
set_option maxRecDepth 100000 in
theorem partCodes_any {cp : Nat} (b m : Nat) (d : List Nat) (k : Int) (w : World) (hr : Rd w (some ⟨b, 0, none⟩) d) (hT : TabC w) (hTB : TabB w) (hTH : TabH w) (hMI : MaxI w) (hB : IsB d) (hl : d.length = m) (hcp : m ≤ cp := by omega) :
    Calls Tryz.prog 17 #[.slice (some ⟨b, 0, none⟩) m cp, .int .i64 k] w (CodEnd (pqV d k) w) := by
  have hmf : ∀ (fn : Fn) (first cap : Array Value) (w : World), (Instr.makeFunc fn first cap).run Tryz.prog w = .ok (.func fn first cap) w := fun _ _ _ _ => rfl
  have hG : ∀ (args : Array Value) (w : World), (callFunc 48 args).run Tryz.prog w = .ok (.enter 48 args) w := fun _ _ => by kernel_rfl
  have hb0 : Below w.heap.size w (((w.alloc (.cells #[.slice (some ⟨b, 0, none⟩) m cp] 22)).alloc (.cells #[.int .i64 k] 2)).alloc (.cells #[.int .i64 0, .slice none 0 0] 33)) := (((Below.refl _ _).alloc (Nat.le_refl _) _).alloc (by simp) _).alloc (by simp; omega) _
  have HS : Hid (∀ W : World, Below w.heap.size w W → W.cell? ⟨w.heap.size, 0, none⟩ = some (.slice (some ⟨b, 0, none⟩) m cp) → W.cell? ⟨w.heap.size + 1, 0, none⟩ = some (.int .i64 k) → Calls Tryz.prog 34 #[.func (.func 48) #[] #[.pointer (some ⟨w.heap.size, 0, none⟩), .pointer (some ⟨w.heap.size + 1, 0, none⟩)]] W fun e w' => ∃ v, e = .returned (.tuple #[v, .int .i64 (pqV d k).1]) ∧ OwnI w' W.heap.size v (pqV d k).2 ∧ Below W.heap.size W w') := fun W hW c0 c1 => by
    have hbC := hW.alloc hW.size (.cells #[.int .i64 0] 2)
    exact seeI_of _ _ (pqV d k) W hG (fun h => pqV_zero h) (partCodes1_any b m _ _ d k _ (hr.below hbC) (hT.below hbC) (hTB.below hbC) (hTH.below hbC) (hMI.below hbC) hB hl (cellB c0) (cellB c1))
  generalize pqV d k = r at *
  obtain ⟨rc, rl⟩ := r
  dsimp only at HS
  have x0 : (((w.alloc (.cells #[.slice (some ⟨b, 0, none⟩) m cp] 22)).alloc (.cells #[.int .i64 k] 2)).alloc (.cells #[.int .i64 0, .slice none 0 0] 33)).cell? ⟨w.heap.size, 0, none⟩ = some (.slice (some ⟨b, 0, none⟩) m cp) := cellB (cellB (by simp))
  have x1 : (((w.alloc (.cells #[.slice (some ⟨b, 0, none⟩) m cp] 22)).alloc (.cells #[.int .i64 k] 2)).alloc (.cells #[.int .i64 0, .slice none 0 0] 33)).cell? ⟨w.heap.size + 1, 0, none⟩ = some (.int .i64 k) := cellB (new_cell1 (by simp) _ _)
  have hsz : (((w.alloc (.cells #[.slice (some ⟨b, 0, none⟩) m cp] 22)).alloc (.cells #[.int .i64 k] 2)).alloc (.cells #[.int .i64 0, .slice none 0 0] 33)).heap.size = w.heap.size + 1 + 1 + 1 := by simp
  have HRB := fun (wx : World) (hx : Below (w.heap.size + 1 + 1 + 1) (((w.alloc (.cells #[.slice (some ⟨b, 0, none⟩) m cp] 22)).alloc (.cells #[.int .i64 k] 2)).alloc (.cells #[.int .i64 0, .slice none 0 0] 33)) wx) => res_block (w := ((w.alloc (.cells #[.slice (some ⟨b, 0, none⟩) m cp] 22)).alloc (.cells #[.int .i64 k] 2))) (wr := wx) rfl (by simpa using hx)
  have hs3 : ((w.alloc (.cells #[.slice (some ⟨b, 0, none⟩) m cp] 22)).alloc (.cells #[.int .i64 k] 2)).heap.size = w.heap.size + 1 + 1 := by simp
  rw [hs3] at HRB
  go_enter Tryz.func17, Tryz.ntmps17
  go_wp2_with fail
  refine (HS.out _ hb0 x0 x1).mono ?_
  rintro e w1 ⟨v, rfl, ho, hb1⟩
  rw [hsz] at ho hb1
  obtain ⟨a0, a1, z0, z1⟩ := HRB w1 hb1
  have hbw := hb0.trans (hb1.mono (by omega))
  obtain ⟨a, cp, hv, -, -⟩ := ho.form
  subst hv
  obtain ⟨k0, k1⟩ := res_at a0 a1 (.int .i64 rc) (.slice a rl.length cp)
  have HE : Hid (_) := CodEnd.at_ (c := rc) hbw (R := w.heap.size + 1 + 1) (by omega) ho (.int .i64 rc) (.slice a rl.length cp)
  clear HRB x0 x1 HS hb0 hsz hs3 hb1 ho
  go_wp2
  refine bodyPost_ret (v := .agg #[.int .i64 rc, .slice a rl.length cp]) (by simp [results, Tryz.results17, go_sem, k0, k1]) rfl ?_
  exact HE.out

set_option maxHeartbeats 1600000 in
set_option maxRecDepth 100000 in
theorem specPartCodes_any {cp : Nat} (b m : Nat) (d : List Nat) (k : Int) (w : World) (hr : Rd w (some ⟨b, 0, none⟩) d) (hb : b < w.heap.size) (hB : IsB d) (hl : d.length = m) (hcp : m ≤ cp := by omega) :
    Calls Tryz.prog 19 #[.slice (some ⟨b, 0, none⟩) m cp, .int .i64 k] w (CodEnd (pqV d k) w) := by
  have hb0 : Below w.heap.size w (w.alloc (.cells #[.int .i64 0, .slice none 0 0] 33)) := (Below.refl _ _).alloc (Nat.le_refl _) _
  have HL := l6Part_any (cp := cp) b m d k _ (hr.below hb0) (Nat.lt_of_lt_of_le hb hb0.size) hB hl
  have HZ : Hid ((pwV d k).1 ≠ 0 → pqV d k = ((pwV d k).1, [])) := fun h => if_neg h
  have HY : Hid (∀ W P, Below w.heap.size w W → (pwV d k).1 = 0 → PtAt W P (ppV d k).1.1 (ppV d k).1.2.1 (ppV d k).1.2.2 (ppV d k).2.1.1 (ppV d k).2.1.2 (ppV d k).2.2.1 (ppV d k).2.2.2 → Calls Tryz.prog 38 #[.slice (some ⟨b, 0, none⟩) m cp, .pointer (some ⟨P, 0, none⟩)] W fun e w' => ∃ v, e = .returned (.tuple #[v, .int .i64 (pqV d k).1]) ∧ OwnI w' W.heap.size v (pqV d k).2 ∧ Below W.heap.size W w') := fun W P hW h hP => by
    obtain ⟨h4, f, t, h1, h2, h3⟩ := ppV_in h
    have e : pqV d k = pcP d (ppV d k) := if_pos h
    rw [e]
    exact l6Codes_any b m P 0 d (ppV d k) f t W (hr.below hW) hB hl (by omega) h1 h2 (by omega) (ppV_cs h) (PtC.of hP)
  generalize pqV d k = r at *
  generalize ppV d k = q at *
  generalize (pwV d k).1 = c at *
  unfold ptA at HL
  obtain ⟨⟨p0, p1, p2⟩, ⟨p3, p4⟩, p5, p6⟩ := q
  dsimp only at HL HY
  go_enter Tryz.func19, Tryz.ntmps19
  go_wp2_with fail
  refine HL.mono ?_
  rintro e w1 ⟨rfl, hb1⟩
  have hbl : Below (w.heap.size + 1) (w.alloc (.cells #[.int .i64 0, .slice none 0 0] 33)) w1 := hb1.mono (by simp)
  have hbw := hb0.trans (hbl.mono (by omega))
  have hlt : w.heap.size < w1.heap.size := by have hz := hbl.size; rw [World.size_alloc] at hz; omega
  have hbA : Below w1.heap.size w1 (w1.alloc (.cells #[.int .i64 p0, .int .i64 p1, .int .i64 p2, .int .i64 p3, .int .i64 p4, .int .i64 p5, .int .i64 p6] 44)) := (Below.refl _ _).alloc (Nat.le_refl _) _
  have hbwA := hbw.trans (hbA.mono hbw.size)
  have hblA := hbl.trans (hbA.mono (by have hz := hbl.size; simpa using hz))
  clear HL hb1
  by_cases hc : c = 0
  · subst hc
    have hP : PtAt (w1.alloc (.cells #[.int .i64 p0, .int .i64 p1, .int .i64 p2, .int .i64 p3, .int .i64 p4, .int .i64 p5, .int .i64 p6] 44)) w1.heap.size p0 p1 p2 p3 p4 p5 p6 := heap_alloc_new w1 _
    have HY2 := HY.out _ _ hbwA rfl hP
    clear HY HZ hP
    go_wp2_with fail
    refine HY2.mono ?_
    rintro e w2 ⟨v, rfl, ho, hb2⟩
    have hbl2 := hblA.trans (hb2.mono (by simp; omega))
    have hbw2 := hb0.trans (hbl2.mono (by omega))
    have ho2 : OwnI w2 (w.heap.size + 1) v r.2 := row_low ho (by simp; omega)
    obtain ⟨a, cp, hv, -, -⟩ := ho2.form
    subst hv
    obtain ⟨a0, a1, z0, z1⟩ := res_block rfl hbl2
    obtain ⟨rc, rl⟩ := r
    dsimp only at ho2 a0 a1 ⊢
    obtain ⟨k0, k1⟩ := res_at a0 a1 (.int .i64 rc) (.slice a rl.length cp)
    have HE : Hid (_) := CodEnd.at_ (c := rc) hbw2 (R := w.heap.size) (Nat.le_refl _) ho2 (.int .i64 rc) (.slice a rl.length cp)
    clear ho ho2 hb2 HY2
    go_wp2
    refine bodyPost_ret (v := .agg #[.int .i64 rc, .slice a rl.length cp]) (by simp [results, Tryz.results19, go_sem, k0, k1]) rfl ?_
    exact HE.out
  · have hM : r = (c, []) := HZ.out hc
    subst hM
    have hc' : (c != 0) = true := by simpa using hc
    obtain ⟨a0, a1, z0, z1⟩ := res_block rfl hbl
    obtain ⟨k0', k1'⟩ := res_at a0 a1 (.int .i64 c) (.slice none 0 0)
    have HK : Hid (∀ ob : Obj, (((w1.setCell ⟨w.heap.size, 0, none⟩ (.int .i64 c)).setCell ⟨w.heap.size, 1, none⟩ (.slice none 0 0)).alloc ob).cell? ⟨w.heap.size, 0, none⟩ = some (.int .i64 c) ∧ (((w1.setCell ⟨w.heap.size, 0, none⟩ (.int .i64 c)).setCell ⟨w.heap.size, 1, none⟩ (.slice none 0 0)).alloc ob).cell? ⟨w.heap.size, 1, none⟩ = some (.slice none 0 0)) := fun ob => ⟨cellB k0', cellB k1'⟩
    obtain ⟨k0, k1⟩ := HK.out (.cells #[.int .i64 p0, .int .i64 p1, .int .i64 p2, .int .i64 p3, .int .i64 p4, .int .i64 p5, .int .i64 p6] 44)
    have HE : Hid (∀ ob : Obj, CodEnd (c, []) w (.returned (.agg #[.int .i64 c, .slice none 0 0])) (((w1.setCell ⟨w.heap.size, 0, none⟩ (.int .i64 c)).setCell ⟨w.heap.size, 1, none⟩ (.slice none 0 0)).alloc ob)) := fun ob =>
      ⟨_, rfl, OwnI.nil _ _, ((hbw.setCell (p := ⟨w.heap.size, 0, none⟩) (Nat.le_refl _) _).setCell (p := ⟨w.heap.size, 1, none⟩) (Nat.le_refl _) _).alloc (by simp; omega) _⟩
    clear HY HZ HK k0' k1'
    go_wp2
    refine bodyPost_ret (v := .agg #[.int .i64 c, .slice none 0 0]) (by simp [results, Tryz.results19, go_sem, k0, k1]) rfl ?_
    exact HE.out _

end Go.Proofs.YtooifkdbpghcfaaGreatDoor

namespace Go.Proofs.YtooifkdbpghcfaaGreatDoor
open Go.RowKit

set_option maxHeartbeats 1600000 in
set_option maxRecDepth 100000 in
theorem specEncodeText_any (cs : Int) (a : Option Addr) (n cap : Nat) (l : List Int) (w : World) (hl : l.length = n) (hr : RdI w a l) (hn : n ≤ 1048576) :
    Calls Tryz.prog 49 #[.int .i64 cs, .slice a n cap] w fun e w' => BytEnd (encT cs l) w e w' := by
  by_cases hcs : 1 ≤ cs ∧ cs ≤ 5
  · have hb0 : Below w.heap.size w (w.alloc (.cells #[.int .i64 0, .slice none 0 0] 27)) := (Below.refl _ _).alloc (Nat.le_refl _) _
    have hr0 := hr.below hb0
    by_cases hf : flt l = 0
    · obtain ⟨hn4, hch⟩ := flt_zero hf
      rw [encT_ok hcs hf]
      go_enter Tryz.func49, Tryz.ntmps49
      go_wp2_with (first | (go_at_call 73; refine (l2Set_any _ _).mono ?_; rintro e w' ⟨rfl, rfl⟩; rw [decide_eq_true hcs]) | (go_at_call 74; refine (l2Fault_any a n cap l _ hl hr0 hn).mono ?_; rintro e w1 ⟨rfl, hb1⟩; rw [hf]))
      have hr1 := hr0.below hb1
      have hbl : Below (w.heap.size + 1) (w.alloc (.cells #[.int .i64 0, .slice none 0 0] 27)) w1 := hb1.mono (by simp)
      have hz1 : w.heap.size + 1 ≤ w1.heap.size := by have := hbl.size; simp at this; omega
      clear hb1 hr hr0
      refine (l2Encode_any cs a n cap l _ hcs hl hr1 (by omega) hch).mono ?_
      rintro e w2 ⟨v, rfl, hown, hb2⟩
      have hbl2 : Below (w.heap.size + 1) (w.alloc (.cells #[.int .i64 0, .slice none 0 0] 27)) w2 := hbl.trans (hb2.mono hz1)
      obtain ⟨hcw, hcw1, hfw, hfw1⟩ := res_block rfl hbl2
      have hbel : Below w.heap.size w w2 := hb0.trans (hbl2.mono (by omega))
      have hown' : Own w2 (w.heap.size + 1) v (encV cs l).2 := hown.lower hz1
      clear hown hb2 hbl2 hbl hr1
      generalize hE : encV cs l = r at *
      obtain ⟨c, u⟩ := r
      have HE : Hid (encV cs l = (c, u)) := hE
      clear hE
      obtain ⟨ao, ocap, hv, -, -⟩ := hown'.form
      simp only at hown' hv ⊢
      rw [hv] at hown' ⊢
      clear hv
      have HO : Hid (Own w2 (w.heap.size + 1) (.slice ao u.length ocap) u) := hown'
      clear hown'
      generalize hN : u.length = N at *
      clear hN
      obtain ⟨hk0, hk1⟩ := res_cells hcw hcw1 (.int .i64 c) (.slice ao N ocap)
      go_wp2
      refine bodyPost_ret (v := .agg #[.int .i64 c, .slice ao N ocap]) (by simp [results, Tryz.results49, go_sem, hk0, hk1]) rfl ?_
      rw [HE.out]
      exact BytEnd.some hbel HO.out _ _
    · have H : Hid (encT cs l = (flt l, [])) := encT_fault hcs hf
      have hc23 : flt l = 2 ∨ flt l = 3 := by rcases flt_cases l with h | h | h; exact absurd h hf; exact .inl h; exact .inr h
      have HC : Hid (∀ w, RdI w a l → Calls Tryz.prog 74 #[.slice a n cap] w fun e w' => e = .returned (.int .i64 (flt l)) ∧ Below w.heap.size w w') := fun w hr => l2Fault_any a n cap l w hl hr hn
      clear hf
      generalize flt l = c at *
      rcases hc23 with rfl | rfl
      all_goals
        go_enter Tryz.func49, Tryz.ntmps49
        go_wp2_with (first | (go_at_call 73; refine (l2Set_any _ _).mono ?_; rintro e w' ⟨rfl, rfl⟩; rw [decide_eq_true hcs]))
        refine (HC.out _ hr0).mono ?_
        rintro e w1 ⟨rfl, hb1⟩
        have hbl : Below (w.heap.size + 1) (w.alloc (.cells #[.int .i64 0, .slice none 0 0] 27)) w1 := hb1.mono (by simp)
        obtain ⟨hcw, hcw1, hfw, hfw1⟩ := res_block rfl hbl
        have hbel : Below w.heap.size w w1 := hb0.trans (hbl.mono (by omega))
        clear hb1 hbl hr hr0 HC
      · obtain ⟨hk0, hk1⟩ := res_cells hcw hcw1 (.int .i64 2) (.slice none 0 0)
        go_wp2
        refine bodyPost_ret (v := .agg #[.int .i64 2, .slice none 0 0]) (by simp [results, Tryz.results49, go_sem, hk0, hk1]) rfl ?_
        rw [H.out]
        exact BytEnd.code hbel _ _
      · obtain ⟨hk0, hk1⟩ := res_cells hcw hcw1 (.int .i64 3) (.slice none 0 0)
        go_wp2
        refine bodyPost_ret (v := .agg #[.int .i64 3, .slice none 0 0]) (by simp [results, Tryz.results49, go_sem, hk0, hk1]) rfl ?_
        rw [H.out]
        exact BytEnd.code hbel _ _
  · have H : Hid (encT cs l = (4, [])) := encT_none hcs
    go_enter Tryz.func49, Tryz.ntmps49
    go_wp2_with (first | (go_at_call 73; refine (l2Set_any _ _).mono ?_; rintro e w' ⟨rfl, rfl⟩; rw [decide_eq_false hcs]))
    go_returns
    exact ⟨.slice none 0 0, by rw [H.out], by rw [H.out]; exact Own.nil _ _, by go_grown⟩

theorem encV_few (cs : Int) (l : List Int) : (encV cs l).2.length ≤ 400 := by
  unfold encV
  split
  · split
    · simp
    · simp only; omega
  · simp
theorem encT_few (cs : Int) (l : List Int) : (encT cs l).2.length ≤ 400 := by
  unfold encT
  split
  · split
    · exact encV_few cs l
    · simp
  · simp

end Go.Proofs.YtooifkdbpghcfaaGreatDoor
