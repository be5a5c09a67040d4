/- DecodeQuoted, the model's, at every text: the bytes of its quoted text, or a code; texts of whatever length · The model's l1Unquote and DecodeQuoted at every text of at most 1048576 letters · The part that is asked and the bytes that it tells, the model's: l6Part, l6Bytes, PartBytes · What a face answers: seen, or with a code · PathOf, both sides. -/
import Derived.Test.YtaefomiofoakhaaGreatDoorEncBToVwm
import Derived.Test.YtaefomiofoakhaaGreatDoorPsmToEncQ3
import Derived.BigQuiet
import Derived.Test.YtaefomiofoakhaaGreatDoorPdlToMus
import Derived.Test.YtaefomiofoakhaaGreatDoorPspToDig
namespace Go.Proofs.YtaefomiofoakhaaGreatDoor
open Go.RowKit

/-- May a blank stand at a place of a text? -/
def blk (t : List Nat) (i : Nat) : Bool := decide ((nth t i = 32 ∨ nth t i = 9) ∧ i + 1 < t.length ∧ nth t (i + 1) ≠ 10)

end Go.Proofs.YtaefomiofoakhaaGreatDoor

namespace Go.Proofs.YtaefomiofoakhaaGreatDoor
open Go.RowKit

end Go.Proofs.YtaefomiofoakhaaGreatDoor

namespace Go.Proofs.YtaefomiofoakhaaGreatDoor
open Go.RowKit

theorem psV_ok {d : List Nat} (h : (psV d).1 = 0) : d.length ≤ 400 ∧ OkP d (psV d).2 := by
  unfold psV at h ⊢
  split at h
  · cases h
  · rename_i h4
    rw [if_neg h4]
    exact ⟨by omega, parts_ok d (by omega)⟩
end Go.Proofs.YtaefomiofoakhaaGreatDoor

namespace Go.Proofs.YtaefomiofoakhaaGreatDoor
open Go.RowKit

theorem BytEnd.at_ {c : Int} {w w1 : World} {v : Value} {l : List Nat} {R : Nat} (hbel : Below w.heap.size w w1) (hR : w.heap.size ≤ R) (hown : Own w1 (R + 1) v l) (x y : Value) : BytEnd (c, l) w (.returned (.agg #[.int .i64 c, v])) ((w1.setCell ⟨R, 0, none⟩ x).setCell ⟨R, 1, none⟩ y) :=
  ⟨v, rfl, row_low (ownsRow_setCell_below (ownsRow_setCell_below hown (by simp) _) (by simp) _) (by omega), (hbel.setCell (p := ⟨R, 0, none⟩) hR _).setCell (p := ⟨R, 1, none⟩) hR _⟩
theorem res_at {wr : World} {sz : Nat} {x0 x1 : Value} (h0 : wr.cell? ⟨sz, 0, none⟩ = some x0) (h1 : wr.cell? ⟨sz, 1, none⟩ = some x1) (c t : Value) :
    ((wr.setCell ⟨sz, 0, none⟩ c).setCell ⟨sz, 1, none⟩ t).cell? ⟨sz, 0, none⟩ = some c ∧ ((wr.setCell ⟨sz, 0, none⟩ c).setCell ⟨sz, 1, none⟩ t).cell? ⟨sz, 1, none⟩ = some t := by
  obtain ⟨q0, q1⟩ := res_cells h0 h1 c t
  exact ⟨by simp [go_sem, q0], q1⟩
theorem cellB {W : World} {o : Obj} {p : Addr} {v : Value} (h : W.cell? p = some v) : (W.alloc o).cell? p = some v := (((Below.refl _ W).alloc (Nat.le_refl _) o).cell (World.block_lt_of_cell? W _ h)).trans h
end Go.Proofs.YtaefomiofoakhaaGreatDoor

namespace Go.Proofs.YtaefomiofoakhaaGreatDoor
open Go.RowKit

/-- A pointer's place in its block. -/
def ptrOff : Value → Nat
  | .pointer (some a) => a.off
  | _ => 0
/-- How an answer of numbers ends. -/
def IntsEnd (r : Int × List Int) (w : World) (e : Ending) (w' : World) : Prop := ∃ v, e = .returned (.agg #[.int .i64 r.1, v]) ∧ OwnI w' w.heap.size v r.2 ∧ Below w.heap.size w w'
theorem IntsEnd.at_ {c : Int} {w w1 : World} {v : Value} {l : List Int} {R : Nat} (hbel : Below w.heap.size w w1) (hR : w.heap.size ≤ R) (hown : OwnI w1 (R + 1) v l) (x y : Value) : IntsEnd (c, l) w (.returned (.agg #[.int .i64 c, v])) ((w1.setCell ⟨R, 0, none⟩ x).setCell ⟨R, 1, none⟩ y) :=
  ⟨v, rfl, row_low (ownsRow_setCell_below (ownsRow_setCell_below hown (by simp) _) (by simp) _) (by omega), (hbel.setCell (p := ⟨R, 0, none⟩) hR _).setCell (p := ⟨R, 1, none⟩) hR _⟩
/-- What PathOf answers. -/
def pahV (d : List Nat) (k : Int) : Int × List Int := if (pwV d k).1 = 0 then (0, pthV (pwV d k).2 k.toNat) else ((pwV d k).1, [])
theorem psV_few {d : List Nat} (h : (psV d).1 = 0) : Few (psV d).2 := by
  unfold psV at h ⊢
  split at h
  · cases h
  · rename_i h4
    rw [if_neg h4]
    exact parts_few d (by omega)
set_option maxHeartbeats 3200000 in
set_option maxRecDepth 100000 in
theorem pathOf_any {cpd : Nat} (b m : Nat) (d : List Nat) (k : Int) (w : World) (hr : Rd w (some ⟨b, 0, none⟩) d) (hT : TabC w) (hB : IsB d) (hl : d.length = m) (hcpd : m ≤ cpd := by omega) :
    Calls Tryz.prog 8 #[.slice (some ⟨b, 0, none⟩) m cpd, .int .i64 k] w (IntsEnd (pahV d k) w) := by
  have hb0 : Below w.heap.size w (w.alloc (.cells #[.int .i64 0, .slice none 0 0] 33)) := (Below.refl _ _).alloc (Nat.le_refl _) _
  have HP := partsWith_any b m d k _ (hr.below hb0) (hT.below hb0) hB hl
  have HZ : Hid ((pwV d k).1 ≠ 0 → pahV d k = ((pwV d k).1, [])) := fun h => if_neg h
  have HI : Hid ((pwV d k).1 = 0 → ∃ n : Nat, k = (n : Int) ∧ n < (pwV d k).2.length ∧ OkP d (pwV d k).2 ∧ Few (pwV d k).2 ∧ pahV d k = (0, pthV (pwV d k).2 n)) := fun h => by
    obtain ⟨e, n, h1, h2, h3⟩ := pwV_in h
    refine ⟨n, h1, by rw [e]; exact h2, by rw [e]; exact (psV_ok h3).2, by rw [e]; exact psV_few h3, ?_⟩
    unfold pahV
    rw [if_pos h, h1, Int.toNat_natCast]
  have hle : (pwV d k).2.length ≤ 8 := by
    unfold pwV
    split
    · simp
    · exact psV_le d
  generalize pahV d k = r at *
  generalize pwV d k = pw at *
  obtain ⟨c, l⟩ := pw
  obtain ⟨N, hN⟩ : ∃ N, l.length = N := ⟨_, rfl⟩
  dsimp only at HI HZ hle
  go_enter Tryz.func8, Tryz.ntmps8
  go_wp2_with fail
  refine HP.mono ?_
  rintro e w1 ⟨v, rfl, ho, hb1⟩
  dsimp only at ho
  obtain ⟨a, cp, hv, -, -⟩ := ho.form
  rw [hN] at hv
  subst hv
  have hbl : Below (w.heap.size + 1) (w.alloc (.cells #[.int .i64 0, .slice none 0 0] 33)) w1 := hb1.mono (by simp)
  have hbw := hb0.trans (hbl.mono (by omega))
  have hlt : w.heap.size < w1.heap.size := by have hz := hbl.size; rw [World.size_alloc] at hz; omega
  have hrd := ho.rd.2
  clear HP hb1 ho
  by_cases hc : c = 0
  · subst hc
    obtain ⟨n, rfl, hnl, hok, hfew, rfl⟩ := HI.out rfl
    obtain ⟨g, rfl, hglt, -⟩ := hrd.at_ (by omega)
    have hnN : (n : Int) < (N : Int) := by omega
    have hbA : Below w1.heap.size w1 (w1.alloc (.cells #[.int .i64 0, .slice (some ⟨g, 0, none⟩) N cp] 27)) := (Below.refl _ _).alloc (Nat.le_refl _) _
    have hblA := hbl.trans (hbA.mono (by omega))
    have hrdA := hrd.below hbA
    have hsA : (w1.alloc (.cells #[.int .i64 0, .slice (some ⟨g, 0, none⟩) N cp] 27)).heap.size = w1.heap.size + 1 := by simp
    have q1 : (w1.alloc (.cells #[.int .i64 0, .slice (some ⟨g, 0, none⟩) N cp] 27)).cell? ⟨w1.heap.size, 1, none⟩ = some (.slice (some ⟨g, 0, none⟩) N cp) := by simp
    have hfn := hfew n hnl
    have HR : Hid (RdP (w1.alloc (.cells #[.int .i64 0, .slice (some ⟨g, 0, none⟩) N cp] 27)) (some ⟨g, 0, none⟩) l) := hrdA
    clear HI HZ hbA hrd hrdA
    go_wp2
    generalize hWA : w1.alloc (.cells #[.int .i64 0, .slice (some ⟨g, 0, none⟩) N cp] 27) = WA at *
    go_loopw [6, 7] (fun v p wr => ∃ (j : Nat) (acc : List Int), j < N ∧ p = .pointer (some ⟨g, j * 7, none⟩) ∧ OwnI wr WA.heap.size v acc ∧ Hid (pthV l n = pthV l j ++ acc.reverse) ∧ Below WA.heap.size WA wr) (fun _ p _ => ptrOff p)
    case atStart => exact ⟨n, [], by omega, rfl, OwnI.nil _ _, by show _ = _; simp, Below.refl _ _⟩
    case round =>
      obtain ⟨j, acc, hj, rfl, hown, HV, hbel⟩ := hrel
      obtain ⟨g', hg', -, hcell⟩ := (RdP.below HR.out hbel).at_ (by omega)
      cases hg'
      obtain ⟨-, -, -, -, -, x5, x6⟩ := hcell j (by omega)
      obtain ⟨av, cv, hv, -, -⟩ := hown.form
      obtain ⟨A, hA⟩ : ∃ A, acc.length = A := ⟨_, rfl⟩
      rw [hA] at hv
      subst hv
      have hq1 : wr.cell? ⟨w1.heap.size, 1, none⟩ = some (.slice (some ⟨g, 0, none⟩) N cp) := (hbel.cell (p := ⟨w1.heap.size, 1, none⟩) (by show w1.heap.size < WA.heap.size; omega)).trans q1
      clear hcell
      rcases (hok j (by omega)).2 with ⟨hup, -⟩ | ⟨u, hup, hu⟩
      · have hv : pthV l j = [] := pthV_top (by omega)
        rw [hup] at x5
        have hrev : acc.reverse = pthV l n := by rw [HV.out, hv]; rfl
        have hal : acc.length ≤ 2 := by rw [← List.length_reverse, hrev]; exact hfn
        have HRv := reverse_any _ _ acc wr hown hal
        rw [hrev] at HRv
        clear HV hv hup
        go_wp2_with fail
        refine HRv.mono ?_
        rintro e w3 ⟨rfl, ho3, hgr⟩
        have hbg : Below WA.heap.size wr w3 := (Below.refl _ _).grown hgr hbel.size (fun q hq => (hown.lt q hq).1)
        have hbl3 := hblA.trans ((hbel.trans hbg).mono (by omega))
        have hbw3 := hb0.trans (hbl3.mono (by omega))
        obtain ⟨r0, r1, s0, s1⟩ := res_block rfl hbl3
        obtain ⟨k0, k1⟩ := res_at r0 r1 (.int .i64 0) (.slice av A cv)
        have ho4 : OwnI w3 (w.heap.size + 1) (.slice av A cv) (pthV l n) := row_low ho3 (by omega)
        have HE : Hid (_) := IntsEnd.at_ (c := 0) hbw3 (R := w.heap.size) (Nat.le_refl _) ho4 (.int .i64 0) (.slice av A cv)
        clear ho3 ho4 hgr HRv
        go_wp2
        refine bodyPost_ret (v := .agg #[.int .i64 0, .slice av A cv]) (by simp [results, Tryz.results8, go_sem, k0, k1]) rfl ?_
        exact HE.out
      · rw [hup] at x5
        have HS : Hid (pthV l n = pthV l u ++ (acc ++ [(nthP l j).2.2.2]).reverse) := by
          show _ = _
          rw [HV.out, pthV_step hok (by omega) hup hu, List.reverse_append, List.reverse_singleton, List.append_assoc]
        have hune : ((u : Int) != -1) = true := by simp
        have huN : (u : Int) < (N : Int) := by omega
        have hlen : acc.length ≤ 2 := by
          have h := congrArg List.length HV.out
          rw [List.length_append, List.length_reverse] at h
          omega
        generalize (nthP l j).2.2.2 = nu at *
        clear HV hup
        go_wp2_with (at_builtin; refine wpList_app_newI rfl _ _ rfl WA.heap.size _ acc rfl hown 1 1 [nu] rfl rfl rfl (by omega) hbel.size ?_; intro v' w3 hown' hb')
        have hbel3 := hbel.trans hb'
        have hgW : g < wr.heap.size := World.block_lt_of_cell? wr ⟨g, j * 7 + 5, none⟩ x5
        have y5 : w3.cell? ⟨g, j * 7 + 5, none⟩ = some (.int .i64 (u : Int)) := by
          obtain ⟨g', hg', -, hcell⟩ := (RdP.below HR.out hbel3).at_ (by omega)
          cases hg'
          obtain ⟨-, -, -, -, -, z5, -⟩ := hcell j (by omega)
          have z0 := (RdP.below HR.out hbel).at_ (by omega)
          obtain ⟨g', hg', -, hcell⟩ := z0
          cases hg'
          obtain ⟨-, -, -, -, -, t5, -⟩ := hcell j (by omega)
          rw [z5]; rw [t5] at x5; exact x5
        have y1 : w3.cell? ⟨w1.heap.size, 1, none⟩ = some (.slice (some ⟨g, 0, none⟩) N cp) := (hbel3.cell (p := ⟨w1.heap.size, 1, none⟩) (by show w1.heap.size < WA.heap.size; omega)).trans q1
        go_wp2_with fail
        go_quiet (fail)
        go_wp2
        go_roundw
        case rel => exact ⟨u, acc ++ [nu], by omega, rfl, hown', HS.out, hbel3.trans ⟨rfl, rfl, rfl, Nat.le_refl _, fun _ _ => rfl⟩⟩
        case measure => simp [ptrOff]; try omega
  · have hM : r = (c, []) := HZ.out hc
    subst hM
    have hc' : (c != 0) = true := by simpa using hc
    obtain ⟨a0, a1, z0, z1⟩ := res_block rfl hbl
    obtain ⟨k0', k1'⟩ := res_at a0 a1 (.int .i64 c) (.slice none 0 0)
    have HK : Hid (∀ ob : Obj, (((w1.setCell ⟨w.heap.size, 0, none⟩ (.int .i64 c)).setCell ⟨w.heap.size, 1, none⟩ (.slice none 0 0)).alloc ob).cell? ⟨w.heap.size, 0, none⟩ = some (.int .i64 c) ∧ (((w1.setCell ⟨w.heap.size, 0, none⟩ (.int .i64 c)).setCell ⟨w.heap.size, 1, none⟩ (.slice none 0 0)).alloc ob).cell? ⟨w.heap.size, 1, none⟩ = some (.slice none 0 0)) := fun ob => ⟨cellB k0', cellB k1'⟩
    obtain ⟨k0, k1⟩ := HK.out (.cells #[.int .i64 c, .slice a N cp] 27)
    have HE : Hid (∀ ob : Obj, IntsEnd (c, []) w (.returned (.agg #[.int .i64 c, .slice none 0 0])) (((w1.setCell ⟨w.heap.size, 0, none⟩ (.int .i64 c)).setCell ⟨w.heap.size, 1, none⟩ (.slice none 0 0)).alloc ob)) := fun ob =>
      ⟨_, rfl, OwnI.nil _ _, ((hbw.setCell (p := ⟨w.heap.size, 0, none⟩) (Nat.le_refl _) _).setCell (p := ⟨w.heap.size, 1, none⟩) (Nat.le_refl _) _).alloc (by simp; omega) _⟩
    clear HI HZ HK k0' k1'
    go_wp2
    refine bodyPost_ret (v := .agg #[.int .i64 c, .slice none 0 0]) (by simp [results, Tryz.results8, go_sem, k0, k1]) rfl ?_
    exact HE.out _

end Go.Proofs.YtaefomiofoakhaaGreatDoor
