/- A path has at most two numbers · What a face sees, or the code of what it cannot see: the deferred catch, and see over bytes and over numbers · The path of a part, the model's: l5Path · slices.Reverse over at most two numbers · Each helper of the laws over slices of bytes does what its text says: it copies one, and holds two against each other; slices of at most 1048576 bytes · The inner functions of chapter 6 that see a code, or a copy. -/
import Derived.Test.YtaefomiofoakhaaGreatDoorRdp0ToPth
import Derived.Test.YtaefomiofoakhaaGreatDoorAppToMemF
import Derived.Test.YtaefomiofoakhaaGreatDoorAppIToMemQ
import Derived.Test.YtaefomiofoakhaaGreatDoorAppFToHdr
import Derived.Defers
import Derived.Recover
import Derived.Laws.Pointers
import Derived.Handy
import Derived.Deep.RegionHeld3
import Derived.RegionTactic
import Derived.Test.YtaefomiofoakhaaGreatDoorJfzToInf
import Derived.Test.YtaefomiofoakhaaGreatDoorHdr2ToHdr5
import Derived.Laws.CopyOwn
namespace Go.Proofs.YtaefomiofoakhaaGreatDoor
open Go.RowKit

theorem OkP.left {d : List Nat} {a b : List PtP} (h : OkP d (a ++ b)) : OkP d a := fun i hi => by
  have := h i (by rw [List.length_append]; omega)
  rw [nthP_left hi] at this
  exact this
theorem pthF_left {a b : List PtP} {d : List Nat} (h : OkP d a) : ∀ (f k : Nat), k < a.length → pthF (a ++ b) f k = pthF a f k
  | 0, _, _ => rfl
  | f + 1, k, hk => by
    simp only [pthF]
    rw [nthP_left hk]
    split
    · rfl
    · rename_i hn
      rcases (h k hk).2 with ⟨e, _⟩ | ⟨u, e, hu⟩
      · rw [e] at hn; omega
      · rw [e, Int.toNat_natCast, pthF_left h f u (by omega)]
theorem pthV_left {a b : List PtP} {d : List Nat} (h : OkP d a) {k : Nat} (hk : k < a.length) : pthV (a ++ b) k = pthV a k := pthF_left h _ _ hk
/-- Each path has at most two numbers. -/
def Few (l : List PtP) : Prop := ∀ i, i < l.length → (pthV l i).length ≤ 2
theorem few_snoc {d : List Nat} {l : List PtP} {p : PtP} {D : Nat} (hok : OkP d (l ++ [p])) (h : Few l) (hu : p.2.2.1 = -1 ∨ ∃ q : Nat, p.2.2.1 = (q : Int) ∧ q < l.length ∧ (pthV l q).length + 1 + D ≤ 2) : Few (l ++ [p]) ∧ (pthV (l ++ [p]) l.length).length + D ≤ 2 + (if p.2.2.1 = -1 then D else 0) := by
  have hlast : (pthV (l ++ [p]) l.length).length ≤ 2 ∧ (pthV (l ++ [p]) l.length).length + D ≤ 2 + (if p.2.2.1 = -1 then D else 0) := by
    rcases hu with hu | ⟨q, hu, hq, hl⟩
    · have e : pthV (l ++ [p]) l.length = [] := pthV_top (by rw [nthP_last, hu]; decide)
      rw [e, if_pos hu]; simp
    · have e : pthV (l ++ [p]) l.length = pthV (l ++ [p]) q ++ [(nthP (l ++ [p]) l.length).2.2.2] := pthV_step hok (by simp) (by rw [nthP_last]; exact hu) hq
      rw [e, pthV_left hok.left hq, List.length_append, List.length_singleton, if_neg (by omega)]
      omega
  refine ⟨fun i hi => ?_, hlast.2⟩
  rw [List.length_append, List.length_singleton] at hi
  rcases Nat.lt_or_ge i l.length with hlt | hge
  · rw [pthV_left hok.left hlt]; exact h i hlt
  · have e : i = l.length := by omega
    subst e; exact hlast.1
/-- What is held of parts while they are added below one that stands at n. -/
def FewAt (d : List Nat) (l : List PtP) (n D : Nat) : Prop := OkP d l ∧ Few l ∧ n < l.length ∧ (pthV l n).length + 1 + D ≤ 2
theorem adL_few {d : List Nat} {F : Nat → Nat → Int → Int → List PtP → List PtP} {b L n D : Nat} (hL : L + b ≤ d.length)
    (hF : ∀ (x y : Nat) (nu : Int) (acc : List PtP), x ≤ y → y ≤ d.length → FewAt d acc n D → ∃ more, F x y (n : Int) nu acc = acc ++ more ∧ FewAt d (F x y (n : Int) nu acc) n D) :
    ∀ (l : List RngP) (i : Nat) (acc : List PtP), (∀ s ∈ l, InL L s) → FewAt d acc n D → ∃ more, adL F b (n : Int) l i acc = acc ++ more ∧ FewAt d (adL F b (n : Int) l i acc) n D
  | [], _, acc, _, h => ⟨[], by rw [List.append_nil]; rfl, h⟩
  | s :: r, i, acc, hs, h => by
    obtain ⟨x, y, e, h1, h2⟩ := hs s List.mem_cons_self
    subst e
    obtain ⟨m1, k1, k2⟩ := hF (((x : Int)).toNat + b) (((y : Int)).toNat + b) ((i + 1 : Nat) : Int) acc (by omega) (by omega) h
    obtain ⟨m2, k3, k4⟩ := adL_few hL hF r (i + 1) _ (fun s h => hs s (List.mem_cons_of_mem _ h)) k2
    refine ⟨m1 ++ m2, ?_, k4⟩
    rw [← List.append_assoc, ← k1]; exact k3
theorem FewAt.more {d : List Nat} {l more : List PtP} {n D : Nat} (h : FewAt d l n D) (hok : OkP d (l ++ more)) (hf : Few (l ++ more)) : FewAt d (l ++ more) n D :=
  ⟨hok, hf, by rw [List.length_append]; have := h.2.2.1; omega, by rw [pthV_left h.1 h.2.2.1]; exact h.2.2.2⟩
/-- Adding parts keeps it. -/
theorem adV_few (d : List Nat) (hd : d.length ≤ 1048576) : ∀ (D fr tt : Nat) (u nu : Int) (acc : List PtP), fr ≤ tt → tt ≤ d.length → OkP d acc → Few acc → (u = -1 ∧ acc = [] ∧ D ≤ 2 ∨ ∃ q : Nat, u = (q : Int) ∧ q < acc.length ∧ (pthV acc q).length + 1 + D ≤ 2) →
    ∃ more, adV d D fr tt u nu acc = acc ++ more ∧ OkP d (adV d D fr tt u nu acc) ∧ Few (adV d D fr tt u nu acc)
  | D, fr, tt, u, nu, acc, h1, h2, h3, hf, h4 => by
    have h4' : u = -1 ∧ acc = [] ∨ ∃ q : Nat, u = (q : Int) ∧ q < acc.length := by
      rcases h4 with ⟨a, b, _⟩ | ⟨q, a, b, _⟩
      · exact .inl ⟨a, b⟩
      · exact .inr ⟨q, a, b⟩
    by_cases h8 : acc.length = 8
    · rw [adV_full h8]; exact ⟨[], by rw [List.append_nil], h3, hf⟩
    · have hs : OkP d (acc ++ [ptN d fr tt u nu]) := h3.snoc (ptN_in h1 h2) h4'
      have hpu : (ptN d fr tt u nu).2.2.1 = u := rfl
      obtain ⟨hfs, hlast⟩ := few_snoc (D := D) hs hf (by
        rw [hpu]
        rcases h4 with ⟨a, _, _⟩ | ⟨q, a, b, c⟩
        · exact .inl a
        · exact .inr ⟨q, a, b, c⟩)
      by_cases hm : (oneV (cutN d fr tt)).2.2 = []
      · rw [adV_leaf h8 hm]
        exact ⟨_, rfl, hs, hfs⟩
      · cases D with
        | zero => rw [adV_zero h8]; exact ⟨_, rfl, hs, hfs⟩
        | succ D =>
          have hcl : (cutN d fr tt).length = tt - fr := by unfold cutN; rw [List.length_drop, List.length_take]; omega
          have hat : (oneV (cutN d fr tt)).2.1 ≤ tt - fr := hcl ▸ oneV_at (cutN d fr tt)
          have hD2 : (pthV (acc ++ [ptN d fr tt u nu]) acc.length).length + 1 + D ≤ 2 := by
            rcases h4 with ⟨a, b, c⟩ | ⟨q, a, b, c⟩
            · have e : pthV (acc ++ [ptN d fr tt u nu]) acc.length = [] := pthV_top (by rw [nthP_last, hpu, a]; decide)
              rw [e]; simp; omega
            · rw [hpu, if_neg (by omega)] at hlast; omega
          rw [adV_in h8 hm]
          generalize (oneV (cutN d fr tt)).2.1 = at0 at *
          have hcl2 : (cutN d (fr + at0) tt).length = tt - (fr + at0) := by unfold cutN; rw [List.length_drop, List.length_take]; omega
          obtain ⟨more, k1, k2⟩ := adL_few (F := adV d D) (b := fr + at0) (L := (cutN d (fr + at0) tt).length) (n := acc.length) (D := D) (by omega) (fun x y nu acc' a b c => by
            obtain ⟨more, e1, e2, e3⟩ := adV_few d hd D x y _ nu acc' a b c.1 c.2.1 (.inr ⟨_, rfl, c.2.2.1, c.2.2.2⟩)
            refine ⟨more, e1, ?_⟩
            rw [e1] at e2 e3 ⊢
            exact c.more e2 e3) _ 0 (acc ++ [ptN d fr tt u nu]) (spL_in _ _ _ (by omega)) ⟨hs, hfs, by simp, hD2⟩
          exact ⟨[ptN d fr tt u nu] ++ more, by rw [k1, List.append_assoc], k2.1, k2.2.1⟩
theorem parts_few (d : List Nat) (hd : d.length ≤ 400) : Few (adV d 2 0 d.length (-1) 0 []) := by
  obtain ⟨_, _, _, h⟩ := adV_few d (by omega) 2 0 d.length (-1) 0 [] (Nat.zero_le _) (Nat.le_refl _) (OkP.nil d) (fun i hi => by simp at hi) (.inl ⟨rfl, rfl, Nat.le_refl _⟩)
  exact h
end Go.Proofs.YtaefomiofoakhaaGreatDoor

namespace Go.Proofs.YtaefomiofoakhaaGreatDoor
open Go.RowKit

theorem row_low {w : World} {B C e size n : Nat} {v : Value} {xs : List Value} (h : w.ownsRow B e size v n xs) (hC : C ≤ B) : w.ownsRow C e size v n xs := by
  refine ⟨h.1, ?_⟩
  rcases h.2 with h' | ⟨g, cap, cur, h1, h2, h3, h4⟩
  · exact .inl h'
  · exact .inr ⟨g, cap, cur, h1, by omega, h3, h4⟩

end Go.Proofs.YtaefomiofoakhaaGreatDoor

namespace Go.Proofs.YtaefomiofoakhaaGreatDoor
open Go.RowKit

end Go.Proofs.YtaefomiofoakhaaGreatDoor

namespace Go.Proofs.YtaefomiofoakhaaGreatDoor
open Go.RowKit

set_option maxHeartbeats 3200000 in
set_option maxRecDepth 100000 in
theorem reverse_two (g cap B : Nat) (x y : Int) (w : World) (hown : OwnI w B (.slice (some ⟨g, 0, none⟩) 2 cap) [x, y]) :
    Calls Tryz.prog 18 #[.slice (some ⟨g, 0, none⟩) 2 cap] w fun e w' => e = .returned (.tuple #[]) ∧ OwnI w' B (.slice (some ⟨g, 0, none⟩) 2 cap) [y, x] ∧ w.grownBy w' (some g) := by
  have ho : w.ownsRow B 2 1 (.slice (some ⟨g, 0, none⟩) 2 cap) 2 [.int .i64 x, .int .i64 y] := hown
  have c0 : w.cell? ⟨g, 0, none⟩ = some (.int .i64 x) := ho.cellAt 0 (by omega)
  have c1 : w.cell? ⟨g, 1, none⟩ = some (.int .i64 y) := ho.cellAt 1 (by omega)
  have f0 := ho.frozenAt 0
  have f1 := ho.frozenAt 1
  go_enter Tryz.func18, Tryz.ntmps18
  go_wp2
  go_loopw [2, 3] (fun i j wr => (i = .int .i64 0 ∧ j = .int .i64 1 ∧ wr = w) ∨ (i = .int .i64 1 ∧ j = .int .i64 0 ∧ OwnI wr B (.slice (some ⟨g, 0, none⟩) 2 cap) [y, x] ∧ w.grownBy wr (some g))) (fun i _ _ => 2 - (intOf i).toNat)
  case atStart => exact .inl ⟨rfl, rfl, rfl⟩
  case round =>
    rcases hrel with ⟨rfl, rfl, rfl⟩ | ⟨rfl, rfl, h1, h2⟩
    · go_wp2_with fail
      go_region
      obtain ⟨o1, g1⟩ := ho.stored 0 (.int .i64 y)
      obtain ⟨o2, g2⟩ := o1.stored 1 (.int .i64 x)
      have hO : Hid (OwnI (((wr.setCell ⟨g, 0, none⟩ (.int .i64 y)).setCell ⟨g, 1, none⟩ (.int .i64 x)).drew) B (.slice (some ⟨g, 0, none⟩) 2 cap) [y, x] ∧ wr.grownBy (((wr.setCell ⟨g, 0, none⟩ (.int .i64 y)).setCell ⟨g, 1, none⟩ (.int .i64 x)).drew) (some g)) := ⟨o2, let h := grow_then g1 g2; ⟨h.os, h.tape, h.output, h.size, h.block⟩⟩
      clear o1 g1 o2 g2 ho hown
      go_wp2
      go_roundw
      case rel => exact .inr ⟨rfl, rfl, hO.out.1, hO.out.2⟩
      case measure => simp [intOf]
    · go_wp2
      go_end0
      exact ⟨rfl, h1, h2⟩

set_option maxHeartbeats 1600000 in
set_option maxRecDepth 100000 in
theorem reverse_few (a : Option Addr) (n cap : Nat) (w : World) (hn : n ≤ 1) :
    Calls Tryz.prog 18 #[.slice a n cap] w fun e w' => e = .returned (.tuple #[]) ∧ w = w' := by
  have hni : ¬ (0 : Int) < (n : Int) - 1 := by omega
  go_enter Tryz.func18, Tryz.ntmps18
  go_wp2
  go_loop [2, 3] (fun i j => i = .int .i64 0 ∧ j = .int .i64 ((n : Int) - 1)) (fun _ _ => 0)
  case atStart => exact ⟨rfl, rfl⟩
  case round =>
    obtain ⟨rfl, rfl⟩ := hrel
    go_wp2
    go_end0
    exact ⟨rfl, rfl⟩
/-- slices.Reverse over at most two numbers of the call's own. -/
theorem reverse_any (v : Value) (B : Nat) (l : List Int) (w : World) (hown : OwnI w B v l) (hl : l.length ≤ 2) :
    Calls Tryz.prog 18 #[v] w fun e w' => e = .returned (.tuple #[]) ∧ OwnI w' B v l.reverse ∧ w.grownBy w' v.ownBlock := by
  match l, hl, hown with
  | [], _, hown =>
    obtain ⟨a, cp, hv, -, -⟩ := hown.form
    subst hv
    refine (reverse_few a 0 cp w (by omega)).mono ?_
    rintro e w' ⟨rfl, rfl⟩
    exact ⟨rfl, hown, World.grownBy.refl _ _⟩
  | [x], _, hown =>
    obtain ⟨a, cp, hv, -, -⟩ := hown.form
    subst hv
    refine (reverse_few a 1 cp w (by omega)).mono ?_
    rintro e w' ⟨rfl, rfl⟩
    exact ⟨rfl, hown, World.grownBy.refl _ _⟩
  | [x, y], _, hown =>
    rcases hown.2 with ⟨_, h1⟩ | ⟨g, cap, cur, h1, _⟩
    · simp at h1
    · subst h1
      exact reverse_two g cap B x y w hown
end Go.Proofs.YtaefomiofoakhaaGreatDoor

namespace Go.Proofs.YtaefomiofoakhaaGreatDoor
open Go.RowKit

end Go.Proofs.YtaefomiofoakhaaGreatDoor

namespace Go.Proofs.YtaefomiofoakhaaGreatDoor
open Go.RowKit

end Go.Proofs.YtaefomiofoakhaaGreatDoor
