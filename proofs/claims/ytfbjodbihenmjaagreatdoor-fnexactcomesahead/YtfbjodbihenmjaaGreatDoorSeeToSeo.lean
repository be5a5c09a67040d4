/- What a face sees, or the code of what it cannot see: the deferred catch, and see over bytes and over numbers · The inner functions of chapter 6 that see a code, or a copy · What a face answers: seen, or with a code. -/
import Derived.Test.YtfbjodbihenmjaaGreatDoorAppToMemF
import Derived.Test.YtfbjodbihenmjaaGreatDoorAppIToChs2
import Derived.Test.YtfbjodbihenmjaaGreatDoorAppFToChs0
import Derived.Defers
import Derived.Recover
import Derived.Laws.Pointers
import Derived.Handy
import Derived.Test.YtfbjodbihenmjaaGreatDoorHdr2ToHdr5
import Derived.Test.YtfbjodbihenmjaaGreatDoorBytToEncQ
import Derived.Laws.CopyOwn
namespace Go.Proofs.YtfbjodbihenmjaaGreatDoor
open Go.RowKit

theorem row_low {w : World} {B C e size n : Nat} {v : Value} {xs : List Value} (h : w.ownsRow B e size v n xs) (hC : C ≤ B) : w.ownsRow C e size v n xs := by
  refine ⟨h.1, ?_⟩
  rcases h.2 with h' | ⟨g, cap, cur, h1, h2, h3, h4⟩
  · exact .inl h'
  · exact .inr ⟨g, cap, cur, h1, by omega, h3, h4⟩

theorem catchI_panic (p : Addr) (x c : Int) (older : List PanicEntry) (w : World) (hc : w.cell? p = some (.int .i64 x)) (hz : w.frozen? p = false) :
    CallsD Tryz.prog 66 #[.pointer (some p)] (.panicking ({ v := .iface 93 (.int .i64 c), recovered := false } :: older)) w fun e u' w' =>
      e = .returned (.tuple #[]) ∧ u' = .panicking ({ v := .iface 93 (.int .i64 c), recovered := true } :: older) ∧ w' = w.setCell p (.int .i64 c) := by
  have hne : ∀ (v : Value) (w : World), (binOp BinOp.neq 20 (.iface 93 v) .nilIface).run Tryz.prog w = .ok (.bool true) w := fun _ _ => by kernel_rfl
  have hta : ∀ (v : Value) (w : World), (Instr.typeAssert (.iface 93 v) 20 93 false).run Tryz.prog w = .ok v w := fun _ _ => by kernel_rfl
  refine callsD_of_wpS Tryz.func66 rfl fun c₀ cs hu => ?_
  apply wpS_seq
  apply wpS_region
  simp [wpOpsS, go_sem, recoverD, hu, Tryz.ntmps66, Exit.thenS]
  apply wpS_seq
  apply wpS_region
  simp [wpOpsS, go_sem, Exit.thenS, hne]
  refine wpS_cond (t := true) (by simp [Act.eval, Array.replicate]) ?_
  simp only [if_true]
  apply wpS_region
  simp [wpOpsS, go_sem, hc, hz, hta, bodyPostS, results, Tryz.results66]

theorem catchI_idle (p : Addr) (w : World) :
    CallsD Tryz.prog 66 #[.pointer (some p)] .returning w fun e u' w' => e = .returned (.tuple #[]) ∧ u' = .returning ∧ w' = w := by
  have hne : ∀ (w : World), (binOp BinOp.neq 20 .nilIface .nilIface).run Tryz.prog w = .ok (.bool false) w := fun _ => by kernel_rfl
  refine callsD_of_wpS Tryz.func66 rfl fun c₀ cs hu => ?_
  apply wpS_seq
  apply wpS_region
  simp [wpOpsS, go_sem, recoverD, hu, Tryz.ntmps66, Exit.thenS]
  apply wpS_seq
  apply wpS_region
  simp [wpOpsS, go_sem, Exit.thenS, hne]
  refine wpS_cond (t := false) (by simp [Act.eval, Array.replicate]) ?_
  simp only [Bool.false_eq_true, if_false]
  refine wpS_of_wp (wp_skip ?_)
  cases c₀
  simp_all [bodyPostS, results, Tryz.results66]

/-- WHAT A LOOK SEES is answered with the code 0. -/
theorem seeI_ok (G : Nat) (caps : Array Value) (l : List Int) (w : World) (hG : ∀ (args : Array Value) (w : World), (callFunc G args).run Tryz.prog w = .ok (.enter G args) w)
    (h : Calls Tryz.prog G caps (w.alloc (.cells #[.int .i64 0] 2)) fun e w' => ∃ v, e = .returned v ∧ OwnI w' (w.heap.size + 1) v l ∧ Below (w.heap.size + 1) (w.alloc (.cells #[.int .i64 0] 2)) w') :
    Calls Tryz.prog 51 #[.func (.func G) #[] caps] w fun e w' => ∃ v, e = .returned (.tuple #[v, .int .i64 0]) ∧ OwnI w' w.heap.size v l ∧ Below w.heap.size w w' := by
  have hmf : ∀ (fn : Fn) (first cap : Array Value) (w : World), (Instr.makeFunc fn first cap).run Tryz.prog w = .ok (.func fn first cap) w := fun _ _ _ _ => rfl


  go_enter_defers Tryz.func51, Tryz.ntmps51
  go_wp2_with fail
  refine h.mono ?_
  rintro e w1 ⟨v, rfl, ho, hb⟩
  have hz := hb.size
  rw [World.size_alloc] at hz
  have h0 : w1.heap[w.heap.size]? = some (.cells #[.int .i64 0] 2 (0, 0)) := (hb.block w.heap.size (by omega)).trans (heap_alloc_new w _)
  have c0 : w1.cell? ⟨w.heap.size, 0, none⟩ = some (.int .i64 0) := by simp [World.cell?, h0]
  have z0 : w1.frozen? ⟨w.heap.size, 0, none⟩ = false := by simp [World.frozen?, h0]
  have HE : Hid (OwnI (w1.setCell ⟨w.heap.size, 0, none⟩ (.int .i64 0)) w.heap.size v l ∧ Below w.heap.size w (w1.setCell ⟨w.heap.size, 0, none⟩ (.int .i64 0))) :=
    ⟨row_low (ownsRow_setCell_below ho (by simp) _) (by omega), (((Below.refl _ _).alloc (Nat.le_refl _) _).trans (hb.mono (by omega))).setCell (p := ⟨w.heap.size, 0, none⟩) (Nat.le_refl _) _⟩
  have c1 : (w1.setCell ⟨w.heap.size, 0, none⟩ (.int .i64 0)).cell? ⟨w.heap.size, 0, none⟩ = some (.int .i64 0) := by simp [World.cell?_setCell_same, c0]
  clear ho hb h h0
  go_wp2
  refine leaves_cons (f := 66) (args := #[.pointer (some ⟨w.heap.size, 0, none⟩)]) (by simp) (by simp [go_sem]) ?_
  refine (catchI_idle ⟨w.heap.size, 0, none⟩ _).mono ?_
  rintro e u' w'' ⟨rfl, rfl, rfl⟩
  simp [Leaves, settle, results, Tryz.results51, go_sem, c1]
  exact HE.out

/-- WHAT A LOOK CANNOT SEE is answered with its code. -/
theorem seeI_bad (G : Nat) (caps : Array Value) (c : Int) (w : World) (hG : ∀ (args : Array Value) (w : World), (callFunc G args).run Tryz.prog w = .ok (.enter G args) w)
    (h : Calls Tryz.prog G caps (w.alloc (.cells #[.int .i64 0] 2)) fun e w' => e = .panicked [{ v := .iface 93 (.int .i64 c), recovered := false }] ∧ Below (w.heap.size + 1) (w.alloc (.cells #[.int .i64 0] 2)) w') :
    Calls Tryz.prog 51 #[.func (.func G) #[] caps] w fun e w' => e = .returned (.tuple #[.slice none 0 0, .int .i64 c]) ∧ Below w.heap.size w w' := by
  have hmf : ∀ (fn : Fn) (first cap : Array Value) (w : World), (Instr.makeFunc fn first cap).run Tryz.prog w = .ok (.func fn first cap) w := fun _ _ _ _ => rfl


  go_enter_defers Tryz.func51, Tryz.ntmps51
  go_wp2_with fail
  refine h.mono ?_
  rintro e w1 ⟨rfl, hb⟩
  have hz := hb.size
  rw [World.size_alloc] at hz
  have h0 : w1.heap[w.heap.size]? = some (.cells #[.int .i64 0] 2 (0, 0)) := (hb.block w.heap.size (by omega)).trans (heap_alloc_new w _)
  have c0 : w1.cell? ⟨w.heap.size, 0, none⟩ = some (.int .i64 0) := by simp [World.cell?, h0]
  have z0 : w1.frozen? ⟨w.heap.size, 0, none⟩ = false := by simp [World.frozen?, h0]
  have HE : Hid (Below w.heap.size w (w1.setCell ⟨w.heap.size, 0, none⟩ (.int .i64 c))) := (((Below.refl _ _).alloc (Nat.le_refl _) _).trans (hb.mono (by omega))).setCell (p := ⟨w.heap.size, 0, none⟩) (Nat.le_refl _) _
  have c1 : (w1.setCell ⟨w.heap.size, 0, none⟩ (.int .i64 c)).cell? ⟨w.heap.size, 0, none⟩ = some (.int .i64 c) := by simp [World.cell?_setCell_same, c0]
  clear hb h h0
  refine leaves_cons (f := 66) (args := #[.pointer (some ⟨w.heap.size, 0, none⟩)]) (by simp) (by simp [go_sem]) ?_
  refine (catchI_panic ⟨w.heap.size, 0, none⟩ 0 c [] _ c0 z0).mono ?_
  rintro e u' w'' ⟨rfl, rfl, rfl⟩
  simp [Leaves, settle, results, Tryz.results51, go_sem, c1]
  exact HE.out
end Go.Proofs.YtfbjodbihenmjaaGreatDoor

namespace Go.Proofs.YtfbjodbihenmjaaGreatDoor
open Go.RowKit

theorem mustSee_ok (w : World) : Calls Tryz.prog 69 #[.int .i64 0] w fun e w' => e = .returned (.tuple #[]) ∧ w = w' := by
  go_enter Tryz.func69, Tryz.ntmps69
  go_wp2
  go_end0
  exact ⟨rfl, rfl⟩
theorem mustSee_bad (c : Int) (hc : c ≠ 0) (w : World) : Calls Tryz.prog 69 #[.int .i64 c] w fun e w' => e = .panicked [{ v := .iface 93 (.int .i64 c), recovered := false }] ∧ w = w' := by
  have h1 : (c != 0) = true := by simpa using hc
  go_enter Tryz.func69, Tryz.ntmps69
  go_wp2
  exact ⟨rfl, rfl, rfl⟩
theorem codesIn_ok (a : Option Addr) (n cp : Nat) (w : World) : Calls Tryz.prog 70 #[.agg #[.int .i64 0, .slice a n cp]] w fun e w' => e = .returned (.slice a n cp) ∧ Below w.heap.size w w' := by
  go_enter Tryz.func70, Tryz.ntmps70
  go_wp2_with fail
  refine (mustSee_ok _).mono ?_
  rintro e w1 ⟨rfl, rfl⟩
  go_wp2
  go_ret
  exact ⟨rfl, by go_grown⟩
theorem codesIn_bad (c : Int) (hc : c ≠ 0) (a : Option Addr) (n cp : Nat) (w : World) : Calls Tryz.prog 70 #[.agg #[.int .i64 c, .slice a n cp]] w fun e w' => e = .panicked [{ v := .iface 93 (.int .i64 c), recovered := false }] ∧ Below w.heap.size w w' := by
  go_enter Tryz.func70, Tryz.ntmps70
  go_wp2_with fail
  refine (mustSee_bad c hc _).mono ?_
  rintro e w1 ⟨rfl, rfl⟩
  exact ⟨rfl, rfl, by go_grown⟩
/-- Bytes that are seen, or a code that is thrown. -/
def SeeB (r : Int × List Nat) (w : World) (e : Ending) (w' : World) : Prop := ((r.1 = 0 ∧ ∃ v, e = .returned v ∧ Own w' w.heap.size v r.2) ∨ (r.1 ≠ 0 ∧ e = .panicked [{ v := .iface 93 (.int .i64 r.1), recovered := false }])) ∧ Below w.heap.size w w'
/-- Numbers that are seen, or a code that is thrown. -/
def SeeI (r : Int × List Int) (w : World) (e : Ending) (w' : World) : Prop := ((r.1 = 0 ∧ ∃ v, e = .returned v ∧ OwnI w' w.heap.size v r.2) ∨ (r.1 ≠ 0 ∧ e = .panicked [{ v := .iface 93 (.int .i64 r.1), recovered := false }])) ∧ Below w.heap.size w w'

theorem row_of {w : World} {B e g n : Nat} {xs : List Value} (h : w.ownsRow B e 1 (.slice (some ⟨g, 0, none⟩) n n) n xs) : ∃ cur : List Value, w.heap[g]? = some (.cells cur.toArray e (0, 0)) ∧ cur.length = n := by
  rcases h.2 with ⟨h', _⟩ | ⟨g', cap, cur, h1, _, h3, _, _, h6, _⟩
  · cases h'
  · injection h1 with h1 _ h2
    injection h1 with h1
    injection h1 with h1
    subst h1 h2
    exact ⟨cur.toList, by simpa using h3, by simpa using h6⟩

end Go.Proofs.YtfbjodbihenmjaaGreatDoor

namespace Go.Proofs.YtfbjodbihenmjaaGreatDoor
open Go.RowKit

theorem seeI_of (G : Nat) (caps : Array Value) (r : Int × List Int) (w : World) (hG : ∀ (args : Array Value) (w : World), (callFunc G args).run Tryz.prog w = .ok (.enter G args) w) (hz : r.1 ≠ 0 → r.2 = [])
    (h : Calls Tryz.prog G caps (w.alloc (.cells #[.int .i64 0] 2)) (SeeI r (w.alloc (.cells #[.int .i64 0] 2)))) :
    Calls Tryz.prog 51 #[.func (.func G) #[] caps] w fun e w' => ∃ v, e = .returned (.tuple #[v, .int .i64 r.1]) ∧ OwnI w' w.heap.size v r.2 ∧ Below w.heap.size w w' := by
  by_cases h0 : r.1 = 0
  · rw [h0]
    refine seeI_ok G caps r.2 w hG (h.mono ?_)
    rintro e w' ⟨⟨_, v, rfl, ho⟩ | ⟨h1, _⟩, hb⟩
    · rw [World.size_alloc] at ho hb
      exact ⟨v, rfl, ho, hb⟩
    · exact absurd h0 h1
  · rw [hz h0]
    refine (seeI_bad G caps r.1 w hG (h.mono ?_)).mono ?_
    · rintro e w' ⟨⟨h1, _⟩ | ⟨_, rfl⟩, hb⟩
      · exact absurd h1 h0
      · rw [World.size_alloc] at hb
        exact ⟨rfl, hb⟩
    · rintro e w' ⟨rfl, hb⟩
      exact ⟨_, rfl, OwnI.nil _ _, hb⟩
theorem BytEnd.at_ {c : Int} {w w1 : World} {v : Value} {l : List Nat} {R : Nat} (hbel : Below w.heap.size w w1) (hR : w.heap.size ≤ R) (hown : Own w1 (R + 1) v l) (x y : Value) : BytEnd (c, l) w (.returned (.agg #[.int .i64 c, v])) ((w1.setCell ⟨R, 0, none⟩ x).setCell ⟨R, 1, none⟩ y) :=
  ⟨v, rfl, row_low (ownsRow_setCell_below (ownsRow_setCell_below hown (by simp) _) (by simp) _) (by omega), (hbel.setCell (p := ⟨R, 0, none⟩) hR _).setCell (p := ⟨R, 1, none⟩) hR _⟩
theorem res_at {wr : World} {sz : Nat} {x0 x1 : Value} (h0 : wr.cell? ⟨sz, 0, none⟩ = some x0) (h1 : wr.cell? ⟨sz, 1, none⟩ = some x1) (c t : Value) :
    ((wr.setCell ⟨sz, 0, none⟩ c).setCell ⟨sz, 1, none⟩ t).cell? ⟨sz, 0, none⟩ = some c ∧ ((wr.setCell ⟨sz, 0, none⟩ c).setCell ⟨sz, 1, none⟩ t).cell? ⟨sz, 1, none⟩ = some t := by
  obtain ⟨q0, q1⟩ := res_cells h0 h1 c t
  exact ⟨by simp [go_sem, q0], q1⟩
theorem new_cell1 {W : World} {s : Nat} (h : W.heap.size = s) (v : Value) (t : TypeId) : (W.alloc (.cells #[v] t)).cell? ⟨s, 0, none⟩ = some v := by subst h; simp
theorem cellB {W : World} {o : Obj} {p : Addr} {v : Value} (h : W.cell? p = some v) : (W.alloc o).cell? p = some v := (((Below.refl _ W).alloc (Nat.le_refl _) o).cell (World.block_lt_of_cell? W _ h)).trans h
end Go.Proofs.YtfbjodbihenmjaaGreatDoor
