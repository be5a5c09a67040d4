/- What a face sees, or the code of what it cannot see: the deferred catch, and see over bytes and over numbers · The inner functions of chapter 6 that see a code, or a copy · What a face answers: seen, or with a code · SubjectOf, both sides. -/
import Derived.Test.YtfbjodbihenmjaaGreatDoorAppToChs0
import Derived.Test.YtfbjodbihenmjaaGreatDoorLowToChs2
import Derived.Defers
import Derived.Recover
import Derived.Laws.Pointers
import Derived.Handy
import Derived.Test.YtfbjodbihenmjaaGreatDoorHdr2ToHdr5
import Derived.Test.YtfbjodbihenmjaaGreatDoorBytToEncQ
import Derived.Laws.CopyOwn
import Derived.Test.YtfbjodbihenmjaaGreatDoorRdfToFdo
import Derived.Test.YtfbjodbihenmjaaGreatDoorHdr7ToShf
import Derived.Test.YtfbjodbihenmjaaGreatDoorFldToWPl
import Derived.Test.YtfbjodbihenmjaaGreatDoorWrd6ToWpv
namespace Go.Proofs.YtfbjodbihenmjaaGreatDoor
open Go.RowKit

theorem row_low {w : World} {B C e size n : Nat} {v : Value} {xs : List Value} (h : w.ownsRow B e size v n xs) (hC : C ≤ B) : w.ownsRow C e size v n xs := by
  refine ⟨h.1, ?_⟩
  rcases h.2 with h' | ⟨g, cap, cur, h1, h2, h3, h4⟩
  · exact .inl h'
  · exact .inr ⟨g, cap, cur, h1, by omega, h3, h4⟩

theorem catchI_panic (p : Addr) (x c : Int) (older : List PanicEntry) (w : World) (hc : w.cell? p = some (.int .i64 x)) (hz : w.frozen? p = false) :
    CallsD Tryz.prog 66 #[.pointer (some p)] (.panicking ({ v := .iface 93 (.int .i64 c), recovered := false } :: older)) w fun e u' w' =>
      e = .returned (.tuple #[]) ∧ u' = .panicking ({ v := .iface 93 (.int .i64 c), recovered := true } :: older) ∧ w' = w.setCell p (.int .i64 c) := by
  have hne : ∀ (v : Value) (w : World), (binOp BinOp.neq 20 (.iface 93 v) .nilIface).run Tryz.prog w = .ok (.bool true) w := fun _ _ => by kernel_rfl
  have hta : ∀ (v : Value) (w : World), (Instr.typeAssert (.iface 93 v) 20 93 false).run Tryz.prog w = .ok v w := fun _ _ => by kernel_rfl
  refine callsD_of_wpS Tryz.func66 rfl fun c₀ cs hu => ?_
  apply wpS_seq
  apply wpS_region
  simp [wpOpsS, go_sem, recoverD, hu, Tryz.ntmps66, Exit.thenS]
  apply wpS_seq
  apply wpS_region
  simp [wpOpsS, go_sem, Exit.thenS, hne]
  refine wpS_cond (t := true) (by simp [Act.eval, Array.replicate]) ?_
  simp only [if_true]
  apply wpS_region
  simp [wpOpsS, go_sem, hc, hz, hta, bodyPostS, results, Tryz.results66]

theorem catchI_idle (p : Addr) (w : World) :
    CallsD Tryz.prog 66 #[.pointer (some p)] .returning w fun e u' w' => e = .returned (.tuple #[]) ∧ u' = .returning ∧ w' = w := by
  have hne : ∀ (w : World), (binOp BinOp.neq 20 .nilIface .nilIface).run Tryz.prog w = .ok (.bool false) w := fun _ => by kernel_rfl
  refine callsD_of_wpS Tryz.func66 rfl fun c₀ cs hu => ?_
  apply wpS_seq
  apply wpS_region
  simp [wpOpsS, go_sem, recoverD, hu, Tryz.ntmps66, Exit.thenS]
  apply wpS_seq
  apply wpS_region
  simp [wpOpsS, go_sem, Exit.thenS, hne]
  refine wpS_cond (t := false) (by simp [Act.eval, Array.replicate]) ?_
  simp only [Bool.false_eq_true, if_false]
  refine wpS_of_wp (wp_skip ?_)
  cases c₀
  simp_all [bodyPostS, results, Tryz.results66]

/-- WHAT A LOOK SEES is answered with the code 0. -/
theorem seeI_ok (G : Nat) (caps : Array Value) (l : List Int) (w : World) (hG : ∀ (args : Array Value) (w : World), (callFunc G args).run Tryz.prog w = .ok (.enter G args) w)
    (h : Calls Tryz.prog G caps (w.alloc (.cells #[.int .i64 0] 2)) fun e w' => ∃ v, e = .returned v ∧ OwnI w' (w.heap.size + 1) v l ∧ Below (w.heap.size + 1) (w.alloc (.cells #[.int .i64 0] 2)) w') :
    Calls Tryz.prog 51 #[.func (.func G) #[] caps] w fun e w' => ∃ v, e = .returned (.tuple #[v, .int .i64 0]) ∧ OwnI w' w.heap.size v l ∧ Below w.heap.size w w' := by
  have hmf : ∀ (fn : Fn) (first cap : Array Value) (w : World), (Instr.makeFunc fn first cap).run Tryz.prog w = .ok (.func fn first cap) w := fun _ _ _ _ => rfl


  go_enter_defers Tryz.func51, Tryz.ntmps51
  go_wp2_with fail
  refine h.mono ?_
  rintro e w1 ⟨v, rfl, ho, hb⟩
  have hz := hb.size
  rw [World.size_alloc] at hz
  have h0 : w1.heap[w.heap.size]? = some (.cells #[.int .i64 0] 2 (0, 0)) := (hb.block w.heap.size (by omega)).trans (heap_alloc_new w _)
  have c0 : w1.cell? ⟨w.heap.size, 0, none⟩ = some (.int .i64 0) := by simp [World.cell?, h0]
  have z0 : w1.frozen? ⟨w.heap.size, 0, none⟩ = false := by simp [World.frozen?, h0]
  have HE : Hid (OwnI (w1.setCell ⟨w.heap.size, 0, none⟩ (.int .i64 0)) w.heap.size v l ∧ Below w.heap.size w (w1.setCell ⟨w.heap.size, 0, none⟩ (.int .i64 0))) :=
    ⟨row_low (ownsRow_setCell_below ho (by simp) _) (by omega), (((Below.refl _ _).alloc (Nat.le_refl _) _).trans (hb.mono (by omega))).setCell (p := ⟨w.heap.size, 0, none⟩) (Nat.le_refl _) _⟩
  have c1 : (w1.setCell ⟨w.heap.size, 0, none⟩ (.int .i64 0)).cell? ⟨w.heap.size, 0, none⟩ = some (.int .i64 0) := by simp [World.cell?_setCell_same, c0]
  clear ho hb h h0
  go_wp2
  refine leaves_cons (f := 66) (args := #[.pointer (some ⟨w.heap.size, 0, none⟩)]) (by simp) (by simp [go_sem]) ?_
  refine (catchI_idle ⟨w.heap.size, 0, none⟩ _).mono ?_
  rintro e u' w'' ⟨rfl, rfl, rfl⟩
  simp [Leaves, settle, results, Tryz.results51, go_sem, c1]
  exact HE.out

/-- WHAT A LOOK CANNOT SEE is answered with its code. -/
theorem seeI_bad (G : Nat) (caps : Array Value) (c : Int) (w : World) (hG : ∀ (args : Array Value) (w : World), (callFunc G args).run Tryz.prog w = .ok (.enter G args) w)
    (h : Calls Tryz.prog G caps (w.alloc (.cells #[.int .i64 0] 2)) fun e w' => e = .panicked [{ v := .iface 93 (.int .i64 c), recovered := false }] ∧ Below (w.heap.size + 1) (w.alloc (.cells #[.int .i64 0] 2)) w') :
    Calls Tryz.prog 51 #[.func (.func G) #[] caps] w fun e w' => e = .returned (.tuple #[.slice none 0 0, .int .i64 c]) ∧ Below w.heap.size w w' := by
  have hmf : ∀ (fn : Fn) (first cap : Array Value) (w : World), (Instr.makeFunc fn first cap).run Tryz.prog w = .ok (.func fn first cap) w := fun _ _ _ _ => rfl


  go_enter_defers Tryz.func51, Tryz.ntmps51
  go_wp2_with fail
  refine h.mono ?_
  rintro e w1 ⟨rfl, hb⟩
  have hz := hb.size
  rw [World.size_alloc] at hz
  have h0 : w1.heap[w.heap.size]? = some (.cells #[.int .i64 0] 2 (0, 0)) := (hb.block w.heap.size (by omega)).trans (heap_alloc_new w _)
  have c0 : w1.cell? ⟨w.heap.size, 0, none⟩ = some (.int .i64 0) := by simp [World.cell?, h0]
  have z0 : w1.frozen? ⟨w.heap.size, 0, none⟩ = false := by simp [World.frozen?, h0]
  have HE : Hid (Below w.heap.size w (w1.setCell ⟨w.heap.size, 0, none⟩ (.int .i64 c))) := (((Below.refl _ _).alloc (Nat.le_refl _) _).trans (hb.mono (by omega))).setCell (p := ⟨w.heap.size, 0, none⟩) (Nat.le_refl _) _
  have c1 : (w1.setCell ⟨w.heap.size, 0, none⟩ (.int .i64 c)).cell? ⟨w.heap.size, 0, none⟩ = some (.int .i64 c) := by simp [World.cell?_setCell_same, c0]
  clear hb h h0
  refine leaves_cons (f := 66) (args := #[.pointer (some ⟨w.heap.size, 0, none⟩)]) (by simp) (by simp [go_sem]) ?_
  refine (catchI_panic ⟨w.heap.size, 0, none⟩ 0 c [] _ c0 z0).mono ?_
  rintro e u' w'' ⟨rfl, rfl, rfl⟩
  simp [Leaves, settle, results, Tryz.results51, go_sem, c1]
  exact HE.out
end Go.Proofs.YtfbjodbihenmjaaGreatDoor

namespace Go.Proofs.YtfbjodbihenmjaaGreatDoor
open Go.RowKit

theorem mustSee_ok (w : World) : Calls Tryz.prog 69 #[.int .i64 0] w fun e w' => e = .returned (.tuple #[]) ∧ w = w' := by
  go_enter Tryz.func69, Tryz.ntmps69
  go_wp2
  go_end0
  exact ⟨rfl, rfl⟩
theorem mustSee_bad (c : Int) (hc : c ≠ 0) (w : World) : Calls Tryz.prog 69 #[.int .i64 c] w fun e w' => e = .panicked [{ v := .iface 93 (.int .i64 c), recovered := false }] ∧ w = w' := by
  have h1 : (c != 0) = true := by simpa using hc
  go_enter Tryz.func69, Tryz.ntmps69
  go_wp2
  exact ⟨rfl, rfl, rfl⟩
theorem codesIn_ok (a : Option Addr) (n cp : Nat) (w : World) : Calls Tryz.prog 70 #[.agg #[.int .i64 0, .slice a n cp]] w fun e w' => e = .returned (.slice a n cp) ∧ Below w.heap.size w w' := by
  go_enter Tryz.func70, Tryz.ntmps70
  go_wp2_with fail
  refine (mustSee_ok _).mono ?_
  rintro e w1 ⟨rfl, rfl⟩
  go_wp2
  go_ret
  exact ⟨rfl, by go_grown⟩
theorem codesIn_bad (c : Int) (hc : c ≠ 0) (a : Option Addr) (n cp : Nat) (w : World) : Calls Tryz.prog 70 #[.agg #[.int .i64 c, .slice a n cp]] w fun e w' => e = .panicked [{ v := .iface 93 (.int .i64 c), recovered := false }] ∧ Below w.heap.size w w' := by
  go_enter Tryz.func70, Tryz.ntmps70
  go_wp2_with fail
  refine (mustSee_bad c hc _).mono ?_
  rintro e w1 ⟨rfl, rfl⟩
  exact ⟨rfl, rfl, by go_grown⟩
/-- Bytes that are seen, or a code that is thrown. -/
def SeeB (r : Int × List Nat) (w : World) (e : Ending) (w' : World) : Prop := ((r.1 = 0 ∧ ∃ v, e = .returned v ∧ Own w' w.heap.size v r.2) ∨ (r.1 ≠ 0 ∧ e = .panicked [{ v := .iface 93 (.int .i64 r.1), recovered := false }])) ∧ Below w.heap.size w w'
/-- Numbers that are seen, or a code that is thrown. -/
def SeeI (r : Int × List Int) (w : World) (e : Ending) (w' : World) : Prop := ((r.1 = 0 ∧ ∃ v, e = .returned v ∧ OwnI w' w.heap.size v r.2) ∨ (r.1 ≠ 0 ∧ e = .panicked [{ v := .iface 93 (.int .i64 r.1), recovered := false }])) ∧ Below w.heap.size w w'

theorem row_of {w : World} {B e g n : Nat} {xs : List Value} (h : w.ownsRow B e 1 (.slice (some ⟨g, 0, none⟩) n n) n xs) : ∃ cur : List Value, w.heap[g]? = some (.cells cur.toArray e (0, 0)) ∧ cur.length = n := by
  rcases h.2 with ⟨h', _⟩ | ⟨g', cap, cur, h1, _, h3, _, _, h6, _⟩
  · cases h'
  · injection h1 with h1 _ h2
    injection h1 with h1
    injection h1 with h1
    subst h1 h2
    exact ⟨cur.toList, by simpa using h3, by simpa using h6⟩

end Go.Proofs.YtfbjodbihenmjaaGreatDoor

namespace Go.Proofs.YtfbjodbihenmjaaGreatDoor
open Go.RowKit

theorem seeI_of (G : Nat) (caps : Array Value) (r : Int × List Int) (w : World) (hG : ∀ (args : Array Value) (w : World), (callFunc G args).run Tryz.prog w = .ok (.enter G args) w) (hz : r.1 ≠ 0 → r.2 = [])
    (h : Calls Tryz.prog G caps (w.alloc (.cells #[.int .i64 0] 2)) (SeeI r (w.alloc (.cells #[.int .i64 0] 2)))) :
    Calls Tryz.prog 51 #[.func (.func G) #[] caps] w fun e w' => ∃ v, e = .returned (.tuple #[v, .int .i64 r.1]) ∧ OwnI w' w.heap.size v r.2 ∧ Below w.heap.size w w' := by
  by_cases h0 : r.1 = 0
  · rw [h0]
    refine seeI_ok G caps r.2 w hG (h.mono ?_)
    rintro e w' ⟨⟨_, v, rfl, ho⟩ | ⟨h1, _⟩, hb⟩
    · rw [World.size_alloc] at ho hb
      exact ⟨v, rfl, ho, hb⟩
    · exact absurd h0 h1
  · rw [hz h0]
    refine (seeI_bad G caps r.1 w hG (h.mono ?_)).mono ?_
    · rintro e w' ⟨⟨h1, _⟩ | ⟨_, rfl⟩, hb⟩
      · exact absurd h1 h0
      · rw [World.size_alloc] at hb
        exact ⟨rfl, hb⟩
    · rintro e w' ⟨rfl, hb⟩
      exact ⟨_, rfl, OwnI.nil _ _, hb⟩
theorem BytEnd.at_ {c : Int} {w w1 : World} {v : Value} {l : List Nat} {R : Nat} (hbel : Below w.heap.size w w1) (hR : w.heap.size ≤ R) (hown : Own w1 (R + 1) v l) (x y : Value) : BytEnd (c, l) w (.returned (.agg #[.int .i64 c, v])) ((w1.setCell ⟨R, 0, none⟩ x).setCell ⟨R, 1, none⟩ y) :=
  ⟨v, rfl, row_low (ownsRow_setCell_below (ownsRow_setCell_below hown (by simp) _) (by simp) _) (by omega), (hbel.setCell (p := ⟨R, 0, none⟩) hR _).setCell (p := ⟨R, 1, none⟩) hR _⟩
theorem res_at {wr : World} {sz : Nat} {x0 x1 : Value} (h0 : wr.cell? ⟨sz, 0, none⟩ = some x0) (h1 : wr.cell? ⟨sz, 1, none⟩ = some x1) (c t : Value) :
    ((wr.setCell ⟨sz, 0, none⟩ c).setCell ⟨sz, 1, none⟩ t).cell? ⟨sz, 0, none⟩ = some c ∧ ((wr.setCell ⟨sz, 0, none⟩ c).setCell ⟨sz, 1, none⟩ t).cell? ⟨sz, 1, none⟩ = some t := by
  obtain ⟨q0, q1⟩ := res_cells h0 h1 c t
  exact ⟨by simp [go_sem, q0], q1⟩
theorem new_cell1 {W : World} {s : Nat} (h : W.heap.size = s) (v : Value) (t : TypeId) : (W.alloc (.cells #[v] t)).cell? ⟨s, 0, none⟩ = some v := by subst h; simp
theorem cellB {W : World} {o : Obj} {p : Addr} {v : Value} (h : W.cell? p = some v) : (W.alloc o).cell? p = some v := (((Below.refl _ W).alloc (Nat.le_refl _) o).cell (World.block_lt_of_cell? W _ h)).trans h
end Go.Proofs.YtfbjodbihenmjaaGreatDoor

namespace Go.Proofs.YtfbjodbihenmjaaGreatDoor
open Go.RowKit

theorem CodEnd.on {c : Int} {w w1 : World} {v : Value} {l : List Int} {R : Nat} (hbel : Below w.heap.size w w1) (hR : w.heap.size ≤ R) (hown : OwnI w1 (R + 1) v l) (x y : Value) : CodEnd (c, l) w (.returned (.agg #[.int .i64 c, v])) ((w1.setCell ⟨R, 0, none⟩ x).setCell ⟨R, 1, none⟩ y) :=
  ⟨v, rfl, row_low (ownsRow_setCell_below (ownsRow_setCell_below hown (by simp) _) (by simp) _) (by omega), (hbel.setCell (p := ⟨R, 0, none⟩) hR _).setCell (p := ⟨R, 1, none⟩) hR _⟩

theorem fdOf_congrS {x y : ByteArray} (h : lowT x = lowT y) : ∀ l, fdOf l x = fdOf l y
  | [] => rfl
  | p :: r => by rw [fdOf, fdOf, h, fdOf_congrS h r]
theorem fdOf_fitS {nm v : ByteArray} : ∀ {l : List FldP}, Fit l → fdOf l nm = some v → v.size ≤ 1048576
  | [], _, h => by simp [fdOf] at h
  | p :: r, hf, h => by
    rw [fdOf] at h
    split at h
    · cases h; exact (hf p (by simp)).2
    · exact fdOf_fitS (fun q hq => hf q (by simp [hq])) h
theorem phF_allS (d : List Nat) : (phV d).1 = 0 → fdF (phV d).2.2 = 0 ∧ (phV d).2.1 ≤ d.length ∧ FitK d.length (phV d).2.2 := by
  intro h
  unfold phV at h ⊢
  split at h
  · simp at h
  · rename_i h4
    rw [if_neg h4]
    split at h
    · simp at h
    · rename_i fs k e
      have hq := prH_fit (d.length + 1) 0 [] fs k (Nat.zero_le _) ⟨Nat.le_refl _, fun p hp => by cases hp⟩ e
      split at h
      · rename_i hf
        rw [if_pos hf]; exact ⟨hf, hq.2, hq.1⟩
      · simp at h
/-- How the model's reading of a header ends, told by ParseHeader's answer. -/
def PhEndS (r : Int × Nat × List FldP) (w : World) (e : Ending) (w' : World) : Prop := Below w.heap.size w w' ∧ ∃ a n c k, e = .returned (.tuple #[.slice a n c, .int .i64 ((k : Nat) : Int), .bool (r.1 == 0)]) ∧ (r.1 = 0 → k = r.2.1 ∧ n = r.2.2.length ∧ OwnF w' w.heap.size (.slice a n c) r.2.2)
theorem l4Parse_phS (a : Option Addr) (n cap : Nat) (d : List Nat) (w : World) (hl : d.length = n) (hr : Rd w a d) (hB : IsB d) (hn : n ≤ 400) (hcap : n ≤ cap) : Calls Tryz.prog 72 #[.slice a n cap] w (PhEndS (phV d) w) := by
  refine (l4Parse_any a n cap d w hl hr hB (by omega) hcap).mono ?_
  rintro e w' ⟨hb, h⟩
  refine ⟨hb, ?_⟩
  cases ho : prH d (n + 1) 0 [] with
  | none =>
    rw [ho] at h
    rw [phV_none (by omega) (by rw [hl]; exact ho)]
    exact ⟨none, 0, 0, 0, h, fun e => by simp at e⟩
  | some q =>
    obtain ⟨fs, k⟩ := q
    rw [ho] at h
    obtain ⟨v, h1, h2⟩ := h
    obtain ⟨av, cv, rfl, -, -⟩ := h2.form
    by_cases hz : fdF fs = 0
    · rw [phV_ok (by omega) (by rw [hl]; exact ho) hz]
      rw [hz] at h1
      exact ⟨av, fs.length, cv, k, h1, fun _ => ⟨rfl, rfl, h2⟩⟩
    · rw [phV_bad (by omega) (by rw [hl]; exact ho) hz]
      have hz' : (fdF fs == 0) = false := beq_eq_false_iff_ne.2 hz
      rw [hz'] at h1
      exact ⟨av, fs.length, cv, k, h1, fun e => by simp at e⟩
/-- 'Subject', and in small letters. -/
def wSb : ByteArray := ⟨#[83, 117, 98, 106, 101, 99, 116]⟩
def wsb : ByteArray := ⟨#[115, 117, 98, 106, 101, 99, 116]⟩
theorem fdOf_sb (l : List FldP) : fdOf l wSb = fdOf l wsb := fdOf_congrS (by decide) l
/-- The subject that fields tell. -/
def sbF (l : List FldP) : Int × List Int := match fdOf l wsb with
  | none => (4, [])
  | some v => dwV (bts v)
def sbV (d : List Nat) : Int × List Int := if (phV d).1 = 0 then sbF (phV d).2.2 else ((phV d).1, [])
theorem dwV_zero {t : List Nat} (h : (dwV t).1 ≠ 0) : (dwV t).2 = [] := by
  unfold dwV at h ⊢
  split
  · rfl
  · rename_i h1; rw [if_neg h1] at h; exact absurd rfl h
theorem dwV_len (t : List Nat) (hB : IsB t) : (dwV t).2.length ≤ 400 := by
  by_cases h : 400 < t.length
  · rw [dwV_many h]; exact Nat.zero_le _
  · rw [dwV_ok h]
    have := words_few t hB t.length false
    show (wdsM wdV cuV t.length false t).length ≤ _
    omega
theorem sbF_zero {l : List FldP} (h : (sbF l).1 ≠ 0) : (sbF l).2 = [] := by
  unfold sbF at h ⊢
  split
  · rfl
  · rename_i v hv; rw [hv] at h; exact dwV_zero h
theorem sbV_zero {d : List Nat} (h : (sbV d).1 ≠ 0) : (sbV d).2 = [] := by
  unfold sbV at h ⊢
  split
  · rename_i h1; rw [if_pos h1] at h; exact sbF_zero h
  · rfl
theorem sbV_len (d : List Nat) : (sbV d).2.length ≤ 400 := by
  unfold sbV
  split
  · unfold sbF
    split
    · simp
    · exact dwV_len _ (bts_isB _)
  · simp

theorem fldH2 (x y z : Value) (w : World) : (Instr.field 99 (.agg #[x, y, z]) 2).run Tryz.prog w = .ok z w := by
  simp [Instr.field, asAgg, go_sem]
/-- A header that is seen, or a code that is thrown. -/
def SeeH (r : Int × Nat × List FldP) (w : World) (e : Ending) (w' : World) : Prop := ((r.1 = 0 ∧ ∃ v, e = .returned (.agg #[.int .i64 0, .int .i64 (r.2.1 : Int), v]) ∧ OwnF w' w.heap.size v r.2.2) ∨ (r.1 ≠ 0 ∧ e = .panicked [{ v := .iface 93 (.int .i64 r.1), recovered := false }])) ∧ Below w.heap.size w w'

set_option maxHeartbeats 800000 in
set_option maxRecDepth 100000 in
theorem headerIn_any (b m : Nat) (d : List Nat) (w : World) (hr : Rd w (some ⟨b, 0, none⟩) d) (hB : IsB d) (hl : d.length = m) {cp : Nat} (hcp : m ≤ cp) :
    Calls Tryz.prog 68 #[.slice (some ⟨b, 0, none⟩) m cp] w (SeeH (phV d) w) := by
  have hb0 : Below w.heap.size w (w.alloc (.cells #[.int .i64 0, .int .i64 0, .slice none 0 0] 99)) := (Below.refl _ _).alloc (Nat.le_refl _) _
  have HP := parseHeader_any (some ⟨b, 0, none⟩) m cp d _ hl (hr.below hb0) hB hcp (.inr ⟨b, 0, rfl⟩)
  have hsW : (w.alloc (.cells #[.int .i64 0, .int .i64 0, .slice none 0 0] 99)).heap.size = w.heap.size + 1 := by simp
  generalize phV d = r at *
  obtain ⟨c, k, l⟩ := r
  go_enter Tryz.func68, Tryz.ntmps68
  go_wp2_with fail
  refine HP.mono ?_
  rintro e w1 ⟨v, rfl, ho, hb1⟩
  rw [hsW] at ho hb1
  dsimp only at ho
  obtain ⟨N, hN⟩ : ∃ N, l.length = N := ⟨_, rfl⟩
  obtain ⟨a, cp, hv, -, -⟩ := ho.form
  rw [hN] at hv
  subst hv
  clear HP
  by_cases hc : c = 0
  · subst hc
    go_wp2_with fail
    refine (mustSee_ok _).mono ?_
    rintro e w2 ⟨rfl, hw2⟩
    have hz1 : w.heap.size + 1 ≤ w1.heap.size := by have := hb1.size; rw [hsW] at this; exact this
    have hbA : Below w1.heap.size w1 w2 := hw2 ▸ (Below.refl _ _).alloc (Nat.le_refl _) _
    have h27 : w2.heap[w1.heap.size]? = some (.cells #[.int .i64 0, .int .i64 (k : Int), .slice a N cp] 99 (0, 0)) := hw2 ▸ heap_alloc_new w1 _
    have q0 : w2.cell? ⟨w1.heap.size, 0, none⟩ = some (.int .i64 0) := by simp [World.cell?, h27]
    have q1 : w2.cell? ⟨w1.heap.size, 1, none⟩ = some (.int .i64 (k : Int)) := by simp [World.cell?, h27]
    have q2 : w2.cell? ⟨w1.heap.size, 2, none⟩ = some (.slice a N cp) := by simp [World.cell?, h27]
    have hbB := hb1.trans (hbA.mono hz1)
    have hbw := hb0.trans (hbB.mono (by omega))
    obtain ⟨⟨a0, a1, a2⟩, z0, z1, z2⟩ := res_block3 rfl hbB
    obtain ⟨k0, k1, k2⟩ := res_cells3 ⟨a0, a1, a2⟩ (.int .i64 0) (.int .i64 (k : Int)) (.slice a N cp)
    have HE : Hid (_) := HdrEnd.put (c := 0) (k := k) hbw (ho.below hbA (Nat.le_refl _)) (.int .i64 0) (.int .i64 (k : Int)) (.slice a N cp)
    clear h27 hw2 hbA ho hbB hb0 hb1 hsW hbw
    go_wp2
    refine bodyPost_ret (v := .agg #[.int .i64 0, .int .i64 (k : Int), .slice a N cp]) (by simp [results, Tryz.results68, go_sem, k0, k1, k2]) rfl ?_
    obtain ⟨v, e, h1, h2⟩ := HE.out
    exact ⟨.inl ⟨rfl, v, e, h1⟩, h2⟩
  · have hbw := hb0.trans (hb1.mono (by omega))
    go_wp2_with fail
    refine (mustSee_bad c hc _).mono ?_
    rintro e w2 ⟨rfl, hw2⟩
    subst hw2
    exact ⟨rfl, .inr ⟨hc, rfl⟩, hbw.alloc hbw.size _⟩

set_option maxHeartbeats 1600000 in
set_option maxRecDepth 100000 in
theorem subjectIn_any (b m : Nat) (d : List Nat) (w : World) (hr : Rd w (some ⟨b, 0, none⟩) d) (hT : TabC w) (hTB : TabB w) (hTH : TabH w) (hMI : MaxI w) (hB : IsB d) (hl : d.length = m) {cp : Nat} (hcp : m ≤ cp) :
    Calls Tryz.prog 53 #[.slice (some ⟨b, 0, none⟩) m cp] w (SeeI (sbV d) w) := by
  have HP := headerIn_any b m d w hr hB hl hcp
  have HZ : Hid ((phV d).1 ≠ 0 → sbV d = ((phV d).1, [])) := fun h => if_neg h
  have HV : Hid ((phV d).1 = 0 → sbV d = sbF (phV d).2.2) := fun h => if_pos h
  have HOK : Hid ((phV d).1 = 0 → fdF (phV d).2.2 = 0 ∧ (phV d).2.2.length ≤ 400 ∧ Fit (phV d).2.2) := fun h => by
    obtain ⟨h1, h2, h3⟩ := phF_allS _ h
    have hd : d.length ≤ 400 := by
      by_cases h4 : 400 < d.length
      · rw [phV_many h4] at h; simp at h
      · omega
    exact ⟨h1, by have := h3.1; omega, fun p hp => by have := h3.2 p hp; omega⟩
  generalize sbV d = r at *
  generalize phV d = ph at *
  obtain ⟨c, k, l⟩ := ph
  dsimp only at HZ HV HOK
  go_enter Tryz.func53, Tryz.ntmps53
  go_wp2_with fail
  refine HP.mono ?_
  rintro e w1 ⟨⟨h3, v, rfl, ho⟩ | ⟨h3, rfl⟩, hb1⟩
  · dsimp only at h3 ho
    subst h3
    obtain ⟨hf, hle, hfit⟩ := HOK.out rfl
    have HM : Hid (r = sbF l) := HV.out rfl
    obtain ⟨N, hN⟩ : ∃ N, l.length = N := ⟨_, rfl⟩
    obtain ⟨a, cp, hv, -, -⟩ := ho.form
    rw [hN] at hv
    subst hv
    have HF := fun (W : World) (h : RdF W a l) => fieldOf_any a N cp l wSb W hN h (by omega) hfit (by decide)
    unfold wSb at HF
    have HRD := fun (W : World) (h : Below w1.heap.size w1 W) => (ho.below h (Nat.le_refl _)).rd.2
    clear HP HZ HV HOK
    have hfo : (fdOf l wsb = none ∧ foC l wSb = 4 ∧ foT l wSb = ⟨#[]⟩) ∨ ∃ x, fdOf l wsb = some x ∧ foC l wSb = 0 ∧ foT l wSb = x ∧ x.size ≤ 1048576 := by
      cases hx : fdOf l wsb with
      | none => exact .inl ⟨rfl, fo_none hf (by rw [fdOf_sb]; exact hx)⟩
      | some x => obtain ⟨h1, h2⟩ := fo_some hf (by rw [fdOf_sb]; exact hx); exact .inr ⟨x, rfl, h1, h2, fdOf_fitS hfit hx⟩
    unfold wSb at hfo
    have fH2 := fldH2
    go_wp2_with fail
    refine (HF _ (HRD _ (Below.refl _ _))).mono ?_
    rintro e w2 ⟨rfl, hb2⟩
    generalize foC l ⟨#[83, 117, 98, 106, 101, 99, 116]⟩ = fc at *
    generalize foT l ⟨#[83, 117, 98, 106, 101, 99, 116]⟩ = ft at *
    have hbw := hb1.trans (hb2.mono hb1.size)
    have hbA : Below w.heap.size w (w2.alloc (.cells #[.int .i64 fc, .string ft] 95)) := hbw.alloc hbw.size _
    clear HF HRD fH2 ho hb2 hb1
    rcases hfo with ⟨h1, rfl, rfl⟩ | ⟨x, h1, rfl, rfl, hx⟩
    · have HM2 : Hid (r = (4, [])) := by show _ = _; rw [HM.out]; unfold sbF; rw [h1]
      clear HM
      go_wp2_with fail
      refine (mustSee_bad 4 (by decide) _).mono ?_
      rintro e w3 ⟨rfl, hw3⟩
      subst hw3
      rw [HM2.out]
      exact ⟨rfl, .inr ⟨by simp, rfl⟩, hbA⟩
    · have HM2 : Hid (r = dwV (bts ft)) := by show _ = _; rw [HM.out]; unfold sbF; rw [h1]
      have HD := fun (W : World) (hb : Below w.heap.size w W) => decodeWords_any (bts ft) _ W rfl (bts_isB ft) (by rw [bts_len]; exact hx) (hT.below hb) (hTB.below hb) (hTH.below hb) (hMI.below hb)
      rw [str_bts] at HD
      clear HM
      go_wp2_with fail
      refine (mustSee_ok _).mono ?_
      rintro e w3 ⟨rfl, hw3⟩
      have h27 : w3.heap[w2.heap.size]? = some (.cells #[.int .i64 0, .string ft] 95 (0, 0)) := hw3 ▸ heap_alloc_new w2 _
      have q1 : w3.cell? ⟨w2.heap.size, 1, none⟩ = some (.string ft) := by simp [World.cell?, h27]
      have hbC : Below w.heap.size w w3 := hw3 ▸ hbA
      clear hw3 h27
      go_wp2_with fail
      refine (HD _ hbC).mono ?_
      rintro e w4 ⟨v4, rfl, ho4, hb4⟩
      rw [← HM2.out] at ho4 ⊢
      have hbD := hbC.trans (hb4.mono hbC.size)
      have ho5 : OwnI w4 w.heap.size v4 r.2 := row_low ho4 hbC.size
      obtain ⟨a2, c2, hv2, -, -⟩ := ho5.form
      subst hv2
      clear HD ho4 hb4
      by_cases hc : r.1 = 0
      · rw [hc]
        go_wp2_with fail
        refine (codesIn_ok a2 _ c2 _).mono ?_
        rintro e w5 ⟨rfl, hb5⟩
        have ho6 := ho5.below hb5 (Nat.le_refl _)
        have hbE := hbD.trans (hb5.mono hbD.size)
        clear ho5 hb5
        go_wp2
        go_ret
        exact ⟨.inl ⟨hc, _, rfl, ho6⟩, hbE⟩
      · go_wp2_with fail
        refine (codesIn_bad _ hc a2 _ c2 _).mono ?_
        rintro e w5 ⟨rfl, hb5⟩
        exact ⟨rfl, .inr ⟨hc, rfl⟩, hbD.trans (hb5.mono hbD.size)⟩
  · dsimp only at h3
    rw [HZ.out h3]
    exact ⟨rfl, .inr ⟨h3, rfl⟩, hb1⟩

set_option maxHeartbeats 800000 in
set_option maxRecDepth 100000 in
theorem subjectOf1_any (b m B0 : Nat) (d : List Nat) (w : World) (hr : Rd w (some ⟨b, 0, none⟩) d) (hT : TabC w) (hTB : TabB w) (hTH : TabH w) (hMI : MaxI w) (hB : IsB d) (hl : d.length = m) {cp : Nat} (hcp : m ≤ cp)
    (h0 : w.cell? ⟨B0, 0, none⟩ = some (.slice (some ⟨b, 0, none⟩) m cp)) :
    Calls Tryz.prog 52 #[.pointer (some ⟨B0, 0, none⟩)] w (SeeI (sbV d) w) := by
  have HP := subjectIn_any b m d w hr hT hTB hTH hMI hB hl hcp
  generalize sbV d = r at *
  go_enter Tryz.func52, Tryz.ntmps52
  go_wp2_with fail
  refine HP.mono ?_
  rintro e w1 ⟨⟨h3, v, rfl, ho⟩ | ⟨h3, rfl⟩, hb⟩
  · obtain ⟨a, cp, hv, -, -⟩ := ho.form
    subst hv
    go_wp2
    go_ret
    exact ⟨.inl ⟨h3, _, rfl, ho⟩, hb⟩
  · exact ⟨rfl, .inr ⟨h3, rfl⟩, hb⟩

set_option maxHeartbeats 1600000 in
set_option maxRecDepth 100000 in
theorem subjectOf_any (b m : Nat) (d : List Nat) (w : World) (hr : Rd w (some ⟨b, 0, none⟩) d) (hT : TabC w) (hTB : TabB w) (hTH : TabH w) (hMI : MaxI w) (hB : IsB d) (hl : d.length = m) {cp : Nat} (hcp : m ≤ cp) :
    Calls Tryz.prog 41 #[.slice (some ⟨b, 0, none⟩) m cp] w (CodEnd (sbV d) w) := by
  have hmf : ∀ (fn : Fn) (first cap : Array Value) (w : World), (Instr.makeFunc fn first cap).run Tryz.prog w = .ok (.func fn first cap) w := fun _ _ _ _ => rfl
  have hG : ∀ (args : Array Value) (w : World), (callFunc 52 args).run Tryz.prog w = .ok (.enter 52 args) w := fun _ _ => by kernel_rfl
  have hb0 : Below w.heap.size w ((w.alloc (.cells #[.slice (some ⟨b, 0, none⟩) m cp] 22)).alloc (.cells #[.int .i64 0, .slice none 0 0] 70)) := ((Below.refl _ _).alloc (Nat.le_refl _) _).alloc (by simp) _
  have HS : Hid (∀ W : World, Below w.heap.size w W → W.cell? ⟨w.heap.size, 0, none⟩ = some (.slice (some ⟨b, 0, none⟩) m cp) → Calls Tryz.prog 51 #[.func (.func 52) #[] #[.pointer (some ⟨w.heap.size, 0, none⟩)]] W fun e w' => ∃ v, e = .returned (.tuple #[v, .int .i64 (sbV d).1]) ∧ OwnI w' W.heap.size v (sbV d).2 ∧ Below W.heap.size W w') := fun W hW c0 => by
    have hbC := hW.alloc hW.size (.cells #[.int .i64 0] 2)
    exact seeI_of _ _ (sbV d) W hG (fun h => sbV_zero h) (subjectOf1_any b m _ d _ (hr.below hbC) (hT.below hbC) (hTB.below hbC) (hTH.below hbC) (hMI.below hbC) hB hl hcp (cellB c0))
  generalize sbV d = r at *
  obtain ⟨rc, rl⟩ := r
  dsimp only at HS
  have x0 : ((w.alloc (.cells #[.slice (some ⟨b, 0, none⟩) m cp] 22)).alloc (.cells #[.int .i64 0, .slice none 0 0] 70)).cell? ⟨w.heap.size, 0, none⟩ = some (.slice (some ⟨b, 0, none⟩) m cp) := cellB (by simp)
  have hsz : ((w.alloc (.cells #[.slice (some ⟨b, 0, none⟩) m cp] 22)).alloc (.cells #[.int .i64 0, .slice none 0 0] 70)).heap.size = w.heap.size + 1 + 1 := by simp
  have HRB := fun (wx : World) (hx : Below (w.heap.size + 1 + 1) ((w.alloc (.cells #[.slice (some ⟨b, 0, none⟩) m cp] 22)).alloc (.cells #[.int .i64 0, .slice none 0 0] 70)) wx) => res_block (w := (w.alloc (.cells #[.slice (some ⟨b, 0, none⟩) m cp] 22))) (wr := wx) rfl (by simpa using hx)
  have hs3 : (w.alloc (.cells #[.slice (some ⟨b, 0, none⟩) m cp] 22)).heap.size = w.heap.size + 1 := by simp
  rw [hs3] at HRB
  go_enter Tryz.func41, Tryz.ntmps41
  go_wp2_with fail
  refine (HS.out _ hb0 x0).mono ?_
  rintro e w1 ⟨v, rfl, ho, hb1⟩
  rw [hsz] at ho hb1
  obtain ⟨a0, a1, z0, z1⟩ := HRB w1 hb1
  have hbw := hb0.trans (hb1.mono (by omega))
  obtain ⟨a, cp, hv, -, -⟩ := ho.form
  subst hv
  obtain ⟨k0, k1⟩ := res_at a0 a1 (.int .i64 rc) (.slice a rl.length cp)
  have HE : Hid (_) := CodEnd.on (c := rc) hbw (R := w.heap.size + 1) (by omega) ho (.int .i64 rc) (.slice a rl.length cp)
  clear HRB x0 HS hb0 hsz hs3 hb1 ho
  go_wp2
  refine bodyPost_ret (v := .agg #[.int .i64 rc, .slice a rl.length cp]) (by simp [results, Tryz.results41, go_sem, k0, k1]) rfl ?_
  exact HE.out

set_option maxHeartbeats 1600000 in
set_option maxRecDepth 100000 in
theorem l6Subject_any (b m : Nat) (d : List Nat) (w : World) (hr : Rd w (some ⟨b, 0, none⟩) d) (hB : IsB d) (hl : d.length = m) {cp : Nat} (hcp : m ≤ cp) (hm : m ≤ 400) :
    Calls Tryz.prog 55 #[.slice (some ⟨b, 0, none⟩) m cp] w fun e w' => ∃ v, e = .returned (.tuple #[v, .int .i64 (sbV d).1]) ∧ OwnI w' w.heap.size v (sbV d).2 ∧ Below w.heap.size w w' := by
  have HP := l4Parse_phS (some ⟨b, 0, none⟩) m cp d w hl hr hB hm hcp
  have HZ : Hid ((phV d).1 ≠ 0 → sbV d = (1, [])) := fun h => by
    have e1 : (phV d).1 = 1 := by
      unfold phV at h ⊢
      rw [if_neg (by omega)] at h ⊢
      split
      · rfl
      · rename_i fs k hp
        rw [hp] at h
        dsimp only at h ⊢
        split
        · rename_i h0; rw [if_pos h0] at h; exact absurd rfl h
        · rfl
    rw [← e1]; exact if_neg h
  have HV : Hid ((phV d).1 = 0 → sbV d = sbF (phV d).2.2) := fun h => if_pos h
  have HOK : Hid ((phV d).1 = 0 → fdF (phV d).2.2 = 0 ∧ (phV d).2.2.length ≤ 400 ∧ Fit (phV d).2.2) := fun h => by
    obtain ⟨h1, h2, h3⟩ := phF_allS _ h
    exact ⟨h1, by have := h3.1; omega, fun p hp => by have := h3.2 p hp; omega⟩
  generalize sbV d = r at *
  generalize phV d = ph at *
  obtain ⟨c, k, l⟩ := ph
  dsimp only at HZ HV HOK
  go_enter Tryz.func55, Tryz.ntmps55
  go_wp2_with fail
  refine HP.mono ?_
  rintro e w1 ⟨hb1, av, nv, cv, kv, rfl, hend⟩
  dsimp only at hend ⊢
  clear HP
  by_cases hc : c = 0
  · subst hc
    obtain ⟨rfl, rfl, ho⟩ := hend rfl
    obtain ⟨hf, hle, hfit⟩ := HOK.out rfl
    have HM : Hid (r = sbF l) := HV.out rfl
    have HF := l4Of_any av l.length cv l wsb w1 rfl ho.rd.2 (by omega) hfit (by decide)
    have hx : ∀ x, fdOf l wsb = some x → x.size ≤ 1048576 := fun x h => fdOf_fitS hfit h
    have HM1 : Hid (fdOf l wsb = none → r = (4, [])) := fun h => by rw [HM.out]; unfold sbF; rw [h]
    have HM2 : Hid (∀ x, fdOf l wsb = some x → r = dwV (bts x)) := fun x h => by rw [HM.out]; unfold sbF; rw [h]
    clear HM HV HZ HOK ho hend
    generalize fdOf l wsb = o at *
    unfold wsb at HF
    go_wp2_with fail
    refine HF.mono ?_
    rintro e w2 ⟨rfl, hb2⟩
    have hbw := hb1.trans (hb2.mono hb1.size)
    clear HF hb1 hb2
    cases o with
    | none =>
      have HM : Hid (r = (4, [])) := HM1.out rfl
      clear HM1 HM2
      unfold ofP
      go_wp2
      refine bodyPost_ret (v := .tuple #[.slice none 0 0, .int .i64 4]) (by simp [results, Tryz.results55, go_sem]) rfl ?_
      rw [HM.out]
      exact ⟨_, rfl, OwnI.nil _ _, hbw⟩
    | some x =>
      have HM : Hid (r = dwV (bts x)) := HM2.out x rfl
      have HD := fun (W : World) => specDecodeWords_any (bts x) _ W rfl (bts_isB x) (by rw [bts_len]; exact hx x rfl)
      rw [str_bts] at HD
      clear HM1 HM2
      unfold ofP
      go_wp2_with fail
      refine (HD _).mono ?_
      rintro e w4 ⟨v4, rfl, ho4, hb4⟩
      rw [← HM.out] at ho4 ⊢
      have hbD := hbw.trans (hb4.mono hbw.size)
      have ho5 : OwnI w4 w.heap.size v4 r.2 := row_low ho4 hbw.size
      obtain ⟨a2, c2, hv2, -, -⟩ := ho5.form
      subst hv2
      have hbA : Below w4.heap.size w4 (w4.alloc (.cells #[.int .i64 r.1, .slice a2 r.2.length c2] 70)).drew := ((Below.refl _ _).alloc (Nat.le_refl _) _).drew
      have ho6 := ho5.below hbA (Nat.le_refl _)
      have hbE := hbD.trans (hbA.mono hbD.size)
      clear HD ho4 hb4 ho5 hbA HM
      go_wp2
      go_region
      go_wp2
      refine bodyPost_ret (v := .tuple #[.slice a2 r.2.length c2, .int .i64 r.1]) (by simp [results, Tryz.results55, go_sem]) rfl ?_
      exact ⟨_, rfl, ho6, hbE⟩
  · have hc' : (c == 0) = false := by simpa using hc
    have HM : Hid (r = (1, [])) := HZ.out hc
    clear HZ HV HOK hend
    go_wp2
    refine bodyPost_ret (v := .tuple #[.slice none 0 0, .int .i64 1]) (by simp [results, Tryz.results55, go_sem]) rfl ?_
    rw [HM.out]
    exact ⟨_, rfl, OwnI.nil _ _, hb1⟩

end Go.Proofs.YtfbjodbihenmjaaGreatDoor
