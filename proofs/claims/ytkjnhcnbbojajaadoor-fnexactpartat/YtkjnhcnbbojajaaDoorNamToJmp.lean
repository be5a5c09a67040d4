/- The names of the charsets and of the comparators: the program's and the model's functions answer by one plain function each · ComparatorOf, the program's and the model's, at every text: both by one plain function · CharsetOf, the program's and the model's: both by one plain function; texts of at most 1048576 bytes · A field of a result that is held as a value: plain reading · A scope in which the run jumps to several labels: what holds at each jump, and a measure that every pass lowers; no conditions beyond those that the fact names. -/
import Derived.Test.YtkjnhcnbbojajaaDoorHdr7ToTbs
import Derived.Test.YtkjnhcnbbojajaaDoorFdpToHdr2
import Derived.Test.YtkjnhcnbbojajaaDoorMemToMrk0
import Derived.WalkKit
import Derived.ScopeJumps
import Derived.WalkMore
namespace Go.Proofs.YtkjnhcnbbojajaaDoor
open Go.RowKit

/-- The names of the charsets, and those of the comparators. -/
def csZ : List (List UInt8) := [[117, 115, 45, 97, 115, 99, 105, 105], [105, 115, 111, 45, 56, 56, 53, 57, 45, 49], [105, 115, 111, 45, 56, 56, 53, 57, 45, 53], [117, 116, 102, 45, 56], [117, 116, 102, 45, 49, 54]]
def cmZ : List (List UInt8) := [[105, 59, 111, 99, 116, 101, 116], [105, 59, 97, 115, 99, 105, 105, 45, 99, 97, 115, 101, 109, 97, 112], [105, 59, 117, 110, 105, 99, 111, 100, 101, 45, 99, 97, 115, 101, 109, 97, 112]]
/-- The name at a place. -/
def csN (i : Nat) : ByteArray := txt (csZ.getD i [])
def cmN (i : Nat) : ByteArray := txt (cmZ.getD i [])
/-- THE TABLES LIE IN THEIR VARIABLES. -/
def TabC (w : World) : Prop := ∀ v, v < 5 → w.cell? ⟨1, v, none⟩ = some (.string (csN v))
theorem TabC.below {w w' : World} (h : TabC w) (hb : Below w.heap.size w w') : TabC w' := fun v hv =>
  (hb.cell (p := ⟨1, v, none⟩) (World.block_lt_of_cell? w ⟨1, 0, none⟩ (h 0 (by decide)))).trans (h v hv)
/-- A number lies between two others: a plain word. -/
def inN (v a b : Int) : Bool := decide (a ≤ v ∧ v ≤ b)
theorem inN_yes {v a b : Int} (h : a ≤ v ∧ v ≤ b) : inN v a b = true := decide_eq_true h
theorem inN_no {v a b : Int} (h : ¬ (a ≤ v ∧ v ≤ b)) : inN v a b = false := decide_eq_false h
theorem l1In_nam (v a b : Int) (w : World) : Calls Tryd.prog 54 #[.int .i64 v, .int .i64 a, .int .i64 b] w fun e w' => e = .returned (.bool (inN v a b)) ∧ w = w' := by
  by_cases h1 : a ≤ v
  · by_cases h2 : v ≤ b
    · have H : Hid (inN v a b = true) := inN_yes ⟨h1, h2⟩
      go_enter Tryd.func54, Tryd.ntmps54
      go_wp2
      go_ret
      exact ⟨by rw [H.out]; rfl, rfl⟩
    · have H : Hid (inN v a b = false) := inN_no (fun h => h2 h.2)
      go_enter Tryd.func54, Tryd.ntmps54
      go_wp2
      go_ret
      exact ⟨by rw [H.out]; rfl, rfl⟩
  · have H : Hid (inN v a b = false) := inN_no (fun h => h1 h.1)
    go_enter Tryd.func54, Tryd.ntmps54
    go_wp2
    go_ret
    exact ⟨by rw [H.out]; rfl, rfl⟩
theorem csRow_at (w : World) (t : TypeId) (j : Nat) (hj : j < 5) : (w.alloc (.cells #[.string ⟨#[]⟩, .string ⟨#[117, 115, 45, 97, 115, 99, 105, 105]⟩, .string ⟨#[105, 115, 111, 45, 56, 56, 53, 57, 45, 49]⟩, .string ⟨#[105, 115, 111, 45, 56, 56, 53, 57, 45, 53]⟩, .string ⟨#[117, 116, 102, 45, 56]⟩, .string ⟨#[117, 116, 102, 45, 49, 54]⟩] t)).cell? ⟨w.heap.size, j + 1, none⟩ = some (.string (csN j)) := by
  rw [World.cell?_alloc_mark]
  match j, hj with
  | 0, _ => rfl
  | 1, _ => rfl
  | 2, _ => rfl
  | 3, _ => rfl
  | 4, _ => rfl
theorem cmRow_at (w : World) (t : TypeId) (j : Nat) (hj : j < 3) : (w.alloc (.cells #[.string ⟨#[]⟩, .string ⟨#[105, 59, 111, 99, 116, 101, 116]⟩, .string ⟨#[105, 59, 97, 115, 99, 105, 105, 45, 99, 97, 115, 101, 109, 97, 112]⟩, .string ⟨#[105, 59, 117, 110, 105, 99, 111, 100, 101, 45, 99, 97, 115, 101, 109, 97, 112]⟩] t)).cell? ⟨w.heap.size, j + 1, none⟩ = some (.string (cmN j)) := by
  rw [World.cell?_alloc_mark]
  match j, hj with
  | 0, _ => rfl
  | 1, _ => rfl
  | 2, _ => rfl

set_option maxHeartbeats 1600000 in
set_option maxRecDepth 100000 in
theorem l2Name_any (j : Nat) (hj : j < 5) (w : World) : Calls Tryd.prog 124 #[.int .i64 ((j + 1 : Nat) : Int)] w fun e w' => e = .returned (.string (csN j)) ∧ Below w.heap.size w w' := by
  have hc := csRow_at w 9 j hj
  have h1 : ((j + 1 : Nat) : Int) < 6 := by omega
  go_enter Tryd.func124, Tryd.ntmps124
  go_wp2
  go_ret
  exact ⟨rfl, by go_grown⟩
/-- What CharsetName answers. -/
def nameV (cs : Int) : Int × ByteArray := if 1 ≤ cs ∧ cs ≤ 5 then (0, csN (cs.toNat - 1)) else (4, ByteArray.empty)
theorem nameV_no {cs : Int} (h : ¬ (1 ≤ cs ∧ cs ≤ 5)) : nameV cs = (4, ByteArray.empty) := if_neg h
theorem nameV_yes {j : Nat} (h : j < 5) : nameV ((j + 1 : Nat) : Int) = (0, csN j) := by
  unfold nameV; rw [if_pos (by omega)]; congr 2
/-- An answer with a text. -/
def TxtAns (r : Int × ByteArray) (w : World) (e : Ending) (w' : World) : Prop := e = .returned (.agg #[.int .i64 r.1, .string r.2]) ∧ Below w.heap.size w w'

theorem eqIntResult_nam (c v : Int) (w : World) :
    Calls Tryd.prog 23 #[.agg #[.int .i64 c, .int .i64 v], .agg #[.int .i64 c, .int .i64 v]] w fun e w' => e = .returned (.bool true) ∧ Below w.heap.size w w' := by
  go_enter Tryd.func23, Tryd.ntmps23
  go_wp2
  go_ret
  exact ⟨rfl, by go_grown⟩
end Go.Proofs.YtkjnhcnbbojajaaDoor

namespace Go.Proofs.YtkjnhcnbbojajaaDoor
open Go.RowKit

theorem toList_txt (l : List Nat) : (str l).toList = l.map UInt8.ofNat := by
  rw [ByteArray.toList_eq]; simp [str]
theorem txt_ne {x s : ByteArray} (h : x ≠ s) : (x.toList == s.toList) = false := by
  rw [beq_eq_false_iff_ne]
  intro he
  apply h
  obtain ⟨a, rfl, _⟩ := str_surj x
  obtain ⟨b, rfl, _⟩ := str_surj s
  rw [toList_txt, toList_txt] at he
  unfold str
  rw [he]

/-- The place of a name among the first n of a table. -/
def findN (f : Nat → ByteArray) (s : ByteArray) : Nat → Option Nat
  | 0 => none
  | n + 1 => match findN f s n with
    | some i => some i
    | none => if f n = s then some n else none
theorem findN_none {f : Nat → ByteArray} {s : ByteArray} : ∀ {n : Nat}, (∀ i, i < n → f i ≠ s) → findN f s n = none
  | 0, _ => rfl
  | n + 1, h => by
    rw [findN, findN_none (fun i hi => h i (by omega))]
    exact if_neg (h n (by omega))
theorem findN_some {f : Nat → ByteArray} {s : ByteArray} {j : Nat} (h : ∀ i, i < j → f i ≠ s) (hj : f j = s) : ∀ {n : Nat}, j < n → findN f s n = some j
  | 0, hn => by omega
  | n + 1, hn => by
    by_cases e : j = n
    · subst e
      rw [findN, findN_none h]
      exact if_pos hj
    · rw [findN, findN_some h hj (n := n) (by omega)]
/-- The answer of a look for a name. -/
def ofV (o : Option Nat) : Int × Int := match o with
  | some i => (0, (i : Int) + 1)
  | none => (4, 0)
def cmV (s : ByteArray) : Int × Int := ofV (findN cmN s 3)
theorem cmV_none {s : ByteArray} (h : ∀ i, i < 3 → cmN i ≠ s) : cmV s = (4, 0) := by unfold cmV; rw [findN_none h]; rfl
theorem cmV_some {s : ByteArray} {j : Nat} (h : ∀ i, i < j → cmN i ≠ s) (hj : cmN j = s) (h3 : j < 3) : cmV s = (0, (j : Int) + 1) := by unfold cmV; rw [findN_some h hj h3]; rfl
/-- An answer with one number. -/
def IntEnd (r : Int × Int) (w : World) (e : Ending) (w' : World) : Prop := e = .returned (.agg #[.int .i64 r.1, .int .i64 r.2]) ∧ Below w.heap.size w w'
theorem IntEnd.put {r : Int × Int} {w w1 : World} (hbel : Below w.heap.size w w1) (x y : Value) : IntEnd r w (.returned (.agg #[.int .i64 r.1, .int .i64 r.2])) ((w1.setCell ⟨w.heap.size, 0, none⟩ x).setCell ⟨w.heap.size, 1, none⟩ y) :=
  ⟨rfl, (hbel.setCell (by simp) _).setCell (by simp) _⟩

end Go.Proofs.YtkjnhcnbbojajaaDoor

namespace Go.Proofs.YtkjnhcnbbojajaaDoor
open Go.RowKit

/-- What CharsetOf answers of a text. -/
def csfV (s : ByteArray) : Int × Int := ofV (findN csN s 5)
theorem csfV_none {s : ByteArray} (h : ∀ i, i < 5 → csN i ≠ s) : csfV s = (4, 0) := by unfold csfV; rw [findN_none h]; rfl
theorem csfV_some {s : ByteArray} {j : Nat} (h : ∀ i, i < j → csN i ≠ s) (hj : csN j = s) (h3 : j < 5) : csfV s = (0, (j : Int) + 1) := by unfold csfV; rw [findN_some h hj h3]; rfl
/-- The number that the model looks for. -/
def ofN (o : Option Nat) : Int := match o with
  | some i => (i : Int) + 1
  | none => 0
def csI (s : ByteArray) : Int := ofN (findN csN s 5)
theorem csI_none {s : ByteArray} (h : ∀ i, i < 5 → csN i ≠ s) : csI s = 0 := by unfold csI; rw [findN_none h]; rfl
theorem csI_some {s : ByteArray} {j : Nat} (h : ∀ i, i < j → csN i ≠ s) (hj : csN j = s) (h3 : j < 5) : csI s = (j : Int) + 1 := by unfold csI; rw [findN_some h hj h3]; rfl
theorem csfV_csI (s : ByteArray) : csI s = 0 ∧ csfV s = (4, 0) ∨ csI s ≠ 0 ∧ csfV s = (0, csI s) := by
  unfold csI csfV
  cases findN csN s 5 with
  | none => exact .inl ⟨rfl, rfl⟩
  | some i => exact .inr ⟨by show (i : Int) + 1 ≠ 0; omega, rfl⟩

set_option maxHeartbeats 1600000 in
set_option maxRecDepth 100000 in
theorem charsetOf_any (t : List Nat) (n : Nat) (w : World) (hl : t.length = n) (hB : IsB t) (hn : n ≤ 1048576) (ht : TabC w) : Calls Tryd.prog 102 #[.string (str t)] w fun e w' => IntEnd (csfV (str (t.map low))) w e w' := by
  have hb0 : Below w.heap.size w (w.alloc (.cells #[.int .i64 0, .int .i64 0] 37)) := (Below.refl _ _).alloc (Nat.le_refl _) _
  have ht0 := ht.below hb0
  have hWs : (w.alloc (.cells #[.int .i64 0, .int .i64 0] 37)).heap.size = w.heap.size + 1 := by simp
  have HS : Hid (∀ w, Calls Tryd.prog 80 #[.string (str t)] w fun e w' => e = .returned (.string (str (t.map low))) ∧ Below w.heap.size w w') := fun w => smallLetters_any t n w hl hB hn
  generalize str (t.map low) = s at *
  go_enter Tryd.func102, Tryd.ntmps102
  go_wp2_with fail
  refine (HS.out _).mono ?_
  rintro e w1 ⟨rfl, hb1⟩
  generalize hW : w.alloc (.cells #[.int .i64 0, .int .i64 0] 37) = W at *
  have hbl : Below (w.heap.size + 1) W w1 := by rw [← hWs]; exact hb1
  have ht1 := ht0.below hb1
  have hbE : Below w.heap.size w w1 := hb0.trans (hbl.mono (by omega))
  obtain ⟨hcw, hcw1, hfw, hfw1⟩ := res_block hW hbl
  clear ht ht0 hb1
  go_wp2
  go_loopw [4] (fun v wr => ∃ j : Nat, j ≤ 5 ∧ v = .int .i64 ((j : Int) + 1) ∧ (∀ i, i < j → csN i ≠ s) ∧ wr = w1) (fun v _ => 7 - (intOf v).toNat)
  case atStart => exact ⟨0, by omega, rfl, fun i hi => by omega, rfl⟩
  case round =>
    obtain ⟨j, hj, rfl, hno, rfl⟩ := hrel
    by_cases hj3 : j < 5
    · have hc := ht1 j hj3
      have hlt : 1 < wr.heap.size := World.block_lt_of_cell? _ _ hc
      have h3 : (j : Int) + 1 ≤ 5 := by omega
      have h4 : (j : Int) + 1 - 1 = (j : Int) := by omega
      have h5 : (j : Int) < 5 := by omega
      by_cases hx : csN j = s
      · have HX : Hid (csfV s = (0, (j : Int) + 1)) := csfV_some hno hx hj3
        rw [hx] at hc
        clear hno hx ht1
        obtain ⟨hk0, hk1⟩ := res_cells hcw hcw1 (.int .i64 0) (.int .i64 ((j : Int) + 1))
        go_wp2
        refine bodyPost_ret (v := .agg #[.int .i64 0, .int .i64 ((j : Int) + 1)]) (by simp [results, Tryd.results102, go_sem, hk0, hk1]) rfl ?_
        rw [HX.out]
        exact IntEnd.put hbE _ _
      · have HN : Hid (∀ i, i < j + 1 → csN i ≠ s) := fun i hi => by
          by_cases hij : i < j
          · exact hno i hij
          · have : i = j := by omega
            subst this; exact hx
        generalize csN j = x at *
        have e0 := txt_ne hx
        clear hno ht1 hcw hcw1 hfw hfw1
        go_wp2
        go_roundw
        case rel => exact ⟨j + 1, by omega, by go_num, HN.out, by trivial⟩
        case measure => simp [intOf]; omega
    · have HX : Hid (csfV s = (4, 0)) := csfV_none (fun i hi => hno i (by omega))
      have h3 : ¬ (j : Int) + 1 ≤ 5 := by omega
      obtain ⟨hk0, hk1⟩ := res_cells hcw hcw1 (.int .i64 4) (.int .i64 0)
      clear hno
      go_wp2
      refine bodyPost_ret (v := .agg #[.int .i64 4, .int .i64 0]) (by simp [results, Tryd.results102, go_sem, hk0, hk1]) rfl ?_
      rw [HX.out]
      exact IntEnd.put hbE _ _

set_option maxHeartbeats 1600000 in
set_option maxRecDepth 100000 in
theorem l2Of_any (t : List Nat) (n : Nat) (w : World) (hl : t.length = n) (hB : IsB t) (hn : n ≤ 1048576) : Calls Tryd.prog 107 #[.string (str t)] w fun e w' => e = .returned (.int .i64 (csI (str (t.map low)))) ∧ Below w.heap.size w w' := by
  have HL : Hid (∀ w, Calls Tryd.prog 105 #[.string (str t)] w fun e w' => e = .returned (.string (str (t.map low))) ∧ Below w.heap.size w w') := fun w => l2Lower_any t n w hl hB hn
  generalize str (t.map low) = s at *
  go_enter Tryd.func107, Tryd.ntmps107
  go_wp2
  go_loopw [3] (fun v wr => ∃ j : Nat, j ≤ 5 ∧ v = .int .i64 ((j : Int) + 1) ∧ (∀ i, i < j → csN i ≠ s) ∧ Below w.heap.size w wr) (fun v _ => 7 - (intOf v).toNat)
  case atStart => exact ⟨0, by omega, rfl, fun i hi => by omega, Below.refl _ _⟩
  case round =>
    obtain ⟨j, hj, rfl, hno, hbel⟩ := hrel
    have hz := hbel.size
    by_cases hj3 : j < 5
    · have h3 : (j : Int) + 1 ≤ 5 := by omega
      have HC : Hid (∀ w, Calls Tryd.prog 124 #[.int .i64 ((j : Int) + 1)] w fun e w' => e = .returned (.string (csN j)) ∧ Below w.heap.size w w') := fun w => l2Name_any j hj3 w
      have HY : Hid (csN j = s → csI s = (j : Int) + 1) := fun hx => csI_some hno hx hj3
      have HN : Hid (csN j ≠ s → ∀ i, i < j + 1 → csN i ≠ s) := fun hx i hi => by
        by_cases hij : i < j
        · exact hno i hij
        · have : i = j := by omega
          subst this; exact hx
      generalize csN j = x at *
      clear hno
      go_wp2_with fail
      refine (HC.out _).mono ?_
      rintro e w1 ⟨rfl, hb1⟩
      go_wp2_with fail
      refine (HL.out _).mono ?_
      rintro e w2 ⟨rfl, hb2⟩
      have hbl : Below w.heap.size w w2 := (hbel.trans (hb1.mono hz)).trans (hb2.mono (by have := hb1.size; omega))
      clear hb1 hb2 HC HL
      by_cases hx : x = s
      · have HX : Hid (_) := HY.out hx
        clear HY HN
        subst hx
        go_wp2
        go_ret
        exact ⟨by rw [HX.out]; rfl, hbl⟩
      · have HM : Hid (_) := HN.out hx
        have e0 := txt_ne hx
        clear HY HN
        go_wp2
        go_roundw
        case rel => exact ⟨j + 1, by omega, by go_num, HM.out, hbl⟩
        case measure => simp [intOf]; omega
    · have HX : Hid (csI s = 0) := csI_none (fun i hi => hno i (by omega))
      have h3 : ¬ (j : Int) + 1 ≤ 5 := by omega
      clear hno
      go_wp2
      go_ret
      exact ⟨by rw [HX.out]; rfl, hbel⟩

end Go.Proofs.YtkjnhcnbbojajaaDoor

namespace Go.Proofs.YtkjnhcnbbojajaaDoor
open Go.RowKit

theorem fldB0 (x y : Value) (w : World) : (Instr.field 28 (.agg #[x, y]) 0).run Tryd.prog w = .ok x w := by
  simp [Instr.field, asAgg, go_sem]
theorem fldB1 (x y : Value) (w : World) : (Instr.field 28 (.agg #[x, y]) 1).run Tryd.prog w = .ok y w := by
  simp [Instr.field, asAgg, go_sem]
theorem fldT0 (x y : Value) (w : World) : (Instr.field 113 (.agg #[x, y]) 0).run Tryd.prog w = .ok x w := by
  simp [Instr.field, asAgg, go_sem]
theorem fldT1 (x y : Value) (w : World) : (Instr.field 113 (.agg #[x, y]) 1).run Tryd.prog w = .ok y w := by
  simp [Instr.field, asAgg, go_sem]
end Go.Proofs.YtkjnhcnbbojajaaDoor

namespace Go.Proofs.YtkjnhcnbbojajaaDoor

/-- As Q; by a goto: J of its label. -/
def jumps (J : Nat → Act → World → Prop) (Q : Exit → Act → World → Prop) : Exit → Act → World → Prop
  | .goto l, a, w => J l a w
  | e, a, w => Q e a w
theorem jumps_ret (J : Nat → Act → World → Prop) (Q : Exit → Act → World → Prop) (a : Act) (w : World) : jumps J Q .ret a w = Q .ret a w := rfl
theorem jumps_goto (J : Nat → Act → World → Prop) (Q : Exit → Act → World → Prop) (l : Nat) (a : Act) (w : World) : jumps J Q (.goto l) a w = J l a w := rfl
theorem wp_scope_labels {P : Program} {a : Act} {w : World} {Q : Exit → Act → World → Prop} {c : Code} (J : Nat → Act → World → Prop) (μ : Nat → Act → World → Nat)
    (first : c.wp P (jumps J Q) a w)
    (pass : ∀ l a w, J l a w → ∃ rest, findLabel c l = some rest ∧ rest.wp P (jumps (fun l' a' w' => J l' a' w' ∧ μ l' a' w' < μ l a w) Q) a w) : (Code.scope c).wp P Q a w := by
  intro b k cs
  have key : ∀ n l a w, μ l a w = n → J l a w → ∃ rest, gotoIn l (.inScope c :: k) = some (.code rest :: .inScope c :: k) ∧ ∃ e a' w', Q e a' w' ∧ Arrives P (lone (b.at a (.code rest :: .inScope c :: k)) cs w) b k cs e a' w' := by
    intro n
    induction n using Nat.strongRecOn with
    | _ n ih =>
      intro l a w hn hJ
      obtain ⟨rest, hf, hp⟩ := pass l a w hJ
      refine ⟨rest, by simp [gotoIn, hf], ?_⟩
      obtain ⟨e, a₁, w₁, hq, harr⟩ := hp b (.inScope c :: k) cs
      cases e with
      | normal => exact ⟨.normal, a₁, w₁, hq, Steps.trans harr (.one step_inScope)⟩
      | exit id => exact ⟨.exit id, a₁, w₁, hq, fun k' hk => harr k' (by simp [exitTo, hk])⟩
      | goto l' =>
        obtain ⟨hJ', hlt⟩ := hq
        obtain ⟨r₂, hg₂, e₂, a₂, w₂, hq₂, harr₂⟩ := ih _ (by omega) l' a₁ w₁ rfl hJ'
        exact ⟨e₂, a₂, w₂, hq₂, .of_steps (harr _ hg₂) harr₂⟩
      | ret => exact ⟨_, a₁, w₁, hq, harr⟩
      | panic ch => exact ⟨_, a₁, w₁, hq, harr⟩
      | outgrown => exact ⟨_, a₁, w₁, hq, harr⟩
  obtain ⟨e, a₁, w₁, hq, harr⟩ := first b (.inScope c :: k) cs
  cases e with
  | normal => exact ⟨.normal, a₁, w₁, hq, .head step_scope (Steps.trans harr (.one step_inScope))⟩
  | exit id => exact ⟨.exit id, a₁, w₁, hq, fun k' hk => .head step_scope (harr k' (by simp [exitTo, hk]))⟩
  | goto l' =>
    obtain ⟨r₂, hg₂, e₂, a₂, w₂, hq₂, harr₂⟩ := key _ l' a₁ w₁ rfl hq
    exact ⟨e₂, a₂, w₂, hq₂, .of_steps (.head step_scope (harr _ hg₂)) harr₂⟩
  | ret => exact ⟨_, a₁, w₁, hq, .of_steps (.one step_scope) harr⟩
  | panic ch => exact ⟨_, a₁, w₁, hq, .of_steps (.one step_scope) harr⟩
  | outgrown => exact ⟨_, a₁, w₁, hq, .of_steps (.one step_scope) harr⟩
end Go.Proofs.YtkjnhcnbbojajaaDoor
