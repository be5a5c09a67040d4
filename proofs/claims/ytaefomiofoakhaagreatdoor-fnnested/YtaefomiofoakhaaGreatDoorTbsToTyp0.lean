/- Tables of texts at package level: what a row lists of one gives its cells; no program in it · The names of the charsets and of the comparators: the program's and the model's functions answer by one plain function each · ComparatorOf, the program's and the model's, at every text: both by one plain function · CharsetOf, the program's and the model's: both by one plain function; texts of at most 1048576 bytes · What kind of part a value tells, plainly. -/
import Derived.Test.YtaefomiofoakhaaGreatDoorAppToMemF
import Derived.Lib.LaidTab
import Derived.LaidMore
import Derived.Test.YtaefomiofoakhaaGreatDoorCvToLow0
import Derived.Test.YtaefomiofoakhaaGreatDoorPcs
import Derived.Test.YtaefomiofoakhaaGreatDoorHdr2ToHdr5
namespace Go.Proofs.YtaefomiofoakhaaGreatDoor
open Go.RowKit

/-- A table of texts as a row lists it. -/
def strData {H : Type} (zs : List (List UInt8)) : DataW H := .agg (zs.map fun z => .lit (.string z))
/-- A text of bytes. -/
def txt (z : List UInt8) : ByteArray := ⟨z.toArray⟩
theorem cells_of_strs {H : Type} {enc : TypeId × Value → H} {P : Program} {w : World} {base : Nat} {sp : Nat → Bool} {held : Bool} {fuel : Nat} {t e : TypeId} {n : Nat} {cs : List Value} {zs : List (List UInt8)} {p : List MemPlace}
    (ht : P.underlying t = some (.array n e)) (he : P.underlying e = some .string) (hce : P.cellsOf e = 1) (hct : P.cellsOf t = n)
    (h : DataW.trod enc P w base sp held fuel t cs = some (strData zs, p)) : cs = zs.map fun z => Value.string (txt z) := by
  cases fuel with
  | zero => simp [DataW.trod] at h
  | succ fuel =>
    simp only [DataW.trod, ht, hce, hct, Nat.mul_one] at h
    split at h
    · rename_i hl
      obtain ⟨xs, hm, hx⟩ := Option.map_eq_some_iff.1 h
      have hxs : xs.map (·.1) = zs.map fun z => (DataW.lit (.string z) : DataW H) := by
        have := congrArg Prod.fst hx
        simpa [strData] using this
      have hxl : xs.length = n := by simpa using Lib.mapM_length hm
      have hzl : zs.length = n := by
        have := congrArg List.length hxs
        simp at this
        omega
      apply List.ext_getElem?
      intro i
      by_cases hi : i < n
      · obtain ⟨b, hb, hf⟩ := Lib.mapM_at hm i i (by simp [hi])
        obtain ⟨s, hc, rfl, _⟩ := DataW.trod_string he hf
        have h1 : cs[i]? = some (.string s) := by
          have := congrArg (·[0]?) hc
          simpa [List.getElem?_take, List.getElem?_drop] using this
        have h2 : (xs.map (·.1))[i]? = some (DataW.lit (.string s.data.toList) : DataW H) := by simp [hb]
        rw [hxs] at h2
        simp only [List.getElem?_map, Option.map_eq_some_iff, DataW.lit.injEq, Lit.string.injEq] at h2
        obtain ⟨z', hz', e'⟩ := h2
        simp [h1, hz', e', txt]
      · rw [List.getElem?_eq_none (by omega), List.getElem?_eq_none (by simp; omega)]
    · cases h

/-- The variable holds just these texts. -/
def StrsAre (P : Program) (w : World) (name : String) (zs : List (List UInt8)) : Prop := w.var? P name = some (zs.map fun z => Value.string (txt z)).toArray
theorem strsAre_of_head {P : Program} {W : World} {name : String} {zs : List (List UInt8)} {rest : List (String × DataW Unit)} {g : Nat} {t e : TypeId} {n : Nat}
    (hg : P.globalNamed name = some g) (hty : (P.globals[g]?).map (·.type) = some t) (ht : P.underlying t = some (.array n e)) (he : P.underlying e = some .string) (hce : P.cellsOf e = 1) (hct : P.cellsOf t = n)
    (h : laidMet P ((name, strData zs) :: rest) W) : StrsAre P W name zs := by
  obtain ⟨ps, ⟨g', t', cs, fuel, p, q, hg', ht', hvar, hd, _, _⟩, _⟩ := h
  obtain rfl := Option.some.inj (hg.symm.trans hg')
  obtain rfl := Option.some.inj (hty.symm.trans ht')
  unfold StrsAre
  rw [hvar, ← cells_of_strs ht he hce hct hd]
theorem StrsAre.cell {P : Program} {W : World} {name : String} {zs : List (List UInt8)} {g : Nat} (h : StrsAre P W name zs) (hg : P.globalNamed name = some g) (i : Nat) (hi : i < zs.length) :
    W.cell? ⟨g, i, none⟩ = some (.string (txt (zs.getD i []))) := by
  have := World.var?_cell hg h i
  simpa [List.getD, hi] using this
end Go.Proofs.YtaefomiofoakhaaGreatDoor

namespace Go.Proofs.YtaefomiofoakhaaGreatDoor
open Go.RowKit

/-- The names of the charsets, and those of the comparators. -/
def csZ : List (List UInt8) := [[117, 115, 45, 97, 115, 99, 105, 105], [105, 115, 111, 45, 56, 56, 53, 57, 45, 49], [105, 115, 111, 45, 56, 56, 53, 57, 45, 53], [117, 116, 102, 45, 56], [117, 116, 102, 45, 49, 54]]
/-- The name at a place. -/
def csN (i : Nat) : ByteArray := txt (csZ.getD i [])
/-- THE TABLES LIE IN THEIR VARIABLES. -/
def TabC (w : World) : Prop := ∀ v, v < 5 → w.cell? ⟨0, v, none⟩ = some (.string (csN v))
theorem TabC.below {w w' : World} (h : TabC w) (hb : Below w.heap.size w w') : TabC w' := fun v hv =>
  (hb.cell (p := ⟨0, v, none⟩) (World.block_lt_of_cell? w ⟨0, 0, none⟩ (h 0 (by decide)))).trans (h v hv)
theorem csRow_at (w : World) (t : TypeId) (j : Nat) (hj : j < 5) : (w.alloc (.cells #[.string ⟨#[]⟩, .string ⟨#[117, 115, 45, 97, 115, 99, 105, 105]⟩, .string ⟨#[105, 115, 111, 45, 56, 56, 53, 57, 45, 49]⟩, .string ⟨#[105, 115, 111, 45, 56, 56, 53, 57, 45, 53]⟩, .string ⟨#[117, 116, 102, 45, 56]⟩, .string ⟨#[117, 116, 102, 45, 49, 54]⟩] t)).cell? ⟨w.heap.size, j + 1, none⟩ = some (.string (csN j)) := by
  rw [World.cell?_alloc_mark]
  match j, hj with
  | 0, _ => rfl
  | 1, _ => rfl
  | 2, _ => rfl
  | 3, _ => rfl
  | 4, _ => rfl
set_option maxHeartbeats 1600000 in
set_option maxRecDepth 100000 in
theorem l2Name_any (j : Nat) (hj : j < 5) (w : World) : Calls Tryz.prog 63 #[.int .i64 ((j + 1 : Nat) : Int)] w fun e w' => e = .returned (.string (csN j)) ∧ Below w.heap.size w w' := by
  have hc := csRow_at w 9 j hj
  have h1 : ((j + 1 : Nat) : Int) < 6 := by omega
  go_enter Tryz.func63, Tryz.ntmps63
  go_wp2
  go_ret
  exact ⟨rfl, by go_grown⟩
end Go.Proofs.YtaefomiofoakhaaGreatDoor

namespace Go.Proofs.YtaefomiofoakhaaGreatDoor
open Go.RowKit

theorem toList_txt (l : List Nat) : (str l).toList = l.map UInt8.ofNat := by
  rw [ByteArray.toList_eq]; simp [str]
theorem txt_ne {x s : ByteArray} (h : x ≠ s) : (x.toList == s.toList) = false := by
  rw [beq_eq_false_iff_ne]
  intro he
  apply h
  obtain ⟨a, rfl, _⟩ := str_surj x
  obtain ⟨b, rfl, _⟩ := str_surj s
  rw [toList_txt, toList_txt] at he
  unfold str
  rw [he]

/-- The place of a name among the first n of a table. -/
def findN (f : Nat → ByteArray) (s : ByteArray) : Nat → Option Nat
  | 0 => none
  | n + 1 => match findN f s n with
    | some i => some i
    | none => if f n = s then some n else none
theorem findN_none {f : Nat → ByteArray} {s : ByteArray} : ∀ {n : Nat}, (∀ i, i < n → f i ≠ s) → findN f s n = none
  | 0, _ => rfl
  | n + 1, h => by
    rw [findN, findN_none (fun i hi => h i (by omega))]
    exact if_neg (h n (by omega))
theorem findN_some {f : Nat → ByteArray} {s : ByteArray} {j : Nat} (h : ∀ i, i < j → f i ≠ s) (hj : f j = s) : ∀ {n : Nat}, j < n → findN f s n = some j
  | 0, hn => by omega
  | n + 1, hn => by
    by_cases e : j = n
    · subst e
      rw [findN, findN_none h]
      exact if_pos hj
    · rw [findN, findN_some h hj (n := n) (by omega)]
/-- The answer of a look for a name. -/
def ofV (o : Option Nat) : Int × Int := match o with
  | some i => (0, (i : Int) + 1)
  | none => (4, 0)
/-- An answer with one number. -/
def IntEnd (r : Int × Int) (w : World) (e : Ending) (w' : World) : Prop := e = .returned (.agg #[.int .i64 r.1, .int .i64 r.2]) ∧ Below w.heap.size w w'
theorem IntEnd.put {r : Int × Int} {w w1 : World} (hbel : Below w.heap.size w w1) (x y : Value) : IntEnd r w (.returned (.agg #[.int .i64 r.1, .int .i64 r.2])) ((w1.setCell ⟨w.heap.size, 0, none⟩ x).setCell ⟨w.heap.size, 1, none⟩ y) :=
  ⟨rfl, (hbel.setCell (by simp) _).setCell (by simp) _⟩

end Go.Proofs.YtaefomiofoakhaaGreatDoor

namespace Go.Proofs.YtaefomiofoakhaaGreatDoor
open Go.RowKit

/-- What CharsetOf answers of a text. -/
def csfV (s : ByteArray) : Int × Int := ofV (findN csN s 5)
theorem csfV_none {s : ByteArray} (h : ∀ i, i < 5 → csN i ≠ s) : csfV s = (4, 0) := by unfold csfV; rw [findN_none h]; rfl
theorem csfV_some {s : ByteArray} {j : Nat} (h : ∀ i, i < j → csN i ≠ s) (hj : csN j = s) (h3 : j < 5) : csfV s = (0, (j : Int) + 1) := by unfold csfV; rw [findN_some h hj h3]; rfl
/-- The number that the model looks for. -/
def ofN (o : Option Nat) : Int := match o with
  | some i => (i : Int) + 1
  | none => 0
def csI (s : ByteArray) : Int := ofN (findN csN s 5)
theorem csI_none {s : ByteArray} (h : ∀ i, i < 5 → csN i ≠ s) : csI s = 0 := by unfold csI; rw [findN_none h]; rfl
theorem csI_some {s : ByteArray} {j : Nat} (h : ∀ i, i < j → csN i ≠ s) (hj : csN j = s) (h3 : j < 5) : csI s = (j : Int) + 1 := by unfold csI; rw [findN_some h hj h3]; rfl
theorem csfV_csI (s : ByteArray) : csI s = 0 ∧ csfV s = (4, 0) ∨ csI s ≠ 0 ∧ csfV s = (0, csI s) := by
  unfold csI csfV
  cases findN csN s 5 with
  | none => exact .inl ⟨rfl, rfl⟩
  | some i => exact .inr ⟨by show (i : Int) + 1 ≠ 0; omega, rfl⟩

set_option maxHeartbeats 1600000 in
set_option maxRecDepth 100000 in
theorem charsetOf_any (t : List Nat) (n : Nat) (w : World) (hl : t.length = n) (hB : IsB t) (hn : n ≤ 1048576) (ht : TabC w) : Calls Tryz.prog 39 #[.string (str t)] w fun e w' => IntEnd (csfV (str (t.map low))) w e w' := by
  have hb0 : Below w.heap.size w (w.alloc (.cells #[.int .i64 0, .int .i64 0] 36)) := (Below.refl _ _).alloc (Nat.le_refl _) _
  have ht0 := ht.below hb0
  have hWs : (w.alloc (.cells #[.int .i64 0, .int .i64 0] 36)).heap.size = w.heap.size + 1 := by simp
  have HS : Hid (∀ w, Calls Tryz.prog 22 #[.string (str t)] w fun e w' => e = .returned (.string (str (t.map low))) ∧ Below w.heap.size w w') := fun w => smallLetters_any t n w hl hB hn
  generalize str (t.map low) = s at *
  go_enter Tryz.func39, Tryz.ntmps39
  go_wp2_with fail
  refine (HS.out _).mono ?_
  rintro e w1 ⟨rfl, hb1⟩
  generalize hW : w.alloc (.cells #[.int .i64 0, .int .i64 0] 36) = W at *
  have hbl : Below (w.heap.size + 1) W w1 := by rw [← hWs]; exact hb1
  have ht1 := ht0.below hb1
  have hbE : Below w.heap.size w w1 := hb0.trans (hbl.mono (by omega))
  obtain ⟨hcw, hcw1, hfw, hfw1⟩ := res_block hW hbl
  clear ht ht0 hb1
  go_wp2
  go_loopw [4] (fun v wr => ∃ j : Nat, j ≤ 5 ∧ v = .int .i64 ((j : Int) + 1) ∧ (∀ i, i < j → csN i ≠ s) ∧ wr = w1) (fun v _ => 7 - (intOf v).toNat)
  case atStart => exact ⟨0, by omega, rfl, fun i hi => by omega, rfl⟩
  case round =>
    obtain ⟨j, hj, rfl, hno, rfl⟩ := hrel
    by_cases hj3 : j < 5
    · have hc := ht1 j hj3
      have hlt : 0 < wr.heap.size := World.block_lt_of_cell? _ _ hc
      have h3 : (j : Int) + 1 ≤ 5 := by omega
      have h4 : (j : Int) + 1 - 1 = (j : Int) := by omega
      have h5 : (j : Int) < 5 := by omega
      by_cases hx : csN j = s
      · have HX : Hid (csfV s = (0, (j : Int) + 1)) := csfV_some hno hx hj3
        rw [hx] at hc
        clear hno hx ht1
        obtain ⟨hk0, hk1⟩ := res_cells hcw hcw1 (.int .i64 0) (.int .i64 ((j : Int) + 1))
        go_wp2
        refine bodyPost_ret (v := .agg #[.int .i64 0, .int .i64 ((j : Int) + 1)]) (by simp [results, Tryz.results39, go_sem, hk0, hk1]) rfl ?_
        rw [HX.out]
        exact IntEnd.put hbE _ _
      · have HN : Hid (∀ i, i < j + 1 → csN i ≠ s) := fun i hi => by
          by_cases hij : i < j
          · exact hno i hij
          · have : i = j := by omega
            subst this; exact hx
        generalize csN j = x at *
        have e0 := txt_ne hx
        clear hno ht1 hcw hcw1 hfw hfw1
        go_wp2
        go_roundw
        case rel => exact ⟨j + 1, by omega, by go_num, HN.out, by trivial⟩
        case measure => simp [intOf]; omega
    · have HX : Hid (csfV s = (4, 0)) := csfV_none (fun i hi => hno i (by omega))
      have h3 : ¬ (j : Int) + 1 ≤ 5 := by omega
      obtain ⟨hk0, hk1⟩ := res_cells hcw hcw1 (.int .i64 4) (.int .i64 0)
      clear hno
      go_wp2
      refine bodyPost_ret (v := .agg #[.int .i64 4, .int .i64 0]) (by simp [results, Tryz.results39, go_sem, hk0, hk1]) rfl ?_
      rw [HX.out]
      exact IntEnd.put hbE _ _

set_option maxHeartbeats 1600000 in
set_option maxRecDepth 100000 in
theorem l2Of_any (t : List Nat) (n : Nat) (w : World) (hl : t.length = n) (hB : IsB t) (hn : n ≤ 1048576) : Calls Tryz.prog 43 #[.string (str t)] w fun e w' => e = .returned (.int .i64 (csI (str (t.map low)))) ∧ Below w.heap.size w w' := by
  have HL : Hid (∀ w, Calls Tryz.prog 62 #[.string (str t)] w fun e w' => e = .returned (.string (str (t.map low))) ∧ Below w.heap.size w w') := fun w => l2Lower_any t n w hl hB hn
  generalize str (t.map low) = s at *
  go_enter Tryz.func43, Tryz.ntmps43
  go_wp2
  go_loopw [3] (fun v wr => ∃ j : Nat, j ≤ 5 ∧ v = .int .i64 ((j : Int) + 1) ∧ (∀ i, i < j → csN i ≠ s) ∧ Below w.heap.size w wr) (fun v _ => 7 - (intOf v).toNat)
  case atStart => exact ⟨0, by omega, rfl, fun i hi => by omega, Below.refl _ _⟩
  case round =>
    obtain ⟨j, hj, rfl, hno, hbel⟩ := hrel
    have hz := hbel.size
    by_cases hj3 : j < 5
    · have h3 : (j : Int) + 1 ≤ 5 := by omega
      have HC : Hid (∀ w, Calls Tryz.prog 63 #[.int .i64 ((j : Int) + 1)] w fun e w' => e = .returned (.string (csN j)) ∧ Below w.heap.size w w') := fun w => l2Name_any j hj3 w
      have HY : Hid (csN j = s → csI s = (j : Int) + 1) := fun hx => csI_some hno hx hj3
      have HN : Hid (csN j ≠ s → ∀ i, i < j + 1 → csN i ≠ s) := fun hx i hi => by
        by_cases hij : i < j
        · exact hno i hij
        · have : i = j := by omega
          subst this; exact hx
      generalize csN j = x at *
      clear hno
      go_wp2_with fail
      refine (HC.out _).mono ?_
      rintro e w1 ⟨rfl, hb1⟩
      go_wp2_with fail
      refine (HL.out _).mono ?_
      rintro e w2 ⟨rfl, hb2⟩
      have hbl : Below w.heap.size w w2 := (hbel.trans (hb1.mono hz)).trans (hb2.mono (by have := hb1.size; omega))
      clear hb1 hb2 HC HL
      by_cases hx : x = s
      · have HX : Hid (_) := HY.out hx
        clear HY HN
        subst hx
        go_wp2
        go_ret
        exact ⟨by rw [HX.out]; rfl, hbl⟩
      · have HM : Hid (_) := HN.out hx
        have e0 := txt_ne hx
        clear HY HN
        go_wp2
        go_roundw
        case rel => exact ⟨j + 1, by omega, by go_num, HM.out, hbl⟩
        case measure => simp [intOf]; omega
    · have HX : Hid (csI s = 0) := csI_none (fun i hi => hno i (by omega))
      have h3 : ¬ (j : Int) + 1 ≤ 5 := by omega
      clear hno
      go_wp2
      go_ret
      exact ⟨by rw [HX.out]; rfl, hbel⟩

end Go.Proofs.YtaefomiofoakhaaGreatDoor

namespace Go.Proofs.YtaefomiofoakhaaGreatDoor
open Go.RowKit

/-- A text that begins with another one, its letters small. -/
def bgN (t p : List Nat) : Bool := decide ((t.take p.length).map low = p)
theorem bgN_len {t p : List Nat} (h : bgN t p = true) : p.length ≤ t.length := by
  have := congrArg List.length (of_decide_eq_true h)
  rw [List.length_map, List.length_take] at this
  omega
/-- What stands behind the first piece that begins so. -/
def nmN (p : List Nat) : List (List Nat) → Option (List Nat)
  | [] => none
  | t :: l => if bgN t p then some (t.drop p.length) else nmN p l
theorem nmN_skip {p : List Nat} : ∀ {l : List (List Nat)} {k : Nat}, k ≤ l.length → (∀ i, i < k → bgN (l.getD i []) p = false) → nmN p l = nmN p (l.drop k) := by
  intro l k
  induction k generalizing l with
  | zero => intro _ _; simp
  | succ k ih =>
    intro h1 h2
    cases l with
    | nil => simp at h1
    | cons t r =>
      have h0 : bgN t p = false := h2 0 (by omega)
      rw [nmN, h0, List.drop_succ_cons]
      simp only [Bool.false_eq_true, if_false]
      exact ih (by simpa using h1) (fun i hi => h2 (i + 1) (by omega))
theorem nmN_none {p : List Nat} {l : List (List Nat)} (h : ∀ i, i < l.length → bgN (l.getD i []) p = false) : nmN p l = none := by
  rw [nmN_skip (Nat.le_refl _) h, List.drop_length]; rfl
theorem nmN_some {p : List Nat} {l : List (List Nat)} {k : Nat} (h1 : k < l.length) (h2 : ∀ i, i < k → bgN (l.getD i []) p = false) (h3 : bgN (l.getD k []) p = true) : nmN p l = some ((l.getD k []).drop p.length) := by
  rw [nmN_skip (by omega) h2]
  have e : l.drop k = l.getD k [] :: l.drop (k + 1) := by
    rw [List.getD_eq_getElem?_getD, List.getElem?_eq_getElem h1]; exact List.drop_eq_getElem_cons h1
  rw [e, nmN, h3]
  rfl
/-- text/ · multipart/ · charset= · boundary= -/
def wText : List Nat := [116, 101, 120, 116, 47]
def wMulti : List Nat := [109, 117, 108, 116, 105, 112, 97, 114, 116, 47]
def wChar : List Nat := [99, 104, 97, 114, 115, 101, 116, 61]
def wMark : List Nat := [98, 111, 117, 110, 100, 97, 114, 121, 61]
/-- A charset by its name. -/
def csNm (t : List Nat) : Int := csI (str (t.map low))
/-- The charset that pieces behind the first one tell. -/
def chN (l : List (List Nat)) : Int := match nmN wChar l with
  | none => 1
  | some x => csNm x
/-- The kind and the charset that a value tells. -/
def tyV (t : List Nat) : Int × Int := match pcs t with
  | [] => (3, 0)
  | p :: l => if bgN p wMulti then (2, 0) else if bgN p wText then (1, chN l) else (3, 0)
theorem tyV_nil {t : List Nat} (h : pcs t = []) : tyV t = (3, 0) := by unfold tyV; rw [h]
theorem tyV_multi {t p : List Nat} {l : List (List Nat)} (h : pcs t = p :: l) (h1 : bgN p wMulti = true) : tyV t = (2, 0) := by unfold tyV; rw [h]; simp only [h1, if_true]
theorem tyV_text {t p : List Nat} {l : List (List Nat)} (h : pcs t = p :: l) (h1 : bgN p wMulti = false) (h2 : bgN p wText = true) : tyV t = (1, chN l) := by unfold tyV; rw [h]; simp [h1, h2]
theorem tyV_else {t p : List Nat} {l : List (List Nat)} (h : pcs t = p :: l) (h1 : bgN p wMulti = false) (h2 : bgN p wText = false) : tyV t = (3, 0) := by unfold tyV; rw [h]; simp [h1, h2]
theorem tm_apart {p : List Nat} (h : bgN p wText = true) : bgN p wMulti = false := by
  cases hm : bgN p wMulti with
  | false => rfl
  | true =>
    exfalso
    have h1 := of_decide_eq_true h
    have h2 := of_decide_eq_true hm
    have l1 := bgN_len h
    cases p with
    | nil => simp [wText] at l1
    | cons c p =>
      simp [wText] at h1
      simp [wMulti] at h2
      omega
theorem chN_none {l : List (List Nat)} (h : nmN wChar l = none) : chN l = 1 := by unfold chN; rw [h]
theorem chN_some {l : List (List Nat)} {x : List Nat} (h : nmN wChar l = some x) : chN l = csNm x := by unfold chN; rw [h]
end Go.Proofs.YtaefomiofoakhaaGreatDoor
