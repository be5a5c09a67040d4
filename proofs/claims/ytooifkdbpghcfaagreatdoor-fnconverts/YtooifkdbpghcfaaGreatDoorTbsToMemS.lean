/- Tables of texts at package level: what a row lists of one gives its cells; no program in it · The names of the charsets and of the comparators: the program's and the model's functions answer by one plain function each · ComparatorOf, the program's and the model's, at every text: both by one plain function · CharsetOf, the program's and the model's: both by one plain function; texts of at most 1048576 bytes · What kind of part a value tells, plainly · Words on memory: where a slice of texts is read, what a row of the call's own holds, an append; no conditions beyond those that each fact names. -/
import Derived.Test.YtooifkdbpghcfaaGreatDoorMemIToSee
import Derived.Lib.LaidTab
import Derived.LaidMore
import Derived.Test.YtooifkdbpghcfaaGreatDoorFdpToLow0
import Derived.Test.YtooifkdbpghcfaaGreatDoorPcs
import Derived.Test.YtooifkdbpghcfaaGreatDoorHdr2ToHdr5
import Derived.Test.YtooifkdbpghcfaaGreatDoorMemToApp
namespace Go.Proofs.YtooifkdbpghcfaaGreatDoor
open Go.RowKit

/-- A table of texts as a row lists it. -/
def strData {H : Type} (zs : List (List UInt8)) : DataW H := .agg (zs.map fun z => .lit (.string z))
/-- A text of bytes. -/
def txt (z : List UInt8) : ByteArray := ⟨z.toArray⟩
theorem cells_of_strs {H : Type} {enc : TypeId × Value → H} {P : Program} {w : World} {base : Nat} {sp : Nat → Bool} {held : Bool} {fuel : Nat} {t e : TypeId} {n : Nat} {cs : List Value} {zs : List (List UInt8)} {p : List MemPlace}
    (ht : P.underlying t = some (.array n e)) (he : P.underlying e = some .string) (hce : P.cellsOf e = 1) (hct : P.cellsOf t = n)
    (h : DataW.trod enc P w base sp held fuel t cs = some (strData zs, p)) : cs = zs.map fun z => Value.string (txt z) := by
  cases fuel with
  | zero => simp [DataW.trod] at h
  | succ fuel =>
    simp only [DataW.trod, ht, hce, hct, Nat.mul_one] at h
    split at h
    · rename_i hl
      obtain ⟨xs, hm, hx⟩ := Option.map_eq_some_iff.1 h
      have hxs : xs.map (·.1) = zs.map fun z => (DataW.lit (.string z) : DataW H) := by
        have := congrArg Prod.fst hx
        simpa [strData] using this
      have hxl : xs.length = n := by simpa using Lib.mapM_length hm
      have hzl : zs.length = n := by
        have := congrArg List.length hxs
        simp at this
        omega
      apply List.ext_getElem?
      intro i
      by_cases hi : i < n
      · obtain ⟨b, hb, hf⟩ := Lib.mapM_at hm i i (by simp [hi])
        obtain ⟨s, hc, rfl, _⟩ := DataW.trod_string he hf
        have h1 : cs[i]? = some (.string s) := by
          have := congrArg (·[0]?) hc
          simpa [List.getElem?_take, List.getElem?_drop] using this
        have h2 : (xs.map (·.1))[i]? = some (DataW.lit (.string s.data.toList) : DataW H) := by simp [hb]
        rw [hxs] at h2
        simp only [List.getElem?_map, Option.map_eq_some_iff, DataW.lit.injEq, Lit.string.injEq] at h2
        obtain ⟨z', hz', e'⟩ := h2
        simp [h1, hz', e', txt]
      · rw [List.getElem?_eq_none (by omega), List.getElem?_eq_none (by simp; omega)]
    · cases h

/-- The variable holds just these texts. -/
def StrsAre (P : Program) (w : World) (name : String) (zs : List (List UInt8)) : Prop := w.var? P name = some (zs.map fun z => Value.string (txt z)).toArray
theorem strsAre_of_head {P : Program} {W : World} {name : String} {zs : List (List UInt8)} {rest : List (String × DataW Unit)} {g : Nat} {t e : TypeId} {n : Nat}
    (hg : P.globalNamed name = some g) (hty : (P.globals[g]?).map (·.type) = some t) (ht : P.underlying t = some (.array n e)) (he : P.underlying e = some .string) (hce : P.cellsOf e = 1) (hct : P.cellsOf t = n)
    (h : laidMet P ((name, strData zs) :: rest) W) : StrsAre P W name zs := by
  obtain ⟨ps, ⟨g', t', cs, fuel, p, q, hg', ht', hvar, hd, _, _⟩, _⟩ := h
  obtain rfl := Option.some.inj (hg.symm.trans hg')
  obtain rfl := Option.some.inj (hty.symm.trans ht')
  unfold StrsAre
  rw [hvar, ← cells_of_strs ht he hce hct hd]
theorem StrsAre.cell {P : Program} {W : World} {name : String} {zs : List (List UInt8)} {g : Nat} (h : StrsAre P W name zs) (hg : P.globalNamed name = some g) (i : Nat) (hi : i < zs.length) :
    W.cell? ⟨g, i, none⟩ = some (.string (txt (zs.getD i []))) := by
  have := World.var?_cell hg h i
  simpa [List.getD, hi] using this
end Go.Proofs.YtooifkdbpghcfaaGreatDoor

namespace Go.Proofs.YtooifkdbpghcfaaGreatDoor
open Go.RowKit

/-- The names of the charsets, and those of the comparators. -/
def csZ : List (List UInt8) := [[117, 115, 45, 97, 115, 99, 105, 105], [105, 115, 111, 45, 56, 56, 53, 57, 45, 49], [105, 115, 111, 45, 56, 56, 53, 57, 45, 53], [117, 116, 102, 45, 56], [117, 116, 102, 45, 49, 54]]
/-- The name at a place. -/
def csN (i : Nat) : ByteArray := txt (csZ.getD i [])
/-- THE TABLES LIE IN THEIR VARIABLES. -/
def TabC (w : World) : Prop := ∀ v, v < 5 → w.cell? ⟨2, v, none⟩ = some (.string (csN v))
theorem TabC.below {w w' : World} (h : TabC w) (hb : Below w.heap.size w w') : TabC w' := fun v hv =>
  (hb.cell (p := ⟨2, v, none⟩) (World.block_lt_of_cell? w ⟨2, 0, none⟩ (h 0 (by decide)))).trans (h v hv)
theorem csRow_at (w : World) (t : TypeId) (j : Nat) (hj : j < 5) : (w.alloc (.cells #[.string ⟨#[]⟩, .string ⟨#[117, 115, 45, 97, 115, 99, 105, 105]⟩, .string ⟨#[105, 115, 111, 45, 56, 56, 53, 57, 45, 49]⟩, .string ⟨#[105, 115, 111, 45, 56, 56, 53, 57, 45, 53]⟩, .string ⟨#[117, 116, 102, 45, 56]⟩, .string ⟨#[117, 116, 102, 45, 49, 54]⟩] t)).cell? ⟨w.heap.size, j + 1, none⟩ = some (.string (csN j)) := by
  rw [World.cell?_alloc_mark]
  match j, hj with
  | 0, _ => rfl
  | 1, _ => rfl
  | 2, _ => rfl
  | 3, _ => rfl
  | 4, _ => rfl
set_option maxHeartbeats 1600000 in
set_option maxRecDepth 100000 in
theorem l2Name_any (j : Nat) (hj : j < 5) (w : World) : Calls Tryz.prog 168 #[.int .i64 ((j + 1 : Nat) : Int)] w fun e w' => e = .returned (.string (csN j)) ∧ Below w.heap.size w w' := by
  have hc := csRow_at w 9 j hj
  have h1 : ((j + 1 : Nat) : Int) < 6 := by omega
  go_enter Tryz.func168, Tryz.ntmps168
  go_wp2
  go_ret
  exact ⟨rfl, by go_grown⟩
end Go.Proofs.YtooifkdbpghcfaaGreatDoor

namespace Go.Proofs.YtooifkdbpghcfaaGreatDoor
open Go.RowKit

theorem toList_txt (l : List Nat) : (str l).toList = l.map UInt8.ofNat := by
  rw [ByteArray.toList_eq]; simp [str]
theorem txt_ne {x s : ByteArray} (h : x ≠ s) : (x.toList == s.toList) = false := by
  rw [beq_eq_false_iff_ne]
  intro he
  apply h
  obtain ⟨a, rfl, _⟩ := str_surj x
  obtain ⟨b, rfl, _⟩ := str_surj s
  rw [toList_txt, toList_txt] at he
  unfold str
  rw [he]

/-- The place of a name among the first n of a table. -/
def findN (f : Nat → ByteArray) (s : ByteArray) : Nat → Option Nat
  | 0 => none
  | n + 1 => match findN f s n with
    | some i => some i
    | none => if f n = s then some n else none
theorem findN_none {f : Nat → ByteArray} {s : ByteArray} : ∀ {n : Nat}, (∀ i, i < n → f i ≠ s) → findN f s n = none
  | 0, _ => rfl
  | n + 1, h => by
    rw [findN, findN_none (fun i hi => h i (by omega))]
    exact if_neg (h n (by omega))
theorem findN_some {f : Nat → ByteArray} {s : ByteArray} {j : Nat} (h : ∀ i, i < j → f i ≠ s) (hj : f j = s) : ∀ {n : Nat}, j < n → findN f s n = some j
  | 0, hn => by omega
  | n + 1, hn => by
    by_cases e : j = n
    · subst e
      rw [findN, findN_none h]
      exact if_pos hj
    · rw [findN, findN_some h hj (n := n) (by omega)]
/-- The answer of a look for a name. -/
def ofV (o : Option Nat) : Int × Int := match o with
  | some i => (0, (i : Int) + 1)
  | none => (4, 0)
/-- An answer with one number. -/
def IntEnd (r : Int × Int) (w : World) (e : Ending) (w' : World) : Prop := e = .returned (.agg #[.int .i64 r.1, .int .i64 r.2]) ∧ Below w.heap.size w w'
theorem IntEnd.put {r : Int × Int} {w w1 : World} (hbel : Below w.heap.size w w1) (x y : Value) : IntEnd r w (.returned (.agg #[.int .i64 r.1, .int .i64 r.2])) ((w1.setCell ⟨w.heap.size, 0, none⟩ x).setCell ⟨w.heap.size, 1, none⟩ y) :=
  ⟨rfl, (hbel.setCell (by simp) _).setCell (by simp) _⟩

end Go.Proofs.YtooifkdbpghcfaaGreatDoor

namespace Go.Proofs.YtooifkdbpghcfaaGreatDoor
open Go.RowKit

/-- What CharsetOf answers of a text. -/
def csfV (s : ByteArray) : Int × Int := ofV (findN csN s 5)
theorem csfV_none {s : ByteArray} (h : ∀ i, i < 5 → csN i ≠ s) : csfV s = (4, 0) := by unfold csfV; rw [findN_none h]; rfl
theorem csfV_some {s : ByteArray} {j : Nat} (h : ∀ i, i < j → csN i ≠ s) (hj : csN j = s) (h3 : j < 5) : csfV s = (0, (j : Int) + 1) := by unfold csfV; rw [findN_some h hj h3]; rfl
/-- The number that the model looks for. -/
def ofN (o : Option Nat) : Int := match o with
  | some i => (i : Int) + 1
  | none => 0
def csI (s : ByteArray) : Int := ofN (findN csN s 5)
theorem csI_none {s : ByteArray} (h : ∀ i, i < 5 → csN i ≠ s) : csI s = 0 := by unfold csI; rw [findN_none h]; rfl
theorem csI_some {s : ByteArray} {j : Nat} (h : ∀ i, i < j → csN i ≠ s) (hj : csN j = s) (h3 : j < 5) : csI s = (j : Int) + 1 := by unfold csI; rw [findN_some h hj h3]; rfl
theorem csfV_csI (s : ByteArray) : csI s = 0 ∧ csfV s = (4, 0) ∨ csI s ≠ 0 ∧ csfV s = (0, csI s) := by
  unfold csI csfV
  cases findN csN s 5 with
  | none => exact .inl ⟨rfl, rfl⟩
  | some i => exact .inr ⟨by show (i : Int) + 1 ≠ 0; omega, rfl⟩

set_option maxHeartbeats 1600000 in
set_option maxRecDepth 100000 in
theorem charsetOf_any (t : List Nat) (n : Nat) (w : World) (hl : t.length = n) (hB : IsB t) (hn : n ≤ 1048576) (ht : TabC w) : Calls Tryz.prog 158 #[.string (str t)] w fun e w' => IntEnd (csfV (str (t.map low))) w e w' := by
  have hb0 : Below w.heap.size w (w.alloc (.cells #[.int .i64 0, .int .i64 0] 196)) := (Below.refl _ _).alloc (Nat.le_refl _) _
  have ht0 := ht.below hb0
  have hWs : (w.alloc (.cells #[.int .i64 0, .int .i64 0] 196)).heap.size = w.heap.size + 1 := by simp
  have HS : Hid (∀ w, Calls Tryz.prog 126 #[.string (str t)] w fun e w' => e = .returned (.string (str (t.map low))) ∧ Below w.heap.size w w') := fun w => smallLetters_any t n w hl hB hn
  generalize str (t.map low) = s at *
  go_enter Tryz.func158, Tryz.ntmps158
  go_wp2_with fail
  refine (HS.out _).mono ?_
  rintro e w1 ⟨rfl, hb1⟩
  generalize hW : w.alloc (.cells #[.int .i64 0, .int .i64 0] 196) = W at *
  have hbl : Below (w.heap.size + 1) W w1 := by rw [← hWs]; exact hb1
  have ht1 := ht0.below hb1
  have hbE : Below w.heap.size w w1 := hb0.trans (hbl.mono (by omega))
  obtain ⟨hcw, hcw1, hfw, hfw1⟩ := res_block hW hbl
  clear ht ht0 hb1
  go_wp2
  go_loopw [4] (fun v wr => ∃ j : Nat, j ≤ 5 ∧ v = .int .i64 ((j : Int) + 1) ∧ (∀ i, i < j → csN i ≠ s) ∧ wr = w1) (fun v _ => 7 - (intOf v).toNat)
  case atStart => exact ⟨0, by omega, rfl, fun i hi => by omega, rfl⟩
  case round =>
    obtain ⟨j, hj, rfl, hno, rfl⟩ := hrel
    by_cases hj3 : j < 5
    · have hc := ht1 j hj3
      have hlt : 2 < wr.heap.size := World.block_lt_of_cell? _ _ hc
      have h3 : (j : Int) + 1 ≤ 5 := by omega
      have h4 : (j : Int) + 1 - 1 = (j : Int) := by omega
      have h5 : (j : Int) < 5 := by omega
      by_cases hx : csN j = s
      · have HX : Hid (csfV s = (0, (j : Int) + 1)) := csfV_some hno hx hj3
        rw [hx] at hc
        clear hno hx ht1
        obtain ⟨hk0, hk1⟩ := res_cells hcw hcw1 (.int .i64 0) (.int .i64 ((j : Int) + 1))
        go_wp2
        refine bodyPost_ret (v := .agg #[.int .i64 0, .int .i64 ((j : Int) + 1)]) (by simp [results, Tryz.results158, go_sem, hk0, hk1]) rfl ?_
        rw [HX.out]
        exact IntEnd.put hbE _ _
      · have HN : Hid (∀ i, i < j + 1 → csN i ≠ s) := fun i hi => by
          by_cases hij : i < j
          · exact hno i hij
          · have : i = j := by omega
            subst this; exact hx
        generalize csN j = x at *
        have e0 := txt_ne hx
        clear hno ht1 hcw hcw1 hfw hfw1
        go_wp2
        go_roundw
        case rel => exact ⟨j + 1, by omega, by go_num, HN.out, by trivial⟩
        case measure => simp [intOf]; omega
    · have HX : Hid (csfV s = (4, 0)) := csfV_none (fun i hi => hno i (by omega))
      have h3 : ¬ (j : Int) + 1 ≤ 5 := by omega
      obtain ⟨hk0, hk1⟩ := res_cells hcw hcw1 (.int .i64 4) (.int .i64 0)
      clear hno
      go_wp2
      refine bodyPost_ret (v := .agg #[.int .i64 4, .int .i64 0]) (by simp [results, Tryz.results158, go_sem, hk0, hk1]) rfl ?_
      rw [HX.out]
      exact IntEnd.put hbE _ _

set_option maxHeartbeats 1600000 in
set_option maxRecDepth 100000 in
theorem l2Of_any (t : List Nat) (n : Nat) (w : World) (hl : t.length = n) (hB : IsB t) (hn : n ≤ 1048576) : Calls Tryz.prog 144 #[.string (str t)] w fun e w' => e = .returned (.int .i64 (csI (str (t.map low)))) ∧ Below w.heap.size w w' := by
  have HL : Hid (∀ w, Calls Tryz.prog 142 #[.string (str t)] w fun e w' => e = .returned (.string (str (t.map low))) ∧ Below w.heap.size w w') := fun w => l2Lower_any t n w hl hB hn
  generalize str (t.map low) = s at *
  go_enter Tryz.func144, Tryz.ntmps144
  go_wp2
  go_loopw [3] (fun v wr => ∃ j : Nat, j ≤ 5 ∧ v = .int .i64 ((j : Int) + 1) ∧ (∀ i, i < j → csN i ≠ s) ∧ Below w.heap.size w wr) (fun v _ => 7 - (intOf v).toNat)
  case atStart => exact ⟨0, by omega, rfl, fun i hi => by omega, Below.refl _ _⟩
  case round =>
    obtain ⟨j, hj, rfl, hno, hbel⟩ := hrel
    have hz := hbel.size
    by_cases hj3 : j < 5
    · have h3 : (j : Int) + 1 ≤ 5 := by omega
      have HC : Hid (∀ w, Calls Tryz.prog 168 #[.int .i64 ((j : Int) + 1)] w fun e w' => e = .returned (.string (csN j)) ∧ Below w.heap.size w w') := fun w => l2Name_any j hj3 w
      have HY : Hid (csN j = s → csI s = (j : Int) + 1) := fun hx => csI_some hno hx hj3
      have HN : Hid (csN j ≠ s → ∀ i, i < j + 1 → csN i ≠ s) := fun hx i hi => by
        by_cases hij : i < j
        · exact hno i hij
        · have : i = j := by omega
          subst this; exact hx
      generalize csN j = x at *
      clear hno
      go_wp2_with fail
      refine (HC.out _).mono ?_
      rintro e w1 ⟨rfl, hb1⟩
      go_wp2_with fail
      refine (HL.out _).mono ?_
      rintro e w2 ⟨rfl, hb2⟩
      have hbl : Below w.heap.size w w2 := (hbel.trans (hb1.mono hz)).trans (hb2.mono (by have := hb1.size; omega))
      clear hb1 hb2 HC HL
      by_cases hx : x = s
      · have HX : Hid (_) := HY.out hx
        clear HY HN
        subst hx
        go_wp2
        go_ret
        exact ⟨by rw [HX.out]; rfl, hbl⟩
      · have HM : Hid (_) := HN.out hx
        have e0 := txt_ne hx
        clear HY HN
        go_wp2
        go_roundw
        case rel => exact ⟨j + 1, by omega, by go_num, HM.out, hbl⟩
        case measure => simp [intOf]; omega
    · have HX : Hid (csI s = 0) := csI_none (fun i hi => hno i (by omega))
      have h3 : ¬ (j : Int) + 1 ≤ 5 := by omega
      clear hno
      go_wp2
      go_ret
      exact ⟨by rw [HX.out]; rfl, hbel⟩

end Go.Proofs.YtooifkdbpghcfaaGreatDoor

namespace Go.Proofs.YtooifkdbpghcfaaGreatDoor
open Go.RowKit

/-- A text that begins with another one, its letters small. -/
def bgN (t p : List Nat) : Bool := decide ((t.take p.length).map low = p)
theorem bgN_len {t p : List Nat} (h : bgN t p = true) : p.length ≤ t.length := by
  have := congrArg List.length (of_decide_eq_true h)
  rw [List.length_map, List.length_take] at this
  omega
/-- What stands behind the first piece that begins so. -/
def nmN (p : List Nat) : List (List Nat) → Option (List Nat)
  | [] => none
  | t :: l => if bgN t p then some (t.drop p.length) else nmN p l
theorem nmN_skip {p : List Nat} : ∀ {l : List (List Nat)} {k : Nat}, k ≤ l.length → (∀ i, i < k → bgN (l.getD i []) p = false) → nmN p l = nmN p (l.drop k) := by
  intro l k
  induction k generalizing l with
  | zero => intro _ _; simp
  | succ k ih =>
    intro h1 h2
    cases l with
    | nil => simp at h1
    | cons t r =>
      have h0 : bgN t p = false := h2 0 (by omega)
      rw [nmN, h0, List.drop_succ_cons]
      simp only [Bool.false_eq_true, if_false]
      exact ih (by simpa using h1) (fun i hi => h2 (i + 1) (by omega))
theorem nmN_none {p : List Nat} {l : List (List Nat)} (h : ∀ i, i < l.length → bgN (l.getD i []) p = false) : nmN p l = none := by
  rw [nmN_skip (Nat.le_refl _) h, List.drop_length]; rfl
theorem nmN_some {p : List Nat} {l : List (List Nat)} {k : Nat} (h1 : k < l.length) (h2 : ∀ i, i < k → bgN (l.getD i []) p = false) (h3 : bgN (l.getD k []) p = true) : nmN p l = some ((l.getD k []).drop p.length) := by
  rw [nmN_skip (by omega) h2]
  have e : l.drop k = l.getD k [] :: l.drop (k + 1) := by
    rw [List.getD_eq_getElem?_getD, List.getElem?_eq_getElem h1]; exact List.drop_eq_getElem_cons h1
  rw [e, nmN, h3]
  rfl
/-- text/ · multipart/ · charset= · boundary= -/
def wText : List Nat := [116, 101, 120, 116, 47]
def wMulti : List Nat := [109, 117, 108, 116, 105, 112, 97, 114, 116, 47]
def wChar : List Nat := [99, 104, 97, 114, 115, 101, 116, 61]
def wMark : List Nat := [98, 111, 117, 110, 100, 97, 114, 121, 61]
/-- A charset by its name. -/
def csNm (t : List Nat) : Int := csI (str (t.map low))
/-- The charset that pieces behind the first one tell. -/
def chN (l : List (List Nat)) : Int := match nmN wChar l with
  | none => 1
  | some x => csNm x
/-- The kind and the charset that a value tells. -/
def tyV (t : List Nat) : Int × Int := match pcs t with
  | [] => (3, 0)
  | p :: l => if bgN p wMulti then (2, 0) else if bgN p wText then (1, chN l) else (3, 0)
theorem tyV_nil {t : List Nat} (h : pcs t = []) : tyV t = (3, 0) := by unfold tyV; rw [h]
theorem tyV_multi {t p : List Nat} {l : List (List Nat)} (h : pcs t = p :: l) (h1 : bgN p wMulti = true) : tyV t = (2, 0) := by unfold tyV; rw [h]; simp only [h1, if_true]
theorem tyV_text {t p : List Nat} {l : List (List Nat)} (h : pcs t = p :: l) (h1 : bgN p wMulti = false) (h2 : bgN p wText = true) : tyV t = (1, chN l) := by unfold tyV; rw [h]; simp [h1, h2]
theorem tyV_else {t p : List Nat} {l : List (List Nat)} (h : pcs t = p :: l) (h1 : bgN p wMulti = false) (h2 : bgN p wText = false) : tyV t = (3, 0) := by unfold tyV; rw [h]; simp [h1, h2]
theorem tm_apart {p : List Nat} (h : bgN p wText = true) : bgN p wMulti = false := by
  cases hm : bgN p wMulti with
  | false => rfl
  | true =>
    exfalso
    have h1 := of_decide_eq_true h
    have h2 := of_decide_eq_true hm
    have l1 := bgN_len h
    cases p with
    | nil => simp [wText] at l1
    | cons c p =>
      simp [wText] at h1
      simp [wMulti] at h2
      omega
theorem chN_none {l : List (List Nat)} (h : nmN wChar l = none) : chN l = 1 := by unfold chN; rw [h]
theorem chN_some {l : List (List Nat)} {x : List Nat} (h : nmN wChar l = some x) : chN l = csNm x := by unfold chN; rw [h]
end Go.Proofs.YtooifkdbpghcfaaGreatDoor

namespace Go.Proofs.YtooifkdbpghcfaaGreatDoor
open Go.RowKit

/-- The i-th number of a list (0 behind its end). -/
def nthS (l : List (List Nat)) (i : Nat) : List Nat := l.getD i []
/-- Numbers as cells. -/
def sc (l : List (List Nat)) : List Value := l.map fun (b : List Nat) => Value.string (str b)

theorem nthS_get {l : List (List Nat)} {i : Nat} (h : i < l.length) : nthS l i = l[i] := by
  unfold nthS; rw [List.getD_eq_getElem?_getD, List.getElem?_eq_getElem h]; rfl

theorem sc_len (l : List (List Nat)) : (sc l).length = l.length := by simp [sc]
theorem sc_one (l : List (List Nat)) : ∀ u ∈ sc l, u.oneCell' = true := by
  intro u hu
  simp only [sc, List.mem_map] at hu
  obtain ⟨b, _, rfl⟩ := hu
  rfl
theorem sc_app (a b : List (List Nat)) : sc (a ++ b) = sc a ++ sc b := by simp [sc]
theorem sc_get {l : List (List Nat)} {i : Nat} (h : i < l.length) : (sc l)[i]? = some (.string (str (nthS l i))) := by
  rw [nthS_get h]; simp [sc, h]

theorem nthS_drop (l : List (List Nat)) (k i : Nat) : nthS (l.drop k) i = nthS l (k + i) := by
  simp [nthS, List.getD_eq_getElem?_getD, List.getElem?_drop]
theorem take_snocT (l : List (List Nat)) (k : Nat) (h : k < l.length) : l.take (k + 1) = l.take k ++ [nthS l k] := by
  rw [List.take_succ_eq_append_getElem h, nthS_get h]
theorem drop_consT (l : List (List Nat)) (k : Nat) (h : k < l.length) : l.drop k = nthS l k :: l.drop (k + 1) := by
  rw [nthS_get h]; exact List.drop_eq_getElem_cons h


/-- WHERE A SLICE OF BYTES IS READ: at its address stand the bytes l. -/
def RdS (w : World) (a : Option Addr) (l : List (List Nat)) : Prop :=
  l = [] ∨ ∃ b off, a = some ⟨b, off, none⟩ ∧ b < w.heap.size ∧ ∀ i, i < l.length → w.cell? ⟨b, off + i, none⟩ = some (.string (str (nthS l i)))

theorem RdS.below {w w' : World} {a : Option Addr} {l : List (List Nat)} (h : RdS w a l) (hb : Below w.heap.size w w') : RdS w' a l := by
  rcases h with h | ⟨b, off, e, hlt, hc⟩
  · exact .inl h
  · exact .inr ⟨b, off, e, Nat.lt_of_lt_of_le hlt hb.size, fun i hi => (hb.cell (p := ⟨b, off + i, none⟩) hlt).trans (hc i hi)⟩
/-- Where there is an element there is an address. -/
theorem RdS.at_ {w : World} {a : Option Addr} {l : List (List Nat)} (h : RdS w a l) (hp : 0 < l.length) :
    ∃ b off, a = some ⟨b, off, none⟩ ∧ b < w.heap.size ∧ ∀ i, i < l.length → w.cell? ⟨b, off + i, none⟩ = some (.string (str (nthS l i))) := by
  rcases h with h | h
  · rw [h] at hp; simp at hp
  · exact h
theorem RdS.drop {w : World} {b off : Nat} {l : List (List Nat)} (h : RdS w (some ⟨b, off, none⟩) l) (k : Nat) : RdS w (some ⟨b, off + k, none⟩) (l.drop k) := by
  rcases h with h | ⟨b', off', e, hlt, hc⟩
  · left; simp [h]
  · obtain ⟨rfl, rfl⟩ : b = b' ∧ off = off' := by simpa using e
    right
    refine ⟨b, off + k, rfl, hlt, fun i hi => ?_⟩
    rw [List.length_drop] at hi
    rw [nthS_drop, Nat.add_assoc]
    exact hc (k + i) (by omega)


/-- A row of the call's own, read. -/
theorem RdS.own {w : World} {base e n cap : Nat} {a : Option Addr} {l : List (List Nat)} (h : w.ownsRow base e 1 (.slice a n cap) n (sc l)) : RdS w a l := by
  have hl : l.length = n := by simpa [sc_len] using h.1
  rcases h.2 with ⟨_, h0⟩ | ⟨g, cap', cur, h', _, hg, _, _, _, htake⟩
  · left; exact List.length_eq_zero_iff.1 (by omega)
  · simp only [Value.slice.injEq] at h'
    obtain ⟨rfl, _, rfl⟩ := h'
    right
    refine ⟨g, 0, rfl, ?_, fun i hi => ?_⟩
    · rcases Nat.lt_or_ge g w.heap.size with hlt | hge
      · exact hlt
      · simp [Array.getElem?_eq_none hge] at hg
    · rw [cell_of_row w g (0 + i) cur e (0, 0) hg, ← sc_get hi, ← htake, List.getElem?_take, if_pos (by omega)]
      simp


theorem infoS : (Tryz.prog.info? 9).map (fun i => (i.zero, i.size, i.bytes)) = some (some (.string ⟨#[]⟩), 1, 16) := by kernel_rfl
/-- THE SLICE v IS THE CALL's OWN AND HOLDS THE BYTES l. -/
def OwnS (w : World) (B : Nat) (v : Value) (l : List (List Nat)) : Prop := w.ownsRow B 9 1 v l.length (sc l)

theorem OwnS.nil (w : World) (B : Nat) : OwnS w B (.slice none 0 0) [] := World.ownsRow_nil _ _ _ _
theorem OwnS.lit (w : World) (B : Nat) (hB : B ≤ w.heap.size) (cs : Array Value) (l : List (List Nat)) (h : cs.toList = sc l) (hl : l.length ≤ maxLen) : OwnS (w.alloc (.cells cs 9)) B (.slice (some ⟨w.heap.size, 0, none⟩) l.length l.length) l := by
  have := World.ownsRow_lit (base := B) (e := 9) (size := 1) w cs l.length hB hl (by rw [← Array.length_toList, h, sc_len]; omega)
  rw [h] at this
  exact this
theorem OwnS.alloc {w : World} {B : Nat} {v : Value} {l : List (List Nat)} (h : OwnS w B v l) (o : Obj) : OwnS (w.alloc o) B v l := World.ownsRow.alloc h o
theorem OwnS.drew {w : World} {B : Nat} {v : Value} {l : List (List Nat)} (h : OwnS w B v l) : OwnS w.drew B v l := h
theorem OwnS.below {w w' : World} {B C : Nat} {v : Value} {l : List (List Nat)} (h : OwnS w B v l) (hb : Below C w w') (hC : w.heap.size ≤ C) : OwnS w' B v l := by
  refine ⟨h.1, ?_⟩
  rcases h.2 with h' | ⟨g, cap, cur, h1, h2, h3, h4⟩
  · exact .inl h'
  · refine .inr ⟨g, cap, cur, h1, h2, ?_, h4⟩
    have hg : g < w.heap.size := by
      rcases Nat.lt_or_ge g w.heap.size with hlt | hge
      · exact hlt
      · simp [Array.getElem?_eq_none hge] at h3
    rw [hb.block g (by omega)]; exact h3
theorem OwnS.form {w : World} {B : Nat} {v : Value} {l : List (List Nat)} (h : OwnS w B v l) : ∃ a cap, v = .slice a l.length cap ∧ l.length ≤ cap ∧ cap ≤ maxLen := by
  rcases h.2 with ⟨h', h0⟩ | ⟨g, cap, cur, h', _, _, h4, h5, _⟩
  · exact ⟨none, 0, by rw [h', h0], by omega, by decide⟩
  · exact ⟨_, cap, h', h4, h5⟩
theorem OwnS.rd {w : World} {B n cap : Nat} {a : Option Addr} {l : List (List Nat)} (h : OwnS w B (.slice a n cap) l) : l.length = n ∧ RdS w a l := by
  have hf : l.length = n := by
    obtain ⟨a', c', e, _⟩ := h.form
    simp at e; omega
  subst hf
  exact ⟨rfl, RdS.own h⟩

/-- AN APPEND: what stands at the second slice's address is there behind what was. -/
theorem wpList_appT {w : World} {ops : Array Oper} {rest : List Oper} {o : Oper} {a : Act} {Q : Exit → Act → World → Prop} (hgd : o.guard = none) (s x : Operand)
    (ho : o.op = .call { callee := .builtin .append, args := #[s, x], argTypes := #[160, 160] })
    (B : Nat) (v : Value) (l : List (List Nat)) (hs : a.eval s = v) (hown : OwnS w B v l) (ad : Addr) (m c : Nat) (new : List (List Nat)) (hx : a.eval x = .slice (some ad) m c) (hm : new.length = m)
    (hnew : ∀ j, j < m → w.cell? (ad.add j) = some (.string (str (nthS new j)))) (hsz : l.length + m ≤ 134217728) (hB : B ≤ w.heap.size)
    (h : ∀ v' w1, OwnS w1 B v' (l ++ new) → Below B w w1 → wpList Tryz.prog ops Q rest (a.put o.dst v') w1) : wpList Tryz.prog ops Q (o :: rest) a w := by
  obtain ⟨i0, hi, hz0, hz1, hz2⟩ := info_parts infoS
  refine wpList_append_own w hgd s x 160 ho B 9 i0 (.string ⟨#[]⟩) 1 16 Tryz.underlying160 hi hz0 hz1 hz2 rfl (by decide) v l.length (sc l) hs hown ad m c (sc new) hx (by rw [sc_len, hm]; omega) ?_ (sc_one new) (by unfold maxLen; omega) (by omega) hB ?_
  · intro j u hj
    have hjl : j < new.length := by
      rcases Nat.lt_or_ge j new.length with hlt | hge
      · exact hlt
      · rw [List.getElem?_eq_none (by rw [sc_len]; exact hge)] at hj; cases hj
    rw [sc_get hjl] at hj
    cases hj
    exact hnew j (by omega)
  · intro v' w1 hown' hgr _
    refine h v' w1 ?_ ((Below.refl _ _).grown hgr hB (fun k hk => (hown.lt k hk).1))
    unfold OwnS
    rw [sc_app, List.length_append, hm]
    exact hown'

/-- The same where the second slice is the block that was laid just ahead. -/
theorem wpList_app_newT {wr : World} {cs : Array Value} {ops : Array Oper} {rest : List Oper} {o : Oper} {a : Act} {Q : Exit → Act → World → Prop} (hgd : o.guard = none) (s x : Operand)
    (ho : o.op = .call { callee := .builtin .append, args := #[s, x], argTypes := #[160, 160] })
    (B : Nat) (v : Value) (l : List (List Nat)) (hs : a.eval s = v) (hown : OwnS wr B v l) (m c : Nat) (new : List (List Nat)) (hx : a.eval x = .slice (some ⟨wr.heap.size, 0, none⟩) m c) (hm : new.length = m) (hcs : cs.toList = sc new)
    (hsz : l.length + m ≤ 134217728) (hB : B ≤ wr.heap.size)
    (h : ∀ v' w1, OwnS w1 B v' (l ++ new) → Below B wr w1 → wpList Tryz.prog ops Q rest (a.put o.dst v') w1) : wpList Tryz.prog ops Q (o :: rest) a (wr.alloc (.cells cs 9)) := by
  have hb : Below B wr (wr.alloc (.cells cs 9)) := (Below.refl _ _).alloc hB _
  refine wpList_appT hgd s x ho B v l hs (hown.alloc _) ⟨wr.heap.size, 0, none⟩ m c new hx hm ?_ hsz (by simp; omega) (fun v' w1 h1 h2 => h v' w1 h1 (hb.trans h2))
  intro j hj
  have e : (⟨wr.heap.size, 0, none⟩ : Addr).add j = ⟨wr.heap.size, j, none⟩ := by rw [Go.WideShapes.add_plain, Nat.zero_add]
  rw [e, World.cell?_alloc_mark, ← Array.getElem?_toList, hcs]
  exact sc_get (by omega)

theorem OwnS.low {w : World} {B C : Nat} {v : Value} {l : List (List Nat)} (h : OwnS w B v l) (hC : C ≤ B) : OwnS w C v l := by
  refine ⟨h.1, ?_⟩
  rcases h.2 with h' | ⟨g, cap, cur, h1, h2, h3, h4⟩
  · exact .inl h'
  · exact .inr ⟨g, cap, cur, h1, by omega, h3, h4⟩
end Go.Proofs.YtooifkdbpghcfaaGreatDoor
