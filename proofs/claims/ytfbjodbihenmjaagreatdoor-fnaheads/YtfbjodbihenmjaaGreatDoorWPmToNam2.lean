/- Words that follow one another: plain functions, with no program in them; what goes byte by byte and what goes piece by piece is the same · Tables of texts at package level: what a row lists of one gives its cells; no program in it · The names of the charsets and of the comparators: the program's and the model's functions answer by one plain function each · ComparatorOf, the program's and the model's, at every text: both by one plain function. -/
import Derived.Test.YtfbjodbihenmjaaGreatDoorFldToWPl
import Derived.Test.YtfbjodbihenmjaaGreatDoorAppToChs0
import Derived.Lib.LaidTab
import Derived.LaidMore
namespace Go.Proofs.YtfbjodbihenmjaaGreatDoor
open Go.RowKit

/-- Without the blanks between two told words. -/
def skp (wd : List Nat → Option (List Int × Nat)) (told : Bool) (v : List Nat) : List Nat :=
  if told = true ∧ 0 < runL gapB v 0 ∧ (wd (v.drop (runL gapB v 0))).isSome = true then v.drop (runL gapB v 0) else v
/-- Words, byte by byte. -/
def wdsM (wd : List Nat → Option (List Int × Nat)) (cu : List Nat → Int × Nat) : Nat → Bool → List Nat → List Int
  | 0, _, _ => []
  | f + 1, told, v => if v.length = 0 then [] else match wd (skp wd told v) with
    | some r => r.1 ++ wdsM wd cu f true ((skp wd told v).drop r.2)
    | none => (cu (skp wd told v)).1 :: wdsM wd cu f false ((skp wd told v).drop (cu (skp wd told v)).2)
/-- Numbers of bytes. -/
def asI (l : List Nat) : List Int := l.map fun (b : Nat) => (b : Int)
/-- Words, piece by piece. -/
def wdsP (wd : List Nat → Option (List Int × Nat)) (cu : List Nat → Int × Nat) : Nat → Bool → List Nat → List Int
  | 0, _, _ => []
  | f + 1, told, v => if v.length = 0 then [] else match wd v with
    | some r => r.1 ++ wdsP wd cu f true (v.drop r.2)
    | none => if gapB (nth v 0) = true then
        (if told = true ∧ (wd (v.drop (runL gapB v 0))).isSome = true then wdsP wd cu f false (v.drop (runL gapB v 0)) else asI (v.take (runL gapB v 0)) ++ wdsP wd cu f false (v.drop (runL gapB v 0)))
      else (cu v).1 :: wdsP wd cu f false (v.drop (cu v).2)
/-- What is asked of a word and of a character. -/
structure WdOk (wd : List Nat → Option (List Int × Nat)) (cu : List Nat → Int × Nat) : Prop where
  pos : ∀ v r, wd v = some r → 0 < r.2
  head : ∀ v r, wd v = some r → nth v 0 = 61
  one : ∀ v, 0 < v.length → 0 < (cu v).2
  gap : ∀ v, 0 < v.length → gapB (nth v 0) = true → cu v = ((nth v 0 : Int), 1)
theorem wdsM_nil {wd : List Nat → Option (List Int × Nat)} {cu : List Nat → Int × Nat} {f : Nat} {b : Bool} {v : List Nat} (h : v.length = 0) : wdsM wd cu f b v = [] := by
  cases f with
  | zero => rfl
  | succ f => rw [wdsM, if_pos h]
theorem wdsP_nil {wd : List Nat → Option (List Int × Nat)} {cu : List Nat → Int × Nat} {f : Nat} {b : Bool} {v : List Nat} (h : v.length = 0) : wdsP wd cu f b v = [] := by
  cases f with
  | zero => rfl
  | succ f => rw [wdsP, if_pos h]
theorem wdsM_word {wd : List Nat → Option (List Int × Nat)} {cu : List Nat → Int × Nat} {f : Nat} {b : Bool} {v : List Nat} {r : List Int × Nat} (h : v.length ≠ 0) (hw : wd (skp wd b v) = some r) :
    wdsM wd cu (f + 1) b v = r.1 ++ wdsM wd cu f true ((skp wd b v).drop r.2) := by rw [wdsM, if_neg h, hw]
theorem wdsM_char {wd : List Nat → Option (List Int × Nat)} {cu : List Nat → Int × Nat} {f : Nat} {b : Bool} {v : List Nat} (h : v.length ≠ 0) (hw : wd (skp wd b v) = none) :
    wdsM wd cu (f + 1) b v = (cu (skp wd b v)).1 :: wdsM wd cu f false ((skp wd b v).drop (cu (skp wd b v)).2) := by rw [wdsM, if_neg h, hw]
theorem wdsP_word {wd : List Nat → Option (List Int × Nat)} {cu : List Nat → Int × Nat} {f : Nat} {b : Bool} {v : List Nat} {r : List Int × Nat} (h : v.length ≠ 0) (hw : wd v = some r) :
    wdsP wd cu (f + 1) b v = r.1 ++ wdsP wd cu f true (v.drop r.2) := by rw [wdsP, if_neg h, hw]
theorem wdsP_char {wd : List Nat → Option (List Int × Nat)} {cu : List Nat → Int × Nat} {f : Nat} {b : Bool} {v : List Nat} (h : v.length ≠ 0) (hw : wd v = none) (hg : gapB (nth v 0) = false) :
    wdsP wd cu (f + 1) b v = (cu v).1 :: wdsP wd cu f false (v.drop (cu v).2) := by rw [wdsP, if_neg h, hw]; simp only [hg]; rfl
theorem wdsP_skip {wd : List Nat → Option (List Int × Nat)} {cu : List Nat → Int × Nat} {f : Nat} {b : Bool} {v : List Nat} (h : v.length ≠ 0) (hw : wd v = none) (hg : gapB (nth v 0) = true) (hb : b = true) (hs : (wd (v.drop (runL gapB v 0))).isSome = true) :
    wdsP wd cu (f + 1) b v = wdsP wd cu f false (v.drop (runL gapB v 0)) := by rw [wdsP, if_neg h, hw]; simp only [hg, if_true]; rw [if_pos ⟨hb, hs⟩]
theorem wdsP_gaps {wd : List Nat → Option (List Int × Nat)} {cu : List Nat → Int × Nat} {f : Nat} {b : Bool} {v : List Nat} (h : v.length ≠ 0) (hw : wd v = none) (hg : gapB (nth v 0) = true) (hs : ¬ (b = true ∧ (wd (v.drop (runL gapB v 0))).isSome = true)) :
    wdsP wd cu (f + 1) b v = asI (v.take (runL gapB v 0)) ++ wdsP wd cu f false (v.drop (runL gapB v 0)) := by rw [wdsP, if_neg h, hw]; simp only [hg, if_true]; rw [if_neg hs]
theorem skp_false {wd : List Nat → Option (List Int × Nat)} (v : List Nat) : skp wd false v = v := by unfold skp; rw [if_neg (by simp)]
theorem skp_no {wd : List Nat → Option (List Int × Nat)} {b : Bool} {v : List Nat} (h : ¬ (b = true ∧ 0 < runL gapB v 0 ∧ (wd (v.drop (runL gapB v 0))).isSome = true)) : skp wd b v = v := if_neg h
theorem skp_yes {wd : List Nat → Option (List Int × Nat)} {b : Bool} {v : List Nat} (h : b = true ∧ 0 < runL gapB v 0 ∧ (wd (v.drop (runL gapB v 0))).isSome = true) : skp wd b v = v.drop (runL gapB v 0) := if_pos h
theorem runL_le (p : Nat → Bool) (v : List Nat) (i : Nat) (h : i ≤ v.length) : i + runL p v i ≤ v.length := by
  unfold runL
  have := (List.takeWhile_sublist p (l := v.drop i)).length_le
  rw [List.length_drop] at this; omega
theorem runL_drop (p : Nat → Bool) (v : List Nat) (k i : Nat) : runL p (v.drop k) i = runL p v (k + i) := by unfold runL; rw [List.drop_drop]
theorem WdOk.none_gap {wd : List Nat → Option (List Int × Nat)} {cu : List Nat → Int × Nat} (h : WdOk wd cu) {v : List Nat} (hg : gapB (nth v 0) = true) : wd v = none := by
  cases e : wd v with
  | none => rfl
  | some r =>
    have h1 := h.head v r e
    have h2 := of_decide_eq_true hg
    omega
theorem wdsM_run {wd : List Nat → Option (List Int × Nat)} {cu : List Nat → Int × Nat} (h : WdOk wd cu) : ∀ (k : Nat) (u : List Nat) (f : Nat), u.length ≤ f → runL gapB u 0 = k → wdsM wd cu f false u = asI (u.take k) ++ wdsM wd cu (f - k) false (u.drop k)
  | 0, u, f, _, _ => by simp [asI]
  | k + 1, u, f, hf, hk => by
    have hle := runL_le gapB u 0 (Nat.zero_le _)
    have h0 : 0 < u.length := by omega
    have hg : gapB (nth u 0) = true := by
      cases e : gapB (nth u 0) with
      | true => rfl
      | false => rw [runL_here h0 e] at hk; cases hk
    have hk' : runL gapB (u.drop 1) 0 = k := by
      rw [runL_drop, show 1 + 0 = 0 + 1 from rfl]
      have := runL_step h0 hg
      omega
    obtain ⟨f, rfl⟩ : ∃ f', f = f' + 1 := ⟨f - 1, by omega⟩
    rw [wdsM_char (by omega) (by rw [skp_false]; exact h.none_gap hg), skp_false, h.gap u h0 hg]
    have ih := wdsM_run h k (u.drop 1) f (by rw [List.length_drop]; omega) hk'
    rw [ih, show f + 1 - (k + 1) = f - k by omega, List.drop_drop, show 1 + k = k + 1 by omega]
    match u, h0 with
    | c :: u, _ => simp [asI, nth]
theorem wds_same {wd : List Nat → Option (List Int × Nat)} {cu : List Nat → Int × Nat} (h : WdOk wd cu) : ∀ (n : Nat) (v : List Nat) (b : Bool) (f1 f2 : Nat), v.length ≤ n → v.length ≤ f1 → v.length ≤ f2 → wdsM wd cu f1 b v = wdsP wd cu f2 b v := by
  intro n
  induction n with
  | zero => intro v b f1 f2 h0 _ _; rw [wdsM_nil (by omega), wdsP_nil (by omega)]
  | succ n ih =>
    intro v b f1 f2 hn h1 h2
    by_cases hv : v.length = 0
    · rw [wdsM_nil hv, wdsP_nil hv]
    · obtain ⟨f1, rfl⟩ : ∃ f', f1 = f' + 1 := ⟨f1 - 1, by omega⟩
      obtain ⟨f2, rfl⟩ : ∃ f', f2 = f' + 1 := ⟨f2 - 1, by omega⟩
      have hlen : ∀ k, 0 < k → (v.drop k).length ≤ v.length - 1 := fun k hk => by rw [List.length_drop]; omega
      cases hw : wd v with
      | some r =>
        have h61 := h.head v r hw
        have hz : runL gapB v 0 = 0 := runL_here (by omega) (by rw [h61]; decide)
        have hs : skp wd b v = v := skp_no (by omega)
        have hl := hlen r.2 (h.pos v r hw)
        rw [wdsM_word hv (by rw [hs]; exact hw), hs, wdsP_word hv hw, ih _ true f1 f2 (by omega) (by omega) (by omega)]
      | none =>
        cases hg : gapB (nth v 0) with
        | false =>
          have hz : runL gapB v 0 = 0 := runL_here (by omega) hg
          have hs : skp wd b v = v := skp_no (by omega)
          have hl := hlen _ (h.one v (by omega))
          rw [wdsM_char hv (by rw [hs]; exact hw), hs, wdsP_char hv hw hg, ih _ false f1 f2 (by omega) (by omega) (by omega)]
        | true =>
          have hgp : 0 < runL gapB v 0 := by have := runL_step (by omega : 0 < v.length) hg; omega
          have hgl := hlen _ hgp
          by_cases hc : b = true ∧ (wd (v.drop (runL gapB v 0))).isSome = true
          · obtain ⟨r, hr⟩ := Option.isSome_iff_exists.1 hc.2
            have h61 := h.head _ r hr
            have hne : (v.drop (runL gapB v 0)).length ≠ 0 := by
              intro h0
              rw [List.length_eq_zero_iff.1 h0] at h61
              cases h61
            have hs : skp wd b v = v.drop (runL gapB v 0) := skp_yes ⟨hc.1, hgp, hc.2⟩
            obtain ⟨f2, rfl⟩ : ∃ f', f2 = f' + 1 := ⟨f2 - 1, by omega⟩
            have hl : ((v.drop (runL gapB v 0)).drop r.2).length ≤ (v.drop (runL gapB v 0)).length - 1 := by
              have := h.pos _ r hr
              rw [List.length_drop]; omega
            rw [wdsM_word hv (by rw [hs]; exact hr), hs, wdsP_skip hv hw hg hc.1 hc.2, wdsP_word hne hr, ih _ true f1 f2 (by omega) (by omega) (by omega)]
          · have hs : skp wd b v = v := skp_no (fun h' => hc ⟨h'.1, h'.2.2⟩)
            have hl := hlen 1 (by omega)
            have hk : runL gapB (v.drop 1) 0 = runL gapB v 0 - 1 := by
              rw [runL_drop, show 1 + 0 = 0 + 1 from rfl]
              have := runL_step (by omega : 0 < v.length) hg
              omega
            rw [wdsM_char hv (by rw [hs]; exact hw), hs, h.gap v (by omega) hg, wdsP_gaps hv hw hg hc, wdsM_run h _ (v.drop 1) f1 (by omega) hk, List.drop_drop, show 1 + (runL gapB v 0 - 1) = runL gapB v 0 by omega,
              ih _ false (f1 - (runL gapB v 0 - 1)) f2 (by omega) (by rw [List.length_drop] at *; omega) (by omega)]
            generalize runL gapB v 0 = g at *
            obtain ⟨g, rfl⟩ : ∃ g', g = g' + 1 := ⟨g - 1, by omega⟩
            match v, hv with
            | c :: v, _ => simp [asI, nth]
/-- There are no more characters than bytes. -/
theorem wdsM_len {wd : List Nat → Option (List Int × Nat)} {cu : List Nat → Int × Nat} (h : WdOk wd cu) (hl : ∀ v r, wd v = some r → r.1.length ≤ r.2 ∧ r.2 ≤ v.length) : ∀ (f : Nat) (b : Bool) (v : List Nat), (wdsM wd cu f b v).length ≤ v.length
  | 0, _, _ => Nat.zero_le _
  | f + 1, b, v => by
    by_cases hv : v.length = 0
    · rw [wdsM_nil hv]; exact Nat.zero_le _
    · have hs : (skp wd b v).length ≤ v.length := by
        unfold skp
        split
        · rw [List.length_drop]; omega
        · exact Nat.le_refl _
      cases hw : wd (skp wd b v) with
      | some r =>
        have h1 := hl _ r hw
        have ih := wdsM_len h hl f true ((skp wd b v).drop r.2)
        rw [List.length_drop] at ih
        rw [wdsM_word hv hw, List.length_append]; omega
      | none =>
        have h0 : 0 < (skp wd b v).length := by
          by_cases hc : b = true ∧ 0 < runL gapB v 0 ∧ (wd (v.drop (runL gapB v 0))).isSome = true
          · rw [skp_yes hc]
            obtain ⟨r, hr⟩ := Option.isSome_iff_exists.1 hc.2.2
            have h61 := h.head _ r hr
            by_cases h0 : (v.drop (runL gapB v 0)).length = 0
            · rw [List.length_eq_zero_iff.1 h0] at h61; cases h61
            · omega
          · rw [skp_no hc]; omega
        have ih := wdsM_len h hl f false ((skp wd b v).drop (cu (skp wd b v)).2)
        have h1 := h.one _ h0
        rw [List.length_drop] at ih
        rw [wdsM_char hv hw, List.length_cons]; omega
/-- What holds of the characters of each word and of each character holds of all. -/
theorem wdsM_all {wd : List Nat → Option (List Int × Nat)} {cu : List Nat → Int × Nat} (p : Int → Bool) (h1 : ∀ v r, wd v = some r → r.1.all p = true) (h2 : ∀ v, p (cu v).1 = true) : ∀ (f : Nat) (b : Bool) (v : List Nat), (wdsM wd cu f b v).all p = true
  | 0, _, _ => rfl
  | f + 1, b, v => by
    by_cases hv : v.length = 0
    · rw [wdsM_nil hv]; rfl
    · cases hw : wd (skp wd b v) with
      | some r => rw [wdsM_word hv hw, List.all_append, h1 _ r hw, wdsM_all p h1 h2 f true _]; rfl
      | none => rw [wdsM_char hv hw, List.all_cons, h2, wdsM_all p h1 h2 f false _]; rfl
end Go.Proofs.YtfbjodbihenmjaaGreatDoor

namespace Go.Proofs.YtfbjodbihenmjaaGreatDoor
open Go.RowKit

/-- A table of texts as a row lists it. -/
def strData {H : Type} (zs : List (List UInt8)) : DataW H := .agg (zs.map fun z => .lit (.string z))
/-- A text of bytes. -/
def txt (z : List UInt8) : ByteArray := ⟨z.toArray⟩
theorem cells_of_strs {H : Type} {enc : TypeId × Value → H} {P : Program} {w : World} {base : Nat} {sp : Nat → Bool} {held : Bool} {fuel : Nat} {t e : TypeId} {n : Nat} {cs : List Value} {zs : List (List UInt8)} {p : List MemPlace}
    (ht : P.underlying t = some (.array n e)) (he : P.underlying e = some .string) (hce : P.cellsOf e = 1) (hct : P.cellsOf t = n)
    (h : DataW.trod enc P w base sp held fuel t cs = some (strData zs, p)) : cs = zs.map fun z => Value.string (txt z) := by
  cases fuel with
  | zero => simp [DataW.trod] at h
  | succ fuel =>
    simp only [DataW.trod, ht, hce, hct, Nat.mul_one] at h
    split at h
    · rename_i hl
      obtain ⟨xs, hm, hx⟩ := Option.map_eq_some_iff.1 h
      have hxs : xs.map (·.1) = zs.map fun z => (DataW.lit (.string z) : DataW H) := by
        have := congrArg Prod.fst hx
        simpa [strData] using this
      have hxl : xs.length = n := by simpa using Lib.mapM_length hm
      have hzl : zs.length = n := by
        have := congrArg List.length hxs
        simp at this
        omega
      apply List.ext_getElem?
      intro i
      by_cases hi : i < n
      · obtain ⟨b, hb, hf⟩ := Lib.mapM_at hm i i (by simp [hi])
        obtain ⟨s, hc, rfl, _⟩ := DataW.trod_string he hf
        have h1 : cs[i]? = some (.string s) := by
          have := congrArg (·[0]?) hc
          simpa [List.getElem?_take, List.getElem?_drop] using this
        have h2 : (xs.map (·.1))[i]? = some (DataW.lit (.string s.data.toList) : DataW H) := by simp [hb]
        rw [hxs] at h2
        simp only [List.getElem?_map, Option.map_eq_some_iff, DataW.lit.injEq, Lit.string.injEq] at h2
        obtain ⟨z', hz', e'⟩ := h2
        simp [h1, hz', e', txt]
      · rw [List.getElem?_eq_none (by omega), List.getElem?_eq_none (by simp; omega)]
    · cases h

/-- The variable holds just these texts. -/
def StrsAre (P : Program) (w : World) (name : String) (zs : List (List UInt8)) : Prop := w.var? P name = some (zs.map fun z => Value.string (txt z)).toArray
theorem strsAre_of_head {P : Program} {W : World} {name : String} {zs : List (List UInt8)} {rest : List (String × DataW Unit)} {g : Nat} {t e : TypeId} {n : Nat}
    (hg : P.globalNamed name = some g) (hty : (P.globals[g]?).map (·.type) = some t) (ht : P.underlying t = some (.array n e)) (he : P.underlying e = some .string) (hce : P.cellsOf e = 1) (hct : P.cellsOf t = n)
    (h : laidMet P ((name, strData zs) :: rest) W) : StrsAre P W name zs := by
  obtain ⟨ps, ⟨g', t', cs, fuel, p, q, hg', ht', hvar, hd, _, _⟩, _⟩ := h
  obtain rfl := Option.some.inj (hg.symm.trans hg')
  obtain rfl := Option.some.inj (hty.symm.trans ht')
  unfold StrsAre
  rw [hvar, ← cells_of_strs ht he hce hct hd]
theorem StrsAre.cell {P : Program} {W : World} {name : String} {zs : List (List UInt8)} {g : Nat} (h : StrsAre P W name zs) (hg : P.globalNamed name = some g) (i : Nat) (hi : i < zs.length) :
    W.cell? ⟨g, i, none⟩ = some (.string (txt (zs.getD i []))) := by
  have := World.var?_cell hg h i
  simpa [List.getD, hi] using this
end Go.Proofs.YtfbjodbihenmjaaGreatDoor

namespace Go.Proofs.YtfbjodbihenmjaaGreatDoor
open Go.RowKit

/-- The names of the charsets, and those of the comparators. -/
def csZ : List (List UInt8) := [[117, 115, 45, 97, 115, 99, 105, 105], [105, 115, 111, 45, 56, 56, 53, 57, 45, 49], [105, 115, 111, 45, 56, 56, 53, 57, 45, 53], [117, 116, 102, 45, 56], [117, 116, 102, 45, 49, 54]]
def cmZ : List (List UInt8) := [[105, 59, 111, 99, 116, 101, 116], [105, 59, 97, 115, 99, 105, 105, 45, 99, 97, 115, 101, 109, 97, 112], [105, 59, 117, 110, 105, 99, 111, 100, 101, 45, 99, 97, 115, 101, 109, 97, 112]]
/-- The name at a place. -/
def csN (i : Nat) : ByteArray := txt (csZ.getD i [])
def cmN (i : Nat) : ByteArray := txt (cmZ.getD i [])
/-- THE TABLES LIE IN THEIR VARIABLES. -/
def TabC (w : World) : Prop := ∀ v, v < 5 → w.cell? ⟨0, v, none⟩ = some (.string (csN v))
theorem TabC.below {w w' : World} (h : TabC w) (hb : Below w.heap.size w w') : TabC w' := fun v hv =>
  (hb.cell (p := ⟨0, v, none⟩) (World.block_lt_of_cell? w ⟨0, 0, none⟩ (h 0 (by decide)))).trans (h v hv)
/-- A number lies between two others: a plain word. -/
def inN (v a b : Int) : Bool := decide (a ≤ v ∧ v ≤ b)
theorem inN_yes {v a b : Int} (h : a ≤ v ∧ v ≤ b) : inN v a b = true := decide_eq_true h
theorem inN_no {v a b : Int} (h : ¬ (a ≤ v ∧ v ≤ b)) : inN v a b = false := decide_eq_false h
theorem l1In_nam (v a b : Int) (w : World) : Calls Tryz.prog 32 #[.int .i64 v, .int .i64 a, .int .i64 b] w fun e w' => e = .returned (.bool (inN v a b)) ∧ w = w' := by
  by_cases h1 : a ≤ v
  · by_cases h2 : v ≤ b
    · have H : Hid (inN v a b = true) := inN_yes ⟨h1, h2⟩
      go_enter Tryz.func32, Tryz.ntmps32
      go_wp2
      go_ret
      exact ⟨by rw [H.out]; rfl, rfl⟩
    · have H : Hid (inN v a b = false) := inN_no (fun h => h2 h.2)
      go_enter Tryz.func32, Tryz.ntmps32
      go_wp2
      go_ret
      exact ⟨by rw [H.out]; rfl, rfl⟩
  · have H : Hid (inN v a b = false) := inN_no (fun h => h1 h.1)
    go_enter Tryz.func32, Tryz.ntmps32
    go_wp2
    go_ret
    exact ⟨by rw [H.out]; rfl, rfl⟩
theorem csRow_at (w : World) (t : TypeId) (j : Nat) (hj : j < 5) : (w.alloc (.cells #[.string ⟨#[]⟩, .string ⟨#[117, 115, 45, 97, 115, 99, 105, 105]⟩, .string ⟨#[105, 115, 111, 45, 56, 56, 53, 57, 45, 49]⟩, .string ⟨#[105, 115, 111, 45, 56, 56, 53, 57, 45, 53]⟩, .string ⟨#[117, 116, 102, 45, 56]⟩, .string ⟨#[117, 116, 102, 45, 49, 54]⟩] t)).cell? ⟨w.heap.size, j + 1, none⟩ = some (.string (csN j)) := by
  rw [World.cell?_alloc_mark]
  match j, hj with
  | 0, _ => rfl
  | 1, _ => rfl
  | 2, _ => rfl
  | 3, _ => rfl
  | 4, _ => rfl
theorem cmRow_at (w : World) (t : TypeId) (j : Nat) (hj : j < 3) : (w.alloc (.cells #[.string ⟨#[]⟩, .string ⟨#[105, 59, 111, 99, 116, 101, 116]⟩, .string ⟨#[105, 59, 97, 115, 99, 105, 105, 45, 99, 97, 115, 101, 109, 97, 112]⟩, .string ⟨#[105, 59, 117, 110, 105, 99, 111, 100, 101, 45, 99, 97, 115, 101, 109, 97, 112]⟩] t)).cell? ⟨w.heap.size, j + 1, none⟩ = some (.string (cmN j)) := by
  rw [World.cell?_alloc_mark]
  match j, hj with
  | 0, _ => rfl
  | 1, _ => rfl
  | 2, _ => rfl

set_option maxHeartbeats 1600000 in
set_option maxRecDepth 100000 in
theorem l2Name_any (j : Nat) (hj : j < 5) (w : World) : Calls Tryz.prog 137 #[.int .i64 ((j + 1 : Nat) : Int)] w fun e w' => e = .returned (.string (csN j)) ∧ Below w.heap.size w w' := by
  have hc := csRow_at w 9 j hj
  have h1 : ((j + 1 : Nat) : Int) < 6 := by omega
  go_enter Tryz.func137, Tryz.ntmps137
  go_wp2
  go_ret
  exact ⟨rfl, by go_grown⟩
/-- What CharsetName answers. -/
def nameV (cs : Int) : Int × ByteArray := if 1 ≤ cs ∧ cs ≤ 5 then (0, csN (cs.toNat - 1)) else (4, ByteArray.empty)
theorem nameV_no {cs : Int} (h : ¬ (1 ≤ cs ∧ cs ≤ 5)) : nameV cs = (4, ByteArray.empty) := if_neg h
theorem nameV_yes {j : Nat} (h : j < 5) : nameV ((j + 1 : Nat) : Int) = (0, csN j) := by
  unfold nameV; rw [if_pos (by omega)]; congr 2
/-- An answer with a text. -/
def TxtAns (r : Int × ByteArray) (w : World) (e : Ending) (w' : World) : Prop := e = .returned (.agg #[.int .i64 r.1, .string r.2]) ∧ Below w.heap.size w w'

end Go.Proofs.YtfbjodbihenmjaaGreatDoor

namespace Go.Proofs.YtfbjodbihenmjaaGreatDoor
open Go.RowKit

theorem toList_txt (l : List Nat) : (str l).toList = l.map UInt8.ofNat := by
  rw [ByteArray.toList_eq]; simp [str]
theorem txt_ne {x s : ByteArray} (h : x ≠ s) : (x.toList == s.toList) = false := by
  rw [beq_eq_false_iff_ne]
  intro he
  apply h
  obtain ⟨a, rfl, _⟩ := str_surj x
  obtain ⟨b, rfl, _⟩ := str_surj s
  rw [toList_txt, toList_txt] at he
  unfold str
  rw [he]

/-- The place of a name among the first n of a table. -/
def findN (f : Nat → ByteArray) (s : ByteArray) : Nat → Option Nat
  | 0 => none
  | n + 1 => match findN f s n with
    | some i => some i
    | none => if f n = s then some n else none
theorem findN_none {f : Nat → ByteArray} {s : ByteArray} : ∀ {n : Nat}, (∀ i, i < n → f i ≠ s) → findN f s n = none
  | 0, _ => rfl
  | n + 1, h => by
    rw [findN, findN_none (fun i hi => h i (by omega))]
    exact if_neg (h n (by omega))
theorem findN_some {f : Nat → ByteArray} {s : ByteArray} {j : Nat} (h : ∀ i, i < j → f i ≠ s) (hj : f j = s) : ∀ {n : Nat}, j < n → findN f s n = some j
  | 0, hn => by omega
  | n + 1, hn => by
    by_cases e : j = n
    · subst e
      rw [findN, findN_none h]
      exact if_pos hj
    · rw [findN, findN_some h hj (n := n) (by omega)]
/-- The answer of a look for a name. -/
def ofV (o : Option Nat) : Int × Int := match o with
  | some i => (0, (i : Int) + 1)
  | none => (4, 0)
def cmV (s : ByteArray) : Int × Int := ofV (findN cmN s 3)
theorem cmV_none {s : ByteArray} (h : ∀ i, i < 3 → cmN i ≠ s) : cmV s = (4, 0) := by unfold cmV; rw [findN_none h]; rfl
theorem cmV_some {s : ByteArray} {j : Nat} (h : ∀ i, i < j → cmN i ≠ s) (hj : cmN j = s) (h3 : j < 3) : cmV s = (0, (j : Int) + 1) := by unfold cmV; rw [findN_some h hj h3]; rfl
/-- An answer with one number. -/
def IntEnd (r : Int × Int) (w : World) (e : Ending) (w' : World) : Prop := e = .returned (.agg #[.int .i64 r.1, .int .i64 r.2]) ∧ Below w.heap.size w w'
theorem IntEnd.put {r : Int × Int} {w w1 : World} (hbel : Below w.heap.size w w1) (x y : Value) : IntEnd r w (.returned (.agg #[.int .i64 r.1, .int .i64 r.2])) ((w1.setCell ⟨w.heap.size, 0, none⟩ x).setCell ⟨w.heap.size, 1, none⟩ y) :=
  ⟨rfl, (hbel.setCell (by simp) _).setCell (by simp) _⟩

end Go.Proofs.YtfbjodbihenmjaaGreatDoor
