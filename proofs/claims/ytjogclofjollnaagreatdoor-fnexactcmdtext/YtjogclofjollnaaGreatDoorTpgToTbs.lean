/- Which trees wait, and the tree of all terms in plain words; the last trees told apart from the rest, whatever waits; no conditions beyond those that each fact names · Contracts of the library, laid over this program: each is one application of a theorem of the library; no conditions beyond those that each names · Tables of texts at package level: what a row lists of one gives its cells; no program in it. -/
import Derived.Test.YtjogclofjollnaaGreatDoorTpf
import Derived.Shelf.Strings.Builder1
import Derived.Shelf.Strings.Builder2
import Derived.Shelf.Strings.OnBuilder
import Derived.Shelf.Strconv.Itoa0
import Derived.Shelf.Strconv.Itoa1
import Derived.Shelf.LaysM
import Derived.Shelf.Strconv.Itoa2
import Derived.Shelf.Strconv.Itoa3
import Derived.Shelf.Strconv.Itoa4
import Derived.Test.YtjogclofjollnaaGreatDoorProg
import Derived.Test.YtjogclofjollnaaGreatDoorMrk0ToMemI
import Derived.Lib.LaidTab
import Derived.LaidMore
namespace Go.Proofs.YtjogclofjollnaaGreatDoor
open Go.RowKit
set_option linter.unusedVariables false
def ctN (st : List SdP) (o : TmR) : Nat := st.length - (plT o).length
def okN (st : List SdP) (o : TmR) : Bool := decide ((plT o).length ≤ st.length) && decide ((st.drop (ctN st o)).map Prod.fst = plT o)
def stG (l : List TmR) (ps : Nat → SlT) : Nat → Nat → List SdP → Value × Int
 | 0, _, st => if st.length = 1 then ((nthSd st 0).2, 0) else (.nilIface, 1)
 | f + 1, i, st => if owF (nthTm l i) = 0 then (if okN st (nthTm l i) then stG l ps f (i + 1) (st.take (ctN st (nthTm l i)) ++ [((i : Int), growV (nthTm l i) (ps i) ((st.drop (ctN st (nthTm l i))).map Prod.snd))]) else (.nilIface, 1)) else (.nilIface, owF (nthTm l i))
def trV (l : List TmR) (ps : Nat → SlT) : Value × Int := if 1 ≤ l.length ∧ l.length ≤ 12 then stG l ps l.length 0 [] else (.nilIface, 2)
theorem okN_rev (st : List SdP) (o : TmR) : okN st o = decide (((st.map Prod.fst).reverse).take (prT o).length = prT o) := by
 have hpl : (prT o).length = (plT o).length := by rw [← prT_rev, List.length_reverse]
 unfold okN ctN
 by_cases h : (plT o).length ≤ st.length
 ·rw [decide_eq_true h, Bool.true_and]
  refine decide_eq_decide.2 ?_
  rw [hpl, ← prT_rev, List.take_reverse, List.length_map, ← List.map_drop]
  exact ⟨fun h' => by rw [h'], fun h' => List.reverse_inj.1 h'⟩
 ·rw [decide_eq_false h, Bool.false_and]
  refine (decide_eq_false (fun h' => h ?_)).symm
  have := congrArg List.length h'
  rw [List.length_take, List.length_reverse, List.length_map, hpl] at this
  omega
theorem stG_tf {l : List TmR} {ps : Nat → SlT} : ∀ f i st, (stG l ps f i st).2 = tfG l f i (st.map Prod.fst).reverse := by
 intro f
 induction f with
 | zero =>
  intro i st
  unfold stG tfG
  rw [List.length_reverse, List.length_map]
  by_cases h : st.length = 1
  ·rw [if_pos h, if_pos h]
  ·rw [if_neg h, if_neg h]
 | succ f ih =>
  intro i st
  unfold stG tfG
  by_cases ho : owF (nthTm l i) = 0
  ·rw [if_pos ho, if_pos ho]
   cases hk : okN st (nthTm l i) with
   | true =>
    have hk' := hk
    rw [okN_rev] at hk'
    rw [if_pos rfl, if_pos (of_decide_eq_true hk'), ih]
    have hle : (plT (nthTm l i)).length ≤ st.length := by
     unfold okN at hk
     simp only [Bool.and_eq_true] at hk
     exact of_decide_eq_true hk.1
    have hpl : (prT (nthTm l i)).length = (plT (nthTm l i)).length := by rw [← prT_rev, List.length_reverse]
    rw [List.map_append, List.reverse_append, List.map_take]
    have : ((st.map Prod.fst).take (ctN st (nthTm l i))).reverse = ((st.map Prod.fst).reverse).drop (prT (nthTm l i)).length := by
     rw [List.drop_reverse, hpl, List.length_map]; rfl
    rw [this]
    rfl
   | false =>
    have hk' := hk
    rw [okN_rev] at hk'
    rw [if_neg (by simp), if_neg (of_decide_eq_false hk')]
  ·rw [if_neg ho, if_neg ho]
theorem trV_tm (l : List TmR) (ps : Nat → SlT) : (trV l ps).2 = tmV l := by
 rw [← tf_mf]
 unfold trV tfV
 by_cases h : 1 ≤ l.length ∧ l.length ≤ 12
 ·rw [if_pos h, if_pos h, stG_tf]; rfl
 ·rw [if_neg h, if_neg h]
theorem IfS.next {st : List SdP} (h : IfS st) (k : Nat) (i : Int) (v : Value) (hv : ∃ t u, v = .iface t u) : IfS (st.take k ++ [(i, v)]) := by
 intro j hj
 unfold nthSd
 rw [List.getD_eq_getElem?_getD]
 rw [List.length_append, List.length_singleton] at hj
 by_cases hjk : j < (st.take k).length
 ·rw [List.getElem?_append_left hjk]
  have hj2 : j < st.length := by rw [List.length_take] at hjk; omega
  obtain ⟨t, u, e⟩ := h j hj2
  unfold nthSd at e
  rw [List.getD_eq_getElem?_getD] at e
  rw [List.getElem?_take, if_pos (by rw [List.length_take] at hjk; omega)]
  exact ⟨t, u, e⟩
 ·rw [List.getElem?_append_right (by omega), show j - (st.take k).length = 0 by omega]
  exact hv
def CutEnd (B : Nat) (st : List SdP) (o : TmR) (e : Ending) (w' : World) : Prop :=
 if okN st o then ∃ v1 a2 c2, e = .returned (.tuple #[v1, .slice a2 (plT o).length c2, .bool true]) ∧ OwnSd w' B v1 (st.take (ctN st o)) ∧ (plT o).length ≤ c2 ∧ c2 ≤ maxLen ∧ RdSd w' a2 (st.drop (ctN st o))
 else e = .returned (.tuple #[.slice none 0 0, .slice none 0 0, .bool false])
theorem cutLast_any (v : Value) (st : List SdP) (o : TmR) (s : SlQ) {lo B : Nat} (w : World) (hO : OwnSd w B v st) (hi : IfS st) (hs : IsIl lo w s (plT o)) :
  Calls Tryz.prog 117 #[v, slW s] w fun e w' => CutEnd B st o e w' ∧ Below w.heap.size w w' := by
 have hO' := hO
 have hsl := hs.1
 by_cases hle : (plT o).length ≤ st.length
 ·rcases hO.2 with ⟨rfl, h0⟩ | ⟨g, cap, cur, rfl, h2, h3, h4, h5, h6, h7⟩
  ·have hst : st = [] := List.length_eq_zero_iff.1 h0
   subst hst
   have hpl : plT o = [] := List.length_eq_zero_iff.1 (by simpa using hle)
   rw [hpl] at hs
   refine (cutLast_nil s w hs).mono fun e w' ⟨he, hb⟩ => ⟨?_, hb⟩
   unfold CutEnd okN ctN
   rw [hpl]
   simp only [List.length_nil, Nat.le_refl, decide_true, List.drop_nil, List.map_nil, Bool.and_self, if_true, List.take_nil]
   exact ⟨_, _, _, he, OwnSd.nil _ _, Nat.zero_le _, by decide, .inl rfl⟩
  ·have hrd := hO.rd.2
   have hct : st.length = ctN st o + (plT o).length := by unfold ctN; omega
   by_cases hcc : ctN st o = cap
   ·have hm0 : (plT o).length = 0 := by omega
    have hpl : plT o = [] := List.length_eq_zero_iff.1 hm0
    have hctl : ctN st o = st.length := by omega
    have hs0 := hs
    rw [hpl] at hs0
    have := cutLast_full g cap s w h5 hs0
    rw [show st.length = cap by omega]
    refine this.mono fun e w' ⟨he, hb⟩ => ⟨?_, hb⟩
    have hok : okN st o = true := by
     unfold okN
     rw [hctl, List.drop_length, hpl]
     simp
    unfold CutEnd
    rw [hok, if_pos rfl]
    refine ⟨_, _, _, by rw [hm0]; exact he, ?_, by omega, by decide, ?_⟩
    ·rw [hctl, List.take_length]
     have h8 := hO'.below hb (Nat.le_refl _)
     rw [show st.length = cap by omega] at h8
     exact h8
    ·rw [hctl, List.drop_length]; exact .inl rfl
   ·have := cutLast_some g (ctN st o) (plT o).length cap s st (plT o) w hct (by omega) hcc h5 hrd hi hs rfl _ rfl
    rw [hct]
    refine this.mono fun e w' ⟨he, hb⟩ => ⟨?_, hb⟩
    have hok : okN st o = decide ((st.drop (ctN st o)).map Prod.fst = plT o) := by
     unfold okN
     rw [decide_eq_true hle, Bool.true_and]
    unfold CutEnd
    rw [hok]
    cases hd : decide ((st.drop (ctN st o)).map Prod.fst = plT o) with
    | true =>
     rw [hd] at he
     rw [if_pos rfl]
     refine ⟨_, _, _, he, ?_, by omega, by omega, ?_⟩
     ·exact (hO'.take (ctN st o) (by omega)).below hb (Nat.le_refl _)
     ·have := hrd.drop (ctN st o) (by omega)
      rw [Nat.zero_add] at this
      exact this.below hb
    | false =>
     rw [hd] at he
     rw [if_neg (by simp)]
     exact he
 ·obtain ⟨a, cap, rfl, h4, h5⟩ := hO.form
  have := cutLast_few a st.length cap s w h4 h5 (Nat.le_trans hs.2.1 hs.2.2.1) (by omega)
  refine this.mono fun e w' ⟨he, hb⟩ => ⟨?_, hb⟩
  have hok : okN st o = false := by
   unfold okN
   rw [decide_eq_false hle, Bool.false_and]
  unfold CutEnd
  rw [hok, if_neg (by simp)]
  exact he
end Go.Proofs.YtjogclofjollnaaGreatDoor
namespace Go.Proofs
open Go.Shelf
def Tryz.lays156_ren : Go.Shelf.Ren := ⟨fun | 156 => 42 | 165 => 78 | 166 => 79 | 169 => 80 | 240 => 108 | 241 => 109 | 276 => 126 | 277 => 127 | n => n, fun | 31 => 77 | 9 => 9 | 3 => 3 | 4 => 4 | 0 => 0 | 20 => 20 | 72 => 110 | 76 => 112 | 70 => 108 | 37 => 23 | 75 => 52 | 127 => 144 | 164 => 115 | 5 => 5 | 80 => 114 | n => n, fun | n => n⟩
theorem Tryz.lays156 : Go.Proofs.Lays.n156 Tryz.prog Tryz.lays156_ren := {
 mixed := by kernel_rfl
 f156 := Tryz.func42.trans (congrArg some (by kernel_rfl))
 f165 := Tryz.func78.trans (congrArg some (by kernel_rfl))
 f166 := Tryz.func79.trans (congrArg some (by kernel_rfl))
 f169 := Tryz.func80.trans (congrArg some (by kernel_rfl))
 f240 := Tryz.func108.trans (congrArg some (by kernel_rfl))
 f241 := Tryz.func109.trans (congrArg some (by kernel_rfl))
 f276 := Tryz.func126.trans (congrArg some (by kernel_rfl))
 f277 := Tryz.func127.trans (congrArg some (by kernel_rfl))
 t0 := Tryz.underlying0
 a0 := Tryz.isAgg0
 z0 := Tryz.sizeOf0
 v0 := Tryz.zeroValue0
 t3 := Tryz.underlying3
 a3 := Tryz.isAgg3
 z3 := Tryz.sizeOf3
 v3 := Tryz.zeroValue3
 t4 := Tryz.underlying4
 a4 := Tryz.isAgg4
 z4 := Tryz.sizeOf4
 v4 := Tryz.zeroValue4
 t9 := Tryz.underlying9
 a9 := Tryz.isAgg9
 z9 := Tryz.sizeOf9
 v9 := Tryz.zeroValue9
 t20 := Tryz.underlying20
 a20 := Tryz.isAgg20
 z20 := Tryz.sizeOf20
 v20 := Tryz.zeroValue20
 t31 := Tryz.underlying77
 a31 := Tryz.isAgg77
 z31 := Tryz.sizeOf77
 v31 := Tryz.zeroValue77
 t37 := Tryz.underlying23
 a37 := Tryz.isAgg23
 z37 := Tryz.sizeOf23
 v37 := Tryz.zeroValue23
 t70 := Tryz.underlying108
 a70 := Tryz.isAgg108
 z70 := Tryz.sizeOf108
 v70 := Tryz.zeroValue108
 t72 := Tryz.underlying110
 a72 := Tryz.isAgg110
 z72 := Tryz.sizeOf110
 v72 := Tryz.zeroValue110
 t75 := Tryz.underlying52
 a75 := Tryz.isAgg52
 z75 := Tryz.sizeOf52
 v75 := Tryz.zeroValue52
 t76 := Tryz.underlying112
 a76 := Tryz.isAgg112
 z76 := Tryz.sizeOf112
 v76 := Tryz.zeroValue112
 t127 := Tryz.underlying144
 a127 := Tryz.isAgg144
 z127 := Tryz.sizeOf144
 v127 := Tryz.zeroValue144
 t164 := Tryz.underlying115
 a164 := Tryz.isAgg115
 z164 := Tryz.sizeOf115
 v164 := Tryz.zeroValue115 }
theorem Tryz.Builder_Extra_156 : Builder.Extra Tryz.prog Tryz.lays156_ren := {
 sizeBuilder := by kernel_rfl
 liesBuilder := by kernel_rfl
 t5 := Tryz.underlying5
 a5 := Tryz.isAgg5
 z5 := Tryz.sizeOf5
 v5 := Tryz.zeroValue5
 infoByte := by kernel_rfl
 cellsByte := by kernel_rfl
 sizeByte := by kernel_rfl
 neB5 := by decide }
open Go.RowKit in
theorem Tryz.strings_Join (bk o c : Nat) (xs : List ByteArray) (sep : ByteArray) (w : World) (hcells : ∀ (j : Nat) x, xs[j]? = some x → w.cell? ⟨bk, o + j, none⟩ = some (.string x)) (hbk : bk < w.heap.size) (hN : xs.length ≤ 140737488355328) (hcap : xs.length ≤ c) (hlen : (Lib.join (xs.map (·.data.toList)) sep.data.toList).length ≤ 140737488355328) :
  Calls Tryz.prog 42 #[.slice (some ⟨bk, o, none⟩) xs.length c, .string sep] w fun e w' => e = .returned (.string ⟨(Lib.join (xs.map (·.data.toList)) sep.data.toList).toArray⟩) ∧ Below w.heap.size w w' := Any.strings_Join Tryz.lays156 Tryz.Builder_Extra_156 bk o c xs sep w hcells hbk hN hcap hlen
def Tryz.laysM173_ren : Go.Shelf.Ren := ⟨fun | 173 => 103 | 246 => 120 | 283 => 136 | 284 => 137 | 285 => 138 | 286 => 139 | 129 => 150 | 317 => 149 | 318 => 151 | 319 => 152 | 320 => 153 | 337 => 158 | 338 => 159 | n => n, fun | 2 => 2 | 3 => 3 | 9 => 9 | 4 => 4 | 171 => 202 | 0 => 0 | 53 => 203 | 37 => 23 | 5 => 5 | 173 => 206 | 212 => 217 | 51 => 137 | 20 => 20 | 213 => 218 | 46 => 138 | 232 => 234 | 233 => 169 | n => n, fun | 17 => 11 | 18 => 12 | 19 => 13 | n => n⟩
theorem Tryz.laysM173 : Go.Proofs.LaysM.n173 Tryz.prog Tryz.laysM173_ren := {
 mixed := by kernel_rfl
 f129 := Tryz.func150.trans (congrArg some (by kernel_rfl))
 f173 := Tryz.func103.trans (congrArg some (by kernel_rfl))
 f246 := Tryz.func120.trans (congrArg some (by kernel_rfl))
 f283 := Tryz.func136.trans (congrArg some (by kernel_rfl))
 f284 := Tryz.func137.trans (congrArg some (by kernel_rfl))
 f285 := Tryz.func138.trans (congrArg some (by kernel_rfl))
 f286 := Tryz.func139.trans (congrArg some (by kernel_rfl))
 f317 := Tryz.func149.trans (congrArg some (by kernel_rfl))
 f318 := Tryz.func151.trans (congrArg some (by kernel_rfl))
 f319 := Tryz.func152.trans (congrArg some (by kernel_rfl))
 f320 := Tryz.func153.trans (congrArg some (by kernel_rfl))
 f337 := Tryz.func158.trans (congrArg some (by kernel_rfl))
 f338 := Tryz.func159.trans (congrArg some (by kernel_rfl))
 t0 := Tryz.underlying0
 a0 := Tryz.isAgg0
 z0 := Tryz.sizeOf0
 v0 := Tryz.zeroValue0
 t2 := Tryz.underlying2
 a2 := Tryz.isAgg2
 z2 := Tryz.sizeOf2
 v2 := Tryz.zeroValue2
 t3 := Tryz.underlying3
 a3 := Tryz.isAgg3
 z3 := Tryz.sizeOf3
 v3 := Tryz.zeroValue3
 t4 := Tryz.underlying4
 a4 := Tryz.isAgg4
 z4 := Tryz.sizeOf4
 v4 := Tryz.zeroValue4
 t5 := Tryz.underlying5
 a5 := Tryz.isAgg5
 z5 := Tryz.sizeOf5
 v5 := Tryz.zeroValue5
 t9 := Tryz.underlying9
 a9 := Tryz.isAgg9
 z9 := Tryz.sizeOf9
 v9 := Tryz.zeroValue9
 t20 := Tryz.underlying20
 a20 := Tryz.isAgg20
 z20 := Tryz.sizeOf20
 v20 := Tryz.zeroValue20
 t37 := Tryz.underlying23
 a37 := Tryz.isAgg23
 z37 := Tryz.sizeOf23
 v37 := Tryz.zeroValue23
 t46 := Tryz.underlying138
 a46 := Tryz.isAgg138
 z46 := Tryz.sizeOf138
 v46 := Tryz.zeroValue138
 t51 := Tryz.underlying137
 a51 := Tryz.isAgg137
 z51 := Tryz.sizeOf137
 v51 := Tryz.zeroValue137
 t53 := Tryz.underlying203
 a53 := Tryz.isAgg203
 z53 := Tryz.sizeOf203
 v53 := Tryz.zeroValue203
 t171 := Tryz.underlying202
 a171 := Tryz.isAgg202
 z171 := Tryz.sizeOf202
 v171 := Tryz.zeroValue202
 t173 := Tryz.underlying206
 a173 := Tryz.isAgg206
 z173 := Tryz.sizeOf206
 v173 := Tryz.zeroValue206
 t212 := Tryz.underlying217
 a212 := Tryz.isAgg217
 z212 := Tryz.sizeOf217
 v212 := Tryz.zeroValue217
 t213 := Tryz.underlying218
 a213 := Tryz.isAgg218
 z213 := Tryz.sizeOf218
 t232 := Tryz.underlying234
 a232 := Tryz.isAgg234
 z232 := Tryz.sizeOf234
 v232 := Tryz.zeroValue234
 t233 := Tryz.underlying169
 a233 := Tryz.isAgg169
 z233 := Tryz.sizeOf169
 v233 := Tryz.zeroValue169
 g17 := by kernel_rfl
 g18 := by kernel_rfl
 g19 := by kernel_rfl
 i0 := by kernel_rfl
 i2 := by kernel_rfl
 i3 := by kernel_rfl
 i4 := by kernel_rfl
 i5 := by kernel_rfl
 i9 := by kernel_rfl
 i20 := by kernel_rfl
 i37 := by kernel_rfl
 i46 := by kernel_rfl
 i51 := by kernel_rfl
 i53 := by kernel_rfl
 i171 := by kernel_rfl
 i173 := by kernel_rfl
 i212 := by kernel_rfl
 i232 := by kernel_rfl
 i233 := by kernel_rfl
 m17 := by kernel_rfl
 m18 := by kernel_rfl
 m19 := by kernel_rfl }
open Go.RowKit Go.Sort Go.Lib in
theorem Tryz.strconv_FormatInt_10 (n : Int) (h0 : -9223372036854775808 ≤ n) (h1 : n ≤ 9223372036854775807) (w : World) (htab : Lib.TabIs Tryz.prog w "internal/strconv.uint64pow10" .u64 Lib.pow10Tab) :
  Calls Tryz.prog 103 #[.int .i64 n, .int .i64 10] w fun e w' => e = .returned (.string ⟨(Lib.itoa n).toArray⟩) ∧ ∃ k os, w' = grow (w.drewN k) os := Any.strconv_FormatInt_10 Tryz.laysM173 n h0 h1 w htab
end Go.Proofs
namespace Go.Proofs.YtjogclofjollnaaGreatDoor
open Go.RowKit
def strData {H : Type} (zs : List (List UInt8)) : DataW H := .agg (zs.map fun z => .lit (.string z))
def txt (z : List UInt8) : ByteArray := ⟨z.toArray⟩
theorem cells_of_strs {H : Type} {enc : TypeId × Value → H} {P : Program} {w : World} {base : Nat} {sp : Nat → Bool} {held : Bool} {fuel : Nat} {t e : TypeId} {n : Nat} {cs : List Value} {zs : List (List UInt8)} {p : List MemPlace}
  (ht : P.underlying t = some (.array n e)) (he : P.underlying e = some .string) (hce : P.cellsOf e = 1) (hct : P.cellsOf t = n)
  (h : DataW.trod enc P w base sp held fuel t cs = some (strData zs, p)) : cs = zs.map fun z => Value.string (txt z) := by
 cases fuel with
 | zero => simp [DataW.trod] at h
 | succ fuel =>
  simp only [DataW.trod, ht, hce, hct, Nat.mul_one] at h
  split at h
  ·rename_i hl
   obtain ⟨xs, hm, hx⟩ := Option.map_eq_some_iff.1 h
   have hxs : xs.map (·.1) = zs.map fun z => (DataW.lit (.string z) : DataW H) := by
    have := congrArg Prod.fst hx
    simpa [strData] using this
   have hxl : xs.length = n := by simpa using Lib.mapM_length hm
   have hzl : zs.length = n := by
    have := congrArg List.length hxs
    simp at this
    omega
   apply List.ext_getElem?
   intro i
   by_cases hi : i < n
   ·obtain ⟨b, hb, hf⟩ := Lib.mapM_at hm i i (by simp [hi])
    obtain ⟨s, hc, rfl, _⟩ := DataW.trod_string he hf
    have h1 : cs[i]? = some (.string s) := by
     have := congrArg (·[0]?) hc
     simpa [List.getElem?_take, List.getElem?_drop] using this
    have h2 : (xs.map (·.1))[i]? = some (DataW.lit (.string s.data.toList) : DataW H) := by simp [hb]
    rw [hxs] at h2
    simp only [List.getElem?_map, Option.map_eq_some_iff, DataW.lit.injEq, Lit.string.injEq] at h2
    obtain ⟨z', hz', e'⟩ := h2
    simp [h1, hz', e', txt]
   ·rw [List.getElem?_eq_none (by omega), List.getElem?_eq_none (by simp; omega)]
  ·cases h
def StrsAre (P : Program) (w : World) (name : String) (zs : List (List UInt8)) : Prop := w.var? P name = some (zs.map fun z => Value.string (txt z)).toArray
theorem strsAre_of_head {P : Program} {W : World} {name : String} {zs : List (List UInt8)} {rest : List (String × DataW Unit)} {g : Nat} {t e : TypeId} {n : Nat}
  (hg : P.globalNamed name = some g) (hty : (P.globals[g]?).map (·.type) = some t) (ht : P.underlying t = some (.array n e)) (he : P.underlying e = some .string) (hce : P.cellsOf e = 1) (hct : P.cellsOf t = n)
  (h : laidMet P ((name, strData zs) :: rest) W) : StrsAre P W name zs := by
 obtain ⟨ps, ⟨g', t', cs, fuel, p, q, hg', ht', hvar, hd, _, _⟩, _⟩ := h
 obtain rfl := Option.some.inj (hg.symm.trans hg')
 obtain rfl := Option.some.inj (hty.symm.trans ht')
 unfold StrsAre
 rw [hvar, ← cells_of_strs ht he hce hct hd]
theorem StrsAre.cell {P : Program} {W : World} {name : String} {zs : List (List UInt8)} {g : Nat} (h : StrsAre P W name zs) (hg : P.globalNamed name = some g) (i : Nat) (hi : i < zs.length) :
  W.cell? ⟨g, i, none⟩ = some (.string (txt (zs.getD i []))) := by
 have := World.var?_cell hg h i
 simpa [List.getD, hi] using this
end Go.Proofs.YtjogclofjollnaaGreatDoor
