/- DecodeWords: what both answer · The laws' helpers that write marks into an answer's numbers, look for them again, and hold two answers with numbers against each other, do what their texts say; at most 1048576 numbers · A change's row over what is listed, with the world's own shape kept: a wrap; no conditions beyond those that it names. -/
import Derived.Test.YtknbndebfickpaaDoorWpv
import Derived.Test.YtknbndebfickpaaDoorAppIToChs2
import Derived.Test.YtknbndebfickpaaDoorMrk0ToMemF
import Derived.Handy
import Derived.Test.YtknbndebfickpaaDoorChecked
import Derived.Handed
import Derived.HandedShaped
import Derived.Shelf.Vars
namespace Go.Proofs.YtknbndebfickpaaDoor
open Go.RowKit

/-- The tables that the program reads. -/
structure Tabs (w : World) : Prop where
  c : TabC w
  b : TabB w
  h : TabH w
  m : MaxI w
theorem Tabs.below {w w' : World} (h : Tabs w) (hb : Below w.heap.size w w') : Tabs w' := ⟨h.c.below hb, h.b.below hb, h.h.below hb, h.m.below hb⟩
theorem bothWords (t : List Nat) (hB : IsB t) (hn : ¬ 1048576 < t.length) : ∃ (c : Int) (l : List Int), l.length ≤ 1048576 ∧
    (∀ w, Calls Tryd.prog 5 #[.string (str t)] w fun e w' => ∃ v, e = .returned (.agg #[.int .i64 c, v]) ∧ OwnI w' w.heap.size v l ∧ Below w.heap.size w w') ∧
    (∀ w, Tabs w → Calls Tryd.prog 6 #[.string (str t)] w fun e w' => ∃ v, e = .returned (.agg #[.int .i64 c, v]) ∧ OwnI w' w.heap.size v l ∧ Below w.heap.size w w') := by
  refine ⟨(dwV t).1, (dwV t).2, ?_, fun w => specDecodeWords_any t _ w rfl hB (by omega), fun w h => decodeWords_any t _ w rfl hB (by omega) h.c h.b h.h h.m⟩
  by_cases h : 400 < t.length
  · rw [dwV_many h]; exact Nat.zero_le _
  · rw [dwV_ok h]
    have := words_few t hB t.length false
    show (wdsM wdV cuV t.length false t).length ≤ _
    omega
end Go.Proofs.YtknbndebfickpaaDoor

namespace Go.Proofs.YtknbndebfickpaaDoor
open Go.RowKit

/-- The marks: n numbers from k on. -/
def marksI (n k : Nat) : List Int := (List.range n).map fun i => ((k + i : Nat) : Int)
theorem marksI_len (n k : Nat) : (marksI n k).length = n := by simp [marksI]
theorem marksI_nth {n k i : Nat} (h : i < n) : nthI (marksI n k) i = ((k + i : Nat) : Int) := by
  rw [nthI_get (by rw [marksI_len]; exact h)]; simp [marksI]
def mhalfI (l : List Int) (k i : Nat) : List Int := marksI i k ++ l.drop i
theorem mhalfI_zero (l : List Int) (k : Nat) : mhalfI l k 0 = l := by simp [mhalfI, marksI]
theorem mhalfI_all (l : List Int) (k : Nat) : mhalfI l k l.length = marksI l.length k := by simp [mhalfI]
theorem mhalfI_len (l : List Int) (k i : Nat) (h : i ≤ l.length) : (mhalfI l k i).length = l.length := by simp [mhalfI, marksI_len]; omega
theorem mhalfI_set (l : List Int) (k i : Nat) (h : i < l.length) : (ic (mhalfI l k i)).set i (.int .i64 ((k + i : Nat) : Int)) = ic (mhalfI l k (i + 1)) := by
  have hm : (ic (marksI i k)).length = i := by rw [ic_len, marksI_len]
  have e : marksI (i + 1) k = marksI i k ++ [((k + i : Nat) : Int)] := by simp [marksI, List.range_succ]
  unfold mhalfI
  rw [e, ic_app, List.set_append, hm, if_neg (Nat.lt_irrefl i), Nat.sub_self, drop_consI l i h]
  simp [ic]

set_option maxHeartbeats 1600000 in
set_option maxRecDepth 100000 in
theorem markInt64S_any (a : Option Addr) (n cap k B : Nat) (l : List Int) (w : World) (hown : OwnI w B (.slice a n cap) l) (hn : n ≤ 1048576) (hk : k ≤ 1048576) :
    Calls Tryd.prog 18 #[.slice a n cap, .int .i64 (k : Int)] w fun e w' =>
      e = .returned (.int .i64 ((k + n : Nat) : Int)) ∧ OwnI w' B (.slice a n cap) (marksI n k) ∧ w.grownBy w' (Value.slice a n cap).ownBlock := by
  obtain ⟨hl, hr⟩ := hown.rd
  go_enter Tryd.func18, Tryd.ntmps18
  go_wp2
  go_loopw [1, 5] (fun q i wr => ∃ j : Nat, j ≤ n ∧ i = .int .i64 j ∧ q = .int .i64 ((k + j : Nat) : Int) ∧ OwnI wr B (.slice a n cap) (mhalfI l k j) ∧ w.grownBy wr (Value.slice a n cap).ownBlock)
    (fun _ i _ => n - (intOf i).toNat)
  case atStart => exact ⟨0, Nat.zero_le _, rfl, rfl, by rw [mhalfI_zero]; exact hown, World.grownBy.refl _ _⟩
  case round =>
    obtain ⟨j, hj, rfl, rfl, hown', hgr⟩ := hrel
    clear hown
    by_cases hjn : j < n
    · obtain ⟨g, off, ha, _, hcell⟩ := hown'.rd.2.at_ (by rw [mhalfI_len _ _ _ (by omega)]; omega)
      obtain ⟨ad, hform⟩ : ∃ g', a = some ⟨g', 0, none⟩ := by
        rcases hown'.2 with ⟨h0, h1⟩ | ⟨g', cap', cur, h', _⟩
        · rw [mhalfI_len _ _ _ (by omega)] at h1; omega
        · simp at h'; exact ⟨g', h'.1⟩
      rw [ha] at hform
      obtain ⟨rfl, rfl⟩ : g = ad ∧ off = 0 := by simpa using hform
      subst ha
      have hlen : (mhalfI l k j).length = n := by rw [mhalfI_len _ _ _ (by omega)]; exact hl
      have ho2 : wr.ownsRow B 2 1 (.slice (some ⟨g, 0, none⟩) n cap) n (ic (mhalfI l k j)) := by have := hown'; unfold OwnI at this; rw [hlen] at this; exact this
      have hc : wr.cell? ⟨g, j, none⟩ = some (.int .i64 (nthI (mhalfI l k j) j)) := by have := hcell j (by omega); rw [Nat.zero_add] at this; exact this
      have hf := ho2.frozenAt j
      obtain ⟨hst, hgr2⟩ := ho2.stored j (.int .i64 ((k + j : Nat) : Int))
      rw [mhalfI_set l k j (by omega)] at hst
      have HO : Hid (OwnI (wr.setCell ⟨g, j, none⟩ (.int .i64 ((k + j : Nat) : Int))) B (.slice (some ⟨g, 0, none⟩) n cap) (mhalfI l k (j + 1))) := by
        show OwnI _ _ _ _
        unfold OwnI
        rw [mhalfI_len _ _ _ (by omega), hl]; exact hst
      have hgr3 : w.grownBy (wr.setCell ⟨g, j, none⟩ (.int .i64 ((k + j : Nat) : Int))) (some g) := ⟨hgr2.os.trans hgr.os, hgr2.tape.trans hgr.tape, hgr2.output.trans hgr.output, Nat.le_trans hgr.size hgr2.size, fun b hb hne => (hgr2.block b (Nat.lt_of_lt_of_le hb hgr.size) hne).trans (hgr.block b hb hne)⟩
      have e0 : ((k + j : Nat) : Int) = (k : Int) + (j : Int) := by omega
      rw [e0] at HO hgr3
      clear hst hgr2 ho2 hcell hown' hgr hform hr e0
      go_wp2
      go_roundw
      case rel => exact ⟨j + 1, by omega, by go_num, by go_num, HO.out, hgr3⟩
      case measure => simp [intOf]; omega
    · have hjj : j = n := by omega
      subst hjj
      rw [← hl, mhalfI_all, hl] at hown'
      go_wp2
      go_ret
      exact ⟨rfl, hown', hgr⟩

set_option maxHeartbeats 800000 in
set_option maxRecDepth 100000 in
theorem heldInt64S_any (a : Option Addr) (n cap k : Nat) (w : World) (hr : RdI w a (marksI n k)) (hn : n ≤ 1048576) (hk : k ≤ 1048576) :
    Calls Tryd.prog 19 #[.slice a n cap, .int .i64 (k : Int)] w fun e w' => e = .returned (.int .i64 ((k + n : Nat) : Int)) ∧ w = w' := by
  go_enter Tryd.func19, Tryd.ntmps19
  go_wp2
  go_loop [1, 5] (fun q i => ∃ j : Nat, j ≤ n ∧ i = .int .i64 j ∧ q = .int .i64 ((k + j : Nat) : Int)) (fun _ i => n - (intOf i).toNat)
  case atStart => exact ⟨0, Nat.zero_le _, rfl, rfl⟩
  case round =>
    obtain ⟨j, hj, rfl, rfl⟩ := hrel
    by_cases hjn : j < n
    · obtain ⟨b, off, rfl, hblt, hcell⟩ := hr.at_ (by rw [marksI_len]; omega)
      have hc := hcell j (by rw [marksI_len]; exact hjn)
      rw [marksI_nth hjn] at hc
      rw [show ((k + j : Nat) : Int) = (k : Int) + (j : Int) by omega] at hc
      clear hcell hr
      go_wp2
      go_round
      case rel => exact ⟨j + 1, by omega, by go_num, by go_num⟩
      case measure => simp [intOf]; omega
    · have hjj : j = n := by omega
      subst hjj
      go_wp2
      go_ret
      exact ⟨rfl, rfl⟩

set_option maxHeartbeats 800000 in
set_option maxRecDepth 100000 in
theorem markCodesResult_any (c : Int) (a : Option Addr) (n cap B : Nat) (l : List Int) (w : World) (hown : OwnI w B (.slice a n cap) l) (hn : n ≤ 1048576) :
    Calls Tryd.prog 8 #[.agg #[.int .i64 c, .slice a n cap], .int .i64 1] w fun e w' =>
      e = .returned (.int .i64 ((1 + n : Nat) : Int)) ∧ OwnI w' B (.slice a n cap) (marksI n 1) ∧ w.grownBy w' (Value.slice a n cap).ownBlock := by
  go_enter Tryd.func8, Tryd.ntmps8
  go_wp2_with fail
  refine (markInt64S_any a n cap 1 B l _ (by exact hown.alloc _) hn (by omega)).mono ?_
  rintro e w1 ⟨rfl, h1, h2⟩
  have h3 := grown_alloc h2
  clear h2
  go_wp2
  go_ret
  exact ⟨rfl, h1, h3⟩

set_option maxHeartbeats 800000 in
set_option maxRecDepth 100000 in
theorem heldCodesResult_any (c : Int) (a : Option Addr) (n cap : Nat) (w : World) (hr : RdI w a (marksI n 1)) (hn : n ≤ 1048576) :
    Calls Tryd.prog 9 #[.agg #[.int .i64 c, .slice a n cap], .int .i64 1] w fun e w' =>
      e = .returned (.int .i64 ((1 + n : Nat) : Int)) ∧ Below w.heap.size w w' := by
  have hpos : ¬ (((1 + n : Nat) : Int)) < 0 := by omega
  go_enter Tryd.func9, Tryd.ntmps9
  go_wp2_with fail
  refine (heldInt64S_any a n cap 1 _ (by exact hr.below ((Below.refl _ _).alloc (Nat.le_refl _) _)) hn (by omega)).mono ?_
  rintro e w1 ⟨rfl, rfl⟩
  go_wp2
  go_ret
  exact ⟨rfl, by go_grown⟩

set_option maxHeartbeats 800000 in
set_option maxRecDepth 100000 in
theorem eqCodesResult_same (c : Int) (a b : Option Addr) (n cap cap' : Nat) (l : List Int) (w : World) (hl : l.length = n) (hr : RdI w a l) (hs : RdI w b l) (hn : n ≤ 1048576) :
    Calls Tryd.prog 7 #[.agg #[.int .i64 c, .slice a n cap], .agg #[.int .i64 c, .slice b n cap']] w fun e w' => e = .returned (.bool true) ∧ Below w.heap.size w w' := by
  go_enter Tryd.func7, Tryd.ntmps7
  go_wp2_with fail
  have hb : Below w.heap.size w ((w.alloc (.cells #[.int .i64 c, .slice a n cap] 24)).alloc (.cells #[.int .i64 c, .slice b n cap'] 24)) := ((Below.refl _ _).alloc (Nat.le_refl _) _).alloc (by simp) _
  refine (eqInt64S_same a b n cap cap' l _ hl (by exact hr.below hb) (by exact hs.below hb) hn).mono ?_
  rintro e w1 ⟨rfl, hb1⟩
  go_wp2
  go_ret
  exact ⟨rfl, hb.trans (hb1.mono (by simp; omega))⟩

end Go.Proofs.YtknbndebfickpaaDoor

namespace Go.Proofs.YtknbndebfickpaaDoor

theorem handed_and_shaped {H : Type} {enc : TypeId × Value → H} {a : Assume} {C : Checked} {os : Os} {f : FuncId} {fn : Func} {s : ChangeSpec} {conds : List PathCond} {apart fresh handsOn again : Bool} {X : World → Array Value → Prop}
    (hX : ∀ (w w' : World) (args : Array Value), w.heap = w'.heap → X w args → X w' args)
    (own : ownKnob C.prog.godebug = none) (started : os.Started) (noInit : C.prog.inits.idxOf? f = none) (hfn : C.prog.funcs[f]? = some fn)
    (witness : ∃ (w : World) (tape : Tape) (i : Input), w.os = os ∧ (w.forCall tape i).Shaped C.prog ∧ i.vars = [] ∧ Input.okWide C.prog (w.forCall tape i) .any w.heap.size f i ∧
      ((s.pre enc C.prog fn conds apart (w.forCall tape i).memory i.args ∧ X (w.forCall tape i).memory i.args) ∧ sizedMet enc C.prog fn (OpenSpec.ofChange s) apart (w.forCall tape i).memory i.args) ∧ a.holds C.prog (lone (Frame.enter C.prog f i.args .normal) [] (w.forCall tape i)))
    (contract : ∀ (W : World) (base : Nat) (args : Array Value) (ds gs : List (DataW H)) (before : List MemPlace),
      (∀ (j : Nat) t v, fn.params[j]? = some t → args[j]? = some v → Value.okWide C.prog W .any base t v) →
      DataW.Whole enc C.prog fn.params.toList s.vars apart W args.toList ds gs before → X W args → W.ShapedOpen C.prog →
      Calls C.prog f args W fun e W' => ∃ v, e = .returned v ∧ s.post enc C.prog fn apart fresh handsOn again W args v W') :
    ReturnsInHanded a C os f .any (fun w args => (s.pre enc C.prog fn conds apart w args ∧ X w args) ∧ sizedMet enc C.prog fn (OpenSpec.ofChange s) apart w args) (s.post enc C.prog fn apart fresh handsOn again) := by
  refine returnsInHanded_of_calls own started noInit witness ?_
  intro w tape i _ hsh _ hok hpre _
  obtain ⟨_, _, _, fn', hfn', _, _, _, _, hval⟩ := hok
  obtain rfl : fn' = fn := Option.some.inj (hfn'.symm.trans hfn)
  obtain ⟨⟨⟨ds, gs, before, hw, _⟩, hx⟩, _⟩ := hpre
  refine (contract (w.forCall tape i) w.heap.size i.args ds gs before hval (DataW.Whole.of_heap (w' := w.forCall tape i) (by rfl) hw) (hX _ _ _ (by rfl) hx) hsh).mono fun e W' ⟨v, he, hp⟩ => ?_
  subst he
  exact ChangeSpec.post_blind hp
theorem maxLen_shaped {w : World} (h : w.ShapedOpen Tryd.prog) : ∃ m, w.cell? ⟨2, 0, none⟩ = some (.int .i64 m) :=
  cell_of_shapedOpen_int (t := 3) (zero := #[.int .i64 0]) (k := .i64) h (of_decide_eq_true (by kernel_rfl)) (by kernel_rfl) rfl (by kernel_rfl) (by kernel_rfl) Tryd.underlying3
end Go.Proofs.YtknbndebfickpaaDoor
