/- The set of some numbers, on both sides: at every slice of numbers; no conditions beyond those that each fact names. -/
import Derived.Test.YtlkfmgfblfkgbaaGreatDoorYin
import Derived.Test.YtlkfmgfblfkgbaaGreatDoorAppI
namespace Go.Proofs.YtlkfmgfblfkgbaaGreatDoor
open Go.RowKit

/-- An append of one range that was laid just ahead. -/
theorem wpList_app_newY {wr : World} {ops : Array Oper} {rest : List Oper} {o : Oper} {a : Act} {Q : Exit → Act → World → Prop} (hgd : o.guard = none) (s x : Operand)
    (ho : o.op = .call { callee := .builtin .append, args := #[s, x], argTypes := #[25, 25] })
    (B : Nat) (v : Value) (l : List YgP) (hs : a.eval s = v) (hown : OwnY wr B v l) (p q : Int) (hx : a.eval x = .slice (some ⟨wr.heap.size, 0, none⟩) 1 1)
    (hsz : l.length + 1 ≤ 1048576) (hB : B ≤ wr.heap.size)
    (h : ∀ v' w1, OwnY w1 B v' (l ++ [(p, q)]) → Below B wr w1 → wpList Tryz.prog ops Q rest (a.put o.dst v') w1) : wpList Tryz.prog ops Q (o :: rest) a (wr.alloc (.cells #[.int .i64 p, .int .i64 q] 42)) := by
  have hb : Below B wr (wr.alloc (.cells #[.int .i64 p, .int .i64 q] 42)) := (Below.refl _ _).alloc hB _
  refine wpList_appY hgd s x ho B v l hs (hown.alloc _) ⟨wr.heap.size, 0, none⟩ 1 1 [(p, q)] hx rfl ?_ hsz (by simp; omega) (fun v' w1 h1 h2 => h v' w1 h1 (hb.trans h2))
  intro j hj
  obtain rfl : j = 0 := by omega
  refine ⟨?_, ?_⟩
  · show (wr.alloc _).cell? ((⟨wr.heap.size, 0, none⟩ : Addr).add 0) = _
    rw [Go.WideShapes.add_plain, World.cell?_alloc_mark]; rfl
  · show (wr.alloc _).cell? ((⟨wr.heap.size, 0, none⟩ : Addr).add 1) = _
    rw [Go.WideShapes.add_plain, World.cell?_alloc_mark]; rfl

theorem zc_set (l : List YgP) (i : Nat) (p : YgP) : (zc l).set i (cz p) = zc (l.set i p) := by
  simp [zc, List.map_set]
theorem yc_setV : ∀ (l : List YgP) (i : Nat) (y : Int), i < l.length → (yc l).set (i * 2 + 1) (.int .i64 y) = yc (l.set i ((nthY l i).1, y))
  | [], _, _, h => by simp at h
  | p :: l, 0, y, _ => rfl
  | p :: l, i + 1, y, h => by
    have := yc_setV l i y (by simpa using h)
    rw [yc_cons, show (i + 1) * 2 + 1 = (i * 2 + 1) + 1 + 1 by omega, List.set_cons_succ, List.set_cons_succ, this, List.set_cons_succ, yc_cons]
    rfl

/-- A number and the one ahead of it: in its bounds, and above it. -/
def upY (l : List Int) (i : Nat) : Bool := bty (nthI l i) 1 999 && (decide (i = 0) || decide (nthI l (i - 1) < nthI l i))
/-- All numbers rise. -/
def riY (l : List Int) : Bool := (List.range l.length).all (upY l)
theorem riY_at {l : List Int} {k : Nat} (h : k < l.length) (hx : upY l k = false) : riY l = false := by
  unfold riY
  rw [List.all_eq_false]
  exact ⟨k, List.mem_range.2 h, by rw [hx]; decide⟩
theorem riY_all {l : List Int} (h : ∀ i, i < l.length → upY l i = true) : riY l = true := by
  unfold riY
  rw [List.all_eq_true]
  exact fun i hi => h i (List.mem_range.1 hi)
theorem riY_up {l : List Int} (h : riY l = true) {i : Nat} (hi : i < l.length) : upY l i = true := List.all_eq_true.1 h i (List.mem_range.2 hi)
theorem upY_b {l : List Int} {i : Nat} (h : upY l i = true) : 1 ≤ nthI l i ∧ nthI l i ≤ 999 := by
  unfold upY at h
  exact of_decide_eq_true (Bool.and_eq_true_iff.1 h).1
/-- The number ahead (0 ahead of the first one). -/
def ahY (l : List Int) (k : Nat) : Int := if k = 0 then 0 else nthI l (k - 1)
theorem upY_ah {l : List Int} {k : Nat} (h : ∀ i, i < k → upY l i = true) : upY l k = bty (nthI l k) (ahY l k + 1) 999 := by
  unfold upY ahY bty
  by_cases h0 : k = 0
  · subst h0
    simp
  · have h1 := upY_b (h (k - 1) (by omega))
    rw [if_neg h0, decide_eq_false h0, Bool.false_or, ← Bool.decide_and]
    congr 1
    apply propext
    constructor
    · intro ⟨⟨_, h3⟩, h4⟩; omega
    · intro ⟨h3, h4⟩; omega
theorem ahY_b {l : List Int} {k : Nat} (h : ∀ i, i < k → upY l i = true) : 0 ≤ ahY l k ∧ ahY l k ≤ 999 := by
  unfold ahY
  split
  · omega
  · have := upY_b (h (k - 1) (by omega)); omega

/-- The ranges, with one number more. -/
def stY (r : List YgP) (n : Int) : List YgP := if 0 < r.length ∧ (nthY r (r.length - 1)).2 + 1 = n then r.set (r.length - 1) ((nthY r (r.length - 1)).1, n) else r ++ [(n, n)]
def rwY (l : List Int) : Nat → List YgP
  | 0 => []
  | k + 1 => stY (rwY l k) (nthI l k)
theorem stY_len (r : List YgP) (n : Int) : r.length ≤ (stY r n).length ∧ (stY r n).length ≤ r.length + 1 ∧ 0 < (stY r n).length := by
  unfold stY
  split
  · rw [List.length_set]; omega
  · rw [List.length_append]; simp
theorem stY_last (r : List YgP) (n : Int) : (nthY (stY r n) ((stY r n).length - 1)).2 = n := by
  unfold stY
  split
  · rename_i h
    rw [List.length_set, nthY_get (by rw [List.length_set]; omega)]
    simp
  · rw [nthY_get (by rw [List.length_append]; simp)]
    simp
theorem rwY_len (l : List Int) : ∀ k, (rwY l k).length ≤ k
  | 0 => Nat.le_refl _
  | k + 1 => by
    have := rwY_len l k
    have h2 := stY_len (rwY l k) (nthI l k)
    show (stY (rwY l k) (nthI l k)).length ≤ k + 1
    omega
theorem rwY_last (l : List Int) (k : Nat) (h : 0 < k) : 0 < (rwY l k).length ∧ (nthY (rwY l k) ((rwY l k).length - 1)).2 = nthI l (k - 1) := by
  obtain ⟨j, rfl⟩ : ∃ j, k = j + 1 := ⟨k - 1, by omega⟩
  exact ⟨(stY_len _ _).2.2, by rw [Nat.add_sub_cancel]; exact stY_last _ _⟩
theorem rfA_app (a b : List YgP) : rfA (a ++ b) = (rfA a && rfA b) := by unfold rfA; rw [List.all_append]
theorem rfA_of {l : List YgP} (h : ∀ i, i < l.length → bty (nthY l i).1 0 999 = true ∧ bty (nthY l i).2 0 999 = true) : rfA l = true :=
  rfA_all fun i hi => by rw [(h i hi).1, (h i hi).2]; rfl
theorem stY_ok {r : List YgP} {n : Int} (hr : rfA r = true) (hn : 1 ≤ n ∧ n ≤ 999) : rfA (stY r n) = true := by
  have hb : bty n 0 999 = true := decide_eq_true (by omega)
  unfold stY
  split
  · rename_i h
    refine rfA_of fun i hi => ?_
    rw [List.length_set] at hi
    rw [nthY_get (by rw [List.length_set]; exact hi), List.getElem_set]
    split
    · exact ⟨(rfA_nth hr (by omega)).1, hb⟩
    · have := rfA_nth hr hi
      rw [nthY_get hi] at this
      exact this
  · rw [rfA_app, hr]
    unfold rfA
    simp [hb]
theorem rwY_ok {l : List Int} : ∀ {k : Nat}, (∀ i, i < k → upY l i = true) → rfA (rwY l k) = true
  | 0, _ => rfl
  | k + 1, h => stY_ok (rwY_ok fun i hi => h i (by omega)) (upY_b (h k (by omega)))
/-- What SetOf tells. -/
def soV (l : List Int) : Int × List YgP := if 1 ≤ l.length ∧ l.length ≤ 60 then (if riY l then (if (rwY l l.length).length ≤ 8 then (0, rwY l l.length) else (2, [])) else (3, [])) else (2, [])

set_option maxHeartbeats 1600000 in
set_option maxRecDepth 100000 in
theorem doRise_any (a : Option Addr) (n cap : Nat) (l : List Int) (w : World) (hl : l.length = n) (hr : RdI w a l) (hn : n ≤ 1048576) :
    Calls Tryz.prog 28 #[.slice a n cap, .int .i64 999] w fun e w' => e = .returned (.bool (riY l)) ∧ w = w' := by
  go_enter Tryz.func28, Tryz.ntmps28
  go_wp2
  go_loop [5, 10] (fun v i => ∃ k : Nat, k ≤ n ∧ i = .int .i64 k ∧ v = .int .i64 (ahY l k) ∧ ∀ i, i < k → upY l i = true) (fun _ i => n - (intOf i).toNat)
  case atStart => exact ⟨0, Nat.zero_le _, rfl, rfl, fun i hi => by omega⟩
  case round =>
    obtain ⟨k, hk, rfl, rfl, hall⟩ := hrel
    by_cases hkn : k < n
    · obtain ⟨b, off, rfl, hblt, hcell⟩ := hr.at_ (by omega)
      have hc := hcell k (by omega)
      have hki : (k : Int) < (n : Int) := by omega
      obtain ⟨ha0, ha9⟩ := ahY_b hall
      have HU := upY_ah hall
      have HBAD : Hid (upY l k = false → riY l = false) := fun h => riY_at (by omega) h
      have HGO : Hid (upY l k = true → (∀ i, i < k + 1 → upY l i = true) ∧ nthI l k = ahY l (k + 1)) := fun h => ⟨fun i hi => by
        rcases Nat.lt_or_ge i k with h' | h'
        · exact hall i h'
        · rw [show i = k by omega]; exact h, rfl⟩
      clear hcell hall hr
      rw [HU] at HBAD HGO
      clear HU
      generalize ahY l k = q at *
      obtain ⟨x, hx⟩ : ∃ x, x = nthI l k := ⟨_, rfl⟩
      rw [← hx] at hc HBAD HGO
      clear hx
      go_wp2_with fail
      refine (isBetween_y x _ 999 _).mono ?_
      rintro e w1 ⟨rfl, rfl⟩
      cases hb : bty x (q + 1) 999 with
      | false =>
        have HV : Hid (_) := HBAD.out hb
        clear HBAD HGO
        go_wp2
        go_ret
        exact ⟨by rw [HV.out]; rfl, rfl⟩
      | true =>
        have HV : Hid (_) := HGO.out hb
        clear HBAD HGO
        go_wp2
        go_round
        case rel => exact ⟨k + 1, by omega, by go_num, by rw [← HV.out.2], HV.out.1⟩
        case measure => simp [intOf]; omega
    · have hki : ¬ (k : Int) < (n : Int) := by omega
      have HV : Hid (riY l = true) := riY_all (fun i hi => hall i (by omega))
      clear hall
      go_wp2
      go_ret
      exact ⟨by rw [HV.out]; rfl, rfl⟩

set_option maxHeartbeats 1600000 in
set_option maxRecDepth 100000 in
theorem rangesOf_any (a : Option Addr) (n cap : Nat) (l : List YgP) (w : World) (hl : l.length = n) (hr : RdZ w a l) (hn : n ≤ 1000) (hok : rfA l = true) :
    Calls Tryz.prog 30 #[.slice a n cap] w fun e w' => ∃ v, e = .returned v ∧ OwnY w' w.heap.size v l ∧ Below w.heap.size w w' := by
  go_enter Tryz.func30, Tryz.ntmps30
  go_wp2
  go_loopw [3, 8] (fun v i wr => ∃ k : Nat, k ≤ n ∧ i = .int .i64 k ∧ OwnY wr w.heap.size v (l.take k) ∧ Below w.heap.size w wr) (fun _ i _ => n - (intOf i).toNat)
  case atStart => exact ⟨0, Nat.zero_le _, rfl, OwnY.nil _ _, Below.refl _ _⟩
  case round =>
    obtain ⟨k, hk, rfl, hown, hbel⟩ := hrel
    by_cases hkn : k < n
    · obtain ⟨b, off, rfl, hblt, hcell⟩ := hr.at_ (by omega)
      have hc0 : wr.cell? ⟨b, off + k, none⟩ = some (cz (nthY l k)) := (hbel.cell (p := ⟨b, off + k, none⟩) hblt).trans (hcell k (by omega))
      have hki : (k : Int) < (n : Int) := by omega
      have HT : Hid (l.take k ++ [nthY l k] = l.take (k + 1)) := (take_snocY l k (by omega)).symm
      have hlt : (l.take k).length = k := by rw [List.length_take]; omega
      obtain ⟨b1, b2⟩ := rfA_nth hok (i := k) (by omega)
      clear hcell
      generalize nthY l k = p at *
      obtain ⟨x, y⟩ := p
      simp only at b1 b2
      have HF : Hid (_) := fun w => reachFrom_any (x, y) w b1
      have HG : Hid (_) := fun w => reachTo_any (x, y) w b2
      rw [show cz (x, y) = .complex .f64 (fB x) (fB y) from rfl] at hc0
      obtain ⟨av, cv, ev, _, _⟩ := hown.form
      rw [hlt] at ev
      subst ev
      go_wp2_with fail
      refine (HF.out _).mono ?_
      rintro e w2 ⟨rfl, rfl⟩
      go_wp2_with fail
      refine (HG.out _).mono ?_
      rintro e w2 ⟨rfl, rfl⟩
      go_wp2_with (at_builtin; refine wpList_app_newY rfl _ _ rfl w.heap.size _ (l.take k) rfl hown x y rfl (by rw [hlt]; omega) hbel.size ?_; intro v' w3 ho3 hb3)
      rw [HT.out] at ho3
      have hB3 := hbel.trans hb3
      clear hb3 hown
      go_roundw
      case rel => exact ⟨k + 1, by omega, by go_num, ho3, hB3⟩
      case measure => simp [intOf]; omega
    · have hki : ¬ (k : Int) < (n : Int) := by omega
      have hkk : l.take k = l := List.take_of_length_le (by omega)
      rw [hkk] at hown
      go_wp2
      go_ret
      exact ⟨_, rfl, hown, hbel⟩
end Go.Proofs.YtlkfmgfblfkgbaaGreatDoor
