/- Rows of numbers that grow by one; which messages are told of, which are deleted, at which places; no conditions beyond those that each fact names · The laws' marks over stores and over what an op on a store tells: what is marked is found again; numbers to 4194304; no conditions beyond those that each fact names. -/
import Derived.Test.YtejbbnpgghpgaaaGreatDoorStv
import Derived.Test.YtejbbnpgghpgaaaGreatDoorLhdToAppI
import Derived.Test.YtejbbnpgghpgaaaGreatDoorMrkIToStu
namespace Go.Proofs.YtejbbnpgghpgaaaGreatDoor
open Go.RowKit
set_option linter.unusedVariables false

/-- NUMBERS OF THE CALL's OWN. -/
def OwZ (e : TypeId) (w : World) (s : SlQ) (l : List Int) : Prop := w.ownsRow 0 e 1 (slW s) l.length (ic l)
theorem OwZ.keep {e : TypeId} {w w' : World} {s : SlQ} {l : List Int} (h : OwZ e w s l) (hb : ∀ g ∈ blkS s, w'.heap[g]? = w.heap[g]?) : OwZ e w' s l := row_keep h fun g hg => hb g (mem_blkS.2 hg)
theorem OwZ.lt {e : TypeId} {w : World} {s : SlQ} {l : List Int} (h : OwZ e w s l) : ∀ g ∈ blkS s, g < w.heap.size := fun g hg => (World.ownsRow.lt h g (mem_blkS.1 hg)).2
theorem OwZ.below {e C : Nat} {w w' : World} {s : SlQ} {l : List Int} (h : OwZ e w s l) (hb : Below C w w') (hC : w.heap.size ≤ C) : OwZ e w' s l := h.keep fun g hg => hb.block g (Nat.lt_of_lt_of_le (h.lt g hg) hC)
theorem OwZ.nil (e : TypeId) (w : World) : OwZ e w (none, 0, 0) [] := World.ownsRow_nil _ _ _ _
theorem OwZ.lit (e : TypeId) (w : World) : OwZ e (w.alloc (.cells #[] e)) (some ⟨w.heap.size, 0, none⟩, 0, 0) [] := ⟨rfl, .inr ⟨w.heap.size, 0, #[], rfl, Nat.zero_le _, heap_alloc_new w _, Nat.le_refl _, Nat.zero_le _, rfl, rfl⟩⟩
theorem OwZ.form {e : TypeId} {w : World} {s : SlQ} {l : List Int} (h : OwZ e w s l) : s.2.1 = l.length ∧ l.length ≤ s.2.2 ∧ s.2.2 ≤ maxLen := by
  obtain ⟨⟨a', n', c'⟩, e, h1, h2, h3, -⟩ := row_form h
  obtain ⟨a, n, c⟩ := s
  cases e
  exact ⟨h1, h2, h3⟩
theorem OwZ.rd {e : TypeId} {w : World} {s : SlQ} {l : List Int} (h : OwZ e w s l) : RdI w s.1 l := by
  obtain ⟨a, n, c⟩ := s
  have hn : n = l.length := h.form.1
  subst hn
  exact RdI.own h
theorem app1 {w : World} {ops : Array Oper} {rest : List Oper} {o : Oper} {a : Act} {Q : Exit → Act → World → Prop} (hgd : o.guard = none) (s x : Operand) (t e : TypeId)
    (ho : o.op = .call { callee := .builtin .append, args := #[s, x], argTypes := #[t, t] })
    (ht : Tryz.prog.underlying t = some (.slice e)) (hinfo : (Tryz.prog.info? e).map (fun i => (i.zero, i.size, i.bytes)) = some (some (.int .i64 0), 1, 8))
    (sl : SlQ) (l : List Int) (hs : a.eval s = slW sl) (hown : OwZ e w sl l) (g : Nat) (q : Int) (hx : a.eval x = .slice (some ⟨g, 0, none⟩) 1 1) (hq : w.cell? ⟨g, 0, none⟩ = some (.int .i64 q))
    (hsz : l.length + 1 ≤ 1048576)
    (h : ∀ (s' : SlQ) w1, OwZ e w1 s' (l ++ [q]) → w.grownBy w1 (slW sl).ownBlock → (blkS s' = blkS sl ∨ blkS s' = [w.heap.size]) → wpList Tryz.prog ops Q rest (a.put o.dst (slW s')) w1) : wpList Tryz.prog ops Q (o :: rest) a w := by
  obtain ⟨i0, hi, hz0, hz1, hz2⟩ := info_parts hinfo
  refine wpList_append_own_at w hgd s x t ho 0 e i0 (.int .i64 0) 1 8 ht hi hz0 hz1 hz2 rfl (by decide) (slW sl) l.length (ic l) hs hown ⟨g, 0, none⟩ 1 1 (ic [q]) hx rfl ?_ (ic_one _) (by unfold maxLen; omega) (by omega) (Nat.zero_le _) ?_
  · intro j u hj
    rw [Go.WideShapes.add_plain, Nat.zero_add]
    have hjl : j < 1 := by
      rcases Nat.lt_or_ge j 1 with hlt | hge
      · exact hlt
      · rw [List.getElem?_eq_none (by show 1 ≤ j; exact hge)] at hj; cases hj
    obtain rfl : j = 0 := by omega
    cases hj; exact hq
  · intro v' w1 hown' hgr _ hat
    obtain ⟨s', rfl, -⟩ := row_form hown'
    refine h s' w1 ?_ hgr ?_
    · unfold OwZ; rw [ic_app, List.length_append]; exact hown'
    · rw [blkS_own, blkS_own]
      rcases hat with hat | hat
      · exact .inl (by rw [hat])
      · exact .inr (by rw [hat]; rfl)
theorem step1 {w : World} {ops : Array Oper} {o : Oper} {a : Act} {K : Act → World → Prop} {Q : Exit → Act → World → Prop} {E : Prop} (hgd : o.guard = none) (s x : Operand) (t e : TypeId)
    (ho : o.op = .call { callee := .builtin .append, args := #[s, x], argTypes := #[t, t] })
    (ht : Tryz.prog.underlying t = some (.slice e)) (hinfo : (Tryz.prog.info? e).map (fun i => (i.zero, i.size, i.bytes)) = some (some (.int .i64 0), 1, 8))
    (sl : SlQ) (l : List Int) (hs : a.eval s = slW sl) (hown : OwZ e w sl l) (g : Nat) (q : Int) (hx : a.eval x = .slice (some ⟨g, 0, none⟩) 1 1) (hq : w.cell? ⟨g, 0, none⟩ = some (.int .i64 q))
    (hsz : l.length + 1 ≤ 1048576)
    (h : ∀ (s' : SlQ) w1, OwZ e w1 s' (l ++ [q]) → w.grownBy w1 (slW sl).ownBlock → (blkS s' = blkS sl ∨ blkS s' = [w.heap.size]) → K (a.put o.dst (slW s')) w1) : if Region.wanted o (yielded ops a.tmps) = true then Oper.wp Tryz.prog o a w K Q else E := by
  have hw : Region.wanted o (yielded ops a.tmps) = true := by simp [Region.wanted, hgd]
  rw [if_pos hw]
  obtain ⟨i0, hi, hz0, hz1, hz2⟩ := info_parts hinfo
  obtain ⟨v', w1, hr, hown', hgr, -, hat⟩ := run_append_own_at (P := Tryz.prog) w 0 t o.type e i0 (.int .i64 0) 1 8 ht hi hz0 hz1 hz2 rfl (by decide) (slW sl) l.length (ic l) hown ⟨g, 0, none⟩ 1 1 (ic [q]) rfl (by
    intro j u hj
    rw [Go.WideShapes.add_plain, Nat.zero_add]
    have hjl : j < 1 := by
      rcases Nat.lt_or_ge j 1 with hlt | hge
      · exact hlt
      · rw [List.getElem?_eq_none (by show 1 ≤ j; exact hge)] at hj; cases hj
    obtain rfl : j = 0 := by omega
    cases hj; exact hq) (ic_one _) (by unfold maxLen; omega) (by omega) (Nat.zero_le _)
  unfold Oper.wp execOp
  simp only [ho, resolve, invoke, builtin, Sem.run_bind, Sem.run_pure, Result.andThen_ok, List.map_toArray, List.map_cons, List.map_nil, hs, hx, hr]
  obtain ⟨s', rfl, -⟩ := row_form hown'
  refine h s' w1 ?_ hgr ?_
  · unfold OwZ; rw [ic_app, List.length_append]; exact hown'
  · rw [blkS_own, blkS_own]
    rcases hat with hat | hat
    · exact .inl (by rw [hat])
    · exact .inr (by rw [hat]; rfl)

/-- Is a number among some? -/
def hasZ (l : List Int) (v : Int) : Bool := decide (v ∈ l)
theorem hasZ_no {l : List Int} {v : Int} {n : Nat} (hl : l.length = n) (h : ∀ j, j < n → nthI l j ≠ v) : hasZ l v = false := by
  refine decide_eq_false (fun hm => ?_)
  obtain ⟨j, hj, e⟩ := List.getElem_of_mem hm
  exact h j (by omega) (by rw [nthI_get hj, e])
theorem hasZ_yes {l : List Int} {v : Int} {k : Nat} (hk : k < l.length) (h : nthI l k = v) : hasZ l v = true := decide_eq_true (by rw [← h, nthI_get hk]; exact List.getElem_mem hk)

set_option maxHeartbeats 1600000 in
set_option maxRecDepth 100000 in
theorem l8Has_any (a : Option Addr) (n cap : Nat) (l : List Int) (v : Int) (w : World) (hl : l.length = n) (hr : RdI w a l) (hn : n ≤ 1048576) :
    Calls Tryz.prog 149 #[.slice a n cap, .int .i64 v] w fun e w' => e = .returned (.bool (hasZ l v)) ∧ w = w' := by
  go_enter Tryz.func149, Tryz.ntmps149
  go_wp2
  go_loopw [5] (fun i wr => ∃ k : Nat, k ≤ n ∧ i = .int .i64 k ∧ (∀ j, j < k → nthI l j ≠ v) ∧ w = wr) (fun i _ => n - (intOf i).toNat)
  case atStart => exact ⟨0, Nat.zero_le _, rfl, fun j hj => absurd hj (Nat.not_lt_zero _), rfl⟩
  case round =>
    obtain ⟨k, hk, rfl, hall, rfl⟩ := hrel
    by_cases hkn : k < n
    · have hki : (k : Int) < (n : Int) := by omega
      obtain ⟨g, off, rfl, hglt, hcell⟩ := hr.at_ (by omega)
      have c0 := hcell k (by omega)
      have HY : Hid (nthI l k = v → hasZ l v = true) := fun h => hasZ_yes (by omega) h
      have HN : Hid (nthI l k ≠ v → ∀ j, j < k + 1 → nthI l j ≠ v) := fun h j hj => by
        rcases Nat.lt_or_ge j k with h' | h'
        · exact hall j h'
        · obtain rfl : j = k := by omega
          exact h
      clear hall hcell
      generalize nthI l k = y at *
      by_cases h : y = v
      · have HM : Hid (hasZ l v = true) := HY.out h
        clear HY HN
        subst h
        go_wp2
        go_ret
        rw [HM.out]
        exact ⟨rfl, rfl⟩
      · have HM : Hid (_) := HN.out h
        clear HY HN
        go_wp2
        go_roundw
        case rel => exact ⟨k + 1, by omega, by go_num, HM.out, by trivial⟩
        case measure => simp [intOf]; omega
    · have hki : ¬ (k : Int) < (n : Int) := by omega
      have HM : Hid (hasZ l v = false) := hasZ_no hl (fun i hi => hall i (by omega))
      clear hall
      go_wp2
      go_ret
      rw [HM.out]
      exact ⟨rfl, rfl⟩

set_option maxHeartbeats 1600000 in
set_option maxRecDepth 100000 in
theorem indexZ_any (a : Option Addr) (n cap : Nat) (l : List Int) (v : Int) (w : World) (hl : l.length = n) (hr : RdI w a l) (hn : n ≤ 1048576) :
    Calls Tryz.prog 224 #[.slice a n cap, .int .i64 v] w fun e w' => (∃ r : Int, e = .returned (.int .i64 r) ∧ hasZ l v = decide (0 ≤ r)) ∧ w = w' := by
  go_enter Tryz.func224, Tryz.ntmps224
  go_wp2
  go_loopw [8] (fun i wr => ∃ k : Nat, k ≤ n ∧ i = .int .i64 k ∧ (∀ j, j < k → nthI l j ≠ v) ∧ w = wr) (fun i _ => n - (intOf i).toNat)
  case atStart => exact ⟨0, Nat.zero_le _, rfl, fun j hj => absurd hj (Nat.not_lt_zero _), rfl⟩
  case round =>
    obtain ⟨k, hk, rfl, hall, rfl⟩ := hrel
    by_cases hkn : k < n
    · have hki : (k : Int) < (n : Int) := by omega
      obtain ⟨g, off, rfl, hglt, hcell⟩ := hr.at_ (by omega)
      have c0 := hcell k (by omega)
      have HY : Hid (nthI l k = v → hasZ l v = true) := fun h => hasZ_yes (by omega) h
      have HN : Hid (nthI l k ≠ v → ∀ j, j < k + 1 → nthI l j ≠ v) := fun h j hj => by
        rcases Nat.lt_or_ge j k with h' | h'
        · exact hall j h'
        · obtain rfl : j = k := by omega
          exact h
      clear hall hcell
      generalize nthI l k = y at *
      by_cases h : y = v
      · have HM : Hid (hasZ l v = true) := HY.out h
        clear HY HN
        subst h
        go_wp2
        go_ret
        exact ⟨⟨_, rfl, by rw [HM.out]; simp⟩, rfl⟩
      · have HM : Hid (_) := HN.out h
        have h' : ¬ v = y := fun e => h e.symm
        clear HY HN
        go_wp2
        go_roundw
        case rel => exact ⟨k + 1, by omega, by go_num, HM.out, by trivial⟩
        case measure => simp [intOf]; omega
    · have hki : ¬ (k : Int) < (n : Int) := by omega
      have HM : Hid (hasZ l v = false) := hasZ_no hl (fun i hi => hall i (by omega))
      clear hall
      go_wp2
      go_ret
      exact ⟨⟨-1, rfl, by rw [HM.out]; rfl⟩, rfl⟩

set_option maxHeartbeats 1600000 in
theorem containsZ_any (a : Option Addr) (n cap : Nat) (l : List Int) (v : Int) (w : World) (hl : l.length = n) (hr : RdI w a l) (hn : n ≤ 1048576) :
    Calls Tryz.prog 218 #[.slice a n cap, .int .i64 v] w fun e w' => e = .returned (.bool (hasZ l v)) ∧ w = w' := by
  have HC := indexZ_any a n cap l v w hl hr hn
  generalize hasZ l v = b at *
  go_enter Tryz.func218, Tryz.ntmps218
  go_wp2_with fail
  refine HC.mono ?_
  rintro e w1 ⟨⟨r, rfl, hb⟩, rfl⟩
  clear HC
  subst hb
  go_wp2
  go_ret
  exact ⟨rfl, rfl⟩

set_option maxHeartbeats 1600000 in
theorem isTold1_any (U : Nat) (q : SlQ) (us : List Int) (m : Msg) (sd : SlQ) (w : World) (hU : w.cell? ⟨U, 0, none⟩ = some (slW q)) (hl : us.length = q.2.1) (hr : RdI w q.1 us) (hn : q.2.1 ≤ 1048576) :
    Calls Tryz.prog 217 #[msX m sd, .pointer (some ⟨U, 0, none⟩)] w fun e w' => e = .returned (.bool (hasZ us m.u)) ∧ Below w.heap.size w w' := by
  have hb0 : Below w.heap.size w (w.alloc (.cells #[.int .i64 m.u, .int .i64 m.f, .int .i64 m.d, slW sd] 136)) := (Below.refl _ _).alloc (Nat.le_refl _) _
  have hU' := (hb0.cell (World.block_lt_of_cell? w _ hU)).trans hU
  have HC := containsZ_any q.1 q.2.1 q.2.2 us m.u _ hl (hr.below hb0) hn
  obtain ⟨mu, mf, md, mb⟩ := m
  dsimp only at *
  generalize hasZ us mu = r at *
  go_enter Tryz.func217, Tryz.ntmps217
  go_wp2_with fail
  refine HC.mono ?_
  rintro e w1 ⟨rfl, rfl⟩
  go_wp2
  go_ret
  exact ⟨rfl, hb0⟩
/-- Is a message deleted? -/
def delM (m : Msg) : Bool := decide (8 ≤ m.f)
theorem and8 (f : Int) (h : 0 ≤ f ∧ f ≤ 15) : bits .and .i64 f 8 = if 8 ≤ f then 8 else 0 := by
  obtain ⟨k, rfl⟩ := Int.eq_ofNat_of_zero_le h.1
  have hk : k < 16 := by omega
  have : ∀ k : Nat, k < 16 → bits .and .i64 (k : Int) 8 = if (8 : Int) ≤ (k : Int) then 8 else 0 := by decide +kernel
  exact this k hk
set_option maxHeartbeats 1600000 in
theorem isDeleted_any (m : Msg) (sd : SlQ) (w : World) (hf : 0 ≤ m.f ∧ m.f ≤ 15) :
    Calls Tryz.prog 197 #[msX m sd] w fun e w' => e = .returned (.bool (delM m)) ∧ Below w.heap.size w w' := by
  have hb0 : Below w.heap.size w (w.alloc (.cells #[.int .i64 m.u, .int .i64 m.f, .int .i64 m.d, slW sd] 136)) := (Below.refl _ _).alloc (Nat.le_refl _) _
  obtain ⟨mu, mf, md, mb⟩ := m
  dsimp only at *
  have ha := and8 mf hf
  by_cases h : 8 ≤ mf
  · have HD : Hid (delM ⟨mu, mf, md, mb⟩ = true) := decide_eq_true h
    rw [if_pos h] at ha
    go_enter Tryz.func197, Tryz.ntmps197
    go_wp2
    go_ret
    rw [HD.out]
    exact ⟨rfl, hb0⟩
  · have HD : Hid (delM ⟨mu, mf, md, mb⟩ = false) := decide_eq_false h
    rw [if_neg h] at ha
    go_enter Tryz.func197, Tryz.ntmps197
    go_wp2
    go_ret
    rw [HD.out]
    exact ⟨rfl, hb0⟩
/-- What flags become. -/
def tuF (f m b : Int) : Int := if m = 2 then bits .or .i64 f b else if m = 3 then bits .andNot .i64 f b else b
set_option maxHeartbeats 1600000 in
theorem turned_any (f m b : Int) (w : World) : Calls Tryz.prog 195 #[.int .i64 f, .int .i64 m, .int .i64 b] w fun e w' => e = .returned (.int .i64 (tuF f m b)) ∧ w = w' := by
  by_cases h2 : m = 2
  · have HT : Hid (tuF f m b = bits .or .i64 f b) := if_pos h2
    subst h2
    go_enter Tryz.func195, Tryz.ntmps195
    go_wp2
    go_ret
    rw [HT.out]
    exact ⟨rfl, rfl⟩
  · by_cases h3 : m = 3
    · have HT : Hid (tuF f m b = bits .andNot .i64 f b) := (if_neg h2).trans (if_pos h3)
      subst h3
      go_enter Tryz.func195, Tryz.ntmps195
      go_wp2
      go_ret
      rw [HT.out]
      exact ⟨rfl, rfl⟩
    · have HT : Hid (tuF f m b = b) := (if_neg h2).trans (if_neg h3)
      go_enter Tryz.func195, Tryz.ntmps195
      go_wp2
      go_ret
      rw [HT.out]
      exact ⟨rfl, rfl⟩
set_option maxHeartbeats 1600000 in
theorem l8Flags_any (f m b : Int) (w : World) : Calls Tryz.prog 150 #[.int .i64 f, .int .i64 m, .int .i64 b] w fun e w' => e = .returned (.int .i64 (tuF f m b)) ∧ w = w' := by
  by_cases h2 : m = 2
  · have HT : Hid (tuF f m b = bits .or .i64 f b) := if_pos h2
    subst h2
    go_enter Tryz.func150, Tryz.ntmps150
    go_wp2
    go_ret
    rw [HT.out]
    exact ⟨rfl, rfl⟩
  · by_cases h3 : m = 3
    · have HT : Hid (tuF f m b = bits .andNot .i64 f b) := (if_neg h2).trans (if_pos h3)
      subst h3
      go_enter Tryz.func150, Tryz.ntmps150
      go_wp2
      go_ret
      rw [HT.out]
      exact ⟨rfl, rfl⟩
    · have HT : Hid (tuF f m b = b) := (if_neg h2).trans (if_neg h3)
      go_enter Tryz.func150, Tryz.ntmps150
      go_wp2
      go_ret
      rw [HT.out]
      exact ⟨rfl, rfl⟩
/-- Is there room for some messages more? -/
def roomB (x : Int) (n k : Nat) : Bool := decide (n + k ≤ 6 ∧ x + (k : Int) ≤ 1000)
set_option maxHeartbeats 1600000 in
theorem hasRoom_any (bn : ByteArray) (bv bx : Int) (a : Option Addr) (n cap k : Nat) (w : World) (hx : 0 ≤ bx ∧ bx ≤ 1000000) (hn : n ≤ 1048576) (hk : k ≤ 1048576) :
    Calls Tryz.prog 191 #[.agg #[.string bn, .int .i64 bv, .int .i64 bx, .slice a n cap], .int .i64 (k : Int)] w fun e w' => e = .returned (.bool (roomB bx n k)) ∧ Below w.heap.size w w' := by
  have hb0 : Below w.heap.size w (w.alloc (.cells #[.string bn, .int .i64 bv, .int .i64 bx, .slice a n cap] 128)) := (Below.refl _ _).alloc (Nat.le_refl _) _
  by_cases h1 : n + k ≤ 6
  · have h1' : (n : Int) + (k : Int) ≤ 6 := by omega
    by_cases h2 : bx + (k : Int) ≤ 1000
    · have HR : Hid (roomB bx n k = true) := decide_eq_true ⟨h1, h2⟩
      go_enter Tryz.func191, Tryz.ntmps191
      go_wp2
      go_ret
      rw [HR.out]
      exact ⟨rfl, hb0⟩
    · have HR : Hid (roomB bx n k = false) := decide_eq_false (fun h => h2 h.2)
      go_enter Tryz.func191, Tryz.ntmps191
      go_wp2
      go_ret
      rw [HR.out]
      exact ⟨rfl, hb0⟩
  · have h1' : ¬ (n : Int) + (k : Int) ≤ 6 := by omega
    have HR : Hid (roomB bx n k = false) := decide_eq_false (fun h => h1 h.1)
    go_enter Tryz.func191, Tryz.ntmps191
    go_wp2
    go_ret
    rw [HR.out]
    exact ⟨rfl, hb0⟩
end Go.Proofs.YtejbbnpgghpgaaaGreatDoor

namespace Go.Proofs.YtejbbnpgghpgaaaGreatDoor
open Go.RowKit
set_option linter.unusedVariables false

theorem OwZ.keepK {w w' : World} {s : SlQ} {l : List Int} {fp : List Nat} (h : OwZ 2 w s l) (hk : Kx fp w w') (hn : ∀ g ∈ blkS s, g ∉ fp) : OwZ 2 w' s l := h.keep fun g hg => hk.block g (h.lt g hg) (hn g hg)
theorem HX.keepK {w w' : World} {s : SlQ} {l : List Dx} {fp : List Nat} (h : HX w s l) (hk : Kx fp w w') (hn : ∀ g ∈ blkS s ++ fpX l, g ∉ fp) : HX w' s l := h.keep fun g hg => hk.block g (h.lt g hg) (hn g hg)

/-- Its messages and bytes are not too many for the laws. -/
def FewX (xs : List Dx) : Prop := (∀ d ∈ xs, (∀ e ∈ d.ms, e.m.b.length ≤ 1048576) ∧ d.ms.length ≤ 1048576) ∧ xs.length ≤ 1048576

set_option maxHeartbeats 800000 in
set_option maxRecDepth 100000 in
theorem markStore_ow (v : Int) (s : SlQ) (xs : List Dx) (k : Nat) (w : World) (h : HX w s xs) (hnd : (blkS s ++ fpX xs).Nodup) (hk1 : 1 ≤ k) (hsz : k + mkKx xs ≤ 4194304) (hf : FewX xs) :
    Calls Tryz.prog 21 #[.agg #[.int .i64 v, slW s], .int .i64 (k : Int)] w fun e w' => e = .returned (.int .i64 ((k + mkKx xs : Nat) : Int)) ∧ HX w' s (mkXs xs k) ∧ Kx (blkS s ++ fpX xs) w w' := by
  have hb0 : Below w.heap.size w (w.alloc (.cells #[.int .i64 v, slW s] 33)) := (Below.refl _ _).alloc (Nat.le_refl _) _
  have HC := markBoxS_ow s xs k (w.alloc (.cells #[.int .i64 v, slW s] 33)) (h.below hb0 (Nat.le_refl _)) hnd hk1 hsz hf.1 hf.2
  generalize k + mkKx xs = kk at *
  go_enter Tryz.func21, Tryz.ntmps21
  go_wp2_with fail
  refine HC.mono ?_
  rintro e w1 ⟨rfl, hH, hK⟩
  have hK1 : Kx (blkS s ++ fpX xs) w w1 := (Kx.of_below hb0).trans hK (fun g hg => .inl hg)
  clear HC hK
  go_wp2
  go_ret
  exact ⟨rfl, hH, hK1⟩

set_option maxHeartbeats 800000 in
set_option maxRecDepth 100000 in
theorem heldStore_ow (v : Int) (s : SlQ) (xs : List Dx) (k : Nat) (w : World) (h : HX w s (mkXs xs k)) (hk1 : 1 ≤ k) (hsz : k + mkKx xs ≤ 4194304) (hf : FewX xs) :
    Calls Tryz.prog 73 #[.agg #[.int .i64 v, slW s], .int .i64 (k : Int)] w fun e w' => e = .returned (.int .i64 ((k + mkKx xs : Nat) : Int)) ∧ Below w.heap.size w w' := by
  have hb0 : Below w.heap.size w (w.alloc (.cells #[.int .i64 v, slW s] 33)) := (Below.refl _ _).alloc (Nat.le_refl _) _
  have HC := heldBoxS_ow s xs k (w.alloc (.cells #[.int .i64 v, slW s] 33)) (h.below hb0 (Nat.le_refl _)) hk1 hsz hf.1 hf.2
  generalize k + mkKx xs = kk at *
  have hpos : ¬ (kk : Int) < 0 := by omega
  go_enter Tryz.func73, Tryz.ntmps73
  go_wp2_with fail
  refine HC.mono ?_
  rintro e w1 ⟨rfl, hb1⟩
  have hb2 := hb0.trans (hb1.mono hb0.size)
  clear HC hb1
  go_wp2
  go_ret
  exact ⟨rfl, hb2⟩

set_option maxHeartbeats 1600000 in
set_option maxRecDepth 100000 in
theorem markStoreResult_ow (c v : Int) (su s : SlQ) (u : List Int) (xs : List Dx) (k : Nat) (w : World) (hu : OwZ 2 w su u) (h : HX w s xs) (hnd : (blkS s ++ fpX xs).Nodup) (hun : ∀ g ∈ blkS su, g ∉ blkS s ++ fpX xs) (hk1 : 1 ≤ k) (hul : u.length ≤ 1048576) (hk2 : k ≤ 1048576) (hsz : k + u.length + mkKx xs ≤ 4194304) (hf : FewX xs) :
    Calls Tryz.prog 23 #[.agg #[.int .i64 c, slW su, .int .i64 v, slW s], .int .i64 (k : Int)] w fun e w' => e = .returned (.int .i64 ((k + u.length + mkKx xs : Nat) : Int)) ∧ OwZ 2 w' su (marksI u.length k) ∧ HX w' s (mkXs xs (k + u.length)) ∧ Kx (blkS su ++ (blkS s ++ fpX xs)) w w' := by
  obtain ⟨ua, un, uc⟩ := su
  obtain rfl : un = u.length := by
    have : OwnI w 0 (.slice ua un uc) u := hu
    exact this.rd.1.symm
  obtain ⟨W, hW⟩ : ∃ W, w.alloc (.cells #[.int .i64 c, slW (ua, u.length, uc), .int .i64 v, slW s] 35) = W := ⟨_, rfl⟩
  have hb0 : Below w.heap.size w W := by rw [← hW]; exact (Below.refl _ _).alloc (Nat.le_refl _) _
  have hQ : Qc W w.heap.size (.int .i64 c, slW (ua, u.length, uc), .int .i64 v, slW s) := by rw [← hW]; exact Qc.new w _ _ _ _ _
  have huw := hu.below hb0 (Nat.le_refl _)
  have HC := markInt64S_any ua u.length uc k 0 u W huw (by omega) hk2
  have hne : some w.heap.size ≠ (Value.slice ua u.length uc).ownBlock := fun e => by
    have := hu.lt w.heap.size (mem_blkS.2 e.symm)
    omega
  have hHW := h.below hb0 (Nat.le_refl _)
  have HS : Hid (∀ w1 : World, W.grownBy w1 (Value.slice ua u.length uc).ownBlock → Kx (blkS ((ua, u.length, uc) : SlQ)) W w1 ∧ HX w1 s xs ∧ Qc w1 w.heap.size (.int .i64 c, slW (ua, u.length, uc), .int .i64 v, slW s)) := fun w1 hg => by
    have hk : Kx (blkS ((ua, u.length, uc) : SlQ)) W w1 := (Kx.refl _ _).grown hg fun g hg' => .inl (mem_blkS.2 hg')
    exact ⟨hk, hHW.keepK hk (fun g hg' hc => hun g hc hg'), hg.cell hQ.1 hne, hg.cell hQ.2.1 hne, hg.cell hQ.2.2.1 hne, hg.cell hQ.2.2.2 hne⟩
  have HM2 : Hid (∀ w1 : World, HX w1 s xs → Calls Tryz.prog 21 #[.agg #[.int .i64 v, slW s], .int .i64 ((k + u.length : Nat) : Int)] w1 fun e w' => e = .returned (.int .i64 ((k + u.length + mkKx xs : Nat) : Int)) ∧ HX w' s (mkXs xs (k + u.length)) ∧ Kx (blkS s ++ fpX xs) w1 w') := fun w1 h1 => markStore_ow v s xs (k + u.length) w1 h1 hnd (by omega) hsz hf
  obtain ⟨q0, q1, q2, q3⟩ := hQ
  dsimp only at q0 q1 q2 q3
  clear hHW huw h hu
  go_enter Tryz.func23, Tryz.ntmps23
  go_wp2_with fail
  refine HC.mono ?_
  rintro e w1 ⟨rfl, hO1, hg1⟩
  obtain ⟨hk1', hH1, d0, d1, d2, d3⟩ := HS.out w1 hg1
  dsimp only at d0 d1 d2 d3
  have HC2 := HM2.out w1 hH1
  clear HC HS HM2 q0 q1 q2 q3 hg1
  have hOK : OwZ 2 w1 (ua, u.length, uc) (marksI u.length k) := hO1
  obtain ⟨kk, hkk⟩ : ∃ kk, k + u.length + mkKx xs = kk := ⟨_, rfl⟩
  rw [hkk] at HC2
  go_wp2_with fail
  refine HC2.mono ?_
  rintro e w2 ⟨rfl, hH2, hk2'⟩
  have hO2 := hOK.keepK hk2' hun
  have hK : Kx (blkS ((ua, u.length, uc) : SlQ) ++ (blkS s ++ fpX xs)) w w2 := ((Kx.of_below hb0).trans hk1' (fun g hg => .inl (List.mem_append_left _ hg))).trans hk2' (fun g hg => .inl (List.mem_append_right _ hg))
  clear HC2 hO1 hOK hk1' hk2' d0 d1 d2 d3
  go_wp2
  go_ret
  exact ⟨by rw [hkk]; rfl, hO2, hH2, hK⟩

set_option maxHeartbeats 1600000 in
set_option maxRecDepth 100000 in
theorem heldStoreResult_ow (c v : Int) (su s : SlQ) (n : Nat) (xs : List Dx) (k : Nat) (w : World) (hu : OwZ 2 w su (marksI n k)) (h : HX w s (mkXs xs (k + n))) (hk1 : 1 ≤ k) (hul : n ≤ 1048576) (hk2 : k ≤ 1048576) (hsz : k + n + mkKx xs ≤ 4194304) (hf : FewX xs) :
    Calls Tryz.prog 24 #[.agg #[.int .i64 c, slW su, .int .i64 v, slW s], .int .i64 (k : Int)] w fun e w' => e = .returned (.int .i64 ((k + n + mkKx xs : Nat) : Int)) ∧ Below w.heap.size w w' := by
  obtain ⟨ua, un, uc⟩ := su
  obtain rfl : un = n := by
    have : OwnI w 0 (.slice ua un uc) (marksI n k) := hu
    have := this.rd.1
    rw [marksI_len] at this
    exact this.symm
  obtain ⟨W, hW⟩ : ∃ W, w.alloc (.cells #[.int .i64 c, slW (ua, un, uc), .int .i64 v, slW s] 35) = W := ⟨_, rfl⟩
  have hb0 : Below w.heap.size w W := by rw [← hW]; exact (Below.refl _ _).alloc (Nat.le_refl _) _
  have hQ : Qc W w.heap.size (.int .i64 c, slW (ua, un, uc), .int .i64 v, slW s) := by rw [← hW]; exact Qc.new w _ _ _ _ _
  have huw : OwnI W 0 (.slice ua un uc) (marksI un k) := hu.below hb0 (Nat.le_refl _)
  have HC := heldInt64S_any ua un uc k W huw.rd.2 (by omega) hk2
  have HC2 := heldStore_ow v s xs (k + un) W (h.below hb0 (Nat.le_refl _)) (by omega) hsz hf
  obtain ⟨q0, q1, q2, q3⟩ := hQ
  dsimp only at q0 q1 q2 q3
  clear huw h hu
  have hp1 : ¬ ((k + un : Nat) : Int) < 0 := by omega
  generalize k + un + mkKx xs = kk at *
  have hp2 : ¬ (kk : Int) < 0 := by omega
  go_enter Tryz.func24, Tryz.ntmps24
  go_wp2_with fail
  refine HC.mono ?_
  rintro e w1 ⟨rfl, rfl⟩
  generalize hkn : k + un = kn at *
  go_wp2_with fail
  refine HC2.mono ?_
  rintro e w2 ⟨rfl, hb2⟩
  have hb3 := hb0.trans (hb2.mono hb0.size)
  clear HC HC2 hb2
  go_wp2
  go_ret
  exact ⟨rfl, hb3⟩
end Go.Proofs.YtejbbnpgghpgaaaGreatDoor
