/- Each helper of the laws over slices of whole numbers does what its text says: it copies one, and holds two against each other; slices of at most 1048576 numbers · What an append of numbers to a slice of the call's own leaves: laws for this program's types; at most 1073741824 numbers · Rows of numbers that grow by one; which messages are told of, which are deleted, at which places; no conditions beyond those that each fact names. -/
import Derived.Test.YtejbbnpgghpgaaaGreatDoorMqrToMemI
import Derived.Test.YtejbbnpgghpgaaaGreatDoorProg
import Derived.BigQuiet
import Derived.Deep.QuietTactic
import Derived.KernelRfl
import Derived.Test.YtejbbnpgghpgaaaGreatDoorStv
namespace Go.Proofs.YtejbbnpgghpgaaaGreatDoor
open Go.RowKit
theorem infoBI : (Tryz.prog.info? 2).map (fun i => (i.zero, i.size, i.bytes)) = some (some (.int .i64 0), 1, 8) := by kernel_rfl
set_option maxHeartbeats 800000 in
set_option maxRecDepth 100000 in
theorem toInt64S_any (a : Option Addr) (n cap : Nat) (l : List Int) (w : World) (hl : l.length = n) (hr : RdI w a l) (hn : n ≤ 1048576) :
    Calls Tryz.prog 60 #[.slice a n cap] w fun e w' =>
      e = .returned (.slice (some ⟨w.heap.size, 0, none⟩) n n) ∧ w'.ownsRow w.heap.size 2 1 (.slice (some ⟨w.heap.size, 0, none⟩) n n) n (ic l) ∧ Below w.heap.size w w' := by
  obtain ⟨i0, hi, hz0, hz1, hz2⟩ := info_parts infoBI
  go_enter Tryz.func60, Tryz.ntmps60
  go_wp2_with (at_make; refine wpList_make_full _ rfl _ _ 25 rfl w.heap.size 2 i0 (.int .i64 0) 1 Tryz.underlying25 hi hz0 hz1 .i64 .i64 _ _ n rfl rfl rfl rfl (by rw [hz2]; omega) (by unfold maxLen; omega) (Nat.le_refl _) ?_; intro w0 hown0 hgrow0)
  rw [made_bytesI, ← hl, ← halfI_zero l, hl] at hown0
  have hbel0 : Below w.heap.size w w0 := (Below.refl _ _).grown hgrow0 (Nat.le_refl _) (by intro k hk; cases hk)
  clear hgrow0
  go_loopw [4] (fun i wr => ∃ k : Nat, k ≤ n ∧ i = .int .i64 k ∧ wr.ownsRow w.heap.size 2 1 (.slice (some ⟨w.heap.size, 0, none⟩) n n) n (ic (halfI l k)) ∧ Below w.heap.size w wr)
    (fun i _ => n - (intOf i).toNat)
  case atStart => exact ⟨0, Nat.zero_le _, rfl, hown0, hbel0⟩
  case round =>
    obtain ⟨k, hk, rfl, hown, hbel⟩ := hrel
    clear hown0 hbel0
    by_cases hkn : k < n
    · obtain ⟨b, off, rfl, hblt, hcell⟩ := hr.at_ (by omega)
      have hc : wr.cell? ⟨b, off + k, none⟩ = some (.int .i64 (nthI l k)) := (hbel.cell (p := ⟨b, off + k, none⟩) hblt).trans (hcell k (by omega))
      have hk' : k < (halfI l k).length := by rw [halfI_len l k (by omega)]; omega
      have hg : wr.cell? ⟨w.heap.size, k, none⟩ = some (.int .i64 (nthI (halfI l k) k)) := by rw [hown.cellAt k (by omega)]; exact ic_get hk'
      have hf := hown.frozenAt k
      obtain ⟨hst, hgr⟩ := hown.stored k (.int .i64 (nthI l k))
      rw [halfI_set l k (by omega)] at hst
      have hbel' : Below w.heap.size w (wr.setCell ⟨w.heap.size, k, none⟩ (.int .i64 (nthI l k))) := hbel.grown hgr hbel.size (by intro j hj; simp at hj; omega)
      clear hgr hcell hown
      go_wp2
      go_roundw
      case rel => exact ⟨k + 1, by omega, by go_num, hst, hbel'⟩
      case measure => simp [intOf]; omega
    · have hkk : k = n := by omega
      subst hkk
      rw [← hl, halfI_all, hl] at hown
      go_wp2
      go_ret
      exact ⟨rfl, hown, hbel⟩
set_option maxHeartbeats 800000 in
set_option maxRecDepth 100000 in
theorem eqInt64S_same (a c : Option Addr) (n cap cap' : Nat) (l : List Int) (w : World) (hl : l.length = n) (hr : RdI w a l) (hs : RdI w c l) (hn : n ≤ 1048576) :
    Calls Tryz.prog 66 #[.slice a n cap, .slice c n cap'] w fun e w' => e = .returned (.bool true) ∧ Below w.heap.size w w' := by
  go_enter Tryz.func66, Tryz.ntmps66
  go_wp2
  go_loopw [5] (fun i wr => ∃ k : Nat, k ≤ n ∧ i = .int .i64 k ∧ Below w.heap.size w wr) (fun i _ => n - (intOf i).toNat)
  case atStart => exact ⟨0, Nat.zero_le _, rfl, Below.refl _ _⟩
  case round =>
    obtain ⟨k, hk, rfl, hbel⟩ := hrel
    by_cases hkn : k < n
    · obtain ⟨b, off, rfl, hblt, hcell⟩ := hr.at_ (by omega)
      obtain ⟨d, off', rfl, hdlt, hdell⟩ := hs.at_ (by omega)
      have hc : wr.cell? ⟨b, off + k, none⟩ = some (.int .i64 (nthI l k)) := (hbel.cell (p := ⟨b, off + k, none⟩) hblt).trans (hcell k (by omega))
      have hd : wr.cell? ⟨d, off' + k, none⟩ = some (.int .i64 (nthI l k)) := (hbel.cell (p := ⟨d, off' + k, none⟩) hdlt).trans (hdell k (by omega))
      have hki : (k : Int) < (n : Int) := by omega
      clear hcell hdell hr hs
      go_wp2
      go_quiet (fail)
      go_wp2
      go_roundw
      case rel => exact ⟨k + 1, by omega, by go_num, below_drewN hbel _⟩
      case measure => simp [intOf]; omega
    · go_wp2
      go_ret
      exact ⟨rfl, hbel⟩
end Go.Proofs.YtejbbnpgghpgaaaGreatDoor
namespace Go.Proofs.YtejbbnpgghpgaaaGreatDoor
open Go.RowKit
def OwnI (w : World) (B : Nat) (v : Value) (l : List Int) : Prop := w.ownsRow B 2 1 v l.length (ic l)
theorem OwnI.nil (w : World) (B : Nat) : OwnI w B (.slice none 0 0) [] := World.ownsRow_nil _ _ _ _
theorem OwnI.lit (w : World) (B : Nat) (hB : B ≤ w.heap.size) (cs : Array Value) (l : List Int) (h : cs.toList = ic l) (hl : l.length ≤ maxLen) : OwnI (w.alloc (.cells cs 2)) B (.slice (some ⟨w.heap.size, 0, none⟩) l.length l.length) l := by
  have := World.ownsRow_lit (base := B) (e := 2) (size := 1) w cs l.length hB hl (by rw [← Array.length_toList, h, ic_len]; omega)
  rw [h] at this
  exact this
theorem OwnI.alloc {w : World} {B : Nat} {v : Value} {l : List Int} (h : OwnI w B v l) (o : Obj) : OwnI (w.alloc o) B v l := World.ownsRow.alloc h o
theorem OwnI.drew {w : World} {B : Nat} {v : Value} {l : List Int} (h : OwnI w B v l) : OwnI w.drew B v l := h
theorem OwnI.below {w w' : World} {B C : Nat} {v : Value} {l : List Int} (h : OwnI w B v l) (hb : Below C w w') (hC : w.heap.size ≤ C) : OwnI w' B v l := by
  refine ⟨h.1, ?_⟩
  rcases h.2 with h' | ⟨g, cap, cur, h1, h2, h3, h4⟩
  · exact .inl h'
  · refine .inr ⟨g, cap, cur, h1, h2, ?_, h4⟩
    have hg : g < w.heap.size := by
      rcases Nat.lt_or_ge g w.heap.size with hlt | hge
      · exact hlt
      · simp [Array.getElem?_eq_none hge] at h3
    rw [hb.block g (by omega)]; exact h3
theorem OwnI.form {w : World} {B : Nat} {v : Value} {l : List Int} (h : OwnI w B v l) : ∃ a cap, v = .slice a l.length cap ∧ l.length ≤ cap ∧ cap ≤ maxLen := by
  rcases h.2 with ⟨h', h0⟩ | ⟨g, cap, cur, h', _, _, h4, h5, _⟩
  · exact ⟨none, 0, by rw [h', h0], by omega, by decide⟩
  · exact ⟨_, cap, h', h4, h5⟩
theorem OwnI.rd {w : World} {B n cap : Nat} {a : Option Addr} {l : List Int} (h : OwnI w B (.slice a n cap) l) : l.length = n ∧ RdI w a l := by
  have hf : l.length = n := by
    obtain ⟨a', c', e, _⟩ := h.form
    simp at e; omega
  subst hf
  exact ⟨rfl, RdI.own h⟩
end Go.Proofs.YtejbbnpgghpgaaaGreatDoor
namespace Go.Proofs.YtejbbnpgghpgaaaGreatDoor
open Go.RowKit
set_option linter.unusedVariables false
def OwZ (e : TypeId) (w : World) (s : SlQ) (l : List Int) : Prop := w.ownsRow 0 e 1 (slW s) l.length (ic l)
theorem OwZ.keep {e : TypeId} {w w' : World} {s : SlQ} {l : List Int} (h : OwZ e w s l) (hb : ∀ g ∈ blkS s, w'.heap[g]? = w.heap[g]?) : OwZ e w' s l := row_keep h fun g hg => hb g (mem_blkS.2 hg)
theorem OwZ.lt {e : TypeId} {w : World} {s : SlQ} {l : List Int} (h : OwZ e w s l) : ∀ g ∈ blkS s, g < w.heap.size := fun g hg => (World.ownsRow.lt h g (mem_blkS.1 hg)).2
theorem OwZ.below {e C : Nat} {w w' : World} {s : SlQ} {l : List Int} (h : OwZ e w s l) (hb : Below C w w') (hC : w.heap.size ≤ C) : OwZ e w' s l := h.keep fun g hg => hb.block g (Nat.lt_of_lt_of_le (h.lt g hg) hC)
theorem OwZ.nil (e : TypeId) (w : World) : OwZ e w (none, 0, 0) [] := World.ownsRow_nil _ _ _ _
theorem OwZ.lit (e : TypeId) (w : World) : OwZ e (w.alloc (.cells #[] e)) (some ⟨w.heap.size, 0, none⟩, 0, 0) [] := ⟨rfl, .inr ⟨w.heap.size, 0, #[], rfl, Nat.zero_le _, heap_alloc_new w _, Nat.le_refl _, Nat.zero_le _, rfl, rfl⟩⟩
theorem OwZ.form {e : TypeId} {w : World} {s : SlQ} {l : List Int} (h : OwZ e w s l) : s.2.1 = l.length ∧ l.length ≤ s.2.2 ∧ s.2.2 ≤ maxLen := by
  obtain ⟨⟨a', n', c'⟩, e, h1, h2, h3, -⟩ := row_form h
  obtain ⟨a, n, c⟩ := s
  cases e
  exact ⟨h1, h2, h3⟩
theorem OwZ.rd {e : TypeId} {w : World} {s : SlQ} {l : List Int} (h : OwZ e w s l) : RdI w s.1 l := by
  obtain ⟨a, n, c⟩ := s
  have hn : n = l.length := h.form.1
  subst hn
  exact RdI.own h
theorem app1 {w : World} {ops : Array Oper} {rest : List Oper} {o : Oper} {a : Act} {Q : Exit → Act → World → Prop} (hgd : o.guard = none) (s x : Operand) (t e : TypeId)
    (ho : o.op = .call { callee := .builtin .append, args := #[s, x], argTypes := #[t, t] })
    (ht : Tryz.prog.underlying t = some (.slice e)) (hinfo : (Tryz.prog.info? e).map (fun i => (i.zero, i.size, i.bytes)) = some (some (.int .i64 0), 1, 8))
    (sl : SlQ) (l : List Int) (hs : a.eval s = slW sl) (hown : OwZ e w sl l) (g : Nat) (q : Int) (hx : a.eval x = .slice (some ⟨g, 0, none⟩) 1 1) (hq : w.cell? ⟨g, 0, none⟩ = some (.int .i64 q))
    (hsz : l.length + 1 ≤ 1048576)
    (h : ∀ (s' : SlQ) w1, OwZ e w1 s' (l ++ [q]) → w.grownBy w1 (slW sl).ownBlock → (blkS s' = blkS sl ∨ blkS s' = [w.heap.size]) → wpList Tryz.prog ops Q rest (a.put o.dst (slW s')) w1) : wpList Tryz.prog ops Q (o :: rest) a w := by
  obtain ⟨i0, hi, hz0, hz1, hz2⟩ := info_parts hinfo
  refine wpList_append_own_at w hgd s x t ho 0 e i0 (.int .i64 0) 1 8 ht hi hz0 hz1 hz2 rfl (by decide) (slW sl) l.length (ic l) hs hown ⟨g, 0, none⟩ 1 1 (ic [q]) hx rfl ?_ (ic_one _) (by unfold maxLen; omega) (by omega) (Nat.zero_le _) ?_
  · intro j u hj
    rw [Go.WideShapes.add_plain, Nat.zero_add]
    have hjl : j < 1 := by
      rcases Nat.lt_or_ge j 1 with hlt | hge
      · exact hlt
      · rw [List.getElem?_eq_none (by show 1 ≤ j; exact hge)] at hj; cases hj
    obtain rfl : j = 0 := by omega
    cases hj; exact hq
  · intro v' w1 hown' hgr _ hat
    obtain ⟨s', rfl, -⟩ := row_form hown'
    refine h s' w1 ?_ hgr ?_
    · unfold OwZ; rw [ic_app, List.length_append]; exact hown'
    · rw [blkS_own, blkS_own]
      rcases hat with hat | hat
      · exact .inl (by rw [hat])
      · exact .inr (by rw [hat]; rfl)
theorem step1 {w : World} {ops : Array Oper} {o : Oper} {a : Act} {K : Act → World → Prop} {Q : Exit → Act → World → Prop} {E : Prop} (hgd : o.guard = none) (s x : Operand) (t e : TypeId)
    (ho : o.op = .call { callee := .builtin .append, args := #[s, x], argTypes := #[t, t] })
    (ht : Tryz.prog.underlying t = some (.slice e)) (hinfo : (Tryz.prog.info? e).map (fun i => (i.zero, i.size, i.bytes)) = some (some (.int .i64 0), 1, 8))
    (sl : SlQ) (l : List Int) (hs : a.eval s = slW sl) (hown : OwZ e w sl l) (g : Nat) (q : Int) (hx : a.eval x = .slice (some ⟨g, 0, none⟩) 1 1) (hq : w.cell? ⟨g, 0, none⟩ = some (.int .i64 q))
    (hsz : l.length + 1 ≤ 1048576)
    (h : ∀ (s' : SlQ) w1, OwZ e w1 s' (l ++ [q]) → w.grownBy w1 (slW sl).ownBlock → (blkS s' = blkS sl ∨ blkS s' = [w.heap.size]) → K (a.put o.dst (slW s')) w1) : if Region.wanted o (yielded ops a.tmps) = true then Oper.wp Tryz.prog o a w K Q else E := by
  have hw : Region.wanted o (yielded ops a.tmps) = true := by simp [Region.wanted, hgd]
  rw [if_pos hw]
  obtain ⟨i0, hi, hz0, hz1, hz2⟩ := info_parts hinfo
  obtain ⟨v', w1, hr, hown', hgr, -, hat⟩ := run_append_own_at (P := Tryz.prog) w 0 t o.type e i0 (.int .i64 0) 1 8 ht hi hz0 hz1 hz2 rfl (by decide) (slW sl) l.length (ic l) hown ⟨g, 0, none⟩ 1 1 (ic [q]) rfl (by
    intro j u hj
    rw [Go.WideShapes.add_plain, Nat.zero_add]
    have hjl : j < 1 := by
      rcases Nat.lt_or_ge j 1 with hlt | hge
      · exact hlt
      · rw [List.getElem?_eq_none (by show 1 ≤ j; exact hge)] at hj; cases hj
    obtain rfl : j = 0 := by omega
    cases hj; exact hq) (ic_one _) (by unfold maxLen; omega) (by omega) (Nat.zero_le _)
  unfold Oper.wp execOp
  simp only [ho, resolve, invoke, builtin, Sem.run_bind, Sem.run_pure, Result.andThen_ok, List.map_toArray, List.map_cons, List.map_nil, hs, hx, hr]
  obtain ⟨s', rfl, -⟩ := row_form hown'
  refine h s' w1 ?_ hgr ?_
  · unfold OwZ; rw [ic_app, List.length_append]; exact hown'
  · rw [blkS_own, blkS_own]
    rcases hat with hat | hat
    · exact .inl (by rw [hat])
    · exact .inr (by rw [hat]; rfl)
def hasZ (l : List Int) (v : Int) : Bool := decide (v ∈ l)
theorem hasZ_no {l : List Int} {v : Int} {n : Nat} (hl : l.length = n) (h : ∀ j, j < n → nthI l j ≠ v) : hasZ l v = false := by
  refine decide_eq_false (fun hm => ?_)
  obtain ⟨j, hj, e⟩ := List.getElem_of_mem hm
  exact h j (by omega) (by rw [nthI_get hj, e])
theorem hasZ_yes {l : List Int} {v : Int} {k : Nat} (hk : k < l.length) (h : nthI l k = v) : hasZ l v = true := decide_eq_true (by rw [← h, nthI_get hk]; exact List.getElem_mem hk)
set_option maxHeartbeats 1600000 in
set_option maxRecDepth 100000 in
theorem l8Has_any (a : Option Addr) (n cap : Nat) (l : List Int) (v : Int) (w : World) (hl : l.length = n) (hr : RdI w a l) (hn : n ≤ 1048576) :
    Calls Tryz.prog 149 #[.slice a n cap, .int .i64 v] w fun e w' => e = .returned (.bool (hasZ l v)) ∧ w = w' := by
  go_enter Tryz.func149, Tryz.ntmps149
  go_wp2
  go_loopw [5] (fun i wr => ∃ k : Nat, k ≤ n ∧ i = .int .i64 k ∧ (∀ j, j < k → nthI l j ≠ v) ∧ w = wr) (fun i _ => n - (intOf i).toNat)
  case atStart => exact ⟨0, Nat.zero_le _, rfl, fun j hj => absurd hj (Nat.not_lt_zero _), rfl⟩
  case round =>
    obtain ⟨k, hk, rfl, hall, rfl⟩ := hrel
    by_cases hkn : k < n
    · have hki : (k : Int) < (n : Int) := by omega
      obtain ⟨g, off, rfl, hglt, hcell⟩ := hr.at_ (by omega)
      have c0 := hcell k (by omega)
      have HY : Hid (nthI l k = v → hasZ l v = true) := fun h => hasZ_yes (by omega) h
      have HN : Hid (nthI l k ≠ v → ∀ j, j < k + 1 → nthI l j ≠ v) := fun h j hj => by
        rcases Nat.lt_or_ge j k with h' | h'
        · exact hall j h'
        · obtain rfl : j = k := by omega
          exact h
      clear hall hcell
      generalize nthI l k = y at *
      by_cases h : y = v
      · have HM : Hid (hasZ l v = true) := HY.out h
        clear HY HN
        subst h
        go_wp2
        go_ret
        rw [HM.out]
        exact ⟨rfl, rfl⟩
      · have HM : Hid (_) := HN.out h
        clear HY HN
        go_wp2
        go_roundw
        case rel => exact ⟨k + 1, by omega, by go_num, HM.out, by trivial⟩
        case measure => simp [intOf]; omega
    · have hki : ¬ (k : Int) < (n : Int) := by omega
      have HM : Hid (hasZ l v = false) := hasZ_no hl (fun i hi => hall i (by omega))
      clear hall
      go_wp2
      go_ret
      rw [HM.out]
      exact ⟨rfl, rfl⟩
set_option maxHeartbeats 1600000 in
set_option maxRecDepth 100000 in
theorem indexZ_any (a : Option Addr) (n cap : Nat) (l : List Int) (v : Int) (w : World) (hl : l.length = n) (hr : RdI w a l) (hn : n ≤ 1048576) :
    Calls Tryz.prog 224 #[.slice a n cap, .int .i64 v] w fun e w' => (∃ r : Int, e = .returned (.int .i64 r) ∧ hasZ l v = decide (0 ≤ r)) ∧ w = w' := by
  go_enter Tryz.func224, Tryz.ntmps224
  go_wp2
  go_loopw [8] (fun i wr => ∃ k : Nat, k ≤ n ∧ i = .int .i64 k ∧ (∀ j, j < k → nthI l j ≠ v) ∧ w = wr) (fun i _ => n - (intOf i).toNat)
  case atStart => exact ⟨0, Nat.zero_le _, rfl, fun j hj => absurd hj (Nat.not_lt_zero _), rfl⟩
  case round =>
    obtain ⟨k, hk, rfl, hall, rfl⟩ := hrel
    by_cases hkn : k < n
    · have hki : (k : Int) < (n : Int) := by omega
      obtain ⟨g, off, rfl, hglt, hcell⟩ := hr.at_ (by omega)
      have c0 := hcell k (by omega)
      have HY : Hid (nthI l k = v → hasZ l v = true) := fun h => hasZ_yes (by omega) h
      have HN : Hid (nthI l k ≠ v → ∀ j, j < k + 1 → nthI l j ≠ v) := fun h j hj => by
        rcases Nat.lt_or_ge j k with h' | h'
        · exact hall j h'
        · obtain rfl : j = k := by omega
          exact h
      clear hall hcell
      generalize nthI l k = y at *
      by_cases h : y = v
      · have HM : Hid (hasZ l v = true) := HY.out h
        clear HY HN
        subst h
        go_wp2
        go_ret
        exact ⟨⟨_, rfl, by rw [HM.out]; simp⟩, rfl⟩
      · have HM : Hid (_) := HN.out h
        have h' : ¬ v = y := fun e => h e.symm
        clear HY HN
        go_wp2
        go_roundw
        case rel => exact ⟨k + 1, by omega, by go_num, HM.out, by trivial⟩
        case measure => simp [intOf]; omega
    · have hki : ¬ (k : Int) < (n : Int) := by omega
      have HM : Hid (hasZ l v = false) := hasZ_no hl (fun i hi => hall i (by omega))
      clear hall
      go_wp2
      go_ret
      exact ⟨⟨-1, rfl, by rw [HM.out]; rfl⟩, rfl⟩
set_option maxHeartbeats 1600000 in
theorem containsZ_any (a : Option Addr) (n cap : Nat) (l : List Int) (v : Int) (w : World) (hl : l.length = n) (hr : RdI w a l) (hn : n ≤ 1048576) :
    Calls Tryz.prog 218 #[.slice a n cap, .int .i64 v] w fun e w' => e = .returned (.bool (hasZ l v)) ∧ w = w' := by
  have HC := indexZ_any a n cap l v w hl hr hn
  generalize hasZ l v = b at *
  go_enter Tryz.func218, Tryz.ntmps218
  go_wp2_with fail
  refine HC.mono ?_
  rintro e w1 ⟨⟨r, rfl, hb⟩, rfl⟩
  clear HC
  subst hb
  go_wp2
  go_ret
  exact ⟨rfl, rfl⟩
set_option maxHeartbeats 1600000 in
theorem isTold1_any (U : Nat) (q : SlQ) (us : List Int) (m : Msg) (sd : SlQ) (w : World) (hU : w.cell? ⟨U, 0, none⟩ = some (slW q)) (hl : us.length = q.2.1) (hr : RdI w q.1 us) (hn : q.2.1 ≤ 1048576) :
    Calls Tryz.prog 217 #[msX m sd, .pointer (some ⟨U, 0, none⟩)] w fun e w' => e = .returned (.bool (hasZ us m.u)) ∧ Below w.heap.size w w' := by
  have hb0 : Below w.heap.size w (w.alloc (.cells #[.int .i64 m.u, .int .i64 m.f, .int .i64 m.d, slW sd] 136)) := (Below.refl _ _).alloc (Nat.le_refl _) _
  have hU' := (hb0.cell (World.block_lt_of_cell? w _ hU)).trans hU
  have HC := containsZ_any q.1 q.2.1 q.2.2 us m.u _ hl (hr.below hb0) hn
  obtain ⟨mu, mf, md, mb⟩ := m
  dsimp only at *
  generalize hasZ us mu = r at *
  go_enter Tryz.func217, Tryz.ntmps217
  go_wp2_with fail
  refine HC.mono ?_
  rintro e w1 ⟨rfl, rfl⟩
  go_wp2
  go_ret
  exact ⟨rfl, hb0⟩
def delM (m : Msg) : Bool := decide (8 ≤ m.f)
theorem and8 (f : Int) (h : 0 ≤ f ∧ f ≤ 15) : bits .and .i64 f 8 = if 8 ≤ f then 8 else 0 := by
  obtain ⟨k, rfl⟩ := Int.eq_ofNat_of_zero_le h.1
  have hk : k < 16 := by omega
  have : ∀ k : Nat, k < 16 → bits .and .i64 (k : Int) 8 = if (8 : Int) ≤ (k : Int) then 8 else 0 := by decide +kernel
  exact this k hk
set_option maxHeartbeats 1600000 in
theorem isDeleted_any (m : Msg) (sd : SlQ) (w : World) (hf : 0 ≤ m.f ∧ m.f ≤ 15) :
    Calls Tryz.prog 197 #[msX m sd] w fun e w' => e = .returned (.bool (delM m)) ∧ Below w.heap.size w w' := by
  have hb0 : Below w.heap.size w (w.alloc (.cells #[.int .i64 m.u, .int .i64 m.f, .int .i64 m.d, slW sd] 136)) := (Below.refl _ _).alloc (Nat.le_refl _) _
  obtain ⟨mu, mf, md, mb⟩ := m
  dsimp only at *
  have ha := and8 mf hf
  by_cases h : 8 ≤ mf
  · have HD : Hid (delM ⟨mu, mf, md, mb⟩ = true) := decide_eq_true h
    rw [if_pos h] at ha
    go_enter Tryz.func197, Tryz.ntmps197
    go_wp2
    go_ret
    rw [HD.out]
    exact ⟨rfl, hb0⟩
  · have HD : Hid (delM ⟨mu, mf, md, mb⟩ = false) := decide_eq_false h
    rw [if_neg h] at ha
    go_enter Tryz.func197, Tryz.ntmps197
    go_wp2
    go_ret
    rw [HD.out]
    exact ⟨rfl, hb0⟩
def tuF (f m b : Int) : Int := if m = 2 then bits .or .i64 f b else if m = 3 then bits .andNot .i64 f b else b
set_option maxHeartbeats 1600000 in
theorem turned_any (f m b : Int) (w : World) : Calls Tryz.prog 195 #[.int .i64 f, .int .i64 m, .int .i64 b] w fun e w' => e = .returned (.int .i64 (tuF f m b)) ∧ w = w' := by
  by_cases h2 : m = 2
  · have HT : Hid (tuF f m b = bits .or .i64 f b) := if_pos h2
    subst h2
    go_enter Tryz.func195, Tryz.ntmps195
    go_wp2
    go_ret
    rw [HT.out]
    exact ⟨rfl, rfl⟩
  · by_cases h3 : m = 3
    · have HT : Hid (tuF f m b = bits .andNot .i64 f b) := (if_neg h2).trans (if_pos h3)
      subst h3
      go_enter Tryz.func195, Tryz.ntmps195
      go_wp2
      go_ret
      rw [HT.out]
      exact ⟨rfl, rfl⟩
    · have HT : Hid (tuF f m b = b) := (if_neg h2).trans (if_neg h3)
      go_enter Tryz.func195, Tryz.ntmps195
      go_wp2
      go_ret
      rw [HT.out]
      exact ⟨rfl, rfl⟩
set_option maxHeartbeats 1600000 in
theorem l8Flags_any (f m b : Int) (w : World) : Calls Tryz.prog 150 #[.int .i64 f, .int .i64 m, .int .i64 b] w fun e w' => e = .returned (.int .i64 (tuF f m b)) ∧ w = w' := by
  by_cases h2 : m = 2
  · have HT : Hid (tuF f m b = bits .or .i64 f b) := if_pos h2
    subst h2
    go_enter Tryz.func150, Tryz.ntmps150
    go_wp2
    go_ret
    rw [HT.out]
    exact ⟨rfl, rfl⟩
  · by_cases h3 : m = 3
    · have HT : Hid (tuF f m b = bits .andNot .i64 f b) := (if_neg h2).trans (if_pos h3)
      subst h3
      go_enter Tryz.func150, Tryz.ntmps150
      go_wp2
      go_ret
      rw [HT.out]
      exact ⟨rfl, rfl⟩
    · have HT : Hid (tuF f m b = b) := (if_neg h2).trans (if_neg h3)
      go_enter Tryz.func150, Tryz.ntmps150
      go_wp2
      go_ret
      rw [HT.out]
      exact ⟨rfl, rfl⟩
def roomB (x : Int) (n k : Nat) : Bool := decide (n + k ≤ 6 ∧ x + (k : Int) ≤ 1000)
set_option maxHeartbeats 1600000 in
theorem hasRoom_any (bn : ByteArray) (bv bx : Int) (a : Option Addr) (n cap k : Nat) (w : World) (hx : 0 ≤ bx ∧ bx ≤ 1000000) (hn : n ≤ 1048576) (hk : k ≤ 1048576) :
    Calls Tryz.prog 191 #[.agg #[.string bn, .int .i64 bv, .int .i64 bx, .slice a n cap], .int .i64 (k : Int)] w fun e w' => e = .returned (.bool (roomB bx n k)) ∧ Below w.heap.size w w' := by
  have hb0 : Below w.heap.size w (w.alloc (.cells #[.string bn, .int .i64 bv, .int .i64 bx, .slice a n cap] 128)) := (Below.refl _ _).alloc (Nat.le_refl _) _
  by_cases h1 : n + k ≤ 6
  · have h1' : (n : Int) + (k : Int) ≤ 6 := by omega
    by_cases h2 : bx + (k : Int) ≤ 1000
    · have HR : Hid (roomB bx n k = true) := decide_eq_true ⟨h1, h2⟩
      go_enter Tryz.func191, Tryz.ntmps191
      go_wp2
      go_ret
      rw [HR.out]
      exact ⟨rfl, hb0⟩
    · have HR : Hid (roomB bx n k = false) := decide_eq_false (fun h => h2 h.2)
      go_enter Tryz.func191, Tryz.ntmps191
      go_wp2
      go_ret
      rw [HR.out]
      exact ⟨rfl, hb0⟩
  · have h1' : ¬ (n : Int) + (k : Int) ≤ 6 := by omega
    have HR : Hid (roomB bx n k = false) := decide_eq_false (fun h => h1 h.1)
    go_enter Tryz.func191, Tryz.ntmps191
    go_wp2
    go_ret
    rw [HR.out]
    exact ⟨rfl, hb0⟩
end Go.Proofs.YtejbbnpgghpgaaaGreatDoor
