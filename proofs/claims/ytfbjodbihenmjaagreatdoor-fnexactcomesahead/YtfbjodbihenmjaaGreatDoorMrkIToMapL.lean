/- The laws' helpers that write marks into an answer's numbers, look for them again, and hold two answers with numbers against each other, do what their texts say; at most 1048576 numbers · The laws' helpers that write marks into an answer's bytes, look for them again, and hold two answers with bytes against each other, do what their texts say; at most 1048576 bytes · A row of bytes of the call's own is kept where another one grows · A row of the call's own, behind a call that wrote into another row; no conditions beyond those that each fact names · MapCodes, the program's and the model's, at every comparator and slice of at most 1048576 numbers: both by one plain function. -/
import Derived.Test.YtfbjodbihenmjaaGreatDoorAppIToChs2
import Derived.Test.YtfbjodbihenmjaaGreatDoorAppToMemF
import Derived.Handy
import Derived.Test.YtfbjodbihenmjaaGreatDoorBytToEncQ
import Derived.Test.YtfbjodbihenmjaaGreatDoorColToMap
namespace Go.Proofs.YtfbjodbihenmjaaGreatDoor
open Go.RowKit

/-- The marks: n numbers from k on. -/
def marksI (n k : Nat) : List Int := (List.range n).map fun i => ((k + i : Nat) : Int)
theorem marksI_len (n k : Nat) : (marksI n k).length = n := by simp [marksI]
theorem marksI_nth {n k i : Nat} (h : i < n) : nthI (marksI n k) i = ((k + i : Nat) : Int) := by
  rw [nthI_get (by rw [marksI_len]; exact h)]; simp [marksI]
def mhalfI (l : List Int) (k i : Nat) : List Int := marksI i k ++ l.drop i
theorem mhalfI_zero (l : List Int) (k : Nat) : mhalfI l k 0 = l := by simp [mhalfI, marksI]
theorem mhalfI_all (l : List Int) (k : Nat) : mhalfI l k l.length = marksI l.length k := by simp [mhalfI]
theorem mhalfI_len (l : List Int) (k i : Nat) (h : i ≤ l.length) : (mhalfI l k i).length = l.length := by simp [mhalfI, marksI_len]; omega
theorem mhalfI_set (l : List Int) (k i : Nat) (h : i < l.length) : (ic (mhalfI l k i)).set i (.int .i64 ((k + i : Nat) : Int)) = ic (mhalfI l k (i + 1)) := by
  have hm : (ic (marksI i k)).length = i := by rw [ic_len, marksI_len]
  have e : marksI (i + 1) k = marksI i k ++ [((k + i : Nat) : Int)] := by simp [marksI, List.range_succ]
  unfold mhalfI
  rw [e, ic_app, List.set_append, hm, if_neg (Nat.lt_irrefl i), Nat.sub_self, drop_consI l i h]
  simp [ic]

end Go.Proofs.YtfbjodbihenmjaaGreatDoor

namespace Go.Proofs.YtfbjodbihenmjaaGreatDoor
open Go.RowKit

/-- The marks: n numbers from k on, what 256 leaves of them. -/
def marks (n k : Nat) : List Nat := (List.range n).map fun i => (k + i) % 256
theorem marks_len (n k : Nat) : (marks n k).length = n := by simp [marks]
theorem marks_nth {n k i : Nat} (h : i < n) : nth (marks n k) i = (k + i) % 256 := by
  rw [nth_get (by rw [marks_len]; exact h)]; simp [marks]
def mhalf (l : List Nat) (k i : Nat) : List Nat := marks i k ++ l.drop i
theorem mhalf_zero (l : List Nat) (k : Nat) : mhalf l k 0 = l := by simp [mhalf, marks]
theorem mhalf_all (l : List Nat) (k : Nat) : mhalf l k l.length = marks l.length k := by simp [mhalf]
theorem mhalf_len (l : List Nat) (k i : Nat) (h : i ≤ l.length) : (mhalf l k i).length = l.length := by simp [mhalf, marks_len]; omega
theorem mhalf_set (l : List Nat) (k i : Nat) (h : i < l.length) : (bc (mhalf l k i)).set i (.int .u8 (((k + i) % 256 : Nat) : Int)) = bc (mhalf l k (i + 1)) := by
  have hm : (bc (marks i k)).length = i := by rw [bc_len, marks_len]
  have e : marks (i + 1) k = marks i k ++ [(k + i) % 256] := by simp [marks, List.range_succ]
  unfold mhalf
  rw [e, bc_app, List.set_append, hm, if_neg (Nat.lt_irrefl i), Nat.sub_self, drop_cons l i h]
  simp [bc]

end Go.Proofs.YtfbjodbihenmjaaGreatDoor

namespace Go.Proofs.YtfbjodbihenmjaaGreatDoor
open Go.RowKit

theorem Own.far {w w' : World} {B : Nat} {v : Value} {l : List Nat} {row : Option Nat} (h : Own w B v l) (hg : w.grownBy w' row) (hne : ∀ b, v.ownBlock = some b → some b ≠ row) : Own w' B v l := by
  refine ⟨h.1, ?_⟩
  rcases h.2 with h' | ⟨g, cap, cur, h1, h2, h3, h4⟩
  · exact .inl h'
  · refine .inr ⟨g, cap, cur, h1, h2, ?_, h4⟩
    have hlt : g < w.heap.size := by
      rcases Nat.lt_or_ge g w.heap.size with hlt | hge
      · exact hlt
      · simp [Array.getElem?_eq_none hge] at h3
    rw [hg.block g hlt (hne g (by rw [h1]; rfl))]; exact h3
end Go.Proofs.YtfbjodbihenmjaaGreatDoor

namespace Go.Proofs.YtfbjodbihenmjaaGreatDoor
open Go.RowKit

theorem OwnI.far {w w' : World} {B : Nat} {v : Value} {l : List Int} {row : Option Nat} (h : OwnI w B v l) (hg : w.grownBy w' row) (hne : ∀ b, v.ownBlock = some b → some b ≠ row) : OwnI w' B v l := by
  refine ⟨h.1, ?_⟩
  rcases h.2 with h' | ⟨g, cap, cur, h1, h2, h3, h4⟩
  · exact .inl h'
  · refine .inr ⟨g, cap, cur, h1, h2, ?_, h4⟩
    have hlt : g < w.heap.size := by
      rcases Nat.lt_or_ge g w.heap.size with hlt | hge
      · exact hlt
      · simp [Array.getElem?_eq_none hge] at h3
    rw [hg.block g hlt (hne g (by rw [h1]; rfl))]; exact h3
end Go.Proofs.YtfbjodbihenmjaaGreatDoor

namespace Go.Proofs.YtfbjodbihenmjaaGreatDoor
open Go.RowKit

theorem OwnI.lowerM {w : World} {B C : Nat} {v : Value} {l : List Int} (h : OwnI w B v l) (hC : C ≤ B) : OwnI w C v l := by
  refine ⟨h.1, ?_⟩
  rcases h.2 with h' | ⟨g, cap, cur, h1, h2, h3⟩
  · exact .inl h'
  · exact .inr ⟨g, cap, cur, h1, Nat.le_trans hC h2, h3⟩
theorem OwnI.keptM {w : World} {B : Nat} {v : Value} {l : List Int} (h : OwnI w B v l) (p : Addr) (hp : p.block < B) (u : Value) : OwnI (w.setCell p u) B v l := ownsRow_setCell_below h hp u
theorem fltCases (l : List Int) : flt l = 0 ∨ flt l = 2 ∨ flt l = 3 := by
  unfold flt
  split
  · simp
  · split <;> simp
theorem fltZero {l : List Int} (h : flt l = 0) : l.length ≤ 400 := by
  unfold flt at h
  split at h
  · omega
  · omega

/-- What MapCodes answers. -/
def mapT (k : Int) (l : List Int) : Int × List Int := if 1 ≤ k ∧ k ≤ 3 then (if flt l = 0 then (0, l.map (mapC k)) else (flt l, [])) else (4, [])
theorem mapT_none {k : Int} {l : List Int} (h : ¬ (1 ≤ k ∧ k ≤ 3)) : mapT k l = (4, []) := if_neg h
theorem mapT_fault {k : Int} {l : List Int} (h : 1 ≤ k ∧ k ≤ 3) (hf : flt l ≠ 0) : mapT k l = (flt l, []) := by unfold mapT; rw [if_pos h, if_neg hf]
theorem mapT_ok {k : Int} {l : List Int} (h : 1 ≤ k ∧ k ≤ 3) (hf : flt l = 0) : mapT k l = (0, l.map (mapC k)) := by unfold mapT; rw [if_pos h, if_pos hf]
theorem mapT_few (k : Int) (l : List Int) : (mapT k l).2.length ≤ 400 := by
  unfold mapT
  split
  · split
    · have := fltZero (l := l) (by assumption)
      simpa using this
    · simp
  · simp

/-- An answer with numbers. -/
def NumEnd (r : Int × List Int) (w : World) (e : Ending) (w' : World) : Prop := ∃ v, e = .returned (.agg #[.int .i64 r.1, v]) ∧ OwnI w' w.heap.size v r.2 ∧ Below w.heap.size w w'
theorem NumEnd.code {c : Int} {w w1 : World} (hbel : Below w.heap.size w w1) (x y : Value) : NumEnd (c, []) w (.returned (.agg #[.int .i64 c, .slice none 0 0])) ((w1.setCell ⟨w.heap.size, 0, none⟩ x).setCell ⟨w.heap.size, 1, none⟩ y) :=
  ⟨_, rfl, OwnI.nil _ _, (hbel.setCell (by simp) _).setCell (by simp) _⟩
theorem NumEnd.some {c : Int} {w w1 : World} {v : Value} {l : List Int} (hbel : Below w.heap.size w w1) (hown : OwnI w1 (w.heap.size + 1) v l) (x y : Value) : NumEnd (c, l) w (.returned (.agg #[.int .i64 c, v])) ((w1.setCell ⟨w.heap.size, 0, none⟩ x).setCell ⟨w.heap.size, 1, none⟩ y) :=
  ⟨_, rfl, ((hown.keptM _ (by simp) _).keptM _ (by simp) _).lowerM (by omega), (hbel.setCell (by simp) _).setCell (by simp) _⟩

theorem map_step {f : Int → Int} {l : List Int} {k : Nat} (h : k < l.length) : (l.take (k + 1)).map f = (l.take k).map f ++ [f (nthI l k)] := by
  rw [take_snocI l k h, List.map_append]; rfl
theorem map_end {f : Int → Int} {l : List Int} {n : Nat} (h : l.length = n) : (l.take n).map f = l.map f := by rw [← h, List.take_length]

set_option maxHeartbeats 1600000 in
set_option maxRecDepth 100000 in
theorem mapCodes_ok (k : Int) (a : Option Addr) (n cap : Nat) (l : List Int) (w : World) (hk : 1 ≤ k ∧ k ≤ 3) (hl : l.length = n) (hr : RdI w a l) (hf : flt l = 0) :
    Calls Tryz.prog 49 #[.int .i64 k, .slice a n cap] w fun e w' => NumEnd (mapT k l) w e w' := by
  have hn4 : n ≤ 400 := by have := fltZero hf; omega
  have H : Hid (mapT k l = (0, l.map (mapC k))) := mapT_ok hk hf
  have hb0 : Below w.heap.size w (w.alloc (.cells #[.int .i64 0, .slice none 0 0] 70)) := (Below.refl _ _).alloc (Nat.le_refl _) _
  have hr0 := hr.below hb0
  have hWs : (w.alloc (.cells #[.int .i64 0, .slice none 0 0] 70)).heap.size = w.heap.size + 1 := by simp
  go_enter Tryz.func49, Tryz.ntmps49
  go_wp2_with (first | (go_at_call 23; refine (isComparator_any _ _).mono ?_; rintro e w' ⟨rfl, rfl⟩; rw [decide_eq_true hk]) | (go_at_call 63; refine (codesFault_any a n cap l _ hl hr0 (by omega)).mono ?_; rintro e w1 ⟨rfl, hb1⟩; rw [hf]))
  have hbl1 : Below (w.heap.size + 1) (w.alloc (.cells #[.int .i64 0, .slice none 0 0] 70)) w1 := by rw [← hWs]; exact hb1
  generalize hW : w.alloc (.cells #[.int .i64 0, .slice none 0 0] 70) = W at *
  go_loopw [6, 21] (fun v i wr => ∃ j : Nat, j ≤ n ∧ i = .int .i64 j ∧ OwnI wr (w.heap.size + 1) v ((l.take j).map (mapC k)) ∧ Below (w.heap.size + 1) W wr)
    (fun _ i _ => n - (intOf i).toNat)
  case atStart => exact ⟨0, Nat.zero_le _, rfl, OwnI.nil _ _, hbl1⟩
  case round =>
    obtain ⟨j, hj, rfl, hown, hbel⟩ := hrel
    have hz : w.heap.size + 1 ≤ wr.heap.size := by have := hbel.size; omega
    clear hb1 hbl1
    by_cases hjn : j < n
    · obtain ⟨b, off, rfl, hblt, hcell⟩ := hr0.at_ (by omega)
      have hc : wr.cell? ⟨b, off + j, none⟩ = some (.int .i64 (nthI l j)) := (hbel.cell (p := ⟨b, off + j, none⟩) (by rw [← hWs]; exact hblt)).trans (hcell j (by omega))
      have HQ : Hid ((l.take (j + 1)).map (mapC k) = (l.take j).map (mapC k) ++ [mapC k (nthI l j)]) := map_step (by omega)
      have hjn' : (j : Int) < (n : Int) := by omega
      have hlen : ((l.take j).map (mapC k)).length ≤ 400 := by rw [List.length_map, List.length_take]; omega
      generalize (l.take j).map (mapC k) = out at *
      generalize nthI l j = x at *
      clear hcell hr0 hr
      go_wp2_with (first | (go_at_call 64; refine (countsAs_any _ _ _ hk).mono ?_; rintro e w' ⟨rfl, rfl⟩) | (at_builtin; refine wpList_app_newI rfl _ _ rfl (w.heap.size + 1) _ out rfl hown 1 1 [mapC k x] rfl rfl rfl (by omega) hz ?_; intro v' w2 hown' hb'))
      go_roundw
      case rel => exact ⟨j + 1, by omega, by go_num, by rw [HQ.out]; exact hown', hbel.trans hb'⟩
      case measure => simp [intOf]; omega
    · have hjj : j = n := by omega
      subst hjj
      rw [map_end hl] at hown
      have hjn' : ¬ (j : Int) < (j : Int) := by omega
      obtain ⟨hcw, hcw1, hfw, hfw1⟩ := res_block hW hbel
      have hbE : Below w.heap.size w wr := hb0.trans (hbel.mono (by omega))
      generalize l.map (mapC k) = out at *
      obtain ⟨ao, ocap, hv, -, -⟩ := hown.form
      rw [hv] at hown ⊢
      clear hv
      have HO : Hid (OwnI wr (w.heap.size + 1) (.slice ao out.length ocap) out) := hown
      clear hown
      generalize out.length = N at *
      obtain ⟨hk0, hk1⟩ := res_cells hcw hcw1 (.int .i64 0) (.slice ao N ocap)
      go_wp2
      refine bodyPost_ret (v := .agg #[.int .i64 0, .slice ao N ocap]) (by simp [results, Tryz.results49, go_sem, hk0, hk1]) rfl ?_
      rw [H.out]
      exact NumEnd.some hbE HO.out _ _

set_option maxHeartbeats 1600000 in
set_option maxRecDepth 100000 in
theorem mapCodes_any (k : Int) (a : Option Addr) (n cap : Nat) (l : List Int) (w : World) (hl : l.length = n) (hr : RdI w a l) (hn : n ≤ 1048576) :
    Calls Tryz.prog 49 #[.int .i64 k, .slice a n cap] w fun e w' => NumEnd (mapT k l) w e w' := by
  by_cases hk : 1 ≤ k ∧ k ≤ 3
  · by_cases hf : flt l = 0
    · exact mapCodes_ok k a n cap l w hk hl hr hf
    · have H : Hid (mapT k l = (flt l, [])) := mapT_fault hk hf
      have hb0 : Below w.heap.size w (w.alloc (.cells #[.int .i64 0, .slice none 0 0] 70)) := (Below.refl _ _).alloc (Nat.le_refl _) _
      have hr0 := hr.below hb0
      have hc23 : flt l = 2 ∨ flt l = 3 := by rcases fltCases l with h | h | h; exact absurd h hf; exact .inl h; exact .inr h
      have HC : Hid (∀ w, RdI w a l → Calls Tryz.prog 63 #[.slice a n cap] w fun e w' => e = .returned (.int .i64 (flt l)) ∧ Below w.heap.size w w') := fun w hr => codesFault_any a n cap l w hl hr hn
      clear hf
      generalize flt l = c at *
      rcases hc23 with rfl | rfl
      all_goals
        go_enter Tryz.func49, Tryz.ntmps49
        go_wp2_with (first | (go_at_call 23; refine (isComparator_any _ _).mono ?_; rintro e w' ⟨rfl, rfl⟩; rw [decide_eq_true hk]))
        refine (HC.out _ hr0).mono ?_
        rintro e w1 ⟨rfl, hb1⟩
        have hbl : Below (w.heap.size + 1) (w.alloc (.cells #[.int .i64 0, .slice none 0 0] 70)) w1 := hb1.mono (by simp)
        obtain ⟨hcw, hcw1, hfw, hfw1⟩ := res_block rfl hbl
        have hbel : Below w.heap.size w w1 := hb0.trans (hbl.mono (by omega))
        clear hb1 hbl hr hr0 HC
      · obtain ⟨hk0, hk1⟩ := res_cells hcw hcw1 (.int .i64 2) (.slice none 0 0)
        go_wp2
        refine bodyPost_ret (v := .agg #[.int .i64 2, .slice none 0 0]) (by simp [results, Tryz.results49, go_sem, hk0, hk1]) rfl ?_
        rw [H.out]
        exact NumEnd.code hbel _ _
      · obtain ⟨hk0, hk1⟩ := res_cells hcw hcw1 (.int .i64 3) (.slice none 0 0)
        go_wp2
        refine bodyPost_ret (v := .agg #[.int .i64 3, .slice none 0 0]) (by simp [results, Tryz.results49, go_sem, hk0, hk1]) rfl ?_
        rw [H.out]
        exact NumEnd.code hbel _ _
  · have H : Hid (mapT k l = (4, [])) := mapT_none hk
    go_enter Tryz.func49, Tryz.ntmps49
    go_wp2_with (first | (go_at_call 23; refine (isComparator_any _ _).mono ?_; rintro e w' ⟨rfl, rfl⟩; rw [decide_eq_false hk]))
    go_returns
    exact ⟨.slice none 0 0, by rw [H.out], by rw [H.out]; exact OwnI.nil _ _, by go_grown⟩

end Go.Proofs.YtfbjodbihenmjaaGreatDoor
