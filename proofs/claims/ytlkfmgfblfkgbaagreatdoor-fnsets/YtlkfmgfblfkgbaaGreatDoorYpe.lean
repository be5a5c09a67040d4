/- The program's reading of a set: ends of ranges, ranges, words; at every text of at most 1048576 bytes; the library's two errors are there; no conditions beyond those that each fact names. -/
import Derived.Test.YtlkfmgfblfkgbaaGreatDoorYpm
import Derived.Test.YtlkfmgfblfkgbaaGreatDoorYsp
import Derived.Lib.AtoiErrMem
namespace Go.Proofs.YtlkfmgfblfkgbaaGreatDoor
open Go.RowKit

/-- The library's variables that the reading looks at. -/
def VarE (w : World) : Prop := (∃ m : Int, w.cell? ⟨0, 0, none⟩ = some (.int .i64 m)) ∧ (∃ tp p, w.var? Tryz.prog "strconv.ErrSyntax" = some #[.iface tp p]) ∧ (∃ tp p, w.var? Tryz.prog "strconv.ErrRange" = some #[.iface tp p])
theorem gSyn : Tryz.prog.globalNamed "strconv.ErrSyntax" = some 4 := by kernel_rfl
theorem gRan : Tryz.prog.globalNamed "strconv.ErrRange" = some 5 := by kernel_rfl
theorem var_below {nm : String} {g : Nat} {w w' : World} {x : Array Value} (hg : Tryz.prog.globalNamed nm = some g) (h : w.var? Tryz.prog nm = some x) (hb : Below w.heap.size w w') : w'.var? Tryz.prog nm = some x := by
  unfold World.var? at h ⊢
  rw [hg] at h ⊢
  simp only [Option.bind_some] at h ⊢
  have hlt : g < w.heap.size := by
    rcases Nat.lt_or_ge g w.heap.size with h' | h'
    · exact h'
    · rw [Array.getElem?_eq_none h'] at h; simp at h
  rw [hb.block _ hlt]; exact h
theorem VarE.below {w w' : World} (h : VarE w) (hb : Below w.heap.size w w') : VarE w' := by
  obtain ⟨⟨m, hm⟩, ⟨tp, p, h1⟩, ⟨tq, q, h2⟩⟩ := h
  exact ⟨⟨m, (hb.cell (p := ⟨0, 0, none⟩) (World.block_lt_of_cell? _ _ hm)).trans hm⟩, ⟨tp, p, var_below gSyn h1 hb⟩, ⟨tq, q, var_below gRan h2 hb⟩⟩

/-- The number that a word tells; -1 where it tells none. -/
def numP (l : List UInt8) : Int := match Lib.parseIntB 64 l with | .ok v => v | _ => -1
set_option maxHeartbeats 800000 in
set_option maxRecDepth 100000 in
theorem numberIn_any (s : ByteArray) (w : World) (hs : s.size ≤ 1048576) (hv : VarE w) : Calls Tryz.prog 61 #[.string s] w fun e w' => e = .returned (.int .i64 (numP s.data.toList)) ∧ Below w.heap.size w w' := by
  have HV : Hid (numP s.data.toList = match Lib.parseIntB 64 s.data.toList with | .ok v => v | _ => -1) := rfl
  obtain ⟨-, ⟨tp, p, h1⟩, ⟨tq, q, h2⟩⟩ := hv
  cases hp : Lib.parseIntB 64 s.data.toList with
  | ok v =>
    have HX : Hid (numP s.data.toList = v) := by show _ = _; rw [HV.out, hp]
    have HC : Hid (_) := Tryz.strconv_ParseInt_10_at64_ok s (by omega) v hp w
    go_enter Tryz.func61, Tryz.ntmps61
    go_wp2_with fail
    refine Calls.mono HC.out ?_
    rintro e w1 ⟨rfl, hw⟩
    have hbw : Below w.heap.size w w1 := by
      rcases hw with rfl | ⟨t, rfl⟩
      · exact Below.refl _ _
      · exact Lib.bytesWorld_below w _ t
    clear hw
    go_wp2
    go_ret
    exact ⟨by rw [HX.out]; rfl, hbw⟩
  | «syntax» =>
    have HX : Hid (numP s.data.toList = -1) := by show _ = _; rw [HV.out, hp]
    have HC : Hid (_) := Tryz.strconv_ParseInt_10_at64_syntax_var s (by omega) hp tp p w h1
    go_enter Tryz.func61, Tryz.ntmps61
    go_wp2_with fail
    refine Calls.mono HC.out ?_
    rintro e w1 ⟨N, rfl, -, -, hbw⟩
    go_wp2
    go_ret
    exact ⟨by rw [HX.out]; rfl, hbw⟩
  | range =>
    have HX : Hid (numP s.data.toList = -1) := by show _ = _; rw [HV.out, hp]
    have HC : Hid (_) := Tryz.strconv_ParseInt_10_at64_range_var s (by omega) hp tq q w h2
    go_enter Tryz.func61, Tryz.ntmps61
    go_wp2_with fail
    refine Calls.mono HC.out ?_
    rintro e w1 ⟨N, rfl, -, -, hbw⟩
    go_wp2
    go_ret
    exact ⟨by rw [HX.out]; rfl, hbw⟩

set_option maxHeartbeats 800000 in
set_option maxRecDepth 100000 in
theorem endIn_any (s : ByteArray) (w : World) (hs : s.size ≤ 1048576) (hv : VarE w) : Calls Tryz.prog 50 #[.string s] w fun e w' => e = .returned (.int .i64 (endP s.data.toList)) ∧ Below w.heap.size w w' := by
  by_cases h42 : s.data.toList = [42]
  · have HV : Hid (endP s.data.toList = 0) := if_pos h42
    have hb : (s.toList == [42]) = true := by rw [ByteArray.toList_eq, h42]; decide
    go_enter Tryz.func50, Tryz.ntmps50
    go_wp2
    go_ret
    exact ⟨by rw [HV.out]; rfl, Below.refl _ _⟩
  · have hb : (s.toList == [42]) = false := by rw [ByteArray.toList_eq]; exact beq_eq_false_iff_ne.2 h42
    have HV : Hid (endP s.data.toList = numP s.data.toList) := if_neg h42
    have HC := numberIn_any s w hs hv
    generalize numP s.data.toList = nv at *
    generalize endP s.data.toList = ev at *
    go_enter Tryz.func50, Tryz.ntmps50
    go_wp2_with fail
    refine HC.mono ?_
    rintro e w1 ⟨rfl, hb1⟩
    go_wp2
    go_ret
    exact ⟨by rw [HV.out]; rfl, hb1⟩

theorem cut_le (x y : List UInt8) : (Lib.cut x y).1.length ≤ x.length ∧ (Lib.cut x y).2.1.length ≤ x.length := by
  unfold Lib.cut
  split
  · simp only [List.length_take, List.length_drop]; omega
  · simp
theorem arr_size (l : List UInt8) : (⟨l.toArray⟩ : ByteArray).size = l.length := by simp [ByteArray.size]

set_option maxHeartbeats 1600000 in
set_option maxRecDepth 100000 in
theorem rangeIn_any (s : ByteArray) (w : World) (hs : s.size ≤ 1048576) (hv : VarE w) : Calls Tryz.prog 38 #[.string s] w fun e w' => e = .returned (.agg #[.int .i64 (rgP s).1, .int .i64 (rgP s).2]) ∧ Below w.heap.size w w' := by
  have hb0 : Below w.heap.size w (w.alloc (.cells #[.int .i64 0, .int .i64 0] 42)) := (Below.refl _ _).alloc (Nat.le_refl _) _
  have hv0 := hv.below hb0
  obtain ⟨⟨m, hm⟩, -, -⟩ := id hv0
  obtain ⟨le1, le2⟩ := cut_le s.data.toList [58]
  have hsl : s.data.toList.length = s.size := by rw [Array.length_toList]; rfl
  have HCut := Tryz.strings_Cut s ⟨#[58]⟩ m (w.alloc (.cells #[.int .i64 0, .int .i64 0] 42)) (by omega) hm
  rw [show (ByteArray.mk #[58]).data.toList = [58] from rfl] at HCut
  have HRG : Hid (rgP s = (endP (Lib.cut s.data.toList [58]).1, if (Lib.cut s.data.toList [58]).2.2 then endP (Lib.cut s.data.toList [58]).2.1 else endP (Lib.cut s.data.toList [58]).1)) := rfl
  generalize Lib.cut s.data.toList [58] = ct at *
  obtain ⟨x, y, b⟩ := ct
  simp only at le1 le2 HCut HRG
  have HX : Hid (∀ w, VarE w → Calls Tryz.prog 50 #[.string ⟨x.toArray⟩] w fun e w' => e = .returned (.int .i64 (endP x)) ∧ Below w.heap.size w w') := fun w hv => by
    have h := endIn_any ⟨x.toArray⟩ w (by rw [arr_size]; omega) hv
    rw [show (⟨x.toArray⟩ : ByteArray).data.toList = x by simp] at h
    exact h
  have HY : Hid (∀ w, VarE w → Calls Tryz.prog 50 #[.string ⟨y.toArray⟩] w fun e w' => e = .returned (.int .i64 (endP y)) ∧ Below w.heap.size w w') := fun w hv => by
    have h := endIn_any ⟨y.toArray⟩ w (by rw [arr_size]; omega) hv
    rw [show (⟨y.toArray⟩ : ByteArray).data.toList = y by simp] at h
    exact h
  have HC : Hid (_) := HCut
  clear HCut le1 le2 hsl hm
  generalize (⟨x.toArray⟩ : ByteArray) = sx at *
  generalize (⟨y.toArray⟩ : ByteArray) = sy at *
  have hWs : (w.alloc (.cells #[.int .i64 0, .int .i64 0] 42)).heap.size = w.heap.size + 1 := by simp
  cases b with
  | true =>
    rw [if_pos rfl] at HRG
    go_enter Tryz.func38, Tryz.ntmps38
    go_wp2_with fail
    refine Calls.mono HC.out ?_
    rintro e w1 ⟨rfl, n, rfl⟩
    have hbd : Below (w.heap.size + 1) (w.alloc (.cells #[.int .i64 0, .int .i64 0] 42)) ((w.alloc (.cells #[.int .i64 0, .int .i64 0] 42)).drewN n) := below_drewN (Below.refl _ _) _
    have hvd : VarE ((w.alloc (.cells #[.int .i64 0, .int .i64 0] 42)).drewN n) := hv0
    generalize hWd : (w.alloc (.cells #[.int .i64 0, .int .i64 0] 42)).drewN n = Wd at *
    generalize hW : w.alloc (.cells #[.int .i64 0, .int .i64 0] 42) = W at *
    clear hWd HC
    have hzd : w.heap.size + 1 ≤ Wd.heap.size := by have := hbd.size; omega
    go_wp2_with fail
    refine (HX.out _ hvd).mono ?_
    rintro e w2 ⟨rfl, hb2⟩
    have hbl2 := hbd.trans (hb2.mono hzd)
    have hv2 := hvd.below hb2
    have hz2 : w.heap.size + 1 ≤ w2.heap.size := by have := hbl2.size; omega
    go_wp2_with fail
    refine (HY.out _ hv2).mono ?_
    rintro e w3 ⟨rfl, hb3⟩
    have hbl3 := hbl2.trans (hb3.mono hz2)
    obtain ⟨hcw, hcw1, hfw, hfw1⟩ := res_block hW hbl3
    have hbE : Below w.heap.size w w3 := hb0.trans (hbl3.mono (by omega))
    have HR : Hid ((rgP s).1 = endP x ∧ (rgP s).2 = endP y) := by
      refine ⟨?_, ?_⟩ <;> rw [HRG.out]
    clear hb2 hb3 hbl2 hbl3 hbd HX HY
    generalize endP x = f at *
    generalize endP y = t at *
    obtain ⟨hk0, hk1⟩ := res_cells hcw hcw1 (.int .i64 f) (.int .i64 t)
    go_wp2
    refine bodyPost_ret (v := .agg #[.int .i64 f, .int .i64 t]) (by simp [results, Tryz.results38, go_sem, hk0, hk1]) rfl ?_
    refine ⟨?_, (hbE.setCell (Nat.le_refl _) _).setCell (Nat.le_refl _) _⟩
    rw [HR.out.1, HR.out.2]
  | false =>
    rw [if_neg (by simp)] at HRG
    go_enter Tryz.func38, Tryz.ntmps38
    go_wp2_with fail
    refine Calls.mono HC.out ?_
    rintro e w1 ⟨rfl, n, rfl⟩
    have hbd : Below (w.heap.size + 1) (w.alloc (.cells #[.int .i64 0, .int .i64 0] 42)) ((w.alloc (.cells #[.int .i64 0, .int .i64 0] 42)).drewN n) := below_drewN (Below.refl _ _) _
    have hvd : VarE ((w.alloc (.cells #[.int .i64 0, .int .i64 0] 42)).drewN n) := hv0
    generalize hWd : (w.alloc (.cells #[.int .i64 0, .int .i64 0] 42)).drewN n = Wd at *
    generalize hW : w.alloc (.cells #[.int .i64 0, .int .i64 0] 42) = W at *
    clear hWd HC
    have hzd : w.heap.size + 1 ≤ Wd.heap.size := by have := hbd.size; omega
    go_wp2_with fail
    refine (HX.out _ hvd).mono ?_
    rintro e w2 ⟨rfl, hb2⟩
    have hbl2 := hbd.trans (hb2.mono hzd)
    have hv2 := hvd.below hb2
    have hz2 : w.heap.size + 1 ≤ w2.heap.size := by have := hbl2.size; omega
    go_wp2_with fail
    refine (HX.out _ hv2).mono ?_
    rintro e w3 ⟨rfl, hb3⟩
    have hbl3 := hbl2.trans (hb3.mono hz2)
    obtain ⟨hcw, hcw1, hfw, hfw1⟩ := res_block hW hbl3
    have hbE : Below w.heap.size w w3 := hb0.trans (hbl3.mono (by omega))
    have HR : Hid ((rgP s).1 = endP x ∧ (rgP s).2 = endP x) := by
      refine ⟨?_, ?_⟩ <;> rw [HRG.out]
    clear hb2 hb3 hbl2 hbl3 hbd HX HY
    generalize endP x = f at *
    skip
    obtain ⟨hk0, hk1⟩ := res_cells hcw hcw1 (.int .i64 f) (.int .i64 f)
    go_wp2
    refine bodyPost_ret (v := .agg #[.int .i64 f, .int .i64 f]) (by simp [results, Tryz.results38, go_sem, hk0, hk1]) rfl ?_
    refine ⟨?_, (hbE.setCell (Nat.le_refl _) _).setCell (Nat.le_refl _) _⟩
    rw [HR.out.1, HR.out.2]
end Go.Proofs.YtlkfmgfblfkgbaaGreatDoor
