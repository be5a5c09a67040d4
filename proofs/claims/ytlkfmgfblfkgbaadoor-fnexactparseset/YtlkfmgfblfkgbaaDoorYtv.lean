/- The text of a set, on both sides (more of it): the words with commas between, the answers. -/
import Derived.Test.YtlkfmgfblfkgbaaDoorYtx
import Derived.Deep.RegionHeld3
namespace Go.Proofs.YtlkfmgfblfkgbaaDoor
open Go.RowKit

set_option maxHeartbeats 1600000 in
set_option maxRecDepth 100000 in
theorem tellSet_any (a : Option Addr) (n cap : Nat) (l : List YgP) (w : World) (hl : l.length = n) (hr : RdZ w a l) (h1 : 1 ≤ n) (hn : n ≤ 8) (hok : rfA l = true) (ht : TabW w) :
    Calls Tryd.prog 20 #[.slice a n cap] w fun e w' => e = .returned (.string (str (txY l))) ∧ Below w.heap.size w w' := by
  go_enter Tryd.func20, Tryd.ntmps20
  go_wp2
  go_loopw [3, 8] (fun v i wr => ∃ k : Nat, k ≤ n ∧ i = .int .i64 k ∧ OwnS wr w.heap.size v ((l.take k).map wdY) ∧ Below w.heap.size w wr) (fun _ i _ => n - (intOf i).toNat)
  case atStart => exact ⟨0, Nat.zero_le _, rfl, OwnS.nil _ _, Below.refl _ _⟩
  case round =>
    obtain ⟨k, hk, rfl, hown, hbel⟩ := hrel
    by_cases hkn : k < n
    · obtain ⟨b, off, rfl, hblt, hcell⟩ := hr.at_ (by omega)
      have hc0 : wr.cell? ⟨b, off + k, none⟩ = some (cz (nthY l k)) := (hbel.cell (p := ⟨b, off + k, none⟩) hblt).trans (hcell k (by omega))
      have hki : (k : Int) < (n : Int) := by omega
      have HT : Hid ((l.take k).map wdY ++ [wdY (nthY l k)] = (l.take (k + 1)).map wdY) := by
        show _ = _
        rw [take_snocY l k (by omega), List.map_append]; rfl
      have hlt : ((l.take k).map wdY).length = k := by rw [List.length_map, List.length_take]; omega
      obtain ⟨b1, b2⟩ := rfA_nth hok (i := k) (by omega)
      clear hcell
      generalize nthY l k = p at *
      have htr := TabW.below ht hbel
      have HWd : Hid (∀ w, TabW w → Calls Tryd.prog 30 #[cz p] w fun e w' => e = .returned (.string (str (wdY p))) ∧ Below w.heap.size w w') := fun w ht => word_any p w b1 b2 ht
      obtain ⟨x, y⟩ := p
      rw [show cz (x, y) = .complex .f64 (fB x) (fB y) from rfl] at hc0
      generalize (l.take k).map wdY = ws at *
      obtain ⟨av, cv, ev, _, _⟩ := hown.form
      rw [hlt] at ev
      subst ev
      go_wp2_with fail
      refine (HWd.out _ htr).mono ?_
      rintro e w2 ⟨rfl, hb2⟩
      have hown2 := hown.below hb2 (Nat.le_refl _)
      have hbel2 := hbel.trans (hb2.mono hbel.size)
      clear hown hbel hb2
      go_wp2_with (at_builtin; refine wpList_app_newT rfl _ _ rfl w.heap.size _ ws rfl hown2 1 1 [wdY (x, y)] rfl rfl rfl (by omega) hbel2.size ?_; intro v' w3 ho3 hb3)
      rw [HT.out] at ho3
      have hB3 := hbel2.trans hb3
      clear hb3 hown2
      go_roundw
      case rel => exact ⟨k + 1, by omega, by go_num, ho3, hB3⟩
      case measure => simp [intOf]; omega
    · have hki : ¬ (k : Int) < (n : Int) := by omega
      have hkk : l.take k = l := List.take_of_length_le (by omega)
      rw [hkk] at hown
      have hwl : (l.map wdY).length = n := by rw [List.length_map]; exact hl
      have HJ := jnT_join (l.map wdY)
      have htl := txY_len l
      obtain ⟨aw, cw, rfl, hwc, hwm⟩ := id hown.form
      obtain ⟨hlen, hrd⟩ := hown.rd
      obtain ⟨g, o, rfl, hglt, hcell⟩ := hrd.at_ (by omega)
      have HC := Tryd.strings_Join g o cw ((l.map wdY).map str) ⟨#[44]⟩ wr (fun i x hx => by
        have hi : i < (l.map wdY).length := by
          rcases Nat.lt_or_ge i (l.map wdY).length with h | h
          · exact h
          · rw [List.getElem?_eq_none (by rw [List.length_map]; exact h)] at hx; cases hx
        rw [List.getElem?_map, List.getElem?_eq_getElem hi, Option.map_some] at hx
        cases hx
        have := hcell i hi
        rw [nthS_get hi] at this
        exact this) hglt (by rw [List.length_map]; omega) (by rw [List.length_map]; exact hwc) (by
        rw [List.map_map]
        rw [show (List.map ((fun x => x.data.toList) ∘ str) (l.map wdY)) = ((l.map wdY).map fun x => (str x).data.toList) from rfl, show (ByteArray.mk #[44]).data.toList = [44] from rfl, HJ, List.length_map]
        show (txY l).length ≤ _
        omega)
      rw [List.length_map, List.map_map, show (List.map ((fun x => x.data.toList) ∘ str) (l.map wdY)) = ((l.map wdY).map fun x => (str x).data.toList) from rfl, show (ByteArray.mk #[44]).data.toList = [44] from rfl, HJ] at HC
      rw [show (⟨((jnT (l.map wdY)).map UInt8.ofNat).toArray⟩ : ByteArray) = str (txY l) from rfl] at HC
      rw [hwl] at HC
      clear HJ hcell hrd hlen
      go_wp2_with fail
      refine HC.mono ?_
      rintro e w2 ⟨rfl, hb2⟩
      have hbw := hbel.trans (hb2.mono hbel.size)
      clear HC
      go_wp2
      go_ret
      exact ⟨rfl, hbw⟩

/-- What SetText tells. -/
def stT (l : List YgP) : Int × List Nat := if rfV l = 0 then (0, txY l) else (rfV l, [])

set_option maxHeartbeats 1600000 in
set_option maxRecDepth 100000 in
theorem setText_any (a : Option Addr) (n cap : Nat) (l : List YgP) (w : World) (hl : l.length = n) (hr : RdY w a l) (hn : n ≤ 1048576) (ht : TabW w) :
    Calls Tryd.prog 11 #[.slice a n cap] w fun e w' => e = .returned (.agg #[.int .i64 (stT l).1, .string (str (stT l).2)]) ∧ Below w.heap.size w w' := by
  have HF := fun w hr => rangesFault_any a n cap l w hl hr hn
  have hb0 : Below w.heap.size w (w.alloc (.cells #[.int .i64 0, .string ⟨#[]⟩] 33)) := (Below.refl _ _).alloc (Nat.le_refl _) _
  have hr0 := hr.below hb0
  have hWs : (w.alloc (.cells #[.int .i64 0, .string ⟨#[]⟩] 33)).heap.size = w.heap.size + 1 := by simp
  by_cases h0 : rfV l = 0
  · obtain ⟨hA, hm1, hm8⟩ := rfV_A h0
    have H : Hid (stT l = (0, txY l)) := if_pos h0
    go_enter Tryd.func11, Tryd.ntmps11
    go_wp2_with fail
    refine (HF _ hr0).mono ?_
    rintro e w1 ⟨rfl, hb1⟩
    rw [h0]
    have hbl1 : Below (w.heap.size + 1) (w.alloc (.cells #[.int .i64 0, .string ⟨#[]⟩] 33)) w1 := by rw [← hWs]; exact hb1
    have hr1 := hr0.below hb1
    have ht1 := TabW.below (TabW.below ht hb0) hb1
    generalize hW : w.alloc (.cells #[.int .i64 0, .string ⟨#[]⟩] 33) = W at *
    have hz1 : w.heap.size + 1 ≤ w1.heap.size := by have := hbl1.size; omega
    clear hb1
    go_wp2_with fail
    refine (reachesOf_any a n cap l _ hl hr1 hn).mono ?_
    rintro e w2 ⟨v, rfl, hown, hb2⟩
    obtain ⟨av, cv, ev, _, _⟩ := hown.form
    rw [hl] at ev
    subst ev
    have hbl2 := hbl1.trans (hb2.mono hz1)
    have hz2 : w.heap.size + 1 ≤ w2.heap.size := by have := hbl2.size; omega
    have ht2 := TabW.below ht1 hb2
    go_wp2_with fail
    refine (tellSet_any av n cv l _ hl hown.rd.2 (by omega) (by omega) hA ht2).mono ?_
    rintro e w3 ⟨rfl, hb3⟩
    have hbl3 := hbl2.trans (hb3.mono hz2)
    clear hown hb2 hb3 hbl1 hbl2
    have hbE : Below w.heap.size w w3 := hb0.trans (hbl3.mono (by omega))
    have HSZ : (str (txY l)).size ≤ 64 := by rw [str_size]; have := txY_len l; omega
    obtain ⟨sx, hsx⟩ : ∃ sx, sx = str (txY l) := ⟨_, rfl⟩
    rw [← hsx] at HSZ ⊢
    obtain ⟨hcw, hcw1, hfw, hfw1⟩ := res_block hW hbl3
    obtain ⟨hk0, hk1⟩ := res_cells hcw hcw1 (.int .i64 0) (.string sx)
    have HX : Hid ((stT l).1 = 0 ∧ str (stT l).2 = sx) := by
      refine ⟨by rw [H.out], ?_⟩
      rw [H.out, hsx]
    clear hsx
    go_wp2
    refine bodyPost_ret (v := .agg #[.int .i64 0, .string sx]) (by simp [results, Tryd.results11, go_sem, hk0, hk1]) rfl ?_
    refine ⟨?_, (hbE.setCell (Nat.le_refl _) _).setCell (Nat.le_refl _) _⟩
    rw [HX.out.1, HX.out.2]
  · have H : Hid (stT l = (rfV l, [])) := if_neg h0
    have h3 := rfV_three l
    generalize rfV l = c at *
    have hc : c = 2 ∨ c = 3 := by omega
    have HS : Hid (str [] = ⟨#[]⟩) := rfl
    rcases hc with rfl | rfl
    all_goals
      go_enter Tryd.func11, Tryd.ntmps11
      go_wp2_with fail
      refine (HF _ hr0).mono ?_
      rintro e w1 ⟨rfl, hb1⟩
      have hbl : Below (w.heap.size + 1) (w.alloc (.cells #[.int .i64 0, .string ⟨#[]⟩] 33)) w1 := hb1.mono (by simp)
      have hbel : Below w.heap.size w w1 := hb0.trans (hbl.mono (by omega))
    · obtain ⟨hcw, hcw1, hfw, hfw1⟩ := res_block rfl hbl
      obtain ⟨hk0, hk1⟩ := res_cells hcw hcw1 (.int .i64 2) (.string ⟨#[]⟩)
      clear hb1 hbl hr hr0 HF
      go_wp2
      refine bodyPost_ret (v := .agg #[.int .i64 2, .string ⟨#[]⟩]) (by simp [results, Tryd.results11, go_sem, hk0, hk1]) rfl ?_
      exact ⟨by rw [H.out, HS.out], (hbel.setCell (Nat.le_refl _) _).setCell (Nat.le_refl _) _⟩
    · obtain ⟨hcw, hcw1, hfw, hfw1⟩ := res_block rfl hbl
      obtain ⟨hk0, hk1⟩ := res_cells hcw hcw1 (.int .i64 3) (.string ⟨#[]⟩)
      clear hb1 hbl hr hr0 HF
      go_wp2
      refine bodyPost_ret (v := .agg #[.int .i64 3, .string ⟨#[]⟩]) (by simp [results, Tryd.results11, go_sem, hk0, hk1]) rfl ?_
      exact ⟨by rw [H.out, HS.out], (hbel.setCell (Nat.le_refl _) _).setCell (Nat.le_refl _) _⟩

end Go.Proofs.YtlkfmgfblfkgbaaDoor
