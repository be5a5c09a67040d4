/- FieldOf, the program's, at every slice of fields and every text: by the same plain function as the model's · The laws' helpers that write marks into an answer's numbers, look for them again, and hold two answers with numbers against each other, do what their texts say; at most 1048576 numbers · A row of the call's own, behind a call that wrote into another row; no conditions beyond those that each fact names. -/
import Derived.Test.YtkjnhcnbbojajaaDoorFdpToHdr2
import Derived.Test.YtkjnhcnbbojajaaDoorMemToMrk0
import Derived.Handy
import Derived.Test.YtkjnhcnbbojajaaDoorRdfToShp
namespace Go.Proofs.YtkjnhcnbbojajaaDoor
open Go.RowKit

theorem smallLetters_t (s : ByteArray) (w : World) (hs : s.size ≤ 1048576) : Calls Tryd.prog 80 #[.string s] w fun e w' => e = .returned (.string (lowT s)) ∧ Below w.heap.size w w' := by
  have h := smallLetters_any (bts s) _ w rfl (bts_isB s) (by rw [bts_len]; exact hs)
  rw [str_bts] at h; exact h

set_option maxHeartbeats 1600000 in
set_option maxRecDepth 100000 in
theorem fieldOf_any (a : Option Addr) (n cap : Nat) (l : List FldP) (nm : ByteArray) (w : World) (hl : l.length = n) (hr : RdF w a l) (hn : n ≤ 1048576) (hfit : Fit l) (hnm : nm.size ≤ 1048576) :
    Calls Tryd.prog 71 #[.slice a n cap, .string nm] w fun e w' => e = .returned (.agg #[.int .i64 (foC l nm), .string (foT l nm)]) ∧ Below w.heap.size w w' := by
  have hb0 : Below w.heap.size w (w.alloc (.cells #[.int .i64 0, .string ⟨#[]⟩] 113)) := (Below.refl _ _).alloc (Nat.le_refl _) _
  have HF := fieldsFault_any a n cap l _ hl (hr.below hb0) hn hfit
  have HL : Hid (l.length = n) := hl
  have HB : Hid (fdF l ≠ 0 → foC l nm = fdF l ∧ foT l nm = ⟨#[]⟩) := fo_bad nm
  have HN : Hid (fdF l = 0 → fdOf l nm = none → foC l nm = 4 ∧ foT l nm = ⟨#[]⟩) := fo_none
  have HS : Hid (fdF l = 0 → ∀ v, fdOf l nm = some v → foC l nm = 0 ∧ foT l nm = v) := fun h v h1 => fo_some h h1
  have HX : Hid (∀ w, Calls Tryd.prog 80 #[.string nm] w fun e w' => e = .returned (.string (lowT nm)) ∧ Below w.heap.size w w') := fun w => smallLetters_t nm w hnm
  clear hl
  generalize fdF l = c at *
  generalize foC l nm = rc at *
  generalize foT l nm = rt at *
  go_enter Tryd.func71, Tryd.ntmps71
  go_wp2_with fail
  refine HF.mono ?_
  rintro e w1 ⟨rfl, hb1⟩
  have hbl : Below (w.heap.size + 1) (w.alloc (.cells #[.int .i64 0, .string ⟨#[]⟩] 113)) w1 := hb1.mono (by simp)
  have hsW : (w.alloc (.cells #[.int .i64 0, .string ⟨#[]⟩] 113)).heap.size = w.heap.size + 1 := by simp
  clear HF hb1
  generalize hW : w.alloc (.cells #[.int .i64 0, .string ⟨#[]⟩] 113) = W at *
  have hbw := hb0.trans (hbl.mono (by omega))
  by_cases hc : c = 0
  · subst hc
    have hz1 := hbl.size
    rw [hsW] at hz1
    go_wp2_with fail
    refine (HX.out _).mono ?_
    rintro e w2 ⟨rfl, hb2⟩
    have hbl2 := hbl.trans (hb2.mono hz1)
    have hrW := hr.below hb0
    have HE : Hid (∀ k, k < n → lowT (nthF l k).1 = lowT nm → (∀ i, i < k → lowT (nthF l i).1 ≠ lowT nm) → rc = 0 ∧ rt = (nthF l k).2) := fun k hk h1 h2 => HS.out trivial _ (fdOf_some (by have := HL.out; omega) h2 h1)
    have HU : Hid ((∀ i, i < n → lowT (nthF l i).1 ≠ lowT nm) → rc = 4 ∧ rt = ⟨#[]⟩) := fun h => HN.out trivial (fdOf_none (fun i hi => h i (by have := HL.out; omega)))
    generalize lowT nm = s at *
    clear HB HN HS HX hb2 hbl hbw hz1
    go_wp2
    go_loopw [19] (fun v wr => ∃ k : Nat, k ≤ n ∧ v = .int .i64 k ∧ Hid (∀ i, i < k → lowT (nthF l i).1 ≠ s) ∧ Below (w.heap.size + 1) W wr) (fun v _ => n - (intOf v).toNat)
    case atStart => exact ⟨0, Nat.zero_le _, rfl, fun i hi => absurd hi (Nat.not_lt_zero _), hbl2⟩
    case round =>
      obtain ⟨k, hk, rfl, HA, hbel⟩ := hrel
      have hz := hbel.size
      rw [hsW] at hz
      have hbw := hb0.trans (hbel.mono (by omega))
      obtain ⟨hcw, hcw1, hfw, hfw1⟩ := res_block hW hbel
      by_cases hkn : k < n
      · obtain ⟨b, off, rfl, hblt, hcell⟩ := hrW.at_ (by have := HL.out; omega)
        rw [hsW] at hblt
        have hc0 : wr.cell? ⟨b, off + k * 2, none⟩ = some (.string (nthF l k).1) := (hbel.cell (p := ⟨b, off + k * 2, none⟩) hblt).trans (hcell k (by have := HL.out; omega)).1
        have hc1 : wr.cell? ⟨b, off + k * 2 + 1, none⟩ = some (.string (nthF l k).2) := (hbel.cell (p := ⟨b, off + k * 2 + 1, none⟩) hblt).trans (hcell k (by have := HL.out; omega)).2
        have hf := hfit (nthF l k) (by rw [nthF_get (by have := HL.out; omega)]; exact List.getElem_mem _)
        have hki : (k : Int) < (n : Int) := by omega
        have HY : Hid (lowT (nthF l k).1 = s → rc = 0 ∧ rt = (nthF l k).2) := fun h => HE.out k hkn h HA.out
        have HM : Hid (lowT (nthF l k).1 ≠ s → ∀ i, i < k + 1 → lowT (nthF l i).1 ≠ s) := fun h i hi => by
          by_cases he : i = k
          · subst he; exact h
          · exact HA.out i (by omega)
        clear hcell HE HU HA
        generalize nthF l k = p at *
        obtain ⟨x, y⟩ := p
        simp only at hc0 hc1 hf HY HM
        have HC : Hid (∀ w, Calls Tryd.prog 80 #[.string x] w fun e w' => e = .returned (.string (lowT x)) ∧ Below w.heap.size w w') := fun w => smallLetters_t x w hf.1
        generalize lowT x = u at *
        have hbA : Below (w.heap.size + 1) W (wr.alloc (.cells #[.string x, .string y] 129)) := hbel.alloc (by omega) _
        have hsA : (wr.alloc (.cells #[.string x, .string y] 129)).heap.size = wr.heap.size + 1 := by simp
        have hcA : (wr.alloc (.cells #[.string x, .string y] 129)).cell? ⟨wr.heap.size, 1, none⟩ = some (.string y) := by simp
        go_wp2_with fail
        refine (HC.out _).mono ?_
        rintro e w3 ⟨rfl, hb3⟩
        generalize hWA : wr.alloc (.cells #[.string x, .string y] 129) = WA at *
        have hbel3 := hbA.trans (hb3.mono (by omega))
        have hc3 : w3.cell? ⟨wr.heap.size, 1, none⟩ = some (.string y) := (hb3.cell (p := ⟨wr.heap.size, 1, none⟩) (by show wr.heap.size < WA.heap.size; omega)).trans hcA
        have hlt3 : wr.heap.size < w3.heap.size := by have := hb3.size; omega
        clear hc0 hc1 HC hb3 hbA hcA hf
        obtain ⟨hcw3, hcw31, hfw3, hfw31⟩ := res_block hW hbel3
        have hbw3 := hb0.trans (hbel3.mono (by omega))
        by_cases hx : u = s
        · obtain ⟨rfl, rfl⟩ := HY.out hx
          subst hx
          clear HY HM hcw hcw1 hfw hfw1 hbw
          obtain ⟨hk0, hk1⟩ := res_cells hcw3 hcw31 (.int .i64 0) (.string rt)
          go_wp2
          refine bodyPost_ret (v := .agg #[.int .i64 0, .string rt]) (by simp [results, Tryd.results71, go_sem, hk0, hk1]) rfl ?_
          exact ⟨rfl, (hbw3.setCell (by simp) _).setCell (by simp) _⟩
        · have HM' : Hid (_) := HM.out hx
          have e0 := texts_ne hx
          clear HY HM hcw hcw1 hfw hfw1 hcw3 hcw31 hfw3 hfw31 hbw
          go_wp2
          go_roundw
          case rel => exact ⟨k + 1, by omega, by go_num, HM'.out, hbel3⟩
          case measure => simp [intOf]; omega
      · have hki : ¬ (k : Int) < (n : Int) := by omega
        obtain ⟨rfl, rfl⟩ := HU.out (fun i hi => HA.out i (by omega))
        obtain ⟨hk0, hk1⟩ := res_cells hcw hcw1 (.int .i64 4) (.string ⟨#[]⟩)
        clear HE HU HA
        go_wp2
        refine bodyPost_ret (v := .agg #[.int .i64 4, .string ⟨#[]⟩]) (by simp [results, Tryd.results71, go_sem, hk0, hk1]) rfl ?_
        exact ⟨rfl, (hbw.setCell (by simp) _).setCell (by simp) _⟩
  · obtain ⟨rfl, rfl⟩ := HB.out hc
    clear HN HS HB
    obtain ⟨hcw, hcw1, hfw, hfw1⟩ := res_block hW hbl
    obtain ⟨hk0, hk1⟩ := res_cells hcw hcw1 (.int .i64 rc) (.string ⟨#[]⟩)
    have hc' : (rc == 0) = false := by simp [hc]
    go_wp2
    refine bodyPost_ret (v := .agg #[.int .i64 rc, .string ⟨#[]⟩]) (by simp [results, Tryd.results71, go_sem, hk0, hk1]) rfl ?_
    exact ⟨rfl, (hbw.setCell (by simp) _).setCell (by simp) _⟩
end Go.Proofs.YtkjnhcnbbojajaaDoor

namespace Go.Proofs.YtkjnhcnbbojajaaDoor
open Go.RowKit

/-- The marks: n numbers from k on. -/
def marksI (n k : Nat) : List Int := (List.range n).map fun i => ((k + i : Nat) : Int)
theorem marksI_len (n k : Nat) : (marksI n k).length = n := by simp [marksI]
theorem marksI_nth {n k i : Nat} (h : i < n) : nthI (marksI n k) i = ((k + i : Nat) : Int) := by
  rw [nthI_get (by rw [marksI_len]; exact h)]; simp [marksI]
def mhalfI (l : List Int) (k i : Nat) : List Int := marksI i k ++ l.drop i
theorem mhalfI_zero (l : List Int) (k : Nat) : mhalfI l k 0 = l := by simp [mhalfI, marksI]
theorem mhalfI_all (l : List Int) (k : Nat) : mhalfI l k l.length = marksI l.length k := by simp [mhalfI]
theorem mhalfI_len (l : List Int) (k i : Nat) (h : i ≤ l.length) : (mhalfI l k i).length = l.length := by simp [mhalfI, marksI_len]; omega
theorem mhalfI_set (l : List Int) (k i : Nat) (h : i < l.length) : (ic (mhalfI l k i)).set i (.int .i64 ((k + i : Nat) : Int)) = ic (mhalfI l k (i + 1)) := by
  have hm : (ic (marksI i k)).length = i := by rw [ic_len, marksI_len]
  have e : marksI (i + 1) k = marksI i k ++ [((k + i : Nat) : Int)] := by simp [marksI, List.range_succ]
  unfold mhalfI
  rw [e, ic_app, List.set_append, hm, if_neg (Nat.lt_irrefl i), Nat.sub_self, drop_consI l i h]
  simp [ic]

end Go.Proofs.YtkjnhcnbbojajaaDoor

namespace Go.Proofs.YtkjnhcnbbojajaaDoor
open Go.RowKit

theorem OwnI.far {w w' : World} {B : Nat} {v : Value} {l : List Int} {row : Option Nat} (h : OwnI w B v l) (hg : w.grownBy w' row) (hne : ∀ b, v.ownBlock = some b → some b ≠ row) : OwnI w' B v l := by
  refine ⟨h.1, ?_⟩
  rcases h.2 with h' | ⟨g, cap, cur, h1, h2, h3, h4⟩
  · exact .inl h'
  · refine .inr ⟨g, cap, cur, h1, h2, ?_, h4⟩
    have hlt : g < w.heap.size := by
      rcases Nat.lt_or_ge g w.heap.size with hlt | hge
      · exact hlt
      · simp [Array.getElem?_eq_none hge] at h3
    rw [hg.block g hlt (hne g (by rw [h1]; rfl))]; exact h3
end Go.Proofs.YtkjnhcnbbojajaaDoor
