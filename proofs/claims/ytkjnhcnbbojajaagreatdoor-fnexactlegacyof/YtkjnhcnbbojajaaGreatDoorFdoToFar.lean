/- FieldOf, the program's, at every slice of fields and every text: by the same plain function as the model's · The laws' helpers that write marks into an answer's numbers, look for them again, and hold two answers with numbers against each other, do what their texts say; at most 1048576 numbers · A row of the call's own, behind a call that wrote into another row; no conditions beyond those that each fact names. -/
import Derived.Test.YtkjnhcnbbojajaaGreatDoorFdpToHdr2
import Derived.Test.YtkjnhcnbbojajaaGreatDoorMemToMrk0
import Derived.Handy
import Derived.Test.YtkjnhcnbbojajaaGreatDoorRdfToShp
namespace Go.Proofs.YtkjnhcnbbojajaaGreatDoor
open Go.RowKit

theorem smallLetters_t (s : ByteArray) (w : World) (hs : s.size ≤ 1048576) : Calls Tryz.prog 78 #[.string s] w fun e w' => e = .returned (.string (lowT s)) ∧ Below w.heap.size w w' := by
  have h := smallLetters_any (bts s) _ w rfl (bts_isB s) (by rw [bts_len]; exact hs)
  rw [str_bts] at h; exact h

set_option maxHeartbeats 1600000 in
set_option maxRecDepth 100000 in
theorem fieldOf_any (a : Option Addr) (n cap : Nat) (l : List FldP) (nm : ByteArray) (w : World) (hl : l.length = n) (hr : RdF w a l) (hn : n ≤ 1048576) (hfit : Fit l) (hnm : nm.size ≤ 1048576) :
    Calls Tryz.prog 188 #[.slice a n cap, .string nm] w fun e w' => e = .returned (.agg #[.int .i64 (foC l nm), .string (foT l nm)]) ∧ Below w.heap.size w w' := by
  have hb0 : Below w.heap.size w (w.alloc (.cells #[.int .i64 0, .string ⟨#[]⟩] 51)) := (Below.refl _ _).alloc (Nat.le_refl _) _
  have HF := fieldsFault_any a n cap l _ hl (hr.below hb0) hn hfit
  have HL : Hid (l.length = n) := hl
  have HB : Hid (fdF l ≠ 0 → foC l nm = fdF l ∧ foT l nm = ⟨#[]⟩) := fo_bad nm
  have HN : Hid (fdF l = 0 → fdOf l nm = none → foC l nm = 4 ∧ foT l nm = ⟨#[]⟩) := fo_none
  have HS : Hid (fdF l = 0 → ∀ v, fdOf l nm = some v → foC l nm = 0 ∧ foT l nm = v) := fun h v h1 => fo_some h h1
  have HX : Hid (∀ w, Calls Tryz.prog 78 #[.string nm] w fun e w' => e = .returned (.string (lowT nm)) ∧ Below w.heap.size w w') := fun w => smallLetters_t nm w hnm
  clear hl
  generalize fdF l = c at *
  generalize foC l nm = rc at *
  generalize foT l nm = rt at *
  go_enter Tryz.func188, Tryz.ntmps188
  go_wp2_with fail
  refine HF.mono ?_
  rintro e w1 ⟨rfl, hb1⟩
  have hbl : Below (w.heap.size + 1) (w.alloc (.cells #[.int .i64 0, .string ⟨#[]⟩] 51)) w1 := hb1.mono (by simp)
  have hsW : (w.alloc (.cells #[.int .i64 0, .string ⟨#[]⟩] 51)).heap.size = w.heap.size + 1 := by simp
  clear HF hb1
  generalize hW : w.alloc (.cells #[.int .i64 0, .string ⟨#[]⟩] 51) = W at *
  have hbw := hb0.trans (hbl.mono (by omega))
  by_cases hc : c = 0
  · subst hc
    have hz1 := hbl.size
    rw [hsW] at hz1
    go_wp2_with fail
    refine (HX.out _).mono ?_
    rintro e w2 ⟨rfl, hb2⟩
    have hbl2 := hbl.trans (hb2.mono hz1)
    have hrW := hr.below hb0
    have HE : Hid (∀ k, k < n → lowT (nthF l k).1 = lowT nm → (∀ i, i < k → lowT (nthF l i).1 ≠ lowT nm) → rc = 0 ∧ rt = (nthF l k).2) := fun k hk h1 h2 => HS.out trivial _ (fdOf_some (by have := HL.out; omega) h2 h1)
    have HU : Hid ((∀ i, i < n → lowT (nthF l i).1 ≠ lowT nm) → rc = 4 ∧ rt = ⟨#[]⟩) := fun h => HN.out trivial (fdOf_none (fun i hi => h i (by have := HL.out; omega)))
    generalize lowT nm = s at *
    clear HB HN HS HX hb2 hbl hbw hz1
    go_wp2
    go_loopw [19] (fun v wr => ∃ k : Nat, k ≤ n ∧ v = .int .i64 k ∧ Hid (∀ i, i < k → lowT (nthF l i).1 ≠ s) ∧ Below (w.heap.size + 1) W wr) (fun v _ => n - (intOf v).toNat)
    case atStart => exact ⟨0, Nat.zero_le _, rfl, fun i hi => absurd hi (Nat.not_lt_zero _), hbl2⟩
    case round =>
      obtain ⟨k, hk, rfl, HA, hbel⟩ := hrel
      have hz := hbel.size
      rw [hsW] at hz
      have hbw := hb0.trans (hbel.mono (by omega))
      obtain ⟨hcw, hcw1, hfw, hfw1⟩ := res_block hW hbel
      by_cases hkn : k < n
      · obtain ⟨b, off, rfl, hblt, hcell⟩ := hrW.at_ (by have := HL.out; omega)
        rw [hsW] at hblt
        have hc0 : wr.cell? ⟨b, off + k * 2, none⟩ = some (.string (nthF l k).1) := (hbel.cell (p := ⟨b, off + k * 2, none⟩) hblt).trans (hcell k (by have := HL.out; omega)).1
        have hc1 : wr.cell? ⟨b, off + k * 2 + 1, none⟩ = some (.string (nthF l k).2) := (hbel.cell (p := ⟨b, off + k * 2 + 1, none⟩) hblt).trans (hcell k (by have := HL.out; omega)).2
        have hf := hfit (nthF l k) (by rw [nthF_get (by have := HL.out; omega)]; exact List.getElem_mem _)
        have hki : (k : Int) < (n : Int) := by omega
        have HY : Hid (lowT (nthF l k).1 = s → rc = 0 ∧ rt = (nthF l k).2) := fun h => HE.out k hkn h HA.out
        have HM : Hid (lowT (nthF l k).1 ≠ s → ∀ i, i < k + 1 → lowT (nthF l i).1 ≠ s) := fun h i hi => by
          by_cases he : i = k
          · subst he; exact h
          · exact HA.out i (by omega)
        clear hcell HE HU HA
        generalize nthF l k = p at *
        obtain ⟨x, y⟩ := p
        simp only at hc0 hc1 hf HY HM
        have HC : Hid (∀ w, Calls Tryz.prog 78 #[.string x] w fun e w' => e = .returned (.string (lowT x)) ∧ Below w.heap.size w w') := fun w => smallLetters_t x w hf.1
        generalize lowT x = u at *
        have hbA : Below (w.heap.size + 1) W (wr.alloc (.cells #[.string x, .string y] 128)) := hbel.alloc (by omega) _
        have hsA : (wr.alloc (.cells #[.string x, .string y] 128)).heap.size = wr.heap.size + 1 := by simp
        have hcA : (wr.alloc (.cells #[.string x, .string y] 128)).cell? ⟨wr.heap.size, 1, none⟩ = some (.string y) := by simp
        go_wp2_with fail
        refine (HC.out _).mono ?_
        rintro e w3 ⟨rfl, hb3⟩
        generalize hWA : wr.alloc (.cells #[.string x, .string y] 128) = WA at *
        have hbel3 := hbA.trans (hb3.mono (by omega))
        have hc3 : w3.cell? ⟨wr.heap.size, 1, none⟩ = some (.string y) := (hb3.cell (p := ⟨wr.heap.size, 1, none⟩) (by show wr.heap.size < WA.heap.size; omega)).trans hcA
        have hlt3 : wr.heap.size < w3.heap.size := by have := hb3.size; omega
        clear hc0 hc1 HC hb3 hbA hcA hf
        obtain ⟨hcw3, hcw31, hfw3, hfw31⟩ := res_block hW hbel3
        have hbw3 := hb0.trans (hbel3.mono (by omega))
        by_cases hx : u = s
        · obtain ⟨rfl, rfl⟩ := HY.out hx
          subst hx
          clear HY HM hcw hcw1 hfw hfw1 hbw
          obtain ⟨hk0, hk1⟩ := res_cells hcw3 hcw31 (.int .i64 0) (.string rt)
          go_wp2
          refine bodyPost_ret (v := .agg #[.int .i64 0, .string rt]) (by simp [results, Tryz.results188, go_sem, hk0, hk1]) rfl ?_
          exact ⟨rfl, (hbw3.setCell (by simp) _).setCell (by simp) _⟩
        · have HM' : Hid (_) := HM.out hx
          have e0 := texts_ne hx
          clear HY HM hcw hcw1 hfw hfw1 hcw3 hcw31 hfw3 hfw31 hbw
          go_wp2
          go_roundw
          case rel => exact ⟨k + 1, by omega, by go_num, HM'.out, hbel3⟩
          case measure => simp [intOf]; omega
      · have hki : ¬ (k : Int) < (n : Int) := by omega
        obtain ⟨rfl, rfl⟩ := HU.out (fun i hi => HA.out i (by omega))
        obtain ⟨hk0, hk1⟩ := res_cells hcw hcw1 (.int .i64 4) (.string ⟨#[]⟩)
        clear HE HU HA
        go_wp2
        refine bodyPost_ret (v := .agg #[.int .i64 4, .string ⟨#[]⟩]) (by simp [results, Tryz.results188, go_sem, hk0, hk1]) rfl ?_
        exact ⟨rfl, (hbw.setCell (by simp) _).setCell (by simp) _⟩
  · obtain ⟨rfl, rfl⟩ := HB.out hc
    clear HN HS HB
    obtain ⟨hcw, hcw1, hfw, hfw1⟩ := res_block hW hbl
    obtain ⟨hk0, hk1⟩ := res_cells hcw hcw1 (.int .i64 rc) (.string ⟨#[]⟩)
    have hc' : (rc == 0) = false := by simp [hc]
    go_wp2
    refine bodyPost_ret (v := .agg #[.int .i64 rc, .string ⟨#[]⟩]) (by simp [results, Tryz.results188, go_sem, hk0, hk1]) rfl ?_
    exact ⟨rfl, (hbw.setCell (by simp) _).setCell (by simp) _⟩
end Go.Proofs.YtkjnhcnbbojajaaGreatDoor

namespace Go.Proofs.YtkjnhcnbbojajaaGreatDoor
open Go.RowKit

/-- The marks: n numbers from k on. -/
def marksI (n k : Nat) : List Int := (List.range n).map fun i => ((k + i : Nat) : Int)
theorem marksI_len (n k : Nat) : (marksI n k).length = n := by simp [marksI]
theorem marksI_nth {n k i : Nat} (h : i < n) : nthI (marksI n k) i = ((k + i : Nat) : Int) := by
  rw [nthI_get (by rw [marksI_len]; exact h)]; simp [marksI]
def mhalfI (l : List Int) (k i : Nat) : List Int := marksI i k ++ l.drop i
theorem mhalfI_zero (l : List Int) (k : Nat) : mhalfI l k 0 = l := by simp [mhalfI, marksI]
theorem mhalfI_all (l : List Int) (k : Nat) : mhalfI l k l.length = marksI l.length k := by simp [mhalfI]
theorem mhalfI_len (l : List Int) (k i : Nat) (h : i ≤ l.length) : (mhalfI l k i).length = l.length := by simp [mhalfI, marksI_len]; omega
theorem mhalfI_set (l : List Int) (k i : Nat) (h : i < l.length) : (ic (mhalfI l k i)).set i (.int .i64 ((k + i : Nat) : Int)) = ic (mhalfI l k (i + 1)) := by
  have hm : (ic (marksI i k)).length = i := by rw [ic_len, marksI_len]
  have e : marksI (i + 1) k = marksI i k ++ [((k + i : Nat) : Int)] := by simp [marksI, List.range_succ]
  unfold mhalfI
  rw [e, ic_app, List.set_append, hm, if_neg (Nat.lt_irrefl i), Nat.sub_self, drop_consI l i h]
  simp [ic]

set_option maxHeartbeats 1600000 in
set_option maxRecDepth 100000 in
theorem markInt64S_any (a : Option Addr) (n cap k B : Nat) (l : List Int) (w : World) (hown : OwnI w B (.slice a n cap) l) (hn : n ≤ 1048576) (hk : k ≤ 1048576) :
    Calls Tryz.prog 85 #[.slice a n cap, .int .i64 (k : Int)] w fun e w' =>
      e = .returned (.int .i64 ((k + n : Nat) : Int)) ∧ OwnI w' B (.slice a n cap) (marksI n k) ∧ w.grownBy w' (Value.slice a n cap).ownBlock := by
  obtain ⟨hl, hr⟩ := hown.rd
  go_enter Tryz.func85, Tryz.ntmps85
  go_wp2
  go_loopw [1, 5] (fun q i wr => ∃ j : Nat, j ≤ n ∧ i = .int .i64 j ∧ q = .int .i64 ((k + j : Nat) : Int) ∧ OwnI wr B (.slice a n cap) (mhalfI l k j) ∧ w.grownBy wr (Value.slice a n cap).ownBlock)
    (fun _ i _ => n - (intOf i).toNat)
  case atStart => exact ⟨0, Nat.zero_le _, rfl, rfl, by rw [mhalfI_zero]; exact hown, World.grownBy.refl _ _⟩
  case round =>
    obtain ⟨j, hj, rfl, rfl, hown', hgr⟩ := hrel
    clear hown
    by_cases hjn : j < n
    · obtain ⟨g, off, ha, _, hcell⟩ := hown'.rd.2.at_ (by rw [mhalfI_len _ _ _ (by omega)]; omega)
      obtain ⟨ad, hform⟩ : ∃ g', a = some ⟨g', 0, none⟩ := by
        rcases hown'.2 with ⟨h0, h1⟩ | ⟨g', cap', cur, h', _⟩
        · rw [mhalfI_len _ _ _ (by omega)] at h1; omega
        · simp at h'; exact ⟨g', h'.1⟩
      rw [ha] at hform
      obtain ⟨rfl, rfl⟩ : g = ad ∧ off = 0 := by simpa using hform
      subst ha
      have hlen : (mhalfI l k j).length = n := by rw [mhalfI_len _ _ _ (by omega)]; exact hl
      have ho2 : wr.ownsRow B 2 1 (.slice (some ⟨g, 0, none⟩) n cap) n (ic (mhalfI l k j)) := by have := hown'; unfold OwnI at this; rw [hlen] at this; exact this
      have hc : wr.cell? ⟨g, j, none⟩ = some (.int .i64 (nthI (mhalfI l k j) j)) := by have := hcell j (by omega); rw [Nat.zero_add] at this; exact this
      have hf := ho2.frozenAt j
      obtain ⟨hst, hgr2⟩ := ho2.stored j (.int .i64 ((k + j : Nat) : Int))
      rw [mhalfI_set l k j (by omega)] at hst
      have HO : Hid (OwnI (wr.setCell ⟨g, j, none⟩ (.int .i64 ((k + j : Nat) : Int))) B (.slice (some ⟨g, 0, none⟩) n cap) (mhalfI l k (j + 1))) := by
        show OwnI _ _ _ _
        unfold OwnI
        rw [mhalfI_len _ _ _ (by omega), hl]; exact hst
      have hgr3 : w.grownBy (wr.setCell ⟨g, j, none⟩ (.int .i64 ((k + j : Nat) : Int))) (some g) := ⟨hgr2.os.trans hgr.os, hgr2.tape.trans hgr.tape, hgr2.output.trans hgr.output, Nat.le_trans hgr.size hgr2.size, fun b hb hne => (hgr2.block b (Nat.lt_of_lt_of_le hb hgr.size) hne).trans (hgr.block b hb hne)⟩
      have e0 : ((k + j : Nat) : Int) = (k : Int) + (j : Int) := by omega
      rw [e0] at HO hgr3
      clear hst hgr2 ho2 hcell hown' hgr hform hr e0
      go_wp2
      go_roundw
      case rel => exact ⟨j + 1, by omega, by go_num, by go_num, HO.out, hgr3⟩
      case measure => simp [intOf]; omega
    · have hjj : j = n := by omega
      subst hjj
      rw [← hl, mhalfI_all, hl] at hown'
      go_wp2
      go_ret
      exact ⟨rfl, hown', hgr⟩

set_option maxHeartbeats 800000 in
set_option maxRecDepth 100000 in
theorem heldInt64S_any (a : Option Addr) (n cap k : Nat) (w : World) (hr : RdI w a (marksI n k)) (hn : n ≤ 1048576) (hk : k ≤ 1048576) :
    Calls Tryz.prog 86 #[.slice a n cap, .int .i64 (k : Int)] w fun e w' => e = .returned (.int .i64 ((k + n : Nat) : Int)) ∧ w = w' := by
  go_enter Tryz.func86, Tryz.ntmps86
  go_wp2
  go_loop [1, 5] (fun q i => ∃ j : Nat, j ≤ n ∧ i = .int .i64 j ∧ q = .int .i64 ((k + j : Nat) : Int)) (fun _ i => n - (intOf i).toNat)
  case atStart => exact ⟨0, Nat.zero_le _, rfl, rfl⟩
  case round =>
    obtain ⟨j, hj, rfl, rfl⟩ := hrel
    by_cases hjn : j < n
    · obtain ⟨b, off, rfl, hblt, hcell⟩ := hr.at_ (by rw [marksI_len]; omega)
      have hc := hcell j (by rw [marksI_len]; exact hjn)
      rw [marksI_nth hjn] at hc
      rw [show ((k + j : Nat) : Int) = (k : Int) + (j : Int) by omega] at hc
      clear hcell hr
      go_wp2
      go_round
      case rel => exact ⟨j + 1, by omega, by go_num, by go_num⟩
      case measure => simp [intOf]; omega
    · have hjj : j = n := by omega
      subst hjj
      go_wp2
      go_ret
      exact ⟨rfl, rfl⟩

set_option maxHeartbeats 800000 in
set_option maxRecDepth 100000 in
theorem markCodesResult_any (c : Int) (a : Option Addr) (n cap B : Nat) (l : List Int) (w : World) (hown : OwnI w B (.slice a n cap) l) (hn : n ≤ 1048576) :
    Calls Tryz.prog 66 #[.agg #[.int .i64 c, .slice a n cap], .int .i64 1] w fun e w' =>
      e = .returned (.int .i64 ((1 + n : Nat) : Int)) ∧ OwnI w' B (.slice a n cap) (marksI n 1) ∧ w.grownBy w' (Value.slice a n cap).ownBlock := by
  go_enter Tryz.func66, Tryz.ntmps66
  go_wp2_with fail
  refine (markInt64S_any a n cap 1 B l _ (by exact hown.alloc _) hn (by omega)).mono ?_
  rintro e w1 ⟨rfl, h1, h2⟩
  have h3 := grown_alloc h2
  clear h2
  go_wp2
  go_ret
  exact ⟨rfl, h1, h3⟩

set_option maxHeartbeats 800000 in
set_option maxRecDepth 100000 in
theorem heldCodesResult_any (c : Int) (a : Option Addr) (n cap : Nat) (w : World) (hr : RdI w a (marksI n 1)) (hn : n ≤ 1048576) :
    Calls Tryz.prog 67 #[.agg #[.int .i64 c, .slice a n cap], .int .i64 1] w fun e w' =>
      e = .returned (.int .i64 ((1 + n : Nat) : Int)) ∧ Below w.heap.size w w' := by
  have hpos : ¬ (((1 + n : Nat) : Int)) < 0 := by omega
  go_enter Tryz.func67, Tryz.ntmps67
  go_wp2_with fail
  refine (heldInt64S_any a n cap 1 _ (by exact hr.below ((Below.refl _ _).alloc (Nat.le_refl _) _)) hn (by omega)).mono ?_
  rintro e w1 ⟨rfl, rfl⟩
  go_wp2
  go_ret
  exact ⟨rfl, by go_grown⟩

set_option maxHeartbeats 800000 in
set_option maxRecDepth 100000 in
theorem eqCodesResult_same (c : Int) (a b : Option Addr) (n cap cap' : Nat) (l : List Int) (w : World) (hl : l.length = n) (hr : RdI w a l) (hs : RdI w b l) (hn : n ≤ 1048576) :
    Calls Tryz.prog 65 #[.agg #[.int .i64 c, .slice a n cap], .agg #[.int .i64 c, .slice b n cap']] w fun e w' => e = .returned (.bool true) ∧ Below w.heap.size w w' := by
  go_enter Tryz.func65, Tryz.ntmps65
  go_wp2_with fail
  have hb : Below w.heap.size w ((w.alloc (.cells #[.int .i64 c, .slice a n cap] 59)).alloc (.cells #[.int .i64 c, .slice b n cap'] 59)) := ((Below.refl _ _).alloc (Nat.le_refl _) _).alloc (by simp) _
  refine (eqInt64S_same a b n cap cap' l _ hl (by exact hr.below hb) (by exact hs.below hb) hn).mono ?_
  rintro e w1 ⟨rfl, hb1⟩
  go_wp2
  go_ret
  exact ⟨rfl, hb.trans (hb1.mono (by simp; omega))⟩

end Go.Proofs.YtkjnhcnbbojajaaGreatDoor

namespace Go.Proofs.YtkjnhcnbbojajaaGreatDoor
open Go.RowKit

theorem OwnI.far {w w' : World} {B : Nat} {v : Value} {l : List Int} {row : Option Nat} (h : OwnI w B v l) (hg : w.grownBy w' row) (hne : ∀ b, v.ownBlock = some b → some b ≠ row) : OwnI w' B v l := by
  refine ⟨h.1, ?_⟩
  rcases h.2 with h' | ⟨g, cap, cur, h1, h2, h3, h4⟩
  · exact .inl h'
  · refine .inr ⟨g, cap, cur, h1, h2, ?_, h4⟩
    have hlt : g < w.heap.size := by
      rcases Nat.lt_or_ge g w.heap.size with hlt | hge
      · exact hlt
      · simp [Array.getElem?_eq_none hge] at h3
    rw [hg.block g hlt (hne g (by rw [h1]; rfl))]; exact h3
end Go.Proofs.YtkjnhcnbbojajaaGreatDoor
