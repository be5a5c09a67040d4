/- FieldOf, the program's, at every slice of fields and every text: by the same plain function as the model's · The pieces of a value, the program's; what stands behind a name. -/
import Derived.Test.YtaefomiofoakhaaGreatDoorFdp
import Derived.Test.YtaefomiofoakhaaGreatDoorHdr2ToHdr5
import Derived.Test.YtaefomiofoakhaaGreatDoorTyp3
import Derived.Test.YtaefomiofoakhaaGreatDoorShf
import Derived.Shelf.Strings.SlTrimAscii
namespace Go.Proofs.YtaefomiofoakhaaGreatDoor
open Go.RowKit

theorem smallLetters_t (s : ByteArray) (w : World) (hs : s.size ≤ 1048576) : Calls Tryz.prog 22 #[.string s] w fun e w' => e = .returned (.string (lowT s)) ∧ Below w.heap.size w w' := by
  have h := smallLetters_any (bts s) _ w rfl (bts_isB s) (by rw [bts_len]; exact hs)
  rw [str_bts] at h; exact h

set_option maxHeartbeats 1600000 in
set_option maxRecDepth 100000 in
theorem fieldOf_any (a : Option Addr) (n cap : Nat) (l : List FldP) (nm : ByteArray) (w : World) (hl : l.length = n) (hr : RdF w a l) (hn : n ≤ 1048576) (hfit : Fit l) (hnm : nm.size ≤ 1048576) :
    Calls Tryz.prog 48 #[.slice a n cap, .string nm] w fun e w' => e = .returned (.agg #[.int .i64 (foC l nm), .string (foT l nm)]) ∧ Below w.heap.size w w' := by
  have hb0 : Below w.heap.size w (w.alloc (.cells #[.int .i64 0, .string ⟨#[]⟩] 86)) := (Below.refl _ _).alloc (Nat.le_refl _) _
  have HF := fieldsFault_any a n cap l _ hl (hr.below hb0) hn hfit
  have HL : Hid (l.length = n) := hl
  have HB : Hid (fdF l ≠ 0 → foC l nm = fdF l ∧ foT l nm = ⟨#[]⟩) := fo_bad nm
  have HN : Hid (fdF l = 0 → fdOf l nm = none → foC l nm = 4 ∧ foT l nm = ⟨#[]⟩) := fo_none
  have HS : Hid (fdF l = 0 → ∀ v, fdOf l nm = some v → foC l nm = 0 ∧ foT l nm = v) := fun h v h1 => fo_some h h1
  have HX : Hid (∀ w, Calls Tryz.prog 22 #[.string nm] w fun e w' => e = .returned (.string (lowT nm)) ∧ Below w.heap.size w w') := fun w => smallLetters_t nm w hnm
  clear hl
  generalize fdF l = c at *
  generalize foC l nm = rc at *
  generalize foT l nm = rt at *
  go_enter Tryz.func48, Tryz.ntmps48
  go_wp2_with fail
  refine HF.mono ?_
  rintro e w1 ⟨rfl, hb1⟩
  have hbl : Below (w.heap.size + 1) (w.alloc (.cells #[.int .i64 0, .string ⟨#[]⟩] 86)) w1 := hb1.mono (by simp)
  have hsW : (w.alloc (.cells #[.int .i64 0, .string ⟨#[]⟩] 86)).heap.size = w.heap.size + 1 := by simp
  clear HF hb1
  generalize hW : w.alloc (.cells #[.int .i64 0, .string ⟨#[]⟩] 86) = W at *
  have hbw := hb0.trans (hbl.mono (by omega))
  by_cases hc : c = 0
  · subst hc
    have hz1 := hbl.size
    rw [hsW] at hz1
    go_wp2_with fail
    refine (HX.out _).mono ?_
    rintro e w2 ⟨rfl, hb2⟩
    have hbl2 := hbl.trans (hb2.mono hz1)
    have hrW := hr.below hb0
    have HE : Hid (∀ k, k < n → lowT (nthF l k).1 = lowT nm → (∀ i, i < k → lowT (nthF l i).1 ≠ lowT nm) → rc = 0 ∧ rt = (nthF l k).2) := fun k hk h1 h2 => HS.out trivial _ (fdOf_some (by have := HL.out; omega) h2 h1)
    have HU : Hid ((∀ i, i < n → lowT (nthF l i).1 ≠ lowT nm) → rc = 4 ∧ rt = ⟨#[]⟩) := fun h => HN.out trivial (fdOf_none (fun i hi => h i (by have := HL.out; omega)))
    generalize lowT nm = s at *
    clear HB HN HS HX hb2 hbl hbw hz1
    go_wp2
    go_loopw [19] (fun v wr => ∃ k : Nat, k ≤ n ∧ v = .int .i64 k ∧ Hid (∀ i, i < k → lowT (nthF l i).1 ≠ s) ∧ Below (w.heap.size + 1) W wr) (fun v _ => n - (intOf v).toNat)
    case atStart => exact ⟨0, Nat.zero_le _, rfl, fun i hi => absurd hi (Nat.not_lt_zero _), hbl2⟩
    case round =>
      obtain ⟨k, hk, rfl, HA, hbel⟩ := hrel
      have hz := hbel.size
      rw [hsW] at hz
      have hbw := hb0.trans (hbel.mono (by omega))
      obtain ⟨hcw, hcw1, hfw, hfw1⟩ := res_block hW hbel
      by_cases hkn : k < n
      · obtain ⟨b, off, rfl, hblt, hcell⟩ := hrW.at_ (by have := HL.out; omega)
        rw [hsW] at hblt
        have hc0 : wr.cell? ⟨b, off + k * 2, none⟩ = some (.string (nthF l k).1) := (hbel.cell (p := ⟨b, off + k * 2, none⟩) hblt).trans (hcell k (by have := HL.out; omega)).1
        have hc1 : wr.cell? ⟨b, off + k * 2 + 1, none⟩ = some (.string (nthF l k).2) := (hbel.cell (p := ⟨b, off + k * 2 + 1, none⟩) hblt).trans (hcell k (by have := HL.out; omega)).2
        have hf := hfit (nthF l k) (by rw [nthF_get (by have := HL.out; omega)]; exact List.getElem_mem _)
        have hki : (k : Int) < (n : Int) := by omega
        have HY : Hid (lowT (nthF l k).1 = s → rc = 0 ∧ rt = (nthF l k).2) := fun h => HE.out k hkn h HA.out
        have HM : Hid (lowT (nthF l k).1 ≠ s → ∀ i, i < k + 1 → lowT (nthF l i).1 ≠ s) := fun h i hi => by
          by_cases he : i = k
          · subst he; exact h
          · exact HA.out i (by omega)
        clear hcell HE HU HA
        generalize nthF l k = p at *
        obtain ⟨x, y⟩ := p
        simp only at hc0 hc1 hf HY HM
        have HC : Hid (∀ w, Calls Tryz.prog 22 #[.string x] w fun e w' => e = .returned (.string (lowT x)) ∧ Below w.heap.size w w') := fun w => smallLetters_t x w hf.1
        generalize lowT x = u at *
        have hbA : Below (w.heap.size + 1) W (wr.alloc (.cells #[.string x, .string y] 122)) := hbel.alloc (by omega) _
        have hsA : (wr.alloc (.cells #[.string x, .string y] 122)).heap.size = wr.heap.size + 1 := by simp
        have hcA : (wr.alloc (.cells #[.string x, .string y] 122)).cell? ⟨wr.heap.size, 1, none⟩ = some (.string y) := by simp
        go_wp2_with fail
        refine (HC.out _).mono ?_
        rintro e w3 ⟨rfl, hb3⟩
        generalize hWA : wr.alloc (.cells #[.string x, .string y] 122) = WA at *
        have hbel3 := hbA.trans (hb3.mono (by omega))
        have hc3 : w3.cell? ⟨wr.heap.size, 1, none⟩ = some (.string y) := (hb3.cell (p := ⟨wr.heap.size, 1, none⟩) (by show wr.heap.size < WA.heap.size; omega)).trans hcA
        have hlt3 : wr.heap.size < w3.heap.size := by have := hb3.size; omega
        clear hc0 hc1 HC hb3 hbA hcA hf
        obtain ⟨hcw3, hcw31, hfw3, hfw31⟩ := res_block hW hbel3
        have hbw3 := hb0.trans (hbel3.mono (by omega))
        by_cases hx : u = s
        · obtain ⟨rfl, rfl⟩ := HY.out hx
          subst hx
          clear HY HM hcw hcw1 hfw hfw1 hbw
          obtain ⟨hk0, hk1⟩ := res_cells hcw3 hcw31 (.int .i64 0) (.string rt)
          go_wp2
          refine bodyPost_ret (v := .agg #[.int .i64 0, .string rt]) (by simp [results, Tryz.results48, go_sem, hk0, hk1]) rfl ?_
          exact ⟨rfl, (hbw3.setCell (by simp) _).setCell (by simp) _⟩
        · have HM' : Hid (_) := HM.out hx
          have e0 := texts_ne hx
          clear HY HM hcw hcw1 hfw hfw1 hcw3 hcw31 hfw3 hfw31 hbw
          go_wp2
          go_roundw
          case rel => exact ⟨k + 1, by omega, by go_num, HM'.out, hbel3⟩
          case measure => simp [intOf]; omega
      · have hki : ¬ (k : Int) < (n : Int) := by omega
        obtain ⟨rfl, rfl⟩ := HU.out (fun i hi => HA.out i (by omega))
        obtain ⟨hk0, hk1⟩ := res_cells hcw hcw1 (.int .i64 4) (.string ⟨#[]⟩)
        clear HE HU HA
        go_wp2
        refine bodyPost_ret (v := .agg #[.int .i64 4, .string ⟨#[]⟩]) (by simp [results, Tryz.results48, go_sem, hk0, hk1]) rfl ?_
        exact ⟨rfl, (hbw.setCell (by simp) _).setCell (by simp) _⟩
  · obtain ⟨rfl, rfl⟩ := HB.out hc
    clear HN HS HB
    obtain ⟨hcw, hcw1, hfw, hfw1⟩ := res_block hW hbl
    obtain ⟨hk0, hk1⟩ := res_cells hcw hcw1 (.int .i64 rc) (.string ⟨#[]⟩)
    have hc' : (rc == 0) = false := by simp [hc]
    go_wp2
    refine bodyPost_ret (v := .agg #[.int .i64 rc, .string ⟨#[]⟩]) (by simp [results, Tryz.results48, go_sem, hk0, hk1]) rfl ?_
    exact ⟨rfl, (hbw.setCell (by simp) _).setCell (by simp) _⟩
end Go.Proofs.YtaefomiofoakhaaGreatDoor

namespace Go.Proofs.YtaefomiofoakhaaGreatDoor
open Go.RowKit Go.Shelf

/-- Pieces in the making: the first k of them are without blanks. -/
def halfT (l : List (List Nat)) (k : Nat) : List (List Nat) := (l.take k).map trN ++ l.drop k
theorem halfT_zero (l : List (List Nat)) : halfT l 0 = l := by simp [halfT]
theorem halfT_all (l : List (List Nat)) : halfT l l.length = l.map trN := by simp [halfT]
theorem halfT_len (l : List (List Nat)) (k : Nat) (h : k ≤ l.length) : (halfT l k).length = l.length := by simp [halfT]; omega
theorem halfT_nth (l : List (List Nat)) (k : Nat) (h : k < l.length) : nthS (halfT l k) k = nthS l k := by
  have hk : ((l.take k).map trN).length = k := by simp; omega
  unfold halfT nthS
  rw [List.getD_eq_getElem?_getD, List.getD_eq_getElem?_getD, List.getElem?_append_right (by omega), hk, Nat.sub_self, List.getElem?_drop, Nat.add_zero]
theorem halfT_set (l : List (List Nat)) (k : Nat) (h : k < l.length) : (sc (halfT l k)).set k (.string (str (trN (nthS l k)))) = sc (halfT l (k + 1)) := by
  have hk : (sc ((l.take k).map trN)).length = k := by simp [sc]; omega
  unfold halfT
  rw [sc_app, List.set_append, hk, if_neg (Nat.lt_irrefl k), Nat.sub_self, drop_consT l k h, take_snocT l k h, List.map_append, sc_app, sc_app]
  simp [sc]

theorem trim_call (t : List Nat) (w : World) (hB : IsB t) (hn : t.length ≤ 1048576) : Calls Tryz.prog 36 #[.string (str t), .string ⟨#[32, 9]⟩] w fun e w' => e = .returned (.string (str (trN t))) ∧ Below w.heap.size w w' := by
  have h := Any.strings_Trim_laid Tryz.lays160 (by kernel_rfl) (str t) ⟨#[32, 9]⟩ w (by rw [str_size]; omega) (by decide) (ascii_of_all (by decide))
  have e : (⟨#[32, 9]⟩ : ByteArray).data.toList = [32, 9] := rfl
  rw [e, trim_trN hB] at h
  exact h
theorem semi_pays (w : World) : PredAt Tryz.prog 35 #[] encR (fun r => r == 59) w := fun W r _ => by
  unfold FnGives
  by_cases hr : r = 59
  · subst hr
    go_enter Tryz.func35, Tryz.ntmps35
    go_wp2
    go_ret
    exact ⟨rfl, 0, rfl⟩
  · have e1 : ((r : Int) == 59) = false := by simp; omega
    have e2 : (r == 59) = false := by simp; omega
    simp only [e2]
    go_enter Tryz.func35, Tryz.ntmps35
    go_wp2
    go_ret
    exact ⟨rfl, 0, rfl⟩
theorem fields_call (t : List Nat) (w : World) (hB : IsB t) (hn : t.length ≤ 1048576) : Calls Tryz.prog 34 #[.string (str t), .func (.func 35) #[] #[]] w fun e w' => ∃ A, e = .returned (.slice (some ⟨A, 0, none⟩) (spC [] t).length (spC [] t).length) ∧ w.heap.size ≤ A ∧ OwnS w' w.heap.size (.slice (some ⟨A, 0, none⟩) (spC [] t).length (spC [] t).length) (spC [] t) ∧ Below w.heap.size w w' := by
  have h := Tryz.strings_FieldsFunc 35 #[] (enters_of Tryz.func35 (by kernel_rfl) rfl) (fun r => r == 59) (str t) w (by rw [str_size]; omega) (semi_pays w)
  rw [fields_spC hB, List.length_map, List.map_map] at h
  exact h

set_option maxHeartbeats 1600000 in
set_option maxRecDepth 100000 in
theorem piecesOf_any (t : List Nat) (w : World) (hB : IsB t) (hn : t.length ≤ 1048576) : Calls Tryz.prog 21 #[.string (str t)] w fun e w' => PcsEnd (pcs t) w e w' := by
  have HF := fields_call t w hB hn
  have HOK : Hid (∀ p ∈ spC [] t, IsB p ∧ p.length ≤ 1048576) := fun p hp => by
    obtain ⟨-, h2, h3⟩ := (spC_in t []).2 p hp
    refine ⟨fun x hx => ?_, by simp at h2; omega⟩
    rcases h3 x hx with h | h
    · simp at h
    · exact hB x h
  have HL : Hid ((spC [] t).length ≤ 1048576) := by
    have := (spC_in t []).1
    show _ ≤ _
    simp at this; omega
  have HE : Hid (pcs t = (spC [] t).map trN) := rfl
  generalize pcs t = r at *
  generalize spC [] t = l at *
  clear hB hn
  go_enter Tryz.func21, Tryz.ntmps21
  go_wp2_with fail
  refine HF.mono ?_
  rintro e w1 ⟨A, rfl, hA, ho1, hb1⟩
  clear HF
  generalize hn : l.length = n at *
  have HN : Hid (l.length = n) := hn
  have hnb : n ≤ 1048576 := HL.out
  clear hn HL
  go_wp2
  go_loopw [10] (fun i wr => ∃ k : Nat, k ≤ n ∧ i = .int .i64 k ∧ OwnS wr w.heap.size (.slice (some ⟨A, 0, none⟩) n n) (halfT l k) ∧ Below w.heap.size w wr) (fun i _ => n - (intOf i).toNat)
  case atStart => exact ⟨0, Nat.zero_le _, rfl, by rw [halfT_zero]; exact ho1, hb1⟩
  case round =>
    obtain ⟨k, hk, rfl, hown, hbel⟩ := hrel
    clear ho1 hb1
    have hlk : (halfT l k).length = n := by rw [halfT_len l k (by rw [HN.out]; exact hk)]; exact HN.out
    by_cases hkn : k < n
    · have hki : (k : Int) < (n : Int) := by omega
      have hown' : wr.ownsRow w.heap.size 9 1 (.slice (some ⟨A, 0, none⟩) n n) n (sc (halfT l k)) := by
        have := hown
        unfold OwnS at this
        rw [hlk] at this
        exact this
      have hc : wr.cell? ⟨A, k, none⟩ = some (.string (str (nthS l k))) := by
        rw [hown'.cellAt k (by omega), sc_get (by omega), halfT_nth l k (by rw [HN.out]; exact hkn)]
      have hf := hown'.frozenAt k
      obtain ⟨hBx, hxl⟩ := HOK.out _ (nthS_mem (l := l) (k := k) (by rw [HN.out]; exact hkn))
      have HT : Hid (∀ w, Calls Tryz.prog 36 #[.string (str (nthS l k)), .string ⟨#[32, 9]⟩] w fun e w' => e = .returned (.string (str (trN (nthS l k)))) ∧ Below w.heap.size w w') := fun w => trim_call _ w hBx hxl
      have HS : Hid ((sc (halfT l k)).set k (.string (str (trN (nthS l k)))) = sc (halfT l (k + 1))) := halfT_set l k (by rw [HN.out]; exact hkn)
      clear hBx hxl hown
      generalize trN (nthS l k) = y at *
      generalize nthS l k = x at *
      go_wp2_with fail
      refine (HT.out _).mono ?_
      rintro e w2 ⟨rfl, hb2⟩
      have hown2 : w2.ownsRow w.heap.size 9 1 (.slice (some ⟨A, 0, none⟩) n n) n (sc (halfT l k)) := by
        have : OwnS wr w.heap.size (.slice (some ⟨A, 0, none⟩) n n) (halfT l k) := by unfold OwnS; rw [hlk]; exact hown'
        have := this.below hb2 (Nat.le_refl _)
        unfold OwnS at this
        rw [hlk] at this
        exact this
      have hc2 : w2.cell? ⟨A, k, none⟩ = some (.string (str x)) := by
        have hlt : A < wr.heap.size := World.block_lt_of_cell? wr _ hc
        exact (hb2.cell (p := ⟨A, k, none⟩) hlt).trans hc
      have hf2 := hown2.frozenAt k
      obtain ⟨hst, hgr⟩ := hown2.stored k (.string (str y))
      rw [HS.out] at hst
      have hbel2 := hbel.trans (hb2.mono hbel.size)
      have hbel' : Below w.heap.size w (w2.setCell ⟨A, k, none⟩ (.string (str y))) := hbel2.grown hgr hbel2.size (by intro j hj; simp at hj; omega)
      have hlk' : Hid ((halfT l (k + 1)).length = n) := by show _ = _; rw [halfT_len l (k + 1) (by rw [HN.out]; exact hkn)]; exact HN.out
      clear hgr hown2 hown' hc hf HT HS hb2 hlk
      go_wp2
      go_roundw
      case rel => exact ⟨k + 1, by omega, by go_num, by unfold OwnS; rw [hlk'.out]; exact hst, hbel'⟩
      case measure => simp [intOf]; omega
    · have hkk : k = n := by omega
      subst hkk
      have h3 : ¬ (k : Int) < (k : Int) := by omega
      have hfin : Hid (OwnS wr w.heap.size (.slice (some ⟨A, 0, none⟩) k k) r) := by
        rw [HE.out, ← halfT_all, HN.out]; exact hown
      clear hown hlk
      go_wp2
      go_ret
      exact ⟨_, rfl, hfin.out, hbel⟩

theorem fldN1 (x y : Value) (w : World) : (Instr.field 36 (.agg #[x, y]) 1).run Tryz.prog w = .ok y w := by
  simp [Instr.field, asAgg, go_sem]
theorem u8_inj {a b : Nat} (ha : a < 256) (hb : b < 256) : (UInt8.ofNat a == UInt8.ofNat b) = decide (a = b) := by
  by_cases h : a = b
  · subst h; simp
  · rw [decide_eq_false h, beq_eq_false_iff_ne]
    intro e
    have := congrArg UInt8.toNat e
    rw [UInt8.toNat_ofNat', UInt8.toNat_ofNat'] at this
    omega
theorem prefix_bg : ∀ (p t : List Nat), IsB p → IsB t → (p.map UInt8.ofNat).isPrefixOf (t.map UInt8.ofNat) = decide (t.take p.length = p)
  | [], t, _, _ => by simp
  | c :: p, [], _, _ => by simp
  | c :: p, d :: t, hp, ht => by
    rw [List.map_cons, List.map_cons, List.isPrefixOf_cons_cons, prefix_bg p t (fun x hx => hp x (by simp [hx])) (fun x hx => ht x (by simp [hx])), u8_inj (hp c (by simp)) (ht d (by simp)), List.length_cons, List.take_succ_cons]
    by_cases h1 : c = d
    · subst h1; simp
    · have : ¬ (d :: t.take p.length = c :: p) := fun e => by injection e with e1 _; exact h1 e1.symm
      rw [decide_eq_false h1, decide_eq_false this]; rfl
/-- The library's look for a beginning, at small letters. -/
theorem hasPrefix_bg (t p : List Nat) (w : World) (hB : IsB t) (hBp : IsB p) : Calls Tryz.prog 23 #[.string (str (t.map low)), .string (str p)] w fun e w' => e = .returned (.bool (bgN t p)) ∧ w' = w := by
  have h := Tryz.strings_HasPrefix (str (t.map low)) (str p) w
  have e1 : ∀ l : List Nat, (str l).data.toList = l.map UInt8.ofNat := fun l => by simp [str]
  rw [e1, e1] at h
  have e2 : Lib.hasPrefix ((t.map low).map UInt8.ofNat) (p.map UInt8.ofNat) = bgN t p := by
    unfold Lib.hasPrefix bgN
    rw [prefix_bg p (t.map low) hBp (low_isB hB), List.map_take]
  rw [e2] at h
  exact h

set_option maxHeartbeats 1600000 in
set_option maxRecDepth 100000 in
theorem behindBegin_any (a : Option Addr) (n cap : Nat) (l : List (List Nat)) (p : List Nat) (w : World) (hl : l.length = n) (hr : RdS w a l) (hn : n ≤ 1048576) (hok : PcOk l) (hBp : IsB p) (_ : p.length ≤ 1048576) :
    Calls Tryz.prog 38 #[.slice a n cap, .string (str p)] w fun e w' => e = .returned (nmP (nmN p l)) ∧ Below w.heap.size w w' := by
  have HL : Hid (l.length = n) := hl
  have hsp : (str p).size = p.length := str_size p
  have HE : Hid (∀ k, k < n → (∀ i, i < k → bgN (nthS l i) p = false) → bgN (nthS l k) p = true → nmN p l = some ((nthS l k).drop p.length)) := fun k hk h2 h3 => nmN_some (by rw [HL.out]; exact hk) h2 h3
  have HU : Hid ((∀ i, i < n → bgN (nthS l i) p = false) → nmN p l = none) := fun h => nmN_none (fun i hi => h i (by rw [HL.out] at hi; exact hi))
  clear hl
  generalize nmN p l = r at *
  go_enter Tryz.func38, Tryz.ntmps38
  go_wp2
  go_loopw [10] (fun v wr => ∃ k : Nat, k ≤ n ∧ v = .int .i64 k ∧ Hid (∀ i, i < k → bgN (nthS l i) p = false) ∧ Below w.heap.size w wr) (fun v _ => n - (intOf v).toNat)
  case atStart => exact ⟨0, Nat.zero_le _, rfl, fun i hi => absurd hi (Nat.not_lt_zero _), Below.refl _ _⟩
  case round =>
    obtain ⟨k, hk, rfl, HA, hbel⟩ := hrel
    by_cases hkn : k < n
    · obtain ⟨b, off, rfl, hblt, hcell⟩ := hr.at_ (by have := HL.out; omega)
      have hki : (k : Int) < (n : Int) := by omega
      have hc : wr.cell? ⟨b, off + k, none⟩ = some (.string (str (nthS l k))) := (hbel.cell (p := ⟨b, off + k, none⟩) hblt).trans (hcell k (by have := HL.out; omega))
      obtain ⟨hBx, hxl⟩ := hok _ (nthS_mem (l := l) (k := k) (by have := HL.out; omega))
      have HC : Hid (∀ w, Calls Tryz.prog 22 #[.string (str (nthS l k))] w fun e w' => e = .returned (.string (str ((nthS l k).map low))) ∧ Below w.heap.size w w') := fun w => smallLetters_any _ _ w rfl hBx hxl
      have HD : Hid (∀ w, Calls Tryz.prog 23 #[.string (str ((nthS l k).map low)), .string (str p)] w fun e w' => e = .returned (.bool (bgN (nthS l k) p)) ∧ w' = w) := fun w => hasPrefix_bg _ p w hBx hBp
      have HY : Hid (bgN (nthS l k) p = true → r = some ((nthS l k).drop p.length)) := fun h => HE.out k hkn HA.out h
      have HM : Hid (bgN (nthS l k) p = false → ∀ i, i < k + 1 → bgN (nthS l i) p = false) := fun h i hi => by
        by_cases he : i = k
        · subst he; exact h
        · exact HA.out i (by omega)
      have HG : Hid (bgN (nthS l k) p = true → p.length ≤ (nthS l k).length) := bgN_len
      clear HE HU HA
      have hsx : (str (nthS l k)).size = (nthS l k).length := str_size _
      have hex : (str (nthS l k)).extract p.length (nthS l k).length = str ((nthS l k).drop p.length) := by rw [str_pc, List.take_length]
      generalize bgN (nthS l k) p = q at *
      generalize (nthS l k).drop p.length = y at *
      generalize (nthS l k).map low = z at *
      generalize nthS l k = x at *
      go_wp2_with fail
      refine (HC.out _).mono ?_
      rintro e w' ⟨rfl, hb⟩
      have hbel' := hbel.trans (hb.mono hbel.size)
      go_wp2_with fail
      refine (HD.out _).mono ?_
      rintro e w'' ⟨rfl, rfl⟩
      clear HC HD hb hc
      cases q with
      | true =>
        have hpx := HG.out rfl
        have hpi : (p.length : Int) ≤ (x.length : Int) := by omega
        obtain rfl := HY.out rfl
        go_wp2
        go_ret2
        exact ⟨rfl, hbel'⟩
      | false =>
        have HM' : Hid (_) := HM.out rfl
        clear HY HM HG
        go_wp2
        go_roundw
        case rel => exact ⟨k + 1, by omega, by go_num, HM'.out, hbel'⟩
        case measure => simp [intOf]; omega
    · have hki : ¬ (k : Int) < (n : Int) := by omega
      obtain rfl := HU.out (fun i hi => HA.out i (by omega))
      clear HE HU HA
      go_wp2
      go_ret2
      exact ⟨rfl, hbel⟩

set_option maxHeartbeats 1600000 in
set_option maxRecDepth 100000 in
theorem charsetIn_any (a : Option Addr) (n cap : Nat) (l : List (List Nat)) (w : World) (hl : l.length = n) (hr : RdS w a l) (hn : n ≤ 1048576) (hok : PcOk l) (ht : TabC w) :
    Calls Tryz.prog 24 #[.slice a n cap] w fun e w' => e = .returned (.int .i64 (chN l)) ∧ Below w.heap.size w w' := by
  have HB := behindBegin_any a n cap l wChar w hl hr hn hok (by unfold wChar IsB; decide) (by decide)
  have HC1 : Hid (nmN wChar l = none → chN l = 1) := chN_none
  have HC2 : Hid (∀ x, nmN wChar l = some x → chN l = csNm x ∧ IsB x ∧ x.length ≤ 1048576) := fun x h => ⟨chN_some h, nmN_ok hok h⟩
  have HX : str wChar = ⟨#[99, 104, 97, 114, 115, 101, 116, 61]⟩ := rfl
  rw [HX] at HB
  generalize nmN wChar l = o at *
  generalize chN l = ch at *
  clear HX hok
  go_enter Tryz.func24, Tryz.ntmps24
  go_wp2_with fail
  refine HB.mono ?_
  rintro e w1 ⟨rfl, hb1⟩
  clear HB
  cases o with
  | none =>
    obtain rfl := HC1.out rfl
    clear HC1 HC2
    simp only [nmP]
    go_wp2
    go_ret
    exact ⟨rfl, hb1⟩
  | some x =>
    obtain ⟨rfl, hBx, hxl⟩ := HC2.out x rfl
    have HO : Hid (∀ w, TabC w → Calls Tryz.prog 39 #[.string (str x)] w fun e w' => IntEnd (csfV (str (x.map low))) w e w') := fun w h => charsetOf_any x _ w rfl hBx hxl h
    have HV : Hid ((csfV (str (x.map low))).2 = csNm x) := by
      show _ = csI _
      rcases csfV_csI (str (x.map low)) with ⟨h1, h2⟩ | ⟨h1, h2⟩
      · rw [h1, h2]
      · rw [h2]
    generalize hcn : csNm x = ch at *
    generalize csfV (str (x.map low)) = cf at *
    obtain ⟨c1, c2⟩ := cf
    obtain rfl : c2 = ch := HV.out
    have HK : Hid (csNm x = c2) := hcn
    clear hcn
    have ht1 := ht.below hb1
    clear HC1 HC2
    simp only [nmP]
    go_wp2_with fail
    refine (HO.out _ ht1).mono ?_
    rintro e w2 ⟨rfl, hb2⟩
    clear HO
    have hfl := fun x y w => fldN1 x y w
    go_wp2
    go_ret
    exact ⟨by rw [HK.out]; rfl, hb1.trans (hb2.mono hb1.size)⟩
end Go.Proofs.YtaefomiofoakhaaGreatDoor
