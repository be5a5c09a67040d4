/- TagOf, the program's and the model's, at every line: both by one plain function. -/
import Derived.Test.YtaiificlempeaaaTgo
import Derived.Test.YtaiificlempeaaaYct
import Derived.Test.YtaiificlempeaaaTwh
import Derived.Test.YtaiificlempeaaaShf
namespace Go.Proofs.Ytaiificlempeaaa
open Go.RowKit

/-- No blank. -/
def noBl (b : Nat) : Bool := decide (b ≠ 32)
/-- What stands ahead of the first blank. -/
def hdW (t : List Nat) : List Nat := t.takeWhile noBl
theorem takeWhile_takeTg (p : Nat → Bool) : ∀ t : List Nat, t.take (t.takeWhile p).length = t.takeWhile p
  | [] => rfl
  | x :: r => by
    rw [List.takeWhile_cons]
    split
    · rw [List.length_cons, List.take_succ_cons, takeWhile_takeTg p r]
    · rfl
theorem hdW_cut : ∀ t : List Nat, nthS (cutM 32 t) 0 = hdW t
  | [] => rfl
  | x :: r => by
    by_cases h : x = 32
    · subst h; rfl
    · obtain ⟨y, u, h1, h2⟩ := cutM_cons (c := 32) (x := x) (r := r) h
      have ih := hdW_cut r
      rw [h1] at ih
      have e : hdW (x :: r) = x :: hdW r := by
        unfold hdW
        rw [List.takeWhile_cons, if_pos (show noBl x = true from decide_eq_true h)]
      rw [h2, e, ← ih]
      rfl
theorem hdW_len (t : List Nat) : (hdW t).length ≤ t.length := by
  have := congrArg List.length (takeWhile_takeTg noBl t)
  rw [List.length_take] at this
  unfold hdW; omega
theorem hdW_take (t : List Nat) : t.take (hdW t).length = hdW t := takeWhile_takeTg noBl t
theorem hdW_B {t : List Nat} (h : IsB t) : IsB (hdW t) := by rw [← hdW_take]; exact isB_take h _
/-- TagOf. -/
def tgV (t : List Nat) : Int × List Nat := if tgOk (hdW t) = true then (0, hdW t) else (5, [])

set_option maxHeartbeats 1600000 in
set_option maxRecDepth 100000 in
theorem cutW_any (t : List Nat) (n : Nat) (w : World) (hl : t.length = n) (hB : IsB t) (hn : n ≤ 1048576) :
    Calls Try.prog 34 #[.string (str t), .string ⟨#[32]⟩] w fun e w' => (∃ r f, e = .returned (.tuple #[.string (str (hdW t)), r, f])) ∧ Below w.heap.size w w' := by
  have hsz : (str t).size = n := by rw [str_size, hl]
  have HC := fun w => Try.stringslite_Index_one (str t) 32 w
  have hI := idx_natW (c := 32) (by omega) (p := noBl) (fun b => rfl) t hB
  rw [show (UInt8.ofNat 32) = (32 : UInt8) from rfl] at hI
  rw [show (str t).data.toList = t.map UInt8.ofNat by simp [str], hI] at HC
  have e1 : (str t).extract 0 (hdW t).length = str (hdW t) := by rw [str_exY, List.drop_zero, hdW_take]
  have hle := hdW_len t
  have mixed : Try.prog.follows Departure.mixedOrders = true := by kernel_rfl
  by_cases hlt : (t.takeWhile noBl).length < t.length
  · rw [if_pos hlt] at HC
    have hlt' : (hdW t).length < t.length := hlt
    rw [show (t.takeWhile noBl).length = (hdW t).length from rfl] at HC
    generalize hdW t = h at *
    obtain ⟨i, hi⟩ : ∃ i, i = h.length := ⟨_, rfl⟩
    rw [← hi] at HC hlt' e1 hle
    clear hlt hI hi
    rw [hl] at hlt' hle
    clear hl
    have c1 : (0 : Int) ≤ (i : Int) := by omega
    have c2 : (i : Int) ≤ (n : Int) := by omega
    have c3 : (0 : Int) ≤ (i : Int) + 1 := by omega
    have c4 : (i : Int) + 1 ≤ (n : Int) := by omega
    have hcut : Calls Try.prog 45 #[.string (str t), .string ⟨#[32]⟩] w fun e w' => (∃ r f, e = .returned (.tuple #[.string (str h), r, f])) ∧ Below w.heap.size w w' := by
      go_enter Try.func45, Try.ntmps45
      go_wp2_with fail
      refine (HC _).mono ?_
      rintro e w' ⟨rfl, rfl⟩
      go_wp2
      go_region_o
      go_wp2
      go_ret3
      exact ⟨⟨_, _, rfl⟩, (Below.refl _ _).drew⟩
    go_enter Try.func34, Try.ntmps34
    go_wp2_with fail
    refine hcut.mono ?_
    rintro e w' ⟨⟨r, f, rfl⟩, hb⟩
    go_wp2
    go_ret3
    exact ⟨⟨_, _, rfl⟩, hb⟩
  · rw [if_neg hlt] at HC
    have hE : hdW t = t := by
      have h2 : (hdW t).length = t.length := Nat.le_antisymm hle (Nat.le_of_not_lt hlt)
      have := hdW_take t
      rw [h2, List.take_length] at this
      exact this.symm
    rw [hE]
    have hcut : Calls Try.prog 45 #[.string (str t), .string ⟨#[32]⟩] w fun e w' => (∃ r f, e = .returned (.tuple #[.string (str t), r, f])) ∧ Below w.heap.size w w' := by
      clear hI e1 hle hlt hE
      go_enter Try.func45, Try.ntmps45
      go_wp2_with fail
      refine (HC _).mono ?_
      rintro e w' ⟨rfl, rfl⟩
      go_wp2
      go_ret3
      exact ⟨⟨_, _, rfl⟩, Below.refl _ _⟩
    go_enter Try.func34, Try.ntmps34
    go_wp2_with fail
    refine hcut.mono ?_
    rintro e w' ⟨⟨r, f, rfl⟩, hb⟩
    go_wp2
    go_ret3
    exact ⟨⟨_, _, rfl⟩, hb⟩

/-- What TagOf answers. -/
def TagEnd (w : World) (t : List Nat) (e : Ending) (w' : World) : Prop := e = .returned (.agg #[.int .i64 (tgV t).1, .string (str (tgV t).2)]) ∧ Below w.heap.size w w'

set_option maxHeartbeats 1600000 in
set_option maxRecDepth 100000 in
theorem tagOf_any (t : List Nat) (n : Nat) (w : World) (hl : t.length = n) (hB : IsB t) (hn : n ≤ 1048576) :
    Calls Try.prog 11 #[.string (str t)] w fun e w' => TagEnd w t e w' := by
  have hb0 : Below w.heap.size w (w.alloc (.cells #[.int .i64 0, .string ⟨#[]⟩] 37)) := (Below.refl _ _).alloc (Nat.le_refl _) _
  have hWs : (w.alloc (.cells #[.int .i64 0, .string ⟨#[]⟩] 37)).heap.size = w.heap.size + 1 := by simp
  have HC : Hid (∀ w, _) := fun w => cutW_any t n w hl hB hn
  have HT : Hid (∀ w, _) := fun w => isTag_any (hdW t) _ w rfl (hdW_B hB) (by have := hdW_len t; omega)
  have HV : Hid (tgV t = if tgOk (hdW t) = true then (0, hdW t) else (5, [])) := rfl
  unfold TagEnd
  generalize tgOk (hdW t) = ok at *
  go_enter Try.func11, Try.ntmps11
  go_wp2_with fail
  refine (HC.out _).mono ?_
  rintro e w1 ⟨⟨r, f, rfl⟩, hb1⟩
  have hbl1 : Below (w.heap.size + 1) (w.alloc (.cells #[.int .i64 0, .string ⟨#[]⟩] 37)) w1 := by rw [← hWs]; exact hb1
  generalize hW : w.alloc (.cells #[.int .i64 0, .string ⟨#[]⟩] 37) = W at *
  have hz1 : w.heap.size + 1 ≤ w1.heap.size := by have := hbl1.size; omega
  clear hb1
  go_wp2_with fail
  refine (HT.out _).mono ?_
  rintro e w2 ⟨rfl, hb2⟩
  have hbl2 := hbl1.trans (hb2.mono hz1)
  obtain ⟨hcw, hcw1, hfw, hfw1⟩ := res_block hW hbl2
  have hbE : Below w.heap.size w w2 := hb0.trans (hbl2.mono (by omega))
  clear hb2 hbl1 hbl2
  cases ok with
  | true =>
    have HX : Hid (tgV t = (0, hdW t)) := HV.out.trans (if_pos rfl)
    obtain ⟨sx, hsx⟩ : ∃ sx, sx = str (hdW t) := ⟨_, rfl⟩
    rw [← hsx]
    obtain ⟨hk0, hk1⟩ := res_cells hcw hcw1 (.int .i64 0) (.string sx)
    have HY : Hid ((tgV t).1 = 0 ∧ str (tgV t).2 = sx) := ⟨by rw [HX.out], by rw [HX.out, hsx]⟩
    clear hsx HX HV
    go_wp2
    refine bodyPost_ret (v := .agg #[.int .i64 0, .string sx]) (by simp [results, Try.results11, go_sem, hk0, hk1]) rfl ?_
    refine ⟨?_, (hbE.setCell (Nat.le_refl _) _).setCell (Nat.le_refl _) _⟩
    rw [HY.out.1, HY.out.2]
  | false =>
    have HX : Hid (tgV t = (5, [])) := HV.out.trans (if_neg (by simp))
    obtain ⟨hk0, hk1⟩ := res_cells hcw hcw1 (.int .i64 5) (.string ⟨#[]⟩)
    go_wp2
    refine bodyPost_ret (v := .agg #[.int .i64 5, .string ⟨#[]⟩]) (by simp [results, Try.results11, go_sem, hk0, hk1]) rfl ?_
    refine ⟨?_, (hbE.setCell (Nat.le_refl _) _).setCell (Nat.le_refl _) _⟩
    rw [HX.out]
    rfl

set_option maxHeartbeats 1600000 in
set_option maxRecDepth 100000 in
theorem specTagOf_any (t : List Nat) (n : Nat) (w : World) (hl : t.length = n) (hB : IsB t) (hn : n ≤ 1048576) :
    Calls Try.prog 10 #[.string (str t)] w fun e w' => TagEnd w t e w' := by
  have hb0 : Below w.heap.size w (w.alloc (.cells #[.int .i64 0, .string ⟨#[]⟩] 37)) := (Below.refl _ _).alloc (Nat.le_refl _) _
  have hWs : (w.alloc (.cells #[.int .i64 0, .string ⟨#[]⟩] 37)).heap.size = w.heap.size + 1 := by simp
  have HC : Hid (∀ w, _) := fun w => l11Cut_any 32 t n w hl hB hn
  have HT : Hid (∀ w, _) := fun w => l14Tag_any (hdW t) _ w rfl (hdW_B hB) (by have := hdW_len t; omega)
  have HV : Hid (tgV t = if tgOk (hdW t) = true then (0, hdW t) else (5, [])) := rfl
  have hpos : 0 < (cutM 32 t).length := List.length_pos_iff.2 (cutM_ne 32 t)
  have hhd := hdW_cut t
  unfold TagEnd
  generalize tgOk (hdW t) = ok at *
  go_enter Try.func10, Try.ntmps10
  go_wp2_with fail
  refine (HC.out _).mono ?_
  rintro e w1 ⟨v1, rfl, hown, hb1⟩
  have hbl1 : Below (w.heap.size + 1) (w.alloc (.cells #[.int .i64 0, .string ⟨#[]⟩] 37)) w1 := by rw [← hWs]; exact hb1
  generalize hW : w.alloc (.cells #[.int .i64 0, .string ⟨#[]⟩] 37) = W at *
  have hz1 : w.heap.size + 1 ≤ w1.heap.size := by have := hbl1.size; omega
  clear hb1
  obtain ⟨a1, cp1, ev, _, _⟩ := hown.form
  subst ev
  obtain ⟨g1, off1, rfl, hgl, hgc⟩ := hown.rd.2.at_ hpos
  have hc1 : w1.cell? ⟨g1, off1, none⟩ = some (.string (str (hdW t))) := by
    have := hgc 0 hpos
    rw [Nat.add_zero, hhd] at this
    exact this
  have hposI : (0 : Int) < ((cutM 32 t).length : Int) := by omega
  clear hgc hown hhd
  generalize (cutM 32 t).length = m at *
  go_wp2_with fail
  refine (HT.out _).mono ?_
  rintro e w2 ⟨rfl, hb2⟩
  have hbl2 := hbl1.trans (hb2.mono hz1)
  obtain ⟨hcw, hcw1, hfw, hfw1⟩ := res_block hW hbl2
  have hbE : Below w.heap.size w w2 := hb0.trans (hbl2.mono (by omega))
  clear hb2 hbl1 hbl2 hc1
  cases ok with
  | true =>
    have HX : Hid (tgV t = (0, hdW t)) := HV.out.trans (if_pos rfl)
    obtain ⟨sx, hsx⟩ : ∃ sx, sx = str (hdW t) := ⟨_, rfl⟩
    rw [← hsx]
    obtain ⟨hk0, hk1⟩ := res_cells hcw hcw1 (.int .i64 0) (.string sx)
    have HY : Hid ((tgV t).1 = 0 ∧ str (tgV t).2 = sx) := ⟨by rw [HX.out], by rw [HX.out, hsx]⟩
    clear hsx HX HV
    go_wp2
    refine bodyPost_ret (v := .agg #[.int .i64 0, .string sx]) (by simp [results, Try.results10, go_sem, hk0, hk1]) rfl ?_
    refine ⟨?_, (hbE.setCell (Nat.le_refl _) _).setCell (Nat.le_refl _) _⟩
    rw [HY.out.1, HY.out.2]
  | false =>
    have HX : Hid (tgV t = (5, [])) := HV.out.trans (if_neg (by simp))
    obtain ⟨hk0, hk1⟩ := res_cells hcw hcw1 (.int .i64 5) (.string ⟨#[]⟩)
    go_wp2
    refine bodyPost_ret (v := .agg #[.int .i64 5, .string ⟨#[]⟩]) (by simp [results, Try.results10, go_sem, hk0, hk1]) rfl ?_
    refine ⟨?_, (hbE.setCell (Nat.le_refl _) _).setCell (Nat.le_refl _) _⟩
    rw [HX.out]
    rfl
end Go.Proofs.Ytaiificlempeaaa
