/- WordsOf, the program's and the model's, at every line of at most 1048576 bytes: both answer the line's longest pieces without a blank. -/
import Derived.Test.YtmidjgpegdodcaaTwh
import Derived.Test.YtmidjgpegdodcaaYct
import Derived.Test.YtmidjgpegdodcaaShf
import Derived.Deep.LoopGhost
import Derived.Below
namespace Go.Proofs.Ytmidjgpegdodcaa
open Go.RowKit

/-- No blank. -/
def noBx (b : Nat) : Bool := decide (b ≠ 32)
/-- What stands ahead of the first blank. -/
def hdX (t : List Nat) : List Nat := t.takeWhile noBx
theorem takeWhile_takeX (p : Nat → Bool) : ∀ t : List Nat, t.take (t.takeWhile p).length = t.takeWhile p
  | [] => rfl
  | x :: r => by
    rw [List.takeWhile_cons]
    split
    · rw [List.length_cons, List.take_succ_cons, takeWhile_takeX p r]
    · rfl
theorem hdX_cut : ∀ t : List Nat, nthS (cutM 32 t) 0 = hdX t
  | [] => rfl
  | x :: r => by
    by_cases h : x = 32
    · subst h; rfl
    · obtain ⟨y, u, h1, h2⟩ := cutM_cons (c := 32) (x := x) (r := r) h
      have ih := hdX_cut r
      rw [h1] at ih
      have e : hdX (x :: r) = x :: hdX r := by
        unfold hdX
        rw [List.takeWhile_cons, if_pos (show noBx x = true from decide_eq_true h)]
      rw [h2, e, ← ih]
      rfl
theorem hdX_len (t : List Nat) : (hdX t).length ≤ t.length := by
  have := congrArg List.length (takeWhile_takeX noBx t)
  rw [List.length_take] at this
  unfold hdX; omega
theorem hdX_take (t : List Nat) : t.take (hdX t).length = hdX t := takeWhile_takeX noBx t
theorem hdX_B {t : List Nat} (h : IsB t) : IsB (hdX t) := by rw [← hdX_take]; exact isB_take h _

/-- The pieces without a blank. -/
def wdX (l : List Nat) : List (List Nat) := (cutM 32 l).filter fun x => !x.isEmpty
theorem wdX_nil : wdX [] = [] := rfl
theorem wdX_bl (r : List Nat) : wdX (32 :: r) = wdX r := by
  unfold wdX; rw [cutM, if_pos rfl]; rfl
theorem hdX_no : ∀ t : List Nat, (32 : Nat) ∉ hdX t
  | [] => by simp [hdX]
  | x :: r => by
    unfold hdX
    rw [List.takeWhile_cons]
    split
    · rename_i h
      have hx : x ≠ 32 := of_decide_eq_true h
      have := hdX_no r
      unfold hdX at this
      simp [this]
      omega
    · simp
theorem wdX_hd (x : Nat) (r : List Nat) (hx : x ≠ 32) : wdX (x :: r) = hdX (x :: r) :: wdX ((x :: r).drop ((hdX (x :: r)).length + 1)) ∧ 0 < (hdX (x :: r)).length := by
  have hne : hdX (x :: r) ≠ [] := by
    unfold hdX
    rw [List.takeWhile_cons, if_pos (show noBx x = true from decide_eq_true hx)]
    simp
  have hpos := List.length_pos_iff.2 hne
  refine ⟨?_, hpos⟩
  have hno := hdX_no (x :: r)
  have htk := hdX_take (x :: r)
  have hle := hdX_len (x :: r)
  by_cases hlt : ((x :: r).takeWhile noBx).length < (x :: r).length
  · obtain ⟨y, u, h1, h2, h3, _⟩ := tw_split (p := noBx) (x :: r) hlt
    have hy : y = 32 := by
      have := of_decide_eq_false h2
      omega
    have h3' : (x :: r).drop ((hdX (x :: r)).length + 1) = u := h3
    have h1' : x :: r = hdX (x :: r) ++ 32 :: u := by rw [← hy]; exact h1
    rw [h3']
    have hc : cutM 32 (x :: r) = hdX (x :: r) :: cutM 32 u := by
      have := cutM_hit (c := 32) u hno
      rw [← h1'] at this
      exact this
    unfold wdX
    rw [hc, List.filter_cons_of_pos (by rw [List.isEmpty_eq_false_iff.2 hne]; rfl)]
  · have hE : hdX (x :: r) = x :: r := by
      have h2 : (hdX (x :: r)).length = (x :: r).length := Nat.le_antisymm hle (Nat.le_of_not_lt hlt)
      rw [h2, List.take_length] at htk
      exact htk.symm
    rw [hE] at hno ⊢
    rw [List.drop_eq_nil_of_le (by omega)]
    unfold wdX
    rw [cutM_no hno]
    rfl
set_option maxHeartbeats 1600000 in
set_option maxRecDepth 100000 in
theorem cutX_any (t : List Nat) (n : Nat) (w : World) (hl : t.length = n) (hB : IsB t) (hn : n ≤ 1048576) :
    Calls Try.prog 10 #[.string (str t), .string ⟨#[32]⟩] w fun e w' => (∃ f, e = .returned (.tuple #[.string (str (hdX t)), .string (str (t.drop ((hdX t).length + 1))), .bool f])) ∧ Below w.heap.size w w' := by
  have hsz : (str t).size = n := by rw [str_size, hl]
  have HC := fun w => Try.stringslite_Index_one (str t) 32 w
  have hI := idx_natW (c := 32) (by omega) (p := noBx) (fun b => rfl) t hB
  rw [show (UInt8.ofNat 32) = (32 : UInt8) from rfl] at hI
  rw [show (str t).data.toList = t.map UInt8.ofNat by simp [str], hI] at HC
  have e1 : (str t).extract 0 (hdX t).length = str (hdX t) := by rw [str_exY, List.drop_zero, hdX_take]
  have e2 : (str t).extract ((hdX t).length + 1) n = str (t.drop ((hdX t).length + 1)) := by rw [str_exY, ← hl, List.take_length]
  have hle := hdX_len t
  have mixed : Try.prog.follows Departure.mixedOrders = true := by kernel_rfl
  by_cases hlt : (t.takeWhile noBx).length < t.length
  · rw [if_pos hlt] at HC
    have hlt' : (hdX t).length < t.length := hlt
    rw [show (t.takeWhile noBx).length = (hdX t).length from rfl] at HC
    generalize hdX t = h at *
    obtain ⟨i, hi⟩ : ∃ i, i = h.length := ⟨_, rfl⟩
    rw [← hi] at HC hlt' e1 e2 hle ⊢
    clear hlt hI hi
    rw [hl] at hlt' hle
    clear hl
    have c1 : (0 : Int) ≤ (i : Int) := by omega
    have c2 : (i : Int) ≤ (n : Int) := by omega
    have c3 : (0 : Int) ≤ (i : Int) + 1 := by omega
    have c4 : (i : Int) + 1 ≤ (n : Int) := by omega
    have hcut : Calls Try.prog 15 #[.string (str t), .string ⟨#[32]⟩] w fun e w' => (∃ f, e = .returned (.tuple #[.string (str h), .string (str (t.drop (i + 1))), .bool f])) ∧ Below w.heap.size w w' := by
      go_enter Try.func15, Try.ntmps15
      go_wp2_with fail
      refine (HC _).mono ?_
      rintro e w' ⟨rfl, rfl⟩
      go_wp2
      go_region_o
      go_wp2
      go_ret3
      exact ⟨⟨_, rfl⟩, (Below.refl _ _).drew⟩
    go_enter Try.func10, Try.ntmps10
    go_wp2_with fail
    refine hcut.mono ?_
    rintro e w' ⟨⟨f, rfl⟩, hb⟩
    go_wp2
    go_ret3
    exact ⟨⟨_, rfl⟩, hb⟩
  · rw [if_neg hlt] at HC
    have hE : hdX t = t := by
      have h2 : (hdX t).length = t.length := Nat.le_antisymm hle (Nat.le_of_not_lt hlt)
      have := hdX_take t
      rw [h2, List.take_length] at this
      exact this.symm
    rw [hE, show t.drop (t.length + 1) = [] from List.drop_eq_nil_of_le (by omega), show str [] = ⟨#[]⟩ from rfl]
    have hcut : Calls Try.prog 15 #[.string (str t), .string ⟨#[32]⟩] w fun e w' => (∃ f, e = .returned (.tuple #[.string (str t), .string ⟨#[]⟩, .bool f])) ∧ Below w.heap.size w w' := by
      clear hI e1 e2 hle hlt hE
      go_enter Try.func15, Try.ntmps15
      go_wp2_with fail
      refine (HC _).mono ?_
      rintro e w' ⟨rfl, rfl⟩
      go_wp2
      go_ret3
      exact ⟨⟨_, rfl⟩, Below.refl _ _⟩
    go_enter Try.func10, Try.ntmps10
    go_wp2_with fail
    refine hcut.mono ?_
    rintro e w' ⟨⟨f, rfl⟩, hb⟩
    go_wp2
    go_ret3
    exact ⟨⟨_, rfl⟩, hb⟩

end Go.Proofs.Ytmidjgpegdodcaa
