/- Texts of sets, plain: cut at a byte, ends of ranges, what is read of a text and what is told again; no program in it but the words of a range. -/
import Derived.Test.YtlkfmgfblfkgbaaGreatDoorYtv
namespace Go.Proofs.YtlkfmgfblfkgbaaGreatDoor
open Go.RowKit

/-- A text cut at a byte. -/
def cutM (c : Nat) : List Nat → List (List Nat)
  | [] => [[]]
  | x :: r => if x = c then [] :: cutM c r else match cutM c r with
    | [] => [[x]]
    | h :: t => (x :: h) :: t
theorem cutM_ne (c : Nat) : ∀ l, cutM c l ≠ []
  | [] => by simp [cutM]
  | x :: r => by
    unfold cutM
    split
    · simp
    · split <;> simp
theorem cutM_cons {c x : Nat} {r : List Nat} (h : x ≠ c) : ∃ y t, cutM c r = y :: t ∧ cutM c (x :: r) = (x :: y) :: t := by
  cases hc : cutM c r with
  | nil => exact absurd hc (cutM_ne c r)
  | cons y t => exact ⟨y, t, rfl, by rw [cutM, if_neg h, hc]⟩
theorem cutM_no {c : Nat} : ∀ {l : List Nat}, c ∉ l → cutM c l = [l]
  | [], _ => rfl
  | x :: r, h => by
    have hx : x ≠ c := fun e => h (by rw [e]; exact List.mem_cons_self ..)
    have := cutM_no (c := c) (l := r) fun e => h (List.mem_cons_of_mem _ e)
    rw [cutM, if_neg hx, this]
theorem cutM_hit {c : Nat} : ∀ {y : List Nat} (r : List Nat), c ∉ y → cutM c (y ++ c :: r) = y :: cutM c r
  | [], r, _ => by rw [List.nil_append, cutM, if_pos rfl]
  | x :: y, r, h => by
    have hx : x ≠ c := fun e => h (by rw [e]; exact List.mem_cons_self ..)
    have := cutM_hit (c := c) (y := y) r fun e => h (List.mem_cons_of_mem _ e)
    rw [List.cons_append, cutM, if_neg hx, this]
theorem cutM_all {c : Nat} : ∀ {l : List Nat}, ∀ w ∈ cutM c l, c ∉ w
  | [], w, hw => by
    simp [cutM] at hw
    subst hw; simp
  | x :: r, w, hw => by
    by_cases hx : x = c
    · rw [cutM, if_pos hx] at hw
      rcases List.mem_cons.1 hw with rfl | hw
      · simp
      · exact cutM_all w hw
    · obtain ⟨y, t, e1, e2⟩ := cutM_cons (r := r) hx
      rw [e2] at hw
      rcases List.mem_cons.1 hw with rfl | hw
      · intro h
        rcases List.mem_cons.1 h with h | h
        · exact hx h.symm
        · exact cutM_all (l := r) y (by rw [e1]; exact List.mem_cons_self ..) h
      · exact cutM_all (l := r) w (by rw [e1]; exact List.mem_cons_of_mem _ hw)
/-- Words with a byte between. -/
def jnC (c : Nat) : List (List Nat) → List Nat
  | [] => []
  | x :: r => x ++ (r.map ([c] ++ ·)).flatten
theorem jnT_C (ws : List (List Nat)) : jnT ws = jnC 44 ws := by cases ws <;> rfl
theorem jnC_cons (c : Nat) (x y : List Nat) (t : List (List Nat)) : jnC c (x :: y :: t) = x ++ c :: jnC c (y :: t) := by simp [jnC]
theorem cutM_join (c : Nat) : ∀ l, jnC c (cutM c l) = l
  | [] => rfl
  | x :: r => by
    have ih := cutM_join c r
    by_cases hx : x = c
    · rw [cutM, if_pos hx]
      cases hc : cutM c r with
      | nil => exact absurd hc (cutM_ne c r)
      | cons y t => rw [jnC_cons, ← hc, ih, hx]; rfl
    · obtain ⟨y, t, e1, e2⟩ := cutM_cons (r := r) hx
      rw [e2]
      rw [e1] at ih
      cases t with
      | nil => simp only [jnC, List.map_nil, List.flatten_nil, List.append_nil] at ih ⊢; rw [ih]
      | cons z t => rw [jnC_cons] at ih ⊢; rw [List.cons_append, ih]
theorem cutM_jn {c : Nat} : ∀ {ws : List (List Nat)}, ws ≠ [] → (∀ w ∈ ws, c ∉ w) → cutM c (jnC c ws) = ws
  | [], h, _ => absurd rfl h
  | [x], _, h => by
    have := cutM_no (h x (List.mem_cons_self ..))
    simpa [jnC] using this
  | x :: y :: t, _, h => by
    rw [jnC_cons, cutM_hit _ (h x (List.mem_cons_self ..)), cutM_jn (ws := y :: t) (by simp) fun w hw => h w (List.mem_cons_of_mem _ hw)]

/-- Digits, and nothing else. -/
theorem dgF_dig : ∀ {d n : Nat}, n < 10 ^ (d + 1) → ∀ x ∈ dgF d n, 48 ≤ x ∧ x ≤ 57
  | 0, n, h, x, hx => by
    have hn : n < 10 := by simpa using h
    simp only [dgF, List.mem_singleton] at hx
    omega
  | d + 1, n, h, x, hx => by
    unfold dgF at hx
    split at hx
    · simp only [List.mem_singleton] at hx; omega
    · rcases List.mem_append.1 hx with hx | hx
      · exact dgF_dig (d := d) (n := n / 10) (by rw [Nat.pow_succ] at h; omega) x hx
      · simp only [List.mem_singleton] at hx
        omega
theorem wdN_chars {n : Int} (h : bty n 0 999 = true) : ∀ x ∈ wdN n, x = 42 ∨ 48 ≤ x ∧ x ≤ 57 := by
  have hb := of_decide_eq_true h
  intro x hx
  unfold wdN at hx
  split at hx
  · simp only [List.mem_singleton] at hx; exact .inl hx
  · exact .inr (dgF_dig (d := 2) (n := n.toNat) (by simp; omega) x hx)
theorem wdN_not {n : Int} (h : bty n 0 999 = true) : 44 ∉ wdN n ∧ 58 ∉ wdN n := by
  refine ⟨fun hx => ?_, fun hx => ?_⟩
  · have := wdN_chars h _ hx; omega
  · have := wdN_chars h _ hx; omega
theorem wdY_not {p : YgP} (h1 : bty p.1 0 999 = true) (h2 : bty p.2 0 999 = true) : 44 ∉ wdY p := by
  unfold wdY
  split
  · exact (wdN_not h1).1
  · intro hx
    rcases List.mem_append.1 hx with hx | hx
    · rcases List.mem_append.1 hx with hx | hx
      · exact (wdN_not h1).1 hx
      · simp at hx
    · exact (wdN_not h2).1 hx

/-- A number of 1 to 4 digits, no 0 ahead; -1: it is none. -/
def digV : List Nat → Int → Int
  | [], v => v
  | x :: r, v => if x < 48 ∨ 57 < x then -1 else digV r (v * 10 + (x - 48 : Nat))
def valM (l : List Nat) : Int := if l.length < 1 ∨ 4 < l.length ∨ (1 < l.length ∧ nth l 0 = 48) then -1 else digV l 0
/-- An end of a range; -1: it is none. -/
def endM (l : List Nat) : Int := if l = [42] then 0 else if bty (valM l) 1 999 then valM l else -1
theorem endM_all : (List.range 1000).all (fun n => endM (wdN (n : Int)) == (n : Int)) = true := by kernel_rfl
theorem endM_wd {n : Int} (h : bty n 0 999 = true) : endM (wdN n) = n := by
  have hb := of_decide_eq_true h
  have := List.all_eq_true.1 endM_all n.toNat (by rw [List.mem_range]; omega)
  rw [show ((n.toNat : Nat) : Int) = n by omega] at this
  exact beq_iff_eq.1 this
theorem digV_bad {x : Nat} {r : List Nat} {v : Int} (h : x < 48 ∨ 57 < x) : digV (x :: r) v = -1 := if_pos h
theorem digV_go {x : Nat} {r : List Nat} {v : Int} (h : ¬ (x < 48 ∨ 57 < x)) : digV (x :: r) v = digV r (v * 10 + (x - 48 : Nat)) := if_neg h
theorem valM_three {l : List Nat} (h : bty (valM l) 1 999 = true) : l = dgF 2 (valM l).toNat := by
  have hb := of_decide_eq_true h
  have hv : valM l = digV l 0 ∧ ¬ (l.length < 1 ∨ 4 < l.length ∨ (1 < l.length ∧ nth l 0 = 48)) := by
    unfold valM at hb ⊢
    split
    · rename_i h1; rw [if_pos h1] at hb; omega
    · rename_i h1; exact ⟨rfl, h1⟩
  obtain ⟨hv, hl⟩ := hv
  rw [hv] at hb ⊢
  match l, hb, hl with
  | [], _, hl => exact absurd (.inl (by simp)) hl
  | [a], hb, _ =>
    by_cases ha : a < 48 ∨ 57 < a
    · rw [digV_bad ha] at hb; omega
    · rw [digV_go ha] at hb ⊢
      simp only [digV] at hb ⊢
      rw [dgF, if_pos (by omega)]
      congr 1; omega
  | [a, b], hb, hl =>
    have h0 : a ≠ 48 := fun e => hl (.inr (.inr ⟨by simp, e⟩))
    by_cases ha : a < 48 ∨ 57 < a
    · rw [digV_bad ha] at hb; omega
    · by_cases hb' : b < 48 ∨ 57 < b
      · rw [digV_go ha, digV_bad hb'] at hb; omega
      · rw [digV_go ha, digV_go hb'] at hb ⊢
        simp only [digV] at hb ⊢
        have e1 : (((0 * 10 + ((a - 48 : Nat) : Int)) * 10 + ((b - 48 : Nat) : Int)).toNat) = (a - 48) * 10 + (b - 48) := by omega
        rw [e1, dgF, if_neg (by omega), dgF, if_pos (by omega)]
        simp only [List.cons_append, List.nil_append]
        congr 1
        · omega
        · congr 1; omega
  | [a, b, c], hb, hl =>
    have h0 : a ≠ 48 := fun e => hl (.inr (.inr ⟨by simp, e⟩))
    by_cases ha : a < 48 ∨ 57 < a
    · rw [digV_bad ha] at hb; omega
    · by_cases hb' : b < 48 ∨ 57 < b
      · rw [digV_go ha, digV_bad hb'] at hb; omega
      · by_cases hc : c < 48 ∨ 57 < c
        · rw [digV_go ha, digV_go hb', digV_bad hc] at hb; omega
        · rw [digV_go ha, digV_go hb', digV_go hc] at hb ⊢
          simp only [digV] at hb ⊢
          have e1 : ((((0 * 10 + ((a - 48 : Nat) : Int)) * 10 + ((b - 48 : Nat) : Int)) * 10 + ((c - 48 : Nat) : Int)).toNat) = ((a - 48) * 10 + (b - 48)) * 10 + (c - 48) := by omega
          rw [e1, dgF, if_neg (by omega), dgF, if_neg (by omega), dgF]
          simp only [List.cons_append, List.nil_append]
          congr 1
          · omega
          · congr 1
            · omega
            · congr 1; omega
  | [a, b, c, d], hb, hl =>
    exfalso
    have h0 : a ≠ 48 := fun e => hl (.inr (.inr ⟨by simp, e⟩))
    by_cases ha : a < 48 ∨ 57 < a
    · rw [digV_bad ha] at hb; omega
    · by_cases hb' : b < 48 ∨ 57 < b
      · rw [digV_go ha, digV_bad hb'] at hb; omega
      · by_cases hc : c < 48 ∨ 57 < c
        · rw [digV_go ha, digV_go hb', digV_bad hc] at hb; omega
        · by_cases hd : d < 48 ∨ 57 < d
          · rw [digV_go ha, digV_go hb', digV_go hc, digV_bad hd] at hb; omega
          · rw [digV_go ha, digV_go hb', digV_go hc, digV_go hd] at hb
            simp only [digV] at hb
            omega
  | a :: b :: c :: d :: e :: r, _, hl => exact absurd (.inr (.inl (by simp))) hl
theorem endM_back {l : List Nat} (h : 0 ≤ endM l) : l = wdN (endM l) ∧ bty (endM l) 0 999 = true := by
  by_cases h42 : l = [42]
  · subst h42; exact ⟨rfl, rfl⟩
  · have e1 : endM l = if bty (valM l) 1 999 then valM l else -1 := by rw [endM, if_neg h42]
    cases hb : bty (valM l) 1 999 with
    | false => rw [hb] at e1; rw [e1] at h; exact absurd h (by simp)
    | true =>
      rw [hb] at e1
      have e2 : endM l = valM l := e1
      have hb' := of_decide_eq_true hb
      rw [e2]
      refine ⟨?_, decide_eq_true (by omega)⟩
      unfold wdN
      rw [if_neg (by omega)]
      exact valM_three hb
end Go.Proofs.YtlkfmgfblfkgbaaGreatDoor
