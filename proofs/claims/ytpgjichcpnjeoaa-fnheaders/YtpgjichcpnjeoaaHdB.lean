/- Fields are read back from a header, plainly: whatever stands behind it; a field is found by its own name. -/
import Derived.Test.YtpgjichcpnjeoaaPhp
import Derived.Test.YtpgjichcpnjeoaaFdo
namespace Go.Proofs.Ytpgjichcpnjeoaa
open Go.RowKit

theorem eoL_at {a u v : List Nat} (h : ∀ x ∈ u, x ≠ 10) : eoL (a ++ (u ++ 10 :: v)) a.length = a.length + u.length := by
  unfold eoL
  rw [List.drop_left, List.takeWhile_append_of_pos (fun x hx => by unfold noLf; exact decide_eq_true (h x hx)), List.takeWhile_cons]
  simp [noLf]
theorem nm_bytes {x : ByteArray} (h : nmOk (bts x) = true) : (∀ c ∈ bts x, c ≠ 58 ∧ c ≠ 10 ∧ c ≠ 32 ∧ c ≠ 9) ∧ 1 ≤ (bts x).length := by
  unfold nmOk at h
  rw [Bool.and_eq_true] at h
  obtain ⟨h1, h2⟩ := h
  have h2 := of_decide_eq_true h2
  refine ⟨fun c hc => ?_, h2.1⟩
  have := List.all_eq_true.1 h1 c hc
  unfold nmB at this
  have := of_decide_eq_true this
  omega
theorem vl_bytes {x : ByteArray} (h : vlOk (bts x) = true) : ∀ c ∈ bts x, c ≠ 10 := by
  unfold vlOk at h
  rw [Bool.and_eq_true] at h
  intro c hc
  have := List.all_eq_true.1 h.1 c hc
  unfold vlB at this
  have := of_decide_eq_true this
  omega
theorem clN_name {a v : List Nat} (h : ∀ x ∈ a, x ≠ 58) : clN (a ++ 58 :: v) = a.length := by
  unfold clN
  rw [List.takeWhile_append_of_pos (fun x hx => by unfold noCl; exact decide_eq_true (h x hx)), List.takeWhile_cons]
  simp [noCl]
/-- A line that was told of a field tells it. -/
theorem fdL_back (p : FldP) (h : fdOk p = true) : fdL (bts p.1 ++ [58, 32] ++ bts p.2) = p ∧ clN (bts p.1 ++ [58, 32] ++ bts p.2) < (bts p.1 ++ [58, 32] ++ bts p.2).length ∧ ¬ (nth (bts p.1 ++ [58, 32] ++ bts p.2) 0 = 32 ∨ nth (bts p.1 ++ [58, 32] ++ bts p.2) 0 = 9) := by
  unfold fdOk at h
  rw [Bool.and_eq_true] at h
  obtain ⟨hb, h1⟩ := nm_bytes h.1
  have e : bts p.1 ++ [58, 32] ++ bts p.2 = bts p.1 ++ 58 :: (32 :: bts p.2) := by simp
  have hc := clN_name (a := bts p.1) (v := 32 :: bts p.2) (fun x hx => (hb x hx).1)
  rw [e]
  refine ⟨?_, by rw [hc]; simp, ?_⟩
  · unfold fdL
    rw [hc, List.take_left]
    have e2 : (bts p.1 ++ 58 :: (32 :: bts p.2)).drop ((bts p.1).length + 1) = 32 :: bts p.2 := by
      rw [List.drop_append]; simp
    rw [e2]
    have e3 : oneOff (32 :: bts p.2) = bts p.2 := by unfold oneOff; rw [if_pos (by simp [nth])]; rfl
    rw [e3, str_bts, str_bts]
  · obtain ⟨c, t, ht⟩ : ∃ c t, bts p.1 = c :: t := by
      cases hx : bts p.1 with
      | nil => rw [hx] at h1; simp at h1
      | cons c t => exact ⟨c, t, rfl⟩
    have := hb c (by rw [ht]; simp)
    rw [ht]
    simp only [List.cons_append, nth, List.getD_cons_zero]
    omega
theorem hd_back (r : List Nat) : ∀ (l : List FldP) (a : List Nat) (fs : List FldP) (f : Nat), l.all fdOk = true → l.length + 1 ≤ f → prH (a ++ (pkH l ++ 10 :: r)) f a.length fs = some (fs ++ l, a.length + (pkH l).length + 1)
  | [], a, fs, f, _, hf => by
    obtain ⟨f, rfl⟩ : ∃ g, f = g + 1 := ⟨f - 1, by simp at hf; omega⟩
    have he := eoL_at (a := a) (u := []) (v := r) (by simp)
    simp only [pkH, List.flatMap_nil, List.nil_append, List.length_nil, Nat.add_zero, List.append_nil] at he ⊢
    exact prH_stop (by simp) he
  | p :: l, a, fs, f, h, hf => by
    obtain ⟨f, rfl⟩ : ∃ g, f = g + 1 := ⟨f - 1, by simp at hf; omega⟩
    rw [List.all_cons, Bool.and_eq_true] at h
    obtain ⟨hL, hc, hx⟩ := fdL_back p h.1
    have hp := h.1
    unfold fdOk at hp
    rw [Bool.and_eq_true] at hp
    obtain ⟨hb, h1⟩ := nm_bytes hp.1
    have hv := vl_bytes hp.2
    have hu : ∀ x ∈ bts p.1 ++ [58, 32] ++ bts p.2, x ≠ 10 := by
      intro x hx
      rw [List.mem_append, List.mem_append] at hx
      rcases hx with (hx | hx) | hx
      · exact (hb x hx).2.1
      · simp at hx; omega
      · exact hv x hx
    have hlen : 1 ≤ (bts p.1 ++ [58, 32] ++ bts p.2).length := by simp only [List.length_append, List.length_cons]; omega
    have e : pkH (p :: l) = (bts p.1 ++ [58, 32] ++ bts p.2) ++ 10 :: pkH l := by simp [pkH, lnF]
    rw [e]
    generalize bts p.1 ++ [58, 32] ++ bts p.2 = u at *
    have he := eoL_at (a := a) (u := u) (v := pkH l ++ 10 :: r) hu
    have e2 : a ++ ((u ++ 10 :: pkH l) ++ 10 :: r) = a ++ (u ++ 10 :: (pkH l ++ 10 :: r)) := by simp
    rw [e2]
    have hd : (a ++ (u ++ 10 :: (pkH l ++ 10 :: r))).length = a.length + u.length + (pkH l).length + r.length + 2 := by simp; omega
    have ht : ((a ++ (u ++ 10 :: (pkH l ++ 10 :: r))).take (a.length + u.length)).drop a.length = u := by
      rw [← List.append_assoc, ← List.length_append, List.take_left, List.drop_left]
    have hln : lnV fs (((a ++ (u ++ 10 :: (pkH l ++ 10 :: r))).take (eoL (a ++ (u ++ 10 :: (pkH l ++ 10 :: r))) a.length)).drop a.length) = some (fs ++ [p]) := by
      rw [he, ht, lnV_new hx hc, hL]
    rw [prH_on (by omega) (by omega) hln, he, if_pos (by omega)]
    have ih := hd_back r l (a ++ (u ++ [10])) (fs ++ [p]) f h.2 (by simp at hf ⊢; omega)
    have e3 : (a ++ (u ++ [10])) ++ (pkH l ++ 10 :: r) = a ++ (u ++ 10 :: (pkH l ++ 10 :: r)) := by simp
    have e4 : (a ++ (u ++ [10])).length = a.length + u.length + 1 := by simp; omega
    rw [e3, e4] at ih
    rw [ih]
    simp only [List.append_assoc, List.singleton_append, List.length_append, List.length_cons, Option.some.injEq, Prod.mk.injEq, true_and]
    omega
/-- What was packed is read back, a letter behind it. -/
theorem ph_back {l : List FldP} (h : fdF l = 0) (hs : (pkH l ++ [10]).length < 400) : phV ((pkH l ++ [10]) ++ [97]) = (0, (pkH l ++ [10]).length, l) := by
  obtain ⟨h8, ha⟩ := fdF_zero h
  have hp := hd_back [97] l [] [] (((pkH l ++ [10]) ++ [97]).length + 1) ha (by
    have : l.length ≤ (pkH l).length := by
      clear hs h h8 ha
      induction l with
      | nil => simp
      | cons p l ih => simp [pkH, lnF] at ih ⊢; omega
    simp; omega)
  have e : (pkH l ++ [10]) ++ [97] = [] ++ (pkH l ++ 10 :: [97]) := by simp
  rw [← e] at hp
  simp only [List.length_nil, List.nil_append, Nat.zero_add] at hp
  rw [phV_ok (by simp at hs ⊢; omega) hp h]
  simp
theorem fo_self {l : List FldP} (h : fdF l = 0) {i : Nat} (hi : i < l.length) : foC l (nthF l i).1 = 0 := by
  cases e : fdOf l (nthF l i).1 with
  | some v => exact (fo_some h e).1
  | none =>
    exfalso
    have key : ∀ (l : List FldP) (nm : ByteArray), fdOf l nm = none → ∀ p ∈ l, lowT p.1 ≠ lowT nm := by
      intro l nm
      induction l with
      | nil => intro _ p hp; simp at hp
      | cons q l ih =>
        intro hn p hp
        unfold fdOf at hn
        split at hn
        · cases hn
        · rename_i hq
          rcases List.mem_cons.1 hp with rfl | hp
          · exact hq
          · exact ih hn p hp
    exact key l _ e (nthF l i) (by rw [nthF_get hi]; exact List.getElem_mem _) rfl
theorem ph_fault (d : List Nat) : (phV d).1 = 0 → fdF (phV d).2.2 = 0 := by
  intro h
  unfold phV at h ⊢
  split at h
  · simp at h
  · rename_i h4
    rw [if_neg h4]
    split at h
    · simp at h
    · rename_i fs k e
      split at h
      · rename_i hf
        rw [if_pos hf]; exact hf
      · simp at h
theorem ph_place (d : List Nat) : (phV d).2.1 ≤ d.length := by
  unfold phV
  split
  · simp
  · split
    · simp
    · rename_i fs k e
      split
      · exact (prH_fit _ 0 [] fs k (by simp) ⟨by simp, by simp⟩ e).2
      · simp
end Go.Proofs.Ytpgjichcpnjeoaa
