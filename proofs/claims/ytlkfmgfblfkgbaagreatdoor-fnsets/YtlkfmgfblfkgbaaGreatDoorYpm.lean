/- Texts of sets, plain (more of it): what the model reads, what the program reads, and that both are the same. -/
import Derived.Test.YtlkfmgfblfkgbaaGreatDoorYpl
import Derived.Lib.Split
import Derived.Lib.ParseIntB
import Derived.Lib.IndexBytes
namespace Go.Proofs.YtlkfmgfblfkgbaaGreatDoor
open Go.RowKit

/-- A range out of its ends; none: it is none. -/
def rgE (es : List (List Nat)) : Option YgP := if 2 < es.length ∨ endM (nthS es 0) < 0 ∨ endM (nthS es (es.length - 1)) < 0 ∨ (es.length = 2 ∧ endM (nthS es 0) = endM (nthS es (es.length - 1))) then none else some (endM (nthS es 0), endM (nthS es (es.length - 1)))
def rgM (w : List Nat) : Option YgP := rgE (cutM 58 w)
theorem rgM_wd {p : YgP} (h1 : bty p.1 0 999 = true) (h2 : bty p.2 0 999 = true) : rgM (wdY p) = some p := by
  obtain ⟨a, b⟩ := p
  simp only at h1 h2
  have e1 := endM_wd h1
  have e2 := endM_wd h2
  have b1 := of_decide_eq_true h1
  have b2 := of_decide_eq_true h2
  by_cases hab : a = b
  · subst hab
    have : cutM 58 (wdY (a, a)) = [wdN a] := by
      rw [show wdY (a, a) = wdN a from if_pos rfl]
      exact cutM_no (wdN_not h1).2
    unfold rgM rgE
    rw [this]
    have n0 : nthS [wdN a] 0 = wdN a := rfl
    rw [show ([wdN a] : List (List Nat)).length - 1 = 0 from rfl, n0, e1, if_neg]
    simp
    omega
  · have : cutM 58 (wdY (a, b)) = [wdN a, wdN b] := by
      rw [show wdY (a, b) = wdN a ++ [58] ++ wdN b from if_neg hab, List.append_assoc, List.singleton_append, cutM_hit _ (wdN_not h1).2, cutM_no (wdN_not h2).2]
    unfold rgM rgE
    rw [this]
    have n0 : nthS [wdN a, wdN b] 0 = wdN a := rfl
    have n1 : nthS [wdN a, wdN b] 1 = wdN b := rfl
    rw [show ([wdN a, wdN b] : List (List Nat)).length - 1 = 1 from rfl, n0, n1, e1, e2, if_neg]
    simp
    omega
theorem rgM_back {w : List Nat} {p : YgP} (h : rgM w = some p) : w = wdY p ∧ bty p.1 0 999 = true ∧ bty p.2 0 999 = true := by
  unfold rgM rgE at h
  have hj := cutM_join 58 w
  have hne := cutM_ne 58 w
  generalize cutM 58 w = es at *
  split at h
  · cases h
  · rename_i hc
    cases h
    match es, hne, hc, hj with
    | [], hne, _, _ => exact absurd rfl hne
    | [x], _, hc, hj =>
      have n0 : nthS [x] 0 = x := rfl
      rw [show ([x] : List (List Nat)).length - 1 = 0 from rfl, n0] at hc ⊢
      have hx : 0 ≤ endM x := by
        rcases Int.lt_or_le (endM x) 0 with h | h
        · exact absurd (.inr (.inl h)) hc
        · exact h
      obtain ⟨e, hb⟩ := endM_back hx
      refine ⟨?_, hb, hb⟩
      have : w = x := by rw [← hj]; simp [jnC]
      rw [this, show wdY (endM x, endM x) = wdN (endM x) from if_pos rfl]
      exact e
    | [x, y], _, hc, hj =>
      have n0 : nthS [x, y] 0 = x := rfl
      have n1 : nthS [x, y] 1 = y := rfl
      rw [show ([x, y] : List (List Nat)).length - 1 = 1 from rfl, n0, n1] at hc ⊢
      have hx : 0 ≤ endM x := by
        rcases Int.lt_or_le (endM x) 0 with h | h
        · exact absurd (.inr (.inl h)) hc
        · exact h
      have hy : 0 ≤ endM y := by
        rcases Int.lt_or_le (endM y) 0 with h | h
        · exact absurd (.inr (.inr (.inl h))) hc
        · exact h
      have hxy : endM x ≠ endM y := fun h => hc (.inr (.inr (.inr ⟨rfl, h⟩)))
      obtain ⟨ex, hbx⟩ := endM_back hx
      obtain ⟨ey, hby⟩ := endM_back hy
      refine ⟨?_, hbx, hby⟩
      rw [show wdY (endM x, endM y) = wdN (endM x) ++ [58] ++ wdN (endM y) from if_neg hxy, ← ex, ← ey, ← hj]
      simp [jnC]
    | x :: y :: z :: t, _, hc, _ => exact absurd (.inl (by simp)) hc
def psL : List (List Nat) → Option (List YgP)
  | [] => some []
  | w :: r => match rgM w with
    | none => none
    | some p => (psL r).map (p :: ·)
theorem psL_map : ∀ {l : List YgP}, rfA l = true → psL (l.map wdY) = some l
  | [], _ => rfl
  | p :: l, h => by
    have h' : (bty p.1 0 999 && bty p.2 0 999) = true ∧ rfA l = true := by
      have := h
      unfold rfA at this ⊢
      rw [List.all_cons] at this
      exact Bool.and_eq_true_iff.1 this
    have hb := Bool.and_eq_true_iff.1 h'.1
    rw [List.map_cons, psL, rgM_wd hb.1 hb.2, psL_map h'.2]; rfl
theorem psL_back : ∀ {ws : List (List Nat)} {out : List YgP}, psL ws = some out → ws = out.map wdY ∧ rfA out = true
  | [], out, h => by
    simp [psL] at h
    subst h; exact ⟨rfl, rfl⟩
  | w :: r, out, h => by
    unfold psL at h
    cases hr : rgM w with
    | none => rw [hr] at h; cases h
    | some p =>
      rw [hr] at h
      simp only at h
      cases hp : psL r with
      | none => rw [hp] at h; cases h
      | some o =>
        rw [hp] at h
        cases h
        obtain ⟨e1, e2⟩ := psL_back hp
        obtain ⟨f1, f2, f3⟩ := rgM_back hr
        refine ⟨by rw [List.map_cons, ← e1, ← f1], ?_⟩
        unfold rfA at e2 ⊢
        rw [List.all_cons, f2, f3, e2]; rfl
/-- What the model reads. -/
def pmV (l : List Nat) : Int × List YgP := match psL (cutM 44 l) with
  | none => (5, [])
  | some out => if out.length ≤ 8 then (0, out) else (5, [])
theorem txY_cut {o : List YgP} (h : rfV o = 0) : cutM 44 (txY o) = o.map wdY := by
  obtain ⟨hA, h1, h8⟩ := rfV_A h
  unfold txY
  rw [jnT_C]
  refine cutM_jn (fun e => ?_) fun w hw => ?_
  · have := congrArg List.length e
    rw [List.length_map] at this
    simp at this
    rw [this] at h1; simp at h1
  · obtain ⟨p, hp, rfl⟩ := List.mem_map.1 hw
    have := Bool.and_eq_true_iff.1 (List.all_eq_true.1 hA p hp)
    exact wdY_not this.1 this.2
theorem pmV_tx {o : List YgP} (h : rfV o = 0) : pmV (txY o) = (0, o) := by
  obtain ⟨hA, h1, h8⟩ := rfV_A h
  unfold pmV
  rw [txY_cut h, psL_map hA]
  exact if_pos h8
theorem pmV_back {l : List Nat} (h : (pmV l).1 = 0) : rfV (pmV l).2 = 0 ∧ txY (pmV l).2 = l := by
  unfold pmV at h ⊢
  have hne := cutM_ne 44 l
  have hj := cutM_join 44 l
  generalize cutM 44 l = ws at *
  cases hp : psL ws with
  | none => rw [hp] at h; cases h
  | some out =>
    rw [hp] at h
    simp only at h ⊢
    obtain ⟨e1, e2⟩ := psL_back hp
    split
    · rename_i h8
      refine ⟨rfV_ok ⟨?_, h8⟩ e2, ?_⟩
      · rcases Nat.lt_or_ge 0 out.length with h' | h'
        · exact h'
        · exfalso
          apply hne
          rw [e1, List.length_eq_zero_iff.1 (Nat.le_zero.1 h')]; rfl
      · unfold txY
        rw [jnT_C, ← e1]; exact hj
    · rename_i h8
      rw [if_neg h8] at h; cases h
theorem pmV_no {l : List Nat} (h : (pmV l).1 ≠ 0) : pmV l = (5, []) := by
  unfold pmV at h ⊢
  cases hp : psL (cutM 44 l) with
  | none => rfl
  | some out =>
    rw [hp] at h
    simp only at h ⊢
    split
    · rename_i h8
      rw [if_pos h8] at h; exact absurd rfl h
    · rfl

/-- An end of a range as the program reads it. -/
def endP (bs : List UInt8) : Int := if bs = [42] then 0 else match Lib.parseIntB 64 bs with
  | .ok v => v
  | _ => -1
theorem endP_all : (List.range 1000).all (fun n => endP ((wdN (n : Int)).map UInt8.ofNat) == (n : Int)) = true := by kernel_rfl
theorem endP_wd {n : Int} (h : bty n 0 999 = true) : endP ((wdN n).map UInt8.ofNat) = n := by
  have hb := of_decide_eq_true h
  have := List.all_eq_true.1 endP_all n.toNat (by rw [List.mem_range]; omega)
  rw [show ((n.toNat : Nat) : Int) = n by omega] at this
  exact beq_iff_eq.1 this
def rgP (s : ByteArray) : YgP := (endP (Lib.cut s.data.toList [58]).1, if (Lib.cut s.data.toList [58]).2.2 then endP (Lib.cut s.data.toList [58]).2.1 else endP (Lib.cut s.data.toList [58]).1)
def piP (s : ByteArray) : List ByteArray := Lib.splitB ⟨#[44]⟩ 0 (min 9 (s.size + 1) - 1) s
def lP (s : ByteArray) : List YgP := (piP s).map rgP
/-- What the program reads. -/
noncomputable def ppV (s : ByteArray) : Int × List YgP := open Classical in if rfV (lP s) = 0 ∧ str (txY (lP s)) = s then (0, lP s) else (5, [])
theorem idx_no {c : UInt8} : ∀ {x : List UInt8}, c ∉ x → Lib.indexByte x c = -1
  | [], _ => rfl
  | b :: x, h => by
    have hb : b ≠ c := fun e => h (by rw [e]; exact List.mem_cons_self ..)
    have := idx_no (c := c) (x := x) fun e => h (List.mem_cons_of_mem _ e)
    unfold Lib.indexByte
    rw [this, if_neg (by simpa using hb)]; rfl
theorem idx_hit {c : UInt8} : ∀ {x : List UInt8} (y : List UInt8), c ∉ x → Lib.indexByte (x ++ c :: y) c = x.length
  | [], y, _ => by
    show Lib.indexByte (c :: y) c = 0
    unfold Lib.indexByte
    rw [if_pos (by simp)]
  | b :: x, y, h => by
    have hb : b ≠ c := fun e => h (by rw [e]; exact List.mem_cons_self ..)
    have := idx_hit (c := c) (x := x) y fun e => h (List.mem_cons_of_mem _ e)
    show Lib.indexByte (b :: (x ++ c :: y)) c = _
    unfold Lib.indexByte
    rw [this, if_neg (by simpa using hb), if_neg (by simp)]
    simp
theorem cut_no {x : List UInt8} {c : UInt8} (h : c ∉ x) : Lib.cut x [c] = (x, [], false) := by
  unfold Lib.cut
  rw [Lib.index_one, idx_no h]; rfl
theorem cut_hit {x y : List UInt8} {c : UInt8} (h : c ∉ x) : Lib.cut (x ++ c :: y) [c] = (x, y, true) := by
  unfold Lib.cut
  rw [Lib.index_one, idx_hit y h, if_pos (by omega)]
  simp
theorem mem_of8 {c : Nat} (hc : c < 256) {l : List Nat} (hB : ∀ x ∈ l, x < 256) (h : c ∉ l) : UInt8.ofNat c ∉ l.map UInt8.ofNat := by
  intro hx
  obtain ⟨y, hy, e⟩ := List.mem_map.1 hx
  have := congrArg UInt8.toNat e
  rw [UInt8.toNat_ofNat', UInt8.toNat_ofNat', Nat.mod_eq_of_lt hc, Nat.mod_eq_of_lt (hB y hy)] at this
  exact h (this ▸ hy)
theorem wdN_small {n : Int} (h : bty n 0 999 = true) : ∀ x ∈ wdN n, x < 256 := fun x hx => by have := wdN_chars h x hx; omega
theorem rgP_wd {p : YgP} (h1 : bty p.1 0 999 = true) (h2 : bty p.2 0 999 = true) : rgP (str (wdY p)) = p := by
  obtain ⟨a, b⟩ := p
  simp only at h1 h2
  unfold rgP
  rw [str_list]
  by_cases hab : a = b
  · subst hab
    rw [show wdY (a, a) = wdN a from if_pos rfl, cut_no (show (58 : UInt8) ∉ _ from mem_of8 (c := 58) (by omega) (wdN_small h1) (wdN_not h1).2)]
    simp [endP_wd h1]
  · rw [show wdY (a, b) = wdN a ++ [58] ++ wdN b from if_neg hab, List.append_assoc, List.singleton_append, List.map_append, List.map_cons]
    rw [show UInt8.ofNat 58 = (58 : UInt8) from rfl, cut_hit (show (58 : UInt8) ∉ _ from mem_of8 (c := 58) (by omega) (wdN_small h1) (wdN_not h1).2)]
    simp [endP_wd h1, endP_wd h2]
theorem str_exY (t : List Nat) (a b : Nat) : (str t).extract a b = str ((t.take b).drop a) := by
  rw [Lib.extract_eq, show (str t).data.toList = t.map UInt8.ofNat by simp [str], ← List.map_drop, ← List.map_take, List.drop_take]
  rfl
theorem splitB_jn : ∀ {ws : List (List Nat)} (k : Nat), ws ≠ [] → (∀ w ∈ ws, 44 ∉ w ∧ ∀ x ∈ w, x < 256) → ws.length ≤ k + 1 → Lib.splitB ⟨#[44]⟩ 0 k (str (jnC 44 ws)) = ws.map str
  | [], _, h, _, _ => absurd rfl h
  | [x], k, _, h, _ => by
    have hx := h x (List.mem_cons_self ..)
    have e : jnC 44 [x] = x := by simp [jnC]
    rw [e, Lib.splitB_miss]
    · rfl
    · show Lib.index (str x).data.toList [44] = -1
      rw [str_list, Lib.index_one]
      exact idx_no (show (44 : UInt8) ∉ _ from mem_of8 (c := 44) (by omega) hx.2 hx.1)
  | x :: y :: t, 0, _, _, hk => by simp at hk
  | x :: y :: t, k + 1, _, h, hk => by
    have hx := h x (List.mem_cons_self ..)
    have ih := splitB_jn (ws := y :: t) k (by simp) (fun w hw => h w (List.mem_cons_of_mem _ hw)) (by simp at hk ⊢; omega)
    rw [jnC_cons]
    rw [Lib.splitB_hit (i := x.length)]
    · rw [List.map_cons, ← ih, str_exY, str_exY, str_size]
      congr 1
      · simp
      · congr 1
        have : (⟨#[44]⟩ : ByteArray).size = 1 := rfl
        rw [this, List.take_length, show x ++ 44 :: jnC 44 (y :: t) = (x ++ [44]) ++ jnC 44 (y :: t) by simp]
        congr 1
        exact List.drop_left' (by simp)
    · show Lib.index (str (x ++ 44 :: jnC 44 (y :: t))).data.toList [44] = _
      rw [str_list, Lib.index_one, List.map_append, List.map_cons, show UInt8.ofNat 44 = (44 : UInt8) from rfl, idx_hit _ (show (44 : UInt8) ∉ _ from mem_of8 (c := 44) (by omega) hx.2 hx.1), List.length_map]
theorem txY_small {o : List YgP} (h : rfA o = true) : ∀ x ∈ txY o, x < 256 := by
  have hw : ∀ w ∈ o.map wdY, ∀ x ∈ w, x < 256 := by
    intro w hw x hx
    obtain ⟨p, hp, rfl⟩ := List.mem_map.1 hw
    have hb := Bool.and_eq_true_iff.1 (List.all_eq_true.1 h p hp)
    unfold wdY at hx
    split at hx
    · exact wdN_small hb.1 x hx
    · rcases List.mem_append.1 hx with hx | hx
      · rcases List.mem_append.1 hx with hx | hx
        · exact wdN_small hb.1 x hx
        · simp at hx; omega
      · exact wdN_small hb.2 x hx
  have gen : ∀ ws : List (List Nat), (∀ w ∈ ws, ∀ x ∈ w, x < 256) → ∀ x ∈ jnT ws, x < 256 := by
    intro ws h x hx
    cases ws with
    | nil => cases hx
    | cons y r =>
      rcases List.mem_append.1 hx with hx | hx
      · exact h y (List.mem_cons_self ..) x hx
      · obtain ⟨z, hz, hxz⟩ := List.mem_flatten.1 hx
        obtain ⟨v, hv, rfl⟩ := List.mem_map.1 hz
        rcases List.mem_append.1 hxz with hx | hx
        · simp at hx; omega
        · exact h v (List.mem_cons_of_mem _ hv) x hx
  exact gen _ hw
theorem lP_tx {o : List YgP} (h : rfV o = 0) : lP (str (txY o)) = o := by
  obtain ⟨hA, h1, h8⟩ := rfV_A h
  have hall : ∀ p ∈ o, bty p.1 0 999 = true ∧ bty p.2 0 999 = true := fun p hp => Bool.and_eq_true_iff.1 (List.all_eq_true.1 hA p hp)
  have hne : o.map wdY ≠ [] := fun e => by
    have := congrArg List.length e
    rw [List.length_map] at this
    simp at this
    rw [this] at h1; simp at h1
  have hlen : ∀ ws : List (List Nat), ws.length ≤ (jnC 44 ws).length + 1 := by
    intro ws
    cases ws with
    | nil => simp
    | cons x r =>
      have : r.length ≤ ((r.map ([44] ++ ·)).flatten).length := by
        induction r with
        | nil => simp
        | cons y r ih => simp at ih ⊢; omega
      simp only [jnC, List.length_cons, List.length_append]
      omega
  unfold lP piP
  rw [str_size]
  have hl2 := hlen (o.map wdY)
  rw [List.length_map] at hl2
  rw [show txY o = jnC 44 (o.map wdY) from jnT_C _]
  rw [splitB_jn _ hne (fun w hw => ?_) (by rw [List.length_map]; omega)]
  · rw [List.map_map, List.map_map]
    have : ∀ p ∈ o, ((rgP ∘ str) ∘ wdY) p = p := fun p hp => rgP_wd (hall p hp).1 (hall p hp).2
    rw [List.map_congr_left this]
    simp
  · obtain ⟨p, hp, rfl⟩ := List.mem_map.1 hw
    refine ⟨wdY_not (hall p hp).1 (hall p hp).2, fun x hx => ?_⟩
    unfold wdY at hx
    split at hx
    · exact wdN_small (hall p hp).1 x hx
    · rcases List.mem_append.1 hx with hx | hx
      · rcases List.mem_append.1 hx with hx | hx
        · exact wdN_small (hall p hp).1 x hx
        · simp at hx; omega
      · exact wdN_small (hall p hp).2 x hx
/-- The bytes of a text. -/
def bsN (s : ByteArray) : List Nat := s.data.toList.map UInt8.toNat
theorem bsN_str {t : List Nat} (hB : ∀ x ∈ t, x < 256) : bsN (str t) = t := by
  unfold bsN str
  simp only [List.map_map]
  refine List.ext_getElem (by simp) (fun i h1 h2 => ?_)
  simp only [List.getElem_map, Function.comp]
  have := hB _ (List.getElem_mem h2)
  simp [Nat.mod_eq_of_lt this]
theorem str_bsN (s : ByteArray) : str (bsN s) = s := by
  obtain ⟨d⟩ := s
  unfold str bsN
  simp [List.map_map, Function.comp_def]
theorem bsN_B (s : ByteArray) : IsB (bsN s) := by
  intro x hx
  unfold bsN at hx
  obtain ⟨y, _, rfl⟩ := List.mem_map.1 hx
  exact y.toNat_lt
theorem bsN_len (s : ByteArray) : (bsN s).length = s.size := by
  unfold bsN; rw [List.length_map, Array.length_toList]; rfl
/-- BOTH READ THE SAME. -/
theorem pp_pm (s : ByteArray) : ppV s = pmV (bsN s) := by
  unfold ppV
  by_cases h : rfV (lP s) = 0 ∧ str (txY (lP s)) = s
  · rw [if_pos h]
    have e : bsN s = txY (lP s) := by
      conv => lhs; rw [← h.2]
      exact bsN_str (txY_small (rfV_A h.1).1)
    rw [e, pmV_tx h.1]
  · rw [if_neg h]
    by_cases h0 : (pmV (bsN s)).1 = 0
    · exfalso
      obtain ⟨h1, h2⟩ := pmV_back h0
      have e : s = str (txY (pmV (bsN s)).2) := by rw [h2, str_bsN]
      have e2 : lP s = (pmV (bsN s)).2 := by
        conv => lhs; rw [e]
        exact lP_tx h1
      exact h (by rw [e2]; exact ⟨h1, e.symm⟩)
    · rw [pmV_no h0]
end Go.Proofs.YtlkfmgfblfkgbaaGreatDoor
