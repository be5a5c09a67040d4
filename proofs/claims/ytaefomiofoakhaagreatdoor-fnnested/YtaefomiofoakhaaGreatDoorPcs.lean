/- The pieces of a value between its semicolons, plainly: byte by byte, and as the library cuts a text; each without blanks and tabs around it. -/
import Derived.Test.YtaefomiofoakhaaGreatDoorAppFToHdr
import Derived.Lib.MapLaws
import Derived.Lib.FieldsP
import Derived.Lib.SlTrimSet
namespace Go.Proofs.YtaefomiofoakhaaGreatDoor
open Go.RowKit

/-- The longest pieces without a semicolon, cur having come already of the first. -/
def spC (cur : List Nat) : List Nat → List (List Nat)
  | [] => if cur = [] then [] else [cur]
  | c :: t => if c = 59 then (if cur = [] then spC [] t else cur :: spC [] t) else spC (cur ++ [c]) t
theorem spC_skip : ∀ (u v cur : List Nat), (∀ x ∈ u, x ≠ 59) → spC cur (u ++ v) = spC (cur ++ u) v
  | [], v, cur, _ => by simp
  | c :: u, v, cur, h => by
    rw [List.cons_append, spC, if_neg (h c (by simp)), spC_skip u v _ (fun x hx => h x (by simp [hx])), List.append_assoc, List.singleton_append]
theorem spC_cut0 (t : List Nat) : spC [] (59 :: t) = spC [] t := by rw [spC, if_pos rfl, if_pos rfl]
theorem spC_cut1 {cur : List Nat} (h : cur ≠ []) (t : List Nat) : spC cur (59 :: t) = cur :: spC [] t := by rw [spC, if_pos rfl, if_neg h]
theorem spC_in : ∀ (t cur : List Nat), (spC cur t).length ≤ cur.length + t.length ∧ ∀ p ∈ spC cur t, p ≠ [] ∧ p.length ≤ cur.length + t.length ∧ ∀ x ∈ p, x ∈ cur ∨ x ∈ t
  | [], cur => by
    unfold spC
    split
    · exact ⟨by simp, by simp⟩
    · rename_i h
      refine ⟨?_, fun p hp => ?_⟩
      · have : 0 < cur.length := List.length_pos_iff.2 h
        simp; omega
      · simp at hp; subst hp; exact ⟨h, by simp, fun x hx => .inl hx⟩
  | c :: t, cur => by
    unfold spC
    split
    · obtain ⟨h1, h2⟩ := spC_in t []
      split
      · refine ⟨by simp at h1 ⊢; omega, fun p hp => ?_⟩
        obtain ⟨a, b, d⟩ := h2 p hp
        refine ⟨a, by simp at b ⊢; omega, fun x hx => ?_⟩
        rcases d x hx with d | d
        · simp at d
        · exact .inr (by simp [d])
      · rename_i hc
        have hl : 0 < cur.length := List.length_pos_iff.2 hc
        refine ⟨by simp at h1 ⊢; omega, fun p hp => ?_⟩
        rcases List.mem_cons.1 hp with rfl | hp
        · exact ⟨hc, by simp, fun x hx => .inl hx⟩
        · obtain ⟨a, b, d⟩ := h2 p hp
          refine ⟨a, by simp at b ⊢; omega, fun x hx => ?_⟩
          rcases d x hx with d | d
          · simp at d
          · exact .inr (by simp [d])
    · obtain ⟨h1, h2⟩ := spC_in t (cur ++ [c])
      refine ⟨by simp at h1 ⊢; omega, fun p hp => ?_⟩
      obtain ⟨a, b, d⟩ := h2 p hp
      refine ⟨a, by simp at b ⊢; omega, fun x hx => ?_⟩
      rcases d x hx with d | d
      · rcases List.mem_append.1 d with d | d
        · exact .inl d
        · simp at d; exact .inr (by simp [d])
      · exact .inr (by simp [d])

/-- A blank or a tab. -/
def gpB (c : Nat) : Bool := decide (c = 32 ∨ c = 9)
/-- Without blanks and tabs at the beginning, at the end. -/
def trL (l : List Nat) : List Nat := l.dropWhile gpB
def trR (l : List Nat) : List Nat := (l.reverse.dropWhile gpB).reverse
def trN (l : List Nat) : List Nat := trR (trL l)
theorem trR_snoc (l : List Nat) (c : Nat) : trR (l ++ [c]) = if gpB c then trR l else l ++ [c] := by
  unfold trR
  rw [List.reverse_append, List.reverse_singleton, List.singleton_append, List.dropWhile_cons]
  split
  · rfl
  · simp
theorem trR_cons (c : Nat) (t : List Nat) : trR (c :: t) = if trR t = [] ∧ gpB c = true then [] else c :: trR t := by
  unfold trR
  rw [List.reverse_cons, List.dropWhile_append]
  by_cases h : (t.reverse.dropWhile gpB) = []
  · rw [h]
    by_cases hc : gpB c = true
    · simp [hc]
    · simp [hc]
  · have : (t.reverse.dropWhile gpB).isEmpty = false := by simpa using h
    rw [this, if_neg (by simp), if_neg (by simp [h])]
    simp
theorem tr_comm : ∀ l : List Nat, trR (trL l) = trL (trR l)
  | [] => rfl
  | c :: t => by
    have ih := tr_comm t
    by_cases hc : gpB c = true
    · have e : trL (c :: t) = trL t := by unfold trL; rw [List.dropWhile_cons, if_pos hc]
      rw [e, trR_cons, ih]
      split
      · rename_i h
        rw [h.1]
      · unfold trL; rw [List.dropWhile_cons, if_pos hc]
    · have e : trL (c :: t) = c :: t := by unfold trL; rw [List.dropWhile_cons, if_neg hc]
      rw [e, trR_cons, if_neg (by simp [hc])]
      unfold trL; rw [List.dropWhile_cons, if_neg hc]
theorem trL_sub (l : List Nat) : ∀ x ∈ trL l, x ∈ l := fun _ hx => (List.dropWhile_sublist gpB).subset hx
theorem trR_sub (l : List Nat) : ∀ x ∈ trR l, x ∈ l := fun x hx => by
  unfold trR at hx
  rw [List.mem_reverse] at hx
  exact List.mem_reverse.1 ((List.dropWhile_sublist gpB).subset hx)
theorem trL_len (l : List Nat) : (trL l).length ≤ l.length := (List.dropWhile_sublist gpB).length_le
theorem trR_len (l : List Nat) : (trR l).length ≤ l.length := by
  unfold trR
  rw [List.length_reverse]
  have := (List.dropWhile_sublist gpB (l := l.reverse)).length_le
  rwa [List.length_reverse] at this
theorem trN_len (l : List Nat) : (trN l).length ≤ l.length := Nat.le_trans (trR_len _) (trL_len _)
theorem trN_isB {l : List Nat} (h : IsB l) : IsB (trN l) := fun _ hx => h _ (trL_sub l _ (trR_sub _ _ hx))

/-- The pieces of a value. -/
def pcs (t : List Nat) : List (List Nat) := (spC [] t).map trN
theorem pcs_len (t : List Nat) : (pcs t).length ≤ t.length := by
  unfold pcs
  rw [List.length_map]
  have := (spC_in t []).1
  simpa using this
theorem pcs_in {t : List Nat} (hB : IsB t) : ∀ p ∈ pcs t, IsB p ∧ p.length ≤ t.length := by
  intro p hp
  unfold pcs at hp
  obtain ⟨q, hq, rfl⟩ := List.mem_map.1 hp
  obtain ⟨-, h2, h3⟩ := (spC_in t []).2 q hq
  refine ⟨trN_isB (fun x hx => ?_), Nat.le_trans (trN_len q) (by simpa using h2)⟩
  rcases h3 x hx with h | h
  · simp at h
  · exact hB x h

/-! ### as the library cuts it -/
theorem str_pc (t : List Nat) (a b : Nat) : (str t).extract a b = str ((t.take b).drop a) := by
  rw [Lib.extract_eq, show (str t).data.toList = t.map UInt8.ofNat by simp [str], ← List.map_drop, ← List.map_take, List.drop_take]
  rfl
theorem str_getB {t : List Nat} (hB : IsB t) {i : Nat} (h : i < t.length) : ((str t).get! i).toNat = nth t i := by
  have hs : i < (str t).size := by rw [str_size]; exact h
  have e : (str t).get! i = (str t)[i] := by
    show (str t).data[i]! = _
    rw [getElem!_pos _ _ (by exact hs)]
    rfl
  rw [e, str_get hB hs]
theorem drop_nth {t : List Nat} {i : Nat} (h : i < t.length) : t.drop i = nth t i :: t.drop (i + 1) := by
  rw [nth_get h, ← List.drop_eq_getElem_cons h]
theorem take_twoP {t : List Nat} {i : Nat} (h : i + 1 < t.length) : (t.drop i).take 2 = [nth t i, nth t (i + 1)] := by
  rw [drop_nth (by omega), List.take_succ_cons, drop_nth h, List.take_succ_cons, List.take_zero]
theorem take_threeP {t : List Nat} {i : Nat} (h : i + 2 < t.length) : (t.drop i).take 3 = [nth t i, nth t (i + 1), nth t (i + 2)] := by
  rw [drop_nth (by omega), List.take_succ_cons, take_twoP (by omega)]
theorem take_fourP {t : List Nat} {i : Nat} (h : i + 3 < t.length) : (t.drop i).take 4 = [nth t i, nth t (i + 1), nth t (i + 2), nth t (i + 3)] := by
  rw [drop_nth (by omega), List.take_succ_cons, take_threeP (by omega)]
theorem take_oneP {t : List Nat} {i : Nat} (h : i < t.length) : (t.drop i).take 1 = [nth t i] := by
  rw [drop_nth h, List.take_succ_cons, List.take_zero]
/-- A character of a text: a semicolon, alone; or none of its bytes is one. -/
theorem dec_semi {t : List Nat} (hB : IsB t) {i : Nat} (h : i < t.length) :
    (nth t i = 59 ∧ Utf8.decode (str t) i = (59, 1)) ∨ ((Utf8.decode (str t) i).1 ≠ 59 ∧ 1 ≤ (Utf8.decode (str t) i).2 ∧ i + (Utf8.decode (str t) i).2 ≤ t.length ∧ ∀ x ∈ (t.drop i).take (Utf8.decode (str t) i).2, x ≠ 59) := by
  rw [Lib.decode_at, str_size, str_getB hB h]
  rcases Lib.decodeN_shape (t.length - i) (nth t i) ((str t).get! (i + 1)).toNat ((str t).get! (i + 2)).toNat ((str t).get! (i + 3)).toNat with ⟨c, e⟩ | ⟨c1, c2, c3, cv, e⟩ | ⟨c1, c2, c3, c4, cv, -, e⟩ | ⟨c1, c2, c3, c4, c5, cv, -, e⟩ | e
  · rw [e]
    by_cases hx : nth t i = 59
    · exact .inl ⟨hx, by rw [hx]⟩
    · refine .inr ⟨hx, Nat.le_refl _, by omega, ?_⟩
      rw [take_oneP h]
      intro x hx'
      simp at hx'; subst hx'; exact hx
  · rw [str_getB hB (by omega)] at c3 cv e
    rw [str_getB hB (show i + 1 < t.length by omega)]
    rw [e]
    refine .inr ⟨by simp only; omega, by simp, by simp only; omega, ?_⟩
    rw [take_twoP (by omega)]
    intro x hx'
    simp at hx'
    rcases hx' with rfl | rfl <;> omega
  · rw [str_getB hB (show i + 1 < t.length by omega), str_getB hB (show i + 2 < t.length by omega)] at *
    rw [e]
    refine .inr ⟨by simp only; omega, by simp, by simp only; omega, ?_⟩
    rw [take_threeP (by omega)]
    intro x hx'
    simp at hx'
    rcases hx' with rfl | rfl | rfl <;> omega
  · rw [str_getB hB (show i + 1 < t.length by omega), str_getB hB (show i + 2 < t.length by omega), str_getB hB (show i + 3 < t.length by omega)] at *
    rw [e]
    refine .inr ⟨by simp only; omega, by simp, by simp only; omega, ?_⟩
    rw [take_fourP (by omega)]
    intro x hx'
    simp at hx'
    rcases hx' with rfl | rfl | rfl | rfl <;> omega
  · rw [e]
    by_cases hx : nth t i = 59
    · exfalso
      have := Lib.ascii_eq (t.length - i) (nth t i) ((str t).get! (i + 1)).toNat ((str t).get! (i + 2)).toNat ((str t).get! (i + 3)).toNat (by rw [hx]; decide)
      rw [this] at e
      simp [hx] at e
    · refine .inr ⟨by simp, by simp, by simp only; omega, ?_⟩
      rw [take_oneP h]
      intro x hx'
      simp at hx'; subst hx'; exact hx
/-- What has come of the open piece. -/
def curO (t : List Nat) (st : Option Nat) (pos : Nat) : List Nat := match st with
  | some a => (t.take pos).drop a
  | none => []
theorem cur_more {t : List Nat} {a pos k : Nat} (h : a ≤ pos) : (t.take pos).drop a ++ (t.drop pos).take k = (t.take (pos + k)).drop a := by
  have e : (t.drop pos).take k = (t.take (pos + k)).drop pos := by rw [List.drop_take]; congr 1; omega
  rw [e]
  rcases Nat.lt_or_ge t.length pos with hp | hp
  · rw [List.drop_of_length_le (show (t.take (pos + k)).length ≤ pos by rw [List.length_take]; omega), List.take_of_length_le (by omega), List.take_of_length_le (by omega), List.append_nil]
  · have e2 : t.take pos = (t.take (pos + k)).take pos := by rw [List.take_take, Nat.min_eq_left (by omega)]
    rw [e2]
    generalize t.take (pos + k) = u
    have h3 : u.drop a = (u.take pos ++ u.drop pos).drop a := by rw [List.take_append_drop]
    by_cases hu : a ≤ (u.take pos).length
    · rw [h3, List.drop_append_of_le_length hu]
    · rw [List.length_take] at hu
      rw [List.drop_of_length_le (by rw [List.length_take]; omega), List.drop_of_length_le (show u.length ≤ pos by omega), List.drop_of_length_le (show u.length ≤ a by omega), List.nil_append]
theorem cur_ne {t : List Nat} {a pos : Nat} (h : a < pos) (hp : pos ≤ t.length) : (t.take pos).drop a ≠ [] := by
  intro e
  have := congrArg List.length e
  rw [List.length_drop, List.length_take] at this
  simp at this
  omega
theorem spans_spC {t : List Nat} (hB : IsB t) : ∀ (f pos : Nat) (st : Option Nat) (acc : List (Nat × Nat)), t.length ≤ pos + f → pos ≤ t.length → (∀ a, st = some a → a < pos) →
    (Lib.closeSpans (str t) (Lib.spansFromP (fun r => r == 59) (str t) f pos st acc)).map (fun x => (str t).extract x.1 x.2) = acc.map (fun x => (str t).extract x.1 x.2) ++ (spC (curO t st pos) (t.drop pos)).map str := by
  have hend : ∀ (pos : Nat) (st : Option Nat) (acc : List (Nat × Nat)), pos = t.length → (∀ a, st = some a → a < pos) → (Lib.closeSpans (str t) (acc, st)).map (fun x => (str t).extract x.1 x.2) = acc.map (fun x => (str t).extract x.1 x.2) ++ (spC (curO t st pos) (t.drop pos)).map str := by
    intro pos st acc hp hst
    subst hp
    rw [List.drop_length, spC]
    cases st with
    | none => simp [Lib.closeSpans, curO]
    | some a =>
      have hn := cur_ne (hst a rfl) (Nat.le_refl t.length)
      rw [if_neg (by exact hn)]
      simp [Lib.closeSpans, curO, str_pc, str_size]
  intro f
  induction f with
  | zero =>
    intro pos st acc h1 h2 hst
    exact hend pos st acc (by omega) hst
  | succ f ih =>
    intro pos st acc h1 h2 hst
    unfold Lib.spansFromP
    by_cases hp : pos < t.length
    · rw [if_pos (by rw [str_size]; exact hp)]
      rcases dec_semi hB hp with ⟨hx, e⟩ | ⟨hr, hk1, hk2, hk3⟩
      · rw [e, if_pos (by simp)]
        simp only
        rw [drop_nth hp, hx]
        cases st with
        | none =>
          simp only
          rw [ih (pos + 1) none acc (by omega) (by omega) (fun a h => by cases h)]
          simp only [curO]
          rw [spC_cut0]
        | some a =>
          simp only
          rw [ih (pos + 1) none _ (by omega) (by omega) (fun a h => by cases h)]
          simp only [curO]
          rw [spC_cut1 (cur_ne (hst a rfl) (by omega)), List.map_append, List.map_cons, List.map_cons, List.append_assoc, str_pc]
          rfl
      · rw [if_neg (by simpa using hr)]
        generalize (Utf8.decode (str t) pos).2 = k at *
        have hsk : ∀ cur, spC cur (t.drop pos) = spC (cur ++ (t.drop pos).take k) (t.drop (pos + k)) := by
          intro cur
          have := spC_skip ((t.drop pos).take k) ((t.drop pos).drop k) cur hk3
          rw [List.take_append_drop, List.drop_drop] at this
          exact this
        rw [hsk]
        cases st with
        | none =>
          simp only
          rw [ih (pos + k) (some pos) acc (by omega) hk2 (fun a h => by cases h; omega)]
          simp only [curO]
          rw [← cur_more (Nat.le_refl pos), List.drop_of_length_le (by rw [List.length_take]; omega)]
        | some a =>
          simp only
          have := hst a rfl
          rw [ih (pos + k) (some a) acc (by omega) hk2 (fun b h => by cases h; omega)]
          simp only [curO]
          rw [cur_more (by omega)]
    · rw [if_neg (by rw [str_size]; exact hp)]
      exact hend pos st acc (by omega) hst
/-- The library's pieces of a text. -/
theorem fields_spC {t : List Nat} (hB : IsB t) : Lib.goFieldsP (fun r => r == 59) (str t) = (spC [] t).map str := by
  unfold Lib.goFieldsP Lib.spansOfP
  rw [spans_spC hB (str t).size 0 none [] (by rw [str_size]; omega) (by omega) (fun a h => by cases h)]
  simp [curO]
theorem u8_gp {c : Nat} (hc : c < 256) : ([32, 9] : List UInt8).contains (UInt8.ofNat c) = gpB c := by
  unfold gpB
  have e : ∀ k : Nat, k < 256 → (UInt8.ofNat c == UInt8.ofNat k) = decide (c = k) := by
    intro k hk
    by_cases h : c = k
    · subst h; simp
    · rw [decide_eq_false h, beq_eq_false_iff_ne]
      intro e
      have := congrArg UInt8.toNat e
      rw [UInt8.toNat_ofNat', UInt8.toNat_ofNat'] at this
      omega
  have e1 := e 32 (by omega)
  have e2 := e 9 (by omega)
  simp only [List.contains, List.elem]
  rw [show (32 : UInt8) = UInt8.ofNat 32 from rfl, show (9 : UInt8) = UInt8.ofNat 9 from rfl, e1, e2]
  by_cases h1 : c = 32
  · simp [h1]
  · by_cases h2 : c = 9
    · simp [h2]
    · simp [h1, h2]
theorem dropW_u8 : ∀ l : List Nat, IsB l → (l.map UInt8.ofNat).dropWhile (([32, 9] : List UInt8).contains ·) = (l.dropWhile gpB).map UInt8.ofNat
  | [], _ => rfl
  | c :: t, h => by
    rw [List.map_cons, List.dropWhile_cons, List.dropWhile_cons, u8_gp (h c (by simp))]
    split
    · exact dropW_u8 t (fun x hx => h x (by simp [hx]))
    · rfl
/-- The library's trim at blanks and tabs. -/
theorem trim_trN {t : List Nat} (hB : IsB t) : (⟨(Lib.trimS (str t).data.toList [32, 9]).toArray⟩ : ByteArray) = str (trN t) := by
  unfold Lib.trimS Lib.trimRightS Lib.trimLeftS trN
  rw [show (str t).data.toList = t.map UInt8.ofNat by simp [str], ← List.map_reverse, dropW_u8 _ (fun x hx => hB x (List.mem_reverse.1 hx)), ← List.map_reverse]
  have hR : IsB (trR t) := fun x hx => hB x (trR_sub t x hx)
  have e : (t.reverse.dropWhile gpB).reverse = trR t := rfl
  rw [e, dropW_u8 _ hR, tr_comm]
  rfl
end Go.Proofs.YtaefomiofoakhaaGreatDoor
