/- The pieces of a value between its semicolons, plainly: byte by byte, and as the library cuts a text; each without blanks and tabs around it · What kind of part a value tells, plainly · Words on memory: where a slice of texts is read, what a row of the call's own holds, an append; no conditions beyond those that each fact names. -/
import Derived.Test.YtkjnhcnbbojajaaDoorFldSToHdr
import Derived.Lib.MapLaws
import Derived.Lib.FieldsP
import Derived.Lib.SlTrimSet
import Derived.Test.YtkjnhcnbbojajaaDoorFdpToHdr2
import Derived.Test.YtkjnhcnbbojajaaDoorNamToJmp
import Derived.Test.YtkjnhcnbbojajaaDoorMemToMrk0
namespace Go.Proofs.YtkjnhcnbbojajaaDoor
open Go.RowKit

/-- The longest pieces without a semicolon, cur having come already of the first. -/
def spC (cur : List Nat) : List Nat → List (List Nat)
  | [] => if cur = [] then [] else [cur]
  | c :: t => if c = 59 then (if cur = [] then spC [] t else cur :: spC [] t) else spC (cur ++ [c]) t
theorem spC_skip : ∀ (u v cur : List Nat), (∀ x ∈ u, x ≠ 59) → spC cur (u ++ v) = spC (cur ++ u) v
  | [], v, cur, _ => by simp
  | c :: u, v, cur, h => by
    rw [List.cons_append, spC, if_neg (h c (by simp)), spC_skip u v _ (fun x hx => h x (by simp [hx])), List.append_assoc, List.singleton_append]
theorem spC_cut0 (t : List Nat) : spC [] (59 :: t) = spC [] t := by rw [spC, if_pos rfl, if_pos rfl]
theorem spC_cut1 {cur : List Nat} (h : cur ≠ []) (t : List Nat) : spC cur (59 :: t) = cur :: spC [] t := by rw [spC, if_pos rfl, if_neg h]
theorem spC_in : ∀ (t cur : List Nat), (spC cur t).length ≤ cur.length + t.length ∧ ∀ p ∈ spC cur t, p ≠ [] ∧ p.length ≤ cur.length + t.length ∧ ∀ x ∈ p, x ∈ cur ∨ x ∈ t
  | [], cur => by
    unfold spC
    split
    · exact ⟨by simp, by simp⟩
    · rename_i h
      refine ⟨?_, fun p hp => ?_⟩
      · have : 0 < cur.length := List.length_pos_iff.2 h
        simp; omega
      · simp at hp; subst hp; exact ⟨h, by simp, fun x hx => .inl hx⟩
  | c :: t, cur => by
    unfold spC
    split
    · obtain ⟨h1, h2⟩ := spC_in t []
      split
      · refine ⟨by simp at h1 ⊢; omega, fun p hp => ?_⟩
        obtain ⟨a, b, d⟩ := h2 p hp
        refine ⟨a, by simp at b ⊢; omega, fun x hx => ?_⟩
        rcases d x hx with d | d
        · simp at d
        · exact .inr (by simp [d])
      · rename_i hc
        have hl : 0 < cur.length := List.length_pos_iff.2 hc
        refine ⟨by simp at h1 ⊢; omega, fun p hp => ?_⟩
        rcases List.mem_cons.1 hp with rfl | hp
        · exact ⟨hc, by simp, fun x hx => .inl hx⟩
        · obtain ⟨a, b, d⟩ := h2 p hp
          refine ⟨a, by simp at b ⊢; omega, fun x hx => ?_⟩
          rcases d x hx with d | d
          · simp at d
          · exact .inr (by simp [d])
    · obtain ⟨h1, h2⟩ := spC_in t (cur ++ [c])
      refine ⟨by simp at h1 ⊢; omega, fun p hp => ?_⟩
      obtain ⟨a, b, d⟩ := h2 p hp
      refine ⟨a, by simp at b ⊢; omega, fun x hx => ?_⟩
      rcases d x hx with d | d
      · rcases List.mem_append.1 d with d | d
        · exact .inl d
        · simp at d; exact .inr (by simp [d])
      · exact .inr (by simp [d])

/-- A blank or a tab. -/
def gpB (c : Nat) : Bool := decide (c = 32 ∨ c = 9)
/-- Without blanks and tabs at the beginning, at the end. -/
def trL (l : List Nat) : List Nat := l.dropWhile gpB
def trR (l : List Nat) : List Nat := (l.reverse.dropWhile gpB).reverse
def trN (l : List Nat) : List Nat := trR (trL l)
theorem trR_snoc (l : List Nat) (c : Nat) : trR (l ++ [c]) = if gpB c then trR l else l ++ [c] := by
  unfold trR
  rw [List.reverse_append, List.reverse_singleton, List.singleton_append, List.dropWhile_cons]
  split
  · rfl
  · simp
theorem trR_cons (c : Nat) (t : List Nat) : trR (c :: t) = if trR t = [] ∧ gpB c = true then [] else c :: trR t := by
  unfold trR
  rw [List.reverse_cons, List.dropWhile_append]
  by_cases h : (t.reverse.dropWhile gpB) = []
  · rw [h]
    by_cases hc : gpB c = true
    · simp [hc]
    · simp [hc]
  · have : (t.reverse.dropWhile gpB).isEmpty = false := by simpa using h
    rw [this, if_neg (by simp), if_neg (by simp [h])]
    simp
theorem tr_comm : ∀ l : List Nat, trR (trL l) = trL (trR l)
  | [] => rfl
  | c :: t => by
    have ih := tr_comm t
    by_cases hc : gpB c = true
    · have e : trL (c :: t) = trL t := by unfold trL; rw [List.dropWhile_cons, if_pos hc]
      rw [e, trR_cons, ih]
      split
      · rename_i h
        rw [h.1]
      · unfold trL; rw [List.dropWhile_cons, if_pos hc]
    · have e : trL (c :: t) = c :: t := by unfold trL; rw [List.dropWhile_cons, if_neg hc]
      rw [e, trR_cons, if_neg (by simp [hc])]
      unfold trL; rw [List.dropWhile_cons, if_neg hc]
theorem trL_sub (l : List Nat) : ∀ x ∈ trL l, x ∈ l := fun _ hx => (List.dropWhile_sublist gpB).subset hx
theorem trR_sub (l : List Nat) : ∀ x ∈ trR l, x ∈ l := fun x hx => by
  unfold trR at hx
  rw [List.mem_reverse] at hx
  exact List.mem_reverse.1 ((List.dropWhile_sublist gpB).subset hx)
theorem trL_len (l : List Nat) : (trL l).length ≤ l.length := (List.dropWhile_sublist gpB).length_le
theorem trR_len (l : List Nat) : (trR l).length ≤ l.length := by
  unfold trR
  rw [List.length_reverse]
  have := (List.dropWhile_sublist gpB (l := l.reverse)).length_le
  rwa [List.length_reverse] at this
theorem trN_len (l : List Nat) : (trN l).length ≤ l.length := Nat.le_trans (trR_len _) (trL_len _)
theorem trN_isB {l : List Nat} (h : IsB l) : IsB (trN l) := fun _ hx => h _ (trL_sub l _ (trR_sub _ _ hx))

/-- The pieces of a value. -/
def pcs (t : List Nat) : List (List Nat) := (spC [] t).map trN
theorem pcs_len (t : List Nat) : (pcs t).length ≤ t.length := by
  unfold pcs
  rw [List.length_map]
  have := (spC_in t []).1
  simpa using this
theorem pcs_in {t : List Nat} (hB : IsB t) : ∀ p ∈ pcs t, IsB p ∧ p.length ≤ t.length := by
  intro p hp
  unfold pcs at hp
  obtain ⟨q, hq, rfl⟩ := List.mem_map.1 hp
  obtain ⟨-, h2, h3⟩ := (spC_in t []).2 q hq
  refine ⟨trN_isB (fun x hx => ?_), Nat.le_trans (trN_len q) (by simpa using h2)⟩
  rcases h3 x hx with h | h
  · simp at h
  · exact hB x h

/-! ### as the library cuts it -/
theorem str_pc (t : List Nat) (a b : Nat) : (str t).extract a b = str ((t.take b).drop a) := by
  rw [Lib.extract_eq, show (str t).data.toList = t.map UInt8.ofNat by simp [str], ← List.map_drop, ← List.map_take, List.drop_take]
  rfl
theorem str_get! {t : List Nat} (hB : IsB t) {i : Nat} (h : i < t.length) : ((str t).get! i).toNat = nth t i := by
  have hs : i < (str t).size := by rw [str_size]; exact h
  have e : (str t).get! i = (str t)[i] := by
    show (str t).data[i]! = _
    rw [getElem!_pos _ _ (by exact hs)]
    rfl
  rw [e, str_get hB hs]
theorem nth_mem {t : List Nat} {i : Nat} (h : i < t.length) : nth t i ∈ t := by rw [nth_get h]; exact List.getElem_mem h
theorem drop_nth {t : List Nat} {i : Nat} (h : i < t.length) : t.drop i = nth t i :: t.drop (i + 1) := by
  rw [nth_get h, ← List.drop_eq_getElem_cons h]
theorem take_twoP {t : List Nat} {i : Nat} (h : i + 1 < t.length) : (t.drop i).take 2 = [nth t i, nth t (i + 1)] := by
  rw [drop_nth (by omega), List.take_succ_cons, drop_nth h, List.take_succ_cons, List.take_zero]
theorem take_threeP {t : List Nat} {i : Nat} (h : i + 2 < t.length) : (t.drop i).take 3 = [nth t i, nth t (i + 1), nth t (i + 2)] := by
  rw [drop_nth (by omega), List.take_succ_cons, take_twoP (by omega)]
theorem take_fourP {t : List Nat} {i : Nat} (h : i + 3 < t.length) : (t.drop i).take 4 = [nth t i, nth t (i + 1), nth t (i + 2), nth t (i + 3)] := by
  rw [drop_nth (by omega), List.take_succ_cons, take_threeP (by omega)]
theorem take_oneP {t : List Nat} {i : Nat} (h : i < t.length) : (t.drop i).take 1 = [nth t i] := by
  rw [drop_nth h, List.take_succ_cons, List.take_zero]
/-- A character of a text: a semicolon, alone; or none of its bytes is one. -/
theorem dec_semi {t : List Nat} (hB : IsB t) {i : Nat} (h : i < t.length) :
    (nth t i = 59 ∧ Utf8.decode (str t) i = (59, 1)) ∨ ((Utf8.decode (str t) i).1 ≠ 59 ∧ 1 ≤ (Utf8.decode (str t) i).2 ∧ i + (Utf8.decode (str t) i).2 ≤ t.length ∧ ∀ x ∈ (t.drop i).take (Utf8.decode (str t) i).2, x ≠ 59) := by
  rw [Lib.decode_at, str_size, str_get! hB h]
  rcases Lib.decodeN_shape (t.length - i) (nth t i) ((str t).get! (i + 1)).toNat ((str t).get! (i + 2)).toNat ((str t).get! (i + 3)).toNat with ⟨c, e⟩ | ⟨c1, c2, c3, cv, e⟩ | ⟨c1, c2, c3, c4, cv, -, e⟩ | ⟨c1, c2, c3, c4, c5, cv, -, e⟩ | e
  · rw [e]
    by_cases hx : nth t i = 59
    · exact .inl ⟨hx, by rw [hx]⟩
    · refine .inr ⟨hx, Nat.le_refl _, by omega, ?_⟩
      rw [take_oneP h]
      intro x hx'
      simp at hx'; subst hx'; exact hx
  · rw [str_get! hB (by omega)] at c3 cv e
    rw [str_get! hB (show i + 1 < t.length by omega)]
    rw [e]
    refine .inr ⟨by simp only; omega, by simp, by simp only; omega, ?_⟩
    rw [take_twoP (by omega)]
    intro x hx'
    simp at hx'
    rcases hx' with rfl | rfl <;> omega
  · rw [str_get! hB (show i + 1 < t.length by omega), str_get! hB (show i + 2 < t.length by omega)] at *
    rw [e]
    refine .inr ⟨by simp only; omega, by simp, by simp only; omega, ?_⟩
    rw [take_threeP (by omega)]
    intro x hx'
    simp at hx'
    rcases hx' with rfl | rfl | rfl <;> omega
  · rw [str_get! hB (show i + 1 < t.length by omega), str_get! hB (show i + 2 < t.length by omega), str_get! hB (show i + 3 < t.length by omega)] at *
    rw [e]
    refine .inr ⟨by simp only; omega, by simp, by simp only; omega, ?_⟩
    rw [take_fourP (by omega)]
    intro x hx'
    simp at hx'
    rcases hx' with rfl | rfl | rfl | rfl <;> omega
  · rw [e]
    by_cases hx : nth t i = 59
    · exfalso
      have := Lib.ascii_eq (t.length - i) (nth t i) ((str t).get! (i + 1)).toNat ((str t).get! (i + 2)).toNat ((str t).get! (i + 3)).toNat (by rw [hx]; decide)
      rw [this] at e
      simp [hx] at e
    · refine .inr ⟨by simp, by simp, by simp only; omega, ?_⟩
      rw [take_oneP h]
      intro x hx'
      simp at hx'; subst hx'; exact hx
/-- What has come of the open piece. -/
def curO (t : List Nat) (st : Option Nat) (pos : Nat) : List Nat := match st with
  | some a => (t.take pos).drop a
  | none => []
theorem cur_more {t : List Nat} {a pos k : Nat} (h : a ≤ pos) : (t.take pos).drop a ++ (t.drop pos).take k = (t.take (pos + k)).drop a := by
  have e : (t.drop pos).take k = (t.take (pos + k)).drop pos := by rw [List.drop_take]; congr 1; omega
  rw [e]
  rcases Nat.lt_or_ge t.length pos with hp | hp
  · rw [List.drop_of_length_le (show (t.take (pos + k)).length ≤ pos by rw [List.length_take]; omega), List.take_of_length_le (by omega), List.take_of_length_le (by omega), List.append_nil]
  · have e2 : t.take pos = (t.take (pos + k)).take pos := by rw [List.take_take, Nat.min_eq_left (by omega)]
    rw [e2]
    generalize t.take (pos + k) = u
    have h3 : u.drop a = (u.take pos ++ u.drop pos).drop a := by rw [List.take_append_drop]
    by_cases hu : a ≤ (u.take pos).length
    · rw [h3, List.drop_append_of_le_length hu]
    · rw [List.length_take] at hu
      rw [List.drop_of_length_le (by rw [List.length_take]; omega), List.drop_of_length_le (show u.length ≤ pos by omega), List.drop_of_length_le (show u.length ≤ a by omega), List.nil_append]
theorem cur_ne {t : List Nat} {a pos : Nat} (h : a < pos) (hp : pos ≤ t.length) : (t.take pos).drop a ≠ [] := by
  intro e
  have := congrArg List.length e
  rw [List.length_drop, List.length_take] at this
  simp at this
  omega
theorem spans_spC {t : List Nat} (hB : IsB t) : ∀ (f pos : Nat) (st : Option Nat) (acc : List (Nat × Nat)), t.length ≤ pos + f → pos ≤ t.length → (∀ a, st = some a → a < pos) →
    (Lib.closeSpans (str t) (Lib.spansFromP (fun r => r == 59) (str t) f pos st acc)).map (fun x => (str t).extract x.1 x.2) = acc.map (fun x => (str t).extract x.1 x.2) ++ (spC (curO t st pos) (t.drop pos)).map str := by
  have hend : ∀ (pos : Nat) (st : Option Nat) (acc : List (Nat × Nat)), pos = t.length → (∀ a, st = some a → a < pos) → (Lib.closeSpans (str t) (acc, st)).map (fun x => (str t).extract x.1 x.2) = acc.map (fun x => (str t).extract x.1 x.2) ++ (spC (curO t st pos) (t.drop pos)).map str := by
    intro pos st acc hp hst
    subst hp
    rw [List.drop_length, spC]
    cases st with
    | none => simp [Lib.closeSpans, curO]
    | some a =>
      have hn := cur_ne (hst a rfl) (Nat.le_refl t.length)
      rw [if_neg (by exact hn)]
      simp [Lib.closeSpans, curO, str_pc, str_size]
  intro f
  induction f with
  | zero =>
    intro pos st acc h1 h2 hst
    exact hend pos st acc (by omega) hst
  | succ f ih =>
    intro pos st acc h1 h2 hst
    unfold Lib.spansFromP
    by_cases hp : pos < t.length
    · rw [if_pos (by rw [str_size]; exact hp)]
      rcases dec_semi hB hp with ⟨hx, e⟩ | ⟨hr, hk1, hk2, hk3⟩
      · rw [e, if_pos (by simp)]
        simp only
        rw [drop_nth hp, hx]
        cases st with
        | none =>
          simp only
          rw [ih (pos + 1) none acc (by omega) (by omega) (fun a h => by cases h)]
          simp only [curO]
          rw [spC_cut0]
        | some a =>
          simp only
          rw [ih (pos + 1) none _ (by omega) (by omega) (fun a h => by cases h)]
          simp only [curO]
          rw [spC_cut1 (cur_ne (hst a rfl) (by omega)), List.map_append, List.map_cons, List.map_cons, List.append_assoc, str_pc]
          rfl
      · rw [if_neg (by simpa using hr)]
        generalize (Utf8.decode (str t) pos).2 = k at *
        have hsk : ∀ cur, spC cur (t.drop pos) = spC (cur ++ (t.drop pos).take k) (t.drop (pos + k)) := by
          intro cur
          have := spC_skip ((t.drop pos).take k) ((t.drop pos).drop k) cur hk3
          rw [List.take_append_drop, List.drop_drop] at this
          exact this
        rw [hsk]
        cases st with
        | none =>
          simp only
          rw [ih (pos + k) (some pos) acc (by omega) hk2 (fun a h => by cases h; omega)]
          simp only [curO]
          rw [← cur_more (Nat.le_refl pos), List.drop_of_length_le (by rw [List.length_take]; omega)]
        | some a =>
          simp only
          have := hst a rfl
          rw [ih (pos + k) (some a) acc (by omega) hk2 (fun b h => by cases h; omega)]
          simp only [curO]
          rw [cur_more (by omega)]
    · rw [if_neg (by rw [str_size]; exact hp)]
      exact hend pos st acc (by omega) hst
/-- The library's pieces of a text. -/
theorem fields_spC {t : List Nat} (hB : IsB t) : Lib.goFieldsP (fun r => r == 59) (str t) = (spC [] t).map str := by
  unfold Lib.goFieldsP Lib.spansOfP
  rw [spans_spC hB (str t).size 0 none [] (by rw [str_size]; omega) (by omega) (fun a h => by cases h)]
  simp [curO]
theorem u8_gp {c : Nat} (hc : c < 256) : ([32, 9] : List UInt8).contains (UInt8.ofNat c) = gpB c := by
  unfold gpB
  have e : ∀ k : Nat, k < 256 → (UInt8.ofNat c == UInt8.ofNat k) = decide (c = k) := by
    intro k hk
    by_cases h : c = k
    · subst h; simp
    · rw [decide_eq_false h, beq_eq_false_iff_ne]
      intro e
      have := congrArg UInt8.toNat e
      rw [UInt8.toNat_ofNat', UInt8.toNat_ofNat'] at this
      omega
  have e1 := e 32 (by omega)
  have e2 := e 9 (by omega)
  simp only [List.contains, List.elem]
  rw [show (32 : UInt8) = UInt8.ofNat 32 from rfl, show (9 : UInt8) = UInt8.ofNat 9 from rfl, e1, e2]
  by_cases h1 : c = 32
  · simp [h1]
  · by_cases h2 : c = 9
    · simp [h2]
    · simp [h1, h2]
theorem dropW_u8 : ∀ l : List Nat, IsB l → (l.map UInt8.ofNat).dropWhile (([32, 9] : List UInt8).contains ·) = (l.dropWhile gpB).map UInt8.ofNat
  | [], _ => rfl
  | c :: t, h => by
    rw [List.map_cons, List.dropWhile_cons, List.dropWhile_cons, u8_gp (h c (by simp))]
    split
    · exact dropW_u8 t (fun x hx => h x (by simp [hx]))
    · rfl
/-- The library's trim at blanks and tabs. -/
theorem trim_trN {t : List Nat} (hB : IsB t) : (⟨(Lib.trimS (str t).data.toList [32, 9]).toArray⟩ : ByteArray) = str (trN t) := by
  unfold Lib.trimS Lib.trimRightS Lib.trimLeftS trN
  rw [show (str t).data.toList = t.map UInt8.ofNat by simp [str], ← List.map_reverse, dropW_u8 _ (fun x hx => hB x (List.mem_reverse.1 hx)), ← List.map_reverse]
  have hR : IsB (trR t) := fun x hx => hB x (trR_sub t x hx)
  have e : (t.reverse.dropWhile gpB).reverse = trR t := rfl
  rw [e, dropW_u8 _ hR, tr_comm]
  rfl
end Go.Proofs.YtkjnhcnbbojajaaDoor

namespace Go.Proofs.YtkjnhcnbbojajaaDoor
open Go.RowKit

/-- A text that begins with another one, its letters small. -/
def bgN (t p : List Nat) : Bool := decide ((t.take p.length).map low = p)
theorem bgN_len {t p : List Nat} (h : bgN t p = true) : p.length ≤ t.length := by
  have := congrArg List.length (of_decide_eq_true h)
  rw [List.length_map, List.length_take] at this
  omega
/-- What stands behind the first piece that begins so. -/
def nmN (p : List Nat) : List (List Nat) → Option (List Nat)
  | [] => none
  | t :: l => if bgN t p then some (t.drop p.length) else nmN p l
theorem nmN_skip {p : List Nat} : ∀ {l : List (List Nat)} {k : Nat}, k ≤ l.length → (∀ i, i < k → bgN (l.getD i []) p = false) → nmN p l = nmN p (l.drop k) := by
  intro l k
  induction k generalizing l with
  | zero => intro _ _; simp
  | succ k ih =>
    intro h1 h2
    cases l with
    | nil => simp at h1
    | cons t r =>
      have h0 : bgN t p = false := h2 0 (by omega)
      rw [nmN, h0, List.drop_succ_cons]
      simp only [Bool.false_eq_true, if_false]
      exact ih (by simpa using h1) (fun i hi => h2 (i + 1) (by omega))
theorem nmN_none {p : List Nat} {l : List (List Nat)} (h : ∀ i, i < l.length → bgN (l.getD i []) p = false) : nmN p l = none := by
  rw [nmN_skip (Nat.le_refl _) h, List.drop_length]; rfl
theorem nmN_some {p : List Nat} {l : List (List Nat)} {k : Nat} (h1 : k < l.length) (h2 : ∀ i, i < k → bgN (l.getD i []) p = false) (h3 : bgN (l.getD k []) p = true) : nmN p l = some ((l.getD k []).drop p.length) := by
  rw [nmN_skip (by omega) h2]
  have e : l.drop k = l.getD k [] :: l.drop (k + 1) := by
    rw [List.getD_eq_getElem?_getD, List.getElem?_eq_getElem h1]; exact List.drop_eq_getElem_cons h1
  rw [e, nmN, h3]
  rfl
/-- text/ · multipart/ · charset= · boundary= -/
def wText : List Nat := [116, 101, 120, 116, 47]
def wMulti : List Nat := [109, 117, 108, 116, 105, 112, 97, 114, 116, 47]
def wChar : List Nat := [99, 104, 97, 114, 115, 101, 116, 61]
def wMark : List Nat := [98, 111, 117, 110, 100, 97, 114, 121, 61]
/-- A charset by its name. -/
def csNm (t : List Nat) : Int := csI (str (t.map low))
/-- The charset that pieces behind the first one tell. -/
def chN (l : List (List Nat)) : Int := match nmN wChar l with
  | none => 1
  | some x => csNm x
/-- The kind and the charset that a value tells. -/
def tyV (t : List Nat) : Int × Int := match pcs t with
  | [] => (3, 0)
  | p :: l => if bgN p wMulti then (2, 0) else if bgN p wText then (1, chN l) else (3, 0)
theorem tyV_nil {t : List Nat} (h : pcs t = []) : tyV t = (3, 0) := by unfold tyV; rw [h]
theorem tyV_multi {t p : List Nat} {l : List (List Nat)} (h : pcs t = p :: l) (h1 : bgN p wMulti = true) : tyV t = (2, 0) := by unfold tyV; rw [h]; simp only [h1, if_true]
theorem tyV_text {t p : List Nat} {l : List (List Nat)} (h : pcs t = p :: l) (h1 : bgN p wMulti = false) (h2 : bgN p wText = true) : tyV t = (1, chN l) := by unfold tyV; rw [h]; simp [h1, h2]
theorem tyV_else {t p : List Nat} {l : List (List Nat)} (h : pcs t = p :: l) (h1 : bgN p wMulti = false) (h2 : bgN p wText = false) : tyV t = (3, 0) := by unfold tyV; rw [h]; simp [h1, h2]
theorem tm_apart {p : List Nat} (h : bgN p wText = true) : bgN p wMulti = false := by
  cases hm : bgN p wMulti with
  | false => rfl
  | true =>
    exfalso
    have h1 := of_decide_eq_true h
    have h2 := of_decide_eq_true hm
    have l1 := bgN_len h
    cases p with
    | nil => simp [wText] at l1
    | cons c p =>
      simp [wText] at h1
      simp [wMulti] at h2
      omega
theorem chN_none {l : List (List Nat)} (h : nmN wChar l = none) : chN l = 1 := by unfold chN; rw [h]
theorem chN_some {l : List (List Nat)} {x : List Nat} (h : nmN wChar l = some x) : chN l = csNm x := by unfold chN; rw [h]
end Go.Proofs.YtkjnhcnbbojajaaDoor

namespace Go.Proofs.YtkjnhcnbbojajaaDoor
open Go.RowKit

/-- The i-th number of a list (0 behind its end). -/
def nthS (l : List (List Nat)) (i : Nat) : List Nat := l.getD i []
/-- Numbers as cells. -/
def sc (l : List (List Nat)) : List Value := l.map fun (b : List Nat) => Value.string (str b)

theorem nthS_get {l : List (List Nat)} {i : Nat} (h : i < l.length) : nthS l i = l[i] := by
  unfold nthS; rw [List.getD_eq_getElem?_getD, List.getElem?_eq_getElem h]; rfl

theorem sc_len (l : List (List Nat)) : (sc l).length = l.length := by simp [sc]
theorem sc_one (l : List (List Nat)) : ∀ u ∈ sc l, u.oneCell' = true := by
  intro u hu
  simp only [sc, List.mem_map] at hu
  obtain ⟨b, _, rfl⟩ := hu
  rfl
theorem sc_app (a b : List (List Nat)) : sc (a ++ b) = sc a ++ sc b := by simp [sc]
theorem sc_get {l : List (List Nat)} {i : Nat} (h : i < l.length) : (sc l)[i]? = some (.string (str (nthS l i))) := by
  rw [nthS_get h]; simp [sc, h]

theorem nthS_drop (l : List (List Nat)) (k i : Nat) : nthS (l.drop k) i = nthS l (k + i) := by
  simp [nthS, List.getD_eq_getElem?_getD, List.getElem?_drop]
theorem take_snocT (l : List (List Nat)) (k : Nat) (h : k < l.length) : l.take (k + 1) = l.take k ++ [nthS l k] := by
  rw [List.take_succ_eq_append_getElem h, nthS_get h]
theorem drop_consT (l : List (List Nat)) (k : Nat) (h : k < l.length) : l.drop k = nthS l k :: l.drop (k + 1) := by
  rw [nthS_get h]; exact List.drop_eq_getElem_cons h


/-- WHERE A SLICE OF BYTES IS READ: at its address stand the bytes l. -/
def RdS (w : World) (a : Option Addr) (l : List (List Nat)) : Prop :=
  l = [] ∨ ∃ b off, a = some ⟨b, off, none⟩ ∧ b < w.heap.size ∧ ∀ i, i < l.length → w.cell? ⟨b, off + i, none⟩ = some (.string (str (nthS l i)))

theorem RdS.below {w w' : World} {a : Option Addr} {l : List (List Nat)} (h : RdS w a l) (hb : Below w.heap.size w w') : RdS w' a l := by
  rcases h with h | ⟨b, off, e, hlt, hc⟩
  · exact .inl h
  · exact .inr ⟨b, off, e, Nat.lt_of_lt_of_le hlt hb.size, fun i hi => (hb.cell (p := ⟨b, off + i, none⟩) hlt).trans (hc i hi)⟩
/-- Where there is an element there is an address. -/
theorem RdS.at_ {w : World} {a : Option Addr} {l : List (List Nat)} (h : RdS w a l) (hp : 0 < l.length) :
    ∃ b off, a = some ⟨b, off, none⟩ ∧ b < w.heap.size ∧ ∀ i, i < l.length → w.cell? ⟨b, off + i, none⟩ = some (.string (str (nthS l i))) := by
  rcases h with h | h
  · rw [h] at hp; simp at hp
  · exact h
theorem RdS.drop {w : World} {b off : Nat} {l : List (List Nat)} (h : RdS w (some ⟨b, off, none⟩) l) (k : Nat) : RdS w (some ⟨b, off + k, none⟩) (l.drop k) := by
  rcases h with h | ⟨b', off', e, hlt, hc⟩
  · left; simp [h]
  · obtain ⟨rfl, rfl⟩ : b = b' ∧ off = off' := by simpa using e
    right
    refine ⟨b, off + k, rfl, hlt, fun i hi => ?_⟩
    rw [List.length_drop] at hi
    rw [nthS_drop, Nat.add_assoc]
    exact hc (k + i) (by omega)


/-- A row of the call's own, read. -/
theorem RdS.own {w : World} {base e n cap : Nat} {a : Option Addr} {l : List (List Nat)} (h : w.ownsRow base e 1 (.slice a n cap) n (sc l)) : RdS w a l := by
  have hl : l.length = n := by simpa [sc_len] using h.1
  rcases h.2 with ⟨_, h0⟩ | ⟨g, cap', cur, h', _, hg, _, _, _, htake⟩
  · left; exact List.length_eq_zero_iff.1 (by omega)
  · simp only [Value.slice.injEq] at h'
    obtain ⟨rfl, _, rfl⟩ := h'
    right
    refine ⟨g, 0, rfl, ?_, fun i hi => ?_⟩
    · rcases Nat.lt_or_ge g w.heap.size with hlt | hge
      · exact hlt
      · simp [Array.getElem?_eq_none hge] at hg
    · rw [cell_of_row w g (0 + i) cur e (0, 0) hg, ← sc_get hi, ← htake, List.getElem?_take, if_pos (by omega)]
      simp


theorem infoS : (Tryd.prog.info? 9).map (fun i => (i.zero, i.size, i.bytes)) = some (some (.string ⟨#[]⟩), 1, 16) := by kernel_rfl
/-- THE SLICE v IS THE CALL's OWN AND HOLDS THE BYTES l. -/
def OwnS (w : World) (B : Nat) (v : Value) (l : List (List Nat)) : Prop := w.ownsRow B 9 1 v l.length (sc l)

theorem OwnS.nil (w : World) (B : Nat) : OwnS w B (.slice none 0 0) [] := World.ownsRow_nil _ _ _ _
theorem OwnS.lit (w : World) (B : Nat) (hB : B ≤ w.heap.size) (cs : Array Value) (l : List (List Nat)) (h : cs.toList = sc l) (hl : l.length ≤ maxLen) : OwnS (w.alloc (.cells cs 9)) B (.slice (some ⟨w.heap.size, 0, none⟩) l.length l.length) l := by
  have := World.ownsRow_lit (base := B) (e := 9) (size := 1) w cs l.length hB hl (by rw [← Array.length_toList, h, sc_len]; omega)
  rw [h] at this
  exact this
theorem OwnS.alloc {w : World} {B : Nat} {v : Value} {l : List (List Nat)} (h : OwnS w B v l) (o : Obj) : OwnS (w.alloc o) B v l := World.ownsRow.alloc h o
theorem OwnS.drew {w : World} {B : Nat} {v : Value} {l : List (List Nat)} (h : OwnS w B v l) : OwnS w.drew B v l := h
theorem OwnS.below {w w' : World} {B C : Nat} {v : Value} {l : List (List Nat)} (h : OwnS w B v l) (hb : Below C w w') (hC : w.heap.size ≤ C) : OwnS w' B v l := by
  refine ⟨h.1, ?_⟩
  rcases h.2 with h' | ⟨g, cap, cur, h1, h2, h3, h4⟩
  · exact .inl h'
  · refine .inr ⟨g, cap, cur, h1, h2, ?_, h4⟩
    have hg : g < w.heap.size := by
      rcases Nat.lt_or_ge g w.heap.size with hlt | hge
      · exact hlt
      · simp [Array.getElem?_eq_none hge] at h3
    rw [hb.block g (by omega)]; exact h3
theorem OwnS.form {w : World} {B : Nat} {v : Value} {l : List (List Nat)} (h : OwnS w B v l) : ∃ a cap, v = .slice a l.length cap ∧ l.length ≤ cap ∧ cap ≤ maxLen := by
  rcases h.2 with ⟨h', h0⟩ | ⟨g, cap, cur, h', _, _, h4, h5, _⟩
  · exact ⟨none, 0, by rw [h', h0], by omega, by decide⟩
  · exact ⟨_, cap, h', h4, h5⟩
theorem OwnS.rd {w : World} {B n cap : Nat} {a : Option Addr} {l : List (List Nat)} (h : OwnS w B (.slice a n cap) l) : l.length = n ∧ RdS w a l := by
  have hf : l.length = n := by
    obtain ⟨a', c', e, _⟩ := h.form
    simp at e; omega
  subst hf
  exact ⟨rfl, RdS.own h⟩

/-- AN APPEND: what stands at the second slice's address is there behind what was. -/
theorem wpList_appT {w : World} {ops : Array Oper} {rest : List Oper} {o : Oper} {a : Act} {Q : Exit → Act → World → Prop} (hgd : o.guard = none) (s x : Operand)
    (ho : o.op = .call { callee := .builtin .append, args := #[s, x], argTypes := #[54, 54] })
    (B : Nat) (v : Value) (l : List (List Nat)) (hs : a.eval s = v) (hown : OwnS w B v l) (ad : Addr) (m c : Nat) (new : List (List Nat)) (hx : a.eval x = .slice (some ad) m c) (hm : new.length = m)
    (hnew : ∀ j, j < m → w.cell? (ad.add j) = some (.string (str (nthS new j)))) (hsz : l.length + m ≤ 134217728) (hB : B ≤ w.heap.size)
    (h : ∀ v' w1, OwnS w1 B v' (l ++ new) → Below B w w1 → wpList Tryd.prog ops Q rest (a.put o.dst v') w1) : wpList Tryd.prog ops Q (o :: rest) a w := by
  obtain ⟨i0, hi, hz0, hz1, hz2⟩ := info_parts infoS
  refine wpList_append_own w hgd s x 54 ho B 9 i0 (.string ⟨#[]⟩) 1 16 Tryd.underlying54 hi hz0 hz1 hz2 rfl (by decide) v l.length (sc l) hs hown ad m c (sc new) hx (by rw [sc_len, hm]; omega) ?_ (sc_one new) (by unfold maxLen; omega) (by omega) hB ?_
  · intro j u hj
    have hjl : j < new.length := by
      rcases Nat.lt_or_ge j new.length with hlt | hge
      · exact hlt
      · rw [List.getElem?_eq_none (by rw [sc_len]; exact hge)] at hj; cases hj
    rw [sc_get hjl] at hj
    cases hj
    exact hnew j (by omega)
  · intro v' w1 hown' hgr _
    refine h v' w1 ?_ ((Below.refl _ _).grown hgr hB (fun k hk => (hown.lt k hk).1))
    unfold OwnS
    rw [sc_app, List.length_append, hm]
    exact hown'

/-- The same where the second slice is the block that was laid just ahead. -/
theorem wpList_app_newT {wr : World} {cs : Array Value} {ops : Array Oper} {rest : List Oper} {o : Oper} {a : Act} {Q : Exit → Act → World → Prop} (hgd : o.guard = none) (s x : Operand)
    (ho : o.op = .call { callee := .builtin .append, args := #[s, x], argTypes := #[54, 54] })
    (B : Nat) (v : Value) (l : List (List Nat)) (hs : a.eval s = v) (hown : OwnS wr B v l) (m c : Nat) (new : List (List Nat)) (hx : a.eval x = .slice (some ⟨wr.heap.size, 0, none⟩) m c) (hm : new.length = m) (hcs : cs.toList = sc new)
    (hsz : l.length + m ≤ 134217728) (hB : B ≤ wr.heap.size)
    (h : ∀ v' w1, OwnS w1 B v' (l ++ new) → Below B wr w1 → wpList Tryd.prog ops Q rest (a.put o.dst v') w1) : wpList Tryd.prog ops Q (o :: rest) a (wr.alloc (.cells cs 9)) := by
  have hb : Below B wr (wr.alloc (.cells cs 9)) := (Below.refl _ _).alloc hB _
  refine wpList_appT hgd s x ho B v l hs (hown.alloc _) ⟨wr.heap.size, 0, none⟩ m c new hx hm ?_ hsz (by simp; omega) (fun v' w1 h1 h2 => h v' w1 h1 (hb.trans h2))
  intro j hj
  have e : (⟨wr.heap.size, 0, none⟩ : Addr).add j = ⟨wr.heap.size, j, none⟩ := by rw [Go.WideShapes.add_plain, Nat.zero_add]
  rw [e, World.cell?_alloc_mark, ← Array.getElem?_toList, hcs]
  exact sc_get (by omega)

/-- The cells of a block that was laid just ahead, behind a draw too. -/
theorem new_cellsT {wr : World} {cs : Array Value} {new : List (List Nat)} (hcs : cs.toList = sc new) (m : Nat) (hm : new.length = m) :
    ∀ j, j < m → (wr.alloc (.cells cs 9)).cell? ((⟨wr.heap.size, 0, none⟩ : Addr).add j) = some (.string (str (nthS new j))) := by
  intro j hj
  have e : (⟨wr.heap.size, 0, none⟩ : Addr).add j = ⟨wr.heap.size, j, none⟩ := by rw [Go.WideShapes.add_plain, Nat.zero_add]
  rw [e, World.cell?_alloc_mark, ← Array.getElem?_toList, hcs]
  exact sc_get (by omega)
/-- AN APPEND AT A STEP OF A REGION THAT DRAWS ITS ORDER. -/
theorem step_appT {w : World} {ops : Array Oper} {o : Oper} {a : Act} {K : Act → World → Prop} {Q : Exit → Act → World → Prop} {E : Prop} (hgd : o.guard = none) (s x : Operand)
    (ho : o.op = .call { callee := .builtin .append, args := #[s, x], argTypes := #[54, 54] })
    (B : Nat) (v : Value) (l : List (List Nat)) (hs : a.eval s = v) (hown : OwnS w B v l) (ad : Addr) (m c : Nat) (new : List (List Nat)) (hx : a.eval x = .slice (some ad) m c) (hm : new.length = m)
    (hnew : ∀ j, j < m → w.cell? (ad.add j) = some (.string (str (nthS new j)))) (hsz : l.length + m ≤ 134217728) (hB : B ≤ w.heap.size)
    (h : ∀ v' w1, OwnS w1 B v' (l ++ new) → Below B w w1 → K (a.put o.dst v') w1) : if Region.wanted o (yielded ops a.tmps) = true then Oper.wp Tryd.prog o a w K Q else E := by
  have hw : Region.wanted o (yielded ops a.tmps) = true := by simp [Region.wanted, hgd]
  rw [if_pos hw]
  obtain ⟨i0, hi, hz0, hz1, hz2⟩ := info_parts infoS
  refine wp_append_own w s x 54 ho B 9 i0 (.string ⟨#[]⟩) 1 16 Tryd.underlying54 hi hz0 hz1 hz2 rfl (by decide) v l.length (sc l) hs hown ad m c (sc new) hx (by rw [sc_len, hm]; omega) ?_ (sc_one new) (by unfold maxLen; omega) (by omega) hB ?_
  · intro j u hj
    have hjl : j < new.length := by
      rcases Nat.lt_or_ge j new.length with hlt | hge
      · exact hlt
      · rw [List.getElem?_eq_none (by rw [sc_len]; exact hge)] at hj; cases hj
    rw [sc_get hjl] at hj
    cases hj
    exact hnew j (by omega)
  · intro v' w1 hown' hgr _
    refine h v' w1 ?_ ((Below.refl _ _).grown hgr hB (fun k hk => (hown.lt k hk).1))
    unfold OwnS
    rw [sc_app, List.length_append, hm]
    exact hown'


theorem OwnS.low {w : World} {B C : Nat} {v : Value} {l : List (List Nat)} (h : OwnS w B v l) (hC : C ≤ B) : OwnS w C v l := by
  refine ⟨h.1, ?_⟩
  rcases h.2 with h' | ⟨g, cap, cur, h1, h2, h3, h4⟩
  · exact .inl h'
  · exact .inr ⟨g, cap, cur, h1, by omega, h3, h4⟩
end Go.Proofs.YtkjnhcnbbojajaaDoor
