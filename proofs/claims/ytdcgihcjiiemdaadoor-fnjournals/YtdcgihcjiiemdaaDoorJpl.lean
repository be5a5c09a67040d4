/- The journal in plain words: an op as bytes, and read back, by the program's way and by the model's; no program in it. -/
import Derived.Test.YtdcgihcjiiemdaaDoorSmnToOfm
namespace Go.Proofs.YtdcgihcjiiemdaaDoor
open Go.RowKit
def twoB (n : Nat) : List Nat := [n / 256 % 256, n % 256]
def smJ (s : Nat) (l : List Nat) : Nat := l.foldl (fun s b => (s * 31 + b) % 65521) s
def uiB (l : List Int) : List Nat := l.flatMap fun u => twoB u.toNat
def enB (o : OpR) : List Nat := o.m.toNat :: o.f.toNat :: (twoB o.d.toNat ++ (twoB o.b.length ++ o.b))
def inB (o : OpR) : List Nat := o.k.toNat :: o.x.size :: (txB o.x ++ (o.t.size :: (txB o.t ++ (o.u.length :: (uiB o.u ++ enB o)))))
def hdB (o : OpR) : List Nat := twoB ((inB o).length + 4) ++ inB o
def pkO (o : OpR) : List Nat := hdB o ++ twoB (smJ 1 (hdB o))
theorem txB_len (s : ByteArray) : (txB s).length = s.size := by
 unfold txB; rw [List.length_map, Array.length_toList]; rfl
theorem str_txB (s : ByteArray) : str (txB s) = s := by
 obtain ⟨d⟩ := s
 unfold str txB
 simp [List.map_map, Function.comp_def]
theorem uiB_len : ∀ l : List Int, (uiB l).length = 2 * l.length
 | [] => rfl
 | u :: l => by
  have := uiB_len l
  show (twoB u.toNat ++ uiB l).length = _
  rw [List.length_append, this]; simp [twoB]; omega
theorem inB_len (o : OpR) : (inB o).length = 10 + o.x.size + o.t.size + 2 * o.u.length + o.b.length := by
 simp only [inB, enB, twoB, List.length_cons, List.length_append, txB_len, uiB_len, List.length_nil]
 omega
theorem hdB_len (o : OpR) : (hdB o).length = 12 + o.x.size + o.t.size + 2 * o.u.length + o.b.length := by
 unfold hdB; rw [List.length_append, inB_len]; simp [twoB]; omega
theorem pkO_len (o : OpR) : (pkO o).length = 14 + o.x.size + o.t.size + 2 * o.u.length + o.b.length := by
 unfold pkO; rw [List.length_append, hdB_len]; simp [twoB]; omega
structure OkJ (o : OpR) : Prop where
 k : 1 ≤ o.k ∧ o.k ≤ 7
 x : o.x.size ≤ 8
 t : o.t.size ≤ 8
 u : o.u.length ≤ 6
 v : ∀ z ∈ o.u, 1 ≤ z ∧ z ≤ 999
 m : 0 ≤ o.m ∧ o.m ≤ 3
 f : 0 ≤ o.f ∧ o.f ≤ 15
 d : 0 ≤ o.d ∧ o.d ≤ 9999
 b : o.b.length ≤ 600
theorem riU_in : ∀ (l : List Int) (a : Int), 0 ≤ a → riU a l = true → ∀ z ∈ l, 1 ≤ z ∧ z ≤ 999
 | [], _, _, _ => fun z hz => by simp at hz
 | x :: l, a, ha, h => by
  simp only [riU, Bool.and_eq_true, bt, decide_eq_true_eq] at h
  intro z hz
  rcases List.mem_cons.1 hz with rfl | hz
  ·omega
  ·exact riU_in l x (by omega) h.2 z hz
theorem okJ {o : OpR} (h : ofV o = 0) : OkJ o := by
 unfold ofV at h
 by_cases h1 : fmV o = true
 ·rw [if_pos h1] at h
  by_cases h2 : bnOk (txB o.x) = true ∧ (cpK o.k = true → bnOk (txB o.t) = true)
  ·rw [if_pos h2] at h
   by_cases h3 : 6 < o.u.length
   ·rw [if_pos h3] at h; exact absurd h (by decide)
   ·rw [if_neg h3] at h
    by_cases h4 : rgV o = true
    ·rw [if_pos h4] at h
     by_cases h5 : 400 < o.b.length
     ·rw [if_pos h5] at h; exact absurd h (by decide)
     ·simp only [fmV, fmK, Bool.and_eq_true, bt, decide_eq_true_eq, Bool.or_eq_true, Bool.not_eq_true'] at h1
      simp only [rgV, Bool.and_eq_true, bt, decide_eq_true_eq, Bool.or_eq_true, Bool.not_eq_true', decide_eq_false_iff_not] at h4
      obtain ⟨hk, ⟨⟨⟨⟨ht, -⟩, hm⟩, -⟩, -⟩⟩ := h1
      obtain ⟨⟨⟨hu, hm4⟩, hf⟩, hd⟩ := h4
      have hxl : o.x.size ≤ 8 := by
       have := h2.1
       simp only [bnOk, Bool.and_eq_true, decide_eq_true_eq, txB_len] at this
       omega
      have htl : o.t.size ≤ 8 := by
       by_cases hc : cpK o.k = true
       ·have := h2.2 hc
        simp only [bnOk, Bool.and_eq_true, decide_eq_true_eq, txB_len] at this
        omega
       ·rcases ht with ht | ht
        ·exact absurd ht hc
        ·simp only [h0B, decide_eq_false_iff_not] at ht
         omega
      have hml : 0 ≤ o.m ∧ o.m ≤ 3 := by
       by_cases hc : o.k = 4
       ·rcases hm4 with h' | h'
        ·exact absurd hc h'
        ·omega
       ·rcases hm with h' | h'
        ·exact absurd h' hc
        ·simp only [h2B, decide_eq_false_iff_not] at h'
         omega
      exact ⟨hk, hxl, htl, by omega, riU_in _ 0 (by omega) hu, hml, hf, hd, by omega⟩
    ·rw [if_neg h4] at h; exact absurd h (by decide)
  ·rw [if_neg h2] at h; exact absurd h (by decide)
 ·rw [if_neg h1] at h; exact absurd h (by decide)
theorem dN_le {z : Int} (h : z ≤ 9999) : z.toNat ≤ 9999 := Int.toNat_le.2 h
theorem two_mid (n : Nat) (h : n ≤ 9999) : (0 * 256 + n / 256 % 256) * 256 + n % 256 = n := by omega
theorem twoB_num (n : Nat) (h : n < 65536) : n / 256 % 256 * 256 + n % 256 = n := by omega
def nmJ (l : List Nat) : Nat := l.foldl (fun n b => n * 256 + b) 0
def tkU : Nat → List Nat → List Int
 | 0, _ => []
 | c + 1, l => (nmJ (l.take 2) : Int) :: tkU c (l.drop 2)
def rd5 (k : Nat) (x t : List Nat) (u : List Int) (h : List Nat) : OpR :=
 ⟨(k : Int), str x, str t, u, (nmJ (h.take 1) : Int), (nmJ ((h.drop 1).take 1) : Int), (nmJ ((h.drop 2).take 2) : Int), (h.drop 6).take (nmJ ((h.drop 4).take 2))⟩
def rd4 (k : Nat) (x t : List Nat) (f : List Nat) : OpR := rd5 k x t (tkU (nmJ (f.take 1)) (f.drop 1)) ((f.drop 1).drop (2 * nmJ (f.take 1)))
def rd3 (k : Nat) (x : List Nat) (c : List Nat) : OpR := rd4 k x ((c.drop 1).take (nmJ (c.take 1))) ((c.drop 1).drop (nmJ (c.take 1)))
def rd2 (k : Nat) (c : List Nat) : OpR := rd3 k ((c.drop 1).take (nmJ (c.take 1))) ((c.drop 1).drop (nmJ (c.take 1)))
def rdP (d : List Nat) : OpR := rd2 (nmJ ((d.drop 2).take 1)) (d.drop 3)
theorem nmJ_one (b : Nat) (l : List Nat) : nmJ ((b :: l).take 1) = b := by simp [nmJ]
theorem tkU_ui : ∀ (l : List Int) (r : List Nat), (∀ z ∈ l, 1 ≤ z ∧ z ≤ 999) → tkU l.length (uiB l ++ r) = l
 | [], _, _ => rfl
 | u :: l, r, h => by
  have hu := h u (by simp)
  have e : uiB (u :: l) ++ r = (u.toNat / 256 % 256) :: (u.toNat % 256) :: (uiB l ++ r) := rfl
  rw [e]
  show (nmJ (((u.toNat / 256 % 256) :: (u.toNat % 256) :: (uiB l ++ r)).take 2) : Int) :: tkU l.length (uiB l ++ r) = _
  rw [tkU_ui l r (fun z hz => h z (by simp [hz]))]
  have : nmJ (((u.toNat / 256 % 256) :: (u.toNat % 256) :: (uiB l ++ r)).take 2) = u.toNat := by
   simp only [List.take_succ_cons, List.take_zero, nmJ, List.foldl_cons, List.foldl_nil]
   omega
  rw [this, Int.toNat_of_nonneg (by omega)]
theorem rd5_en (o : OpR) (h : OkJ o) (r : List Nat) : rd5 o.k.toNat (txB o.x) (txB o.t) o.u (enB o ++ r) = o := by
 have e : enB o ++ r = o.m.toNat :: o.f.toNat :: (o.d.toNat / 256 % 256) :: (o.d.toNat % 256) :: (o.b.length / 256 % 256) :: (o.b.length % 256) :: (o.b ++ r) := rfl
 have h4 := h.b
 have e1 : (0 * 256 + o.b.length / 256 % 256) * 256 + o.b.length % 256 = o.b.length := by omega
 have e2 : (0 * 256 + o.d.toNat / 256 % 256) * 256 + o.d.toNat % 256 = o.d.toNat := two_mid _ (dN_le h.d.2)
 unfold rd5
 rw [e]
 simp only [List.drop_succ_cons, List.drop_zero, List.take_succ_cons, List.take_zero, nmJ, List.foldl_cons, List.foldl_nil, e1, e2, str_txB, List.take_left]
 rw [Int.toNat_of_nonneg (by have := h.k; omega), Int.toNat_of_nonneg h.d.1]
 simp only [Nat.zero_mul, Nat.zero_add]
 rw [Int.toNat_of_nonneg h.m.1, Int.toNat_of_nonneg h.f.1]
theorem take_lenN {l r : List Nat} {n : Nat} (h : l.length = n) : (l ++ r).take n = l := by subst h; exact List.take_left
theorem drop_lenN {l r : List Nat} {n : Nat} (h : l.length = n) : (l ++ r).drop n = r := by subst h; exact List.drop_left
theorem rdP_pk {o : OpR} (h : OkJ o) (r : List Nat) : rdP (pkO o ++ r) = o := by
 have e : pkO o ++ r = (((inB o).length + 4) / 256 % 256) :: (((inB o).length + 4) % 256) :: o.k.toNat :: (o.x.size :: (txB o.x ++ (o.t.size :: (txB o.t ++ (o.u.length :: (uiB o.u ++ (enB o ++ (twoB (smJ 1 (hdB o)) ++ r)))))))) := by
  simp only [pkO, hdB, inB, twoB, List.cons_append, List.nil_append, List.append_assoc]
 generalize twoB (smJ 1 (hdB o)) ++ r = q at e
 unfold rdP
 rw [e]
 simp only [List.drop_succ_cons, List.drop_zero]
 rw [nmJ_one]
 unfold rd2
 rw [nmJ_one]
 simp only [List.drop_succ_cons, List.drop_zero]
 rw [take_lenN (txB_len _), drop_lenN (txB_len _)]
 unfold rd3
 rw [nmJ_one]
 simp only [List.drop_succ_cons, List.drop_zero]
 rw [take_lenN (txB_len _), drop_lenN (txB_len _)]
 unfold rd4
 rw [nmJ_one]
 simp only [List.drop_succ_cons, List.drop_zero]
 rw [drop_lenN (uiB_len _), tkU_ui _ _ h.v]
 exact rd5_en o h q
abbrev RsM := List Nat × Bool
def bM (s : RsM) : Nat × RsM := match s.1 with
 | [] => (0, [], true)
 | b :: r => (b, r, s.2)
def wM (s : RsM) : Nat × RsM := ((bM s).1 * 256 + (bM (bM s).2).1, (bM (bM s).2).2)
def bsM : Nat → RsM → List Nat × RsM
 | 0, s => ([], s)
 | n + 1, s => if s.2 = true then ([], s) else ((bM s).1 :: (bsM n (bM s).2).1, (bsM n (bM s).2).2)
def usM : Nat → RsM → List Int × RsM
 | 0, s => ([], s)
 | n + 1, s => if s.2 = true then ([], s) else (((wM s).1 : Int) :: (usM n (wM s).2).1, (usM n (wM s).2).2)
def rm5 (k : Nat) (x t : List Nat) (u : List Int) (s : RsM) : OpR :=
 let p := bM s
 let q := bM p.2
 let d := wM q.2
 let n := wM d.2
 ⟨(k : Int), str x, str t, u, (p.1 : Int), (q.1 : Int), (d.1 : Int), (bsM n.1 n.2).1⟩
def rm4 (k : Nat) (x t : List Nat) (s : RsM) : OpR := rm5 k x t (usM (bM s).1 (bM s).2).1 (usM (bM s).1 (bM s).2).2
def rm3 (k : Nat) (x : List Nat) (s : RsM) : OpR := rm4 k x (bsM (bM s).1 (bM s).2).1 (bsM (bM s).1 (bM s).2).2
def rm2 (k : Nat) (s : RsM) : OpR := rm3 k (bsM (bM s).1 (bM s).2).1 (bsM (bM s).1 (bM s).2).2
def rdM (d : List Nat) : OpR := rm2 (bM (d.drop 2, false)).1 (bM (d.drop 2, false)).2
theorem bM_cons (b : Nat) (r : List Nat) (f : Bool) : bM (b :: r, f) = (b, r, f) := rfl
theorem bsM_app : ∀ (l r : List Nat) (n : Nat), l.length = n → bsM n (l ++ r, false) = (l, r, false)
 | [], r, n, h => by subst h; rfl
 | b :: l, r, n, h => by
  subst h
  have := bsM_app l r l.length rfl
  show (if false = true then _ else _) = _
  rw [if_neg (by decide)]
  show ((bM (b :: (l ++ r), false)).1 :: (bsM l.length (bM (b :: (l ++ r), false)).2).1, (bsM l.length (bM (b :: (l ++ r), false)).2).2) = _
  rw [bM_cons]
  show (b :: (bsM l.length (l ++ r, false)).1, (bsM l.length (l ++ r, false)).2) = _
  rw [this]
theorem wM_two (n : Nat) (h : n < 65536) (r : List Nat) : wM (twoB n ++ r, false) = (n, r, false) := by
 show (n / 256 % 256 * 256 + n % 256, r, false) = _
 rw [twoB_num n h]
theorem usM_app : ∀ (l : List Int) (r : List Nat), (∀ z ∈ l, 1 ≤ z ∧ z ≤ 999) → usM l.length (uiB l ++ r, false) = (l, r, false)
 | [], r, _ => rfl
 | u :: l, r, h => by
  have hu := h u (by simp)
  have := usM_app l r (fun z hz => h z (by simp [hz]))
  have e : uiB (u :: l) ++ r = twoB u.toNat ++ (uiB l ++ r) := rfl
  have ew := wM_two u.toNat (by omega) (uiB l ++ r)
  show (if false = true then _ else _) = _
  rw [if_neg (by decide), e, ew]
  show (((u.toNat : Nat) : Int) :: (usM l.length (uiB l ++ r, false)).1, (usM l.length (uiB l ++ r, false)).2) = _
  rw [this, Int.toNat_of_nonneg (by omega)]
theorem rm5_en (o : OpR) (h : OkJ o) (r : List Nat) : rm5 o.k.toNat (txB o.x) (txB o.t) o.u (enB o ++ r, false) = o := by
 have h4 := h.b
 have hd := dN_le h.d.2
 have e : enB o ++ r = o.m.toNat :: o.f.toNat :: (twoB o.d.toNat ++ (twoB o.b.length ++ (o.b ++ r))) := by
  simp only [enB, List.cons_append, List.append_assoc]
 unfold rm5
 rw [e]
 simp only [bM_cons]
 rw [wM_two o.d.toNat (by omega)]
 dsimp only
 rw [wM_two o.b.length (by omega)]
 dsimp only
 rw [bsM_app _ _ _ rfl]
 simp only [str_txB]
 rw [Int.toNat_of_nonneg (by have := h.k; omega), Int.toNat_of_nonneg h.d.1, Int.toNat_of_nonneg h.m.1, Int.toNat_of_nonneg h.f.1]
theorem rdM_pk {o : OpR} (h : OkJ o) : rdM (pkO o) = o := by
 have e : pkO o = (((inB o).length + 4) / 256 % 256) :: (((inB o).length + 4) % 256) :: o.k.toNat :: (o.x.size :: (txB o.x ++ (o.t.size :: (txB o.t ++ (o.u.length :: (uiB o.u ++ (enB o ++ twoB (smJ 1 (hdB o))))))))) := by
  simp only [pkO, hdB, inB, twoB, List.cons_append, List.nil_append, List.append_assoc]
 generalize twoB (smJ 1 (hdB o)) = q at e
 unfold rdM
 rw [e]
 simp only [List.drop_succ_cons, List.drop_zero, bM_cons]
 unfold rm2
 rw [bM_cons]
 dsimp only
 rw [bsM_app _ _ _ (txB_len _)]
 dsimp only
 unfold rm3
 rw [bM_cons]
 dsimp only
 rw [bsM_app _ _ _ (txB_len _)]
 dsimp only
 unfold rm4
 rw [bM_cons]
 dsimp only
 rw [usM_app _ _ h.v]
 exact rm5_en o h q
def opZ : OpR := ⟨0, ByteArray.empty, ByteArray.empty, [], 0, 0, 0, []⟩
def rpV (d : List Nat) : Int × Nat × OpR := if ofV (rdP d) = 0 ∧ pkO (rdP d) <+: d then (0, (pkO (rdP d)).length, rdP d) else (5, 0, opZ)
def lnM (d : List Nat) : Nat := nth d 0 * 256 + nth d 1
def rpM (d : List Nat) : Int × Nat × OpR := if 2 ≤ d.length ∧ 2 ≤ lnM d ∧ lnM d ≤ d.length ∧ ofV (rdM (d.take (lnM d))) = 0 ∧ pkO (rdM (d.take (lnM d))) = d.take (lnM d) then (0, lnM d, rdM (d.take (lnM d))) else (5, 0, opZ)
theorem lnM_pk {o : OpR} (h : OkJ o) (r : List Nat) : lnM (pkO o ++ r) = (pkO o).length := by
 have e : pkO o ++ r = (((inB o).length + 4) / 256 % 256) :: (((inB o).length + 4) % 256) :: (inB o ++ (twoB (smJ 1 (hdB o)) ++ r)) := by
  simp only [pkO, hdB, twoB, List.cons_append, List.nil_append, List.append_assoc]
 have hl := inB_len o
 have := h.x; have := h.t; have := h.u; have := h.b
 rw [pkO_len]
 unfold lnM
 rw [e]
 show ((inB o).length + 4) / 256 % 256 * 256 + ((inB o).length + 4) % 256 = _
 omega
theorem rpM_eq (d : List Nat) : rpM d = rpV d := by
 by_cases H : ∃ o, ofV o = 0 ∧ pkO o <+: d
 ·obtain ⟨o, h0, r, rfl⟩ := H
  have h := okJ h0
  have e1 : rpV (pkO o ++ r) = (0, (pkO o).length, o) := by
   unfold rpV
   rw [rdP_pk h, if_pos ⟨h0, r, rfl⟩]
  have e2 : rpM (pkO o ++ r) = (0, (pkO o).length, o) := by
   unfold rpM
   rw [lnM_pk h, List.take_left, rdM_pk h, if_pos]
   refine ⟨?_, ?_, ?_, h0, rfl⟩
   ·rw [List.length_append, pkO_len]; omega
   ·rw [pkO_len]; omega
   ·rw [List.length_append]; omega
  rw [e1, e2]
 ·have e1 : rpV d = (5, 0, opZ) := by
   unfold rpV
   rw [if_neg (fun h => H ⟨_, h.1, h.2⟩)]
  have e2 : rpM d = (5, 0, opZ) := by
   unfold rpM
   rw [if_neg (fun h => H ⟨_, h.2.2.2.1, by rw [h.2.2.2.2]; exact List.take_prefix _ _⟩)]
  rw [e1, e2]
end Go.Proofs.YtdcgihcjiiemdaaDoor
