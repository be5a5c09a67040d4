/- Characters told in bytes are read back from them, and bytes that are read are told so again: plain facts, with no program in them · What is converted has the same characters: plain facts, no program in them · Words on memory, with no program in them: where a row of elements of four cells is read (messages: three numbers and bytes; mailboxes: a text, two numbers and messages), and what a copy in the making holds. -/
import Derived.Test.YtooifkdbpghcfaaGreatDoorDec7ToEncT2
import Derived.Test.YtooifkdbpghcfaaGreatDoorDrwToDrl4
import Derived.Test.YtooifkdbpghcfaaGreatDoorCvt
import Derived.Test.YtooifkdbpghcfaaGreatDoorVwoToPbg
import Derived.Test.YtooifkdbpghcfaaGreatDoorMemIToSee
import Derived.OpenShut
namespace Go.Proofs.YtooifkdbpghcfaaGreatDoor
open Go.RowKit

theorem cyU_cyr {c : Int} (h : 0 ≤ cyr c) : cyU (cyr c).toNat = c.toNat := by
  have hp := cyr_pos.1 h
  by_cases h1 : 0 ≤ c ∧ c ≤ 160 ∨ c = 173
  · rw [cyr_same h1]
    unfold cyU
    rw [if_neg (by omega), if_neg (by omega), if_pos (by omega)]
  · by_cases h2 : c = 167
    · subst h2; rw [cyr_167]; rfl
    · by_cases h3 : c = 8470
      · subst h3; rw [cyr_8470]; rfl
      · rw [cyr_far (by omega)]
        unfold cyU
        rw [if_neg (by omega), if_neg (by omega), if_neg (by omega)]
        omega
theorem gss_tell {cs c : Int} (hcs : 1 ≤ cs ∧ cs ≤ 5) (hch : chr c = true) (hh : hasC cs c = true) (rest : List Nat) : gss cs (tellL cs c ++ rest) = (c.toNat, (tellL cs c).length) := by
  have hc := chr_iff.1 hch
  rcases cs_cases hcs with rfl | rfl | rfl | rfl | rfl
  · rw [tellL_1]; simp [gss, nth]
  · rw [tellL_2]; simp [gss, nth]
  · rw [tellL_3]
    rw [hasC_3] at hh
    have h0 : 0 ≤ cyr c := decide_eq_true_iff.1 (show decide (0 ≤ cyr c) = true from hh)
    simp [gss, nth, cyU_cyr h0]
  · rw [tellL_4]
    generalize hk : c.toNat = k
    have hk' : k ≤ 65535 := by omega
    by_cases h1 : k < 128
    · rw [u8L_one h1]; simp [gss, nth, h1]
    · by_cases h2 : k < 2048
      · rw [u8L_two h1 h2]
        have e1 : ¬ 192 + k / 64 < 128 := by omega
        have e2 : 192 + k / 64 < 224 := by omega
        have e3 : (192 + k / 64) % 32 * 64 + (128 + k % 64) % 64 = k := by omega
        unfold gss
        rw [if_neg (by decide), if_pos rfl, if_neg (show ¬ nth ([192 + k / 64, 128 + k % 64] ++ rest) 0 < 128 from e1), if_pos (show 2 ≤ ([192 + k / 64, 128 + k % 64] ++ rest).length ∧ nth ([192 + k / 64, 128 + k % 64] ++ rest) 0 < 224 from ⟨by simp, e2⟩)]
        exact Prod.ext e3 rfl
      · rw [u8L_three h1 h2]
        have e1 : ¬ 224 + k / 4096 < 128 := by omega
        have e2 : ¬ 224 + k / 4096 < 224 := by omega
        have e3 : (224 + k / 4096) % 16 * 4096 + (128 + k / 64 % 64) % 64 * 64 + (128 + k % 64) % 64 = k := by omega
        unfold gss
        rw [if_neg (by decide), if_pos rfl, if_neg (show ¬ nth ([224 + k / 4096, 128 + k / 64 % 64, 128 + k % 64] ++ rest) 0 < 128 from e1), if_neg (show ¬ (2 ≤ ([224 + k / 4096, 128 + k / 64 % 64, 128 + k % 64] ++ rest).length ∧ nth ([224 + k / 4096, 128 + k / 64 % 64, 128 + k % 64] ++ rest) 0 < 224) from fun h => e2 h.2), if_pos (show 3 ≤ ([224 + k / 4096, 128 + k / 64 % 64, 128 + k % 64] ++ rest).length by simp)]
        exact Prod.ext e3 rfl
  · rw [tellL_5]
    have e3 : c.toNat / 256 * 256 + c.toNat % 256 = c.toNat := by omega
    simp [gss, nth, e3]
theorem rdC_tell {cs c : Int} (hcs : 1 ≤ cs ∧ cs ≤ 5) (hch : chr c = true) (hh : hasC cs c = true) (rest : List Nat) : rdC cs (tellL cs c ++ rest) = (c.toNat, (tellL cs c).length) := by
  have hg := gss_tell hcs hch hh rest
  have h0 : ((c.toNat : Nat) : Int) = c := Int.toNat_of_nonneg (chr_iff.1 hch).1
  have hlen := (tellL_len cs c).1
  rw [rdC_yes (by rw [hg]; simp only; omega) (by rw [hg]; simp only; rw [h0]; exact hch) (by rw [hg]; simp only; rw [h0]; exact hh) (by rw [hg]; simp only; rw [h0, List.take_left]), hg]
theorem decL_tell {cs : Int} (hcs : 1 ≤ cs ∧ cs ≤ 5) : ∀ u : List Int, (∀ x ∈ u, chr x = true) → (∀ x ∈ u, hasC cs x = true) → decL cs (u.flatMap (tellL cs)) = some u
  | [], _, _ => decL_nil rfl
  | c :: u, h1, h2 => by
    have hc := h1 c (List.mem_cons_self ..)
    have hh := h2 c (List.mem_cons_self ..)
    have hlen := (tellL_len cs c).1
    rw [List.flatMap_cons, decL_step (by rw [List.length_append]; omega) (by omega) (rdC_tell hcs hc hh _), List.drop_left, decL_tell hcs u (fun x hx => h1 x (List.mem_cons_of_mem _ hx)) (fun x hx => h2 x (List.mem_cons_of_mem _ hx))]
    simp [Int.toNat_of_nonneg (chr_iff.1 hc).1]
theorem decL_told {cs : Int} : ∀ (n : Nat) (l : List Nat) (u : List Int), l.length ≤ n → decL cs l = some u → u.flatMap (tellL cs) = l ∧ (∀ x ∈ u, chr x = true) ∧ (∀ x ∈ u, hasC cs x = true) := by
  intro n
  induction n with
  | zero =>
    intro l u hl h
    have hl0 : l = [] := List.length_eq_zero_iff.1 (by omega)
    subst hl0
    rw [decL_nil rfl] at h
    cases h
    exact ⟨rfl, fun x hx => by simp at hx, fun x hx => by simp at hx⟩
  | succ n ih =>
    intro l u hl h
    by_cases h0 : l.length = 0
    · have hl0 : l = [] := List.length_eq_zero_iff.1 h0
      subst hl0
      rw [decL_nil rfl] at h
      cases h
      exact ⟨rfl, fun x hx => by simp at hx, fun x hx => by simp at hx⟩
    · by_cases hs : (rdC cs l).2 = 0
      · rw [decL_none (by omega) hs] at h; cases h
      · have hr : (gss cs l).2 ≠ 0 ∧ chr ((gss cs l).1 : Int) = true ∧ hasC cs ((gss cs l).1 : Int) = true ∧ tellL cs ((gss cs l).1 : Int) = l.take (gss cs l).2 ∧ rdC cs l = gss cs l := by
          unfold rdC at hs
          split at hs
          · exact absurd rfl hs
          · rename_i hn
            have n1 : (gss cs l).2 ≠ 0 := fun e => hn (.inl e)
            have n2 : chr ((gss cs l).1 : Int) = true := by
              cases hx : chr ((gss cs l).1 : Int)
              · exact absurd (.inr (.inl hx)) hn
              · rfl
            have n3 : hasC cs ((gss cs l).1 : Int) = true := by
              cases hx : hasC cs ((gss cs l).1 : Int)
              · exact absurd (.inr (.inr (.inl hx))) hn
              · rfl
            have n4 : tellL cs ((gss cs l).1 : Int) = l.take (gss cs l).2 := by
              by_cases hx : tellL cs ((gss cs l).1 : Int) = l.take (gss cs l).2
              · exact hx
              · exact absurd (.inr (.inr (.inr hx))) hn
            exact ⟨n1, n2, n3, n4, rdC_yes n1 n2 n3 n4⟩
        obtain ⟨n1, n2, n3, n4, n5⟩ := hr
        rw [decL_step (c := (gss cs l).1) (s := (gss cs l).2) (by omega) n1 n5] at h
        cases hd : decL cs (l.drop (gss cs l).2) with
        | none => rw [hd] at h; cases h
        | some v =>
          rw [hd] at h
          simp only [Option.map_some, Option.some.injEq] at h
          subst h
          obtain ⟨e1, e2, e3⟩ := ih _ _ (by rw [List.length_drop]; omega) hd
          refine ⟨?_, ?_, ?_⟩
          · rw [List.flatMap_cons, e1, n4, List.take_append_drop]
          · intro x hx
            rcases List.mem_cons.1 hx with rfl | hx
            · exact n2
            · exact e2 x hx
          · intro x hx
            rcases List.mem_cons.1 hx with rfl | hx
            · exact n3
            · exact e3 x hx

/-- What was read is told so again. -/
theorem enc_dec {cs : Int} {l : List Nat} {u : List Int} (h : decT cs l = (0, u)) : encT cs u = (0, l) := by
  unfold decT at h
  split at h
  · rename_i hcs
    split at h
    · cases h
    · rename_i h4
      cases hd : decL cs l with
      | none => rw [hd] at h; cases h
      | some v =>
        rw [hd] at h
        simp only [Prod.mk.injEq, true_and] at h
        subst h
        obtain ⟨e1, e2, e3⟩ := decL_told l.length l v (Nat.le_refl _) hd
        have hlen := decL_len cs l.length l v (Nat.le_refl _) hd
        rw [encT_ok hcs (flt_ok (by omega) (List.all_eq_true.2 e2)), encV_ok (List.all_eq_true.2 e3) (by rw [e1]; exact h4), e1]
  · cases h
/-- What was told is read back; and all of it is there. -/
theorem dec_encC {cs : Int} {u : List Int} {l : List Nat} (h : encT cs u = (0, l)) : decT cs l = (0, u) ∧ flt u = 0 ∧ u.all (hasV cs) = true ∧ IsB l := by
  unfold encT at h
  split at h
  · rename_i hcs
    split at h
    · rename_i hf
      obtain ⟨h4, hch⟩ := flt_zero hf
      have hE := h
      unfold encV at h
      split at h
      · rename_i ha
        split at h
        · cases h
        · rename_i hn
          simp only [Prod.mk.injEq, true_and] at h
          refine ⟨?_, hf, ?_, ?_⟩
          · rw [← h]
            exact decT_ok hcs hn (decL_tell hcs u hch (fun x hx => List.all_eq_true.1 ha x hx))
          · rw [List.all_eq_true]
            intro x hx
            unfold hasV
            rw [decide_eq_true hcs, hch x hx, List.all_eq_true.1 ha x hx]
            rfl
          · have := encV_isB (l := u) hcs hch
            rw [hE] at this
            exact this
      · cases h
    · rename_i hf
      exact absurd (Prod.mk.inj h).1 hf
  · cases h
end Go.Proofs.YtooifkdbpghcfaaGreatDoor

namespace Go.Proofs.YtooifkdbpghcfaaGreatDoor
open Go.RowKit

theorem pqV_atC {d : List Nat} {n : Nat} (h : (psV d).1 = 0) (hn : n < (psV d).2.length) : pqV d (n : Int) = pcP d (nthP (psV d).2 n) := by
  have e : pwV d (n : Int) = psV d := by
    unfold pwV
    rw [if_neg (fun hh => by rcases hh.2 with h' | h' <;> omega)]
  unfold pqV ppV
  rw [e, if_pos h, if_pos h, Int.toNat_natCast]
/-- What was converted is read back, and the part's own charset gives its bytes again. -/
theorem cvV_back {d : List Nat} {k cs : Int} (h : (cvV d k cs).1 = 0) : (pqV d k).1 = 0 ∧ decT cs (cvV d k cs).2 = (0, (pqV d k).2) ∧ IsB (cvV d k cs).2 ∧ (cvV d k cs).2.length ≤ 400
    ∧ (psV d).1 = 0 ∧ ∃ n : Nat, k = (n : Int) ∧ n < (psV d).2.length ∧ cvV d k (nthP (psV d).2 n).1.2.1 = (0, (pbV d k).2) ∧ (pbV d k).1 = 0 := by
  have hq : (pqV d k).1 = 0 := by
    unfold cvV at h
    by_cases h0 : (pqV d k).1 = 0
    · exact h0
    · rw [if_neg h0] at h; exact absurd h h0
  have hc : ∀ c, cvV d k c = encT c (pqV d k).2 := fun c => by unfold cvV; rw [if_pos hq]
  have he : encT cs (pqV d k).2 = (0, (cvV d k cs).2) := by
    rw [hc] at h ⊢
    exact Prod.ext h rfl
  obtain ⟨hd, -, -, hB⟩ := dec_encC he
  have hw : (pwV d k).1 = 0 := by
    unfold pqV at hq
    by_cases h0 : (pwV d k).1 = 0
    · exact h0
    · rw [if_neg h0] at hq; exact absurd hq h0
  obtain ⟨hps, n, hk, hn, hp0⟩ := pwV_in hw
  subst hk
  refine ⟨hq, hd, hB, cvV_len d n cs, hp0, n, rfl, hn, ?_⟩
  have hat := pqV_atC hp0 hn
  rw [hat] at hq
  have hb : pbV d (n : Int) = pbP d (nthP (psV d).2 n) := by
    unfold pbV ppV
    rw [if_pos hw, if_pos hw, hps, Int.toNat_natCast]
  rw [hb, hc, hat]
  generalize nthP (psV d).2 n = p at *
  unfold pcP at hq ⊢
  by_cases h1 : p.1.1 ≠ 1
  · rw [if_pos h1] at hq; simp at hq
  · rw [if_neg h1] at hq ⊢
    by_cases h2 : (pbP d p).1 ≠ 0
    · rw [if_pos h2] at hq; exact absurd hq h2
    · rw [if_neg h2] at hq ⊢
      by_cases h3 : p.1.2.1 = 0
      · rw [if_pos h3] at hq; simp at hq
      · rw [if_neg h3] at hq ⊢
        have h0 : (pbP d p).1 = 0 := by
          rcases Int.lt_trichotomy (pbP d p).1 0 with h | h | h
          · exact absurd (by omega) h2
          · exact h
          · exact absurd (by omega) h2
        exact ⟨enc_dec (show decT p.1.2.1 (pbP d p).2 = (0, (decT p.1.2.1 (pbP d p).2).2) from Prod.ext hq rfl), h0⟩
end Go.Proofs.YtooifkdbpghcfaaGreatDoor

namespace Go.Proofs.YtooifkdbpghcfaaGreatDoor
open Go.RowKit

/-- A slice by its address, its length and its room. -/
abbrev SlQ := Option Addr × Nat × Nat
abbrev slW (p : SlQ) : Value := .slice p.1 p.2.1 p.2.2
/-- A MESSAGE: Uid, flags, date, bytes. -/
structure Msg where
  u : Int
  f : Int
  d : Int
  b : List Nat
def nthM (l : List Msg) (i : Nat) : Msg := l.getD i ⟨0, 0, 0, []⟩
/-- From the block lo on all cells stay. -/
def Near (lo : Nat) (w w' : World) : Prop := w.heap.size ≤ w'.heap.size ∧ ∀ p : Addr, lo ≤ p.block → p.block < w.heap.size → w'.cell? p = w.cell? p
theorem Near.refl (lo : Nat) (w : World) : Near lo w w := ⟨Nat.le_refl _, fun _ _ _ => rfl⟩
theorem Near.of_below {lo : Nat} {w w' : World} (hb : Below w.heap.size w w') : Near lo w w' := ⟨hb.size, fun _ _ hlt => hb.cell hlt⟩
theorem Near.trans {lo : Nat} {w w' w'' : World} (h : Near lo w w') (h' : Near lo w' w'') : Near lo w w'' := ⟨Nat.le_trans h.1 h'.1, fun p hp hlt => (h'.2 p hp (Nat.lt_of_lt_of_le hlt h.1)).trans (h.2 p hp hlt)⟩
theorem Near.mono {lo lo' : Nat} {w w' : World} (h : Near lo w w') (hl : lo ≤ lo') : Near lo' w w' := ⟨h.1, fun p hp hlt => h.2 p (Nat.le_trans hl hp) hlt⟩
theorem Near.set {lo : Nat} {w : World} {g j : Nat} (v : Value) (hg : g < lo) : Near lo w (w.setCell ⟨g, j, none⟩ v) :=
  ⟨by simp, fun p hp _ => World.cell?_setCell_other _ _ _ _ (fun h => by subst h; exact absurd hg (Nat.not_lt.2 hp))⟩
theorem Rd.near {lo : Nat} {w w' : World} {a : Option Addr} {l : List Nat} (h : Rd w a l) (hlo : ∀ x, a = some x → lo ≤ x.block) (hb : Near lo w w') : Rd w' a l := by
  rcases h with h | ⟨b, off, e, hlt, hc⟩
  · exact .inl h
  · have := hlo _ e
    exact .inr ⟨b, off, e, Nat.lt_of_lt_of_le hlt hb.1, fun i hi => (hb.2 ⟨b, off + i, none⟩ this hlt).trans (hc i hi)⟩

/-- The slice s, from the block lo on, holds the bytes d. -/
def IsSl (lo : Nat) (w : World) (s : SlQ) (d : List Nat) : Prop := d.length = s.2.1 ∧ s.2.1 ≤ s.2.2 ∧ s.2.2 ≤ maxLen ∧ IsB d ∧ Rd w s.1 d ∧ ∀ x, s.1 = some x → lo ≤ x.block
theorem IsSl.near {lo : Nat} {w w' : World} {s : SlQ} {d : List Nat} (h : IsSl lo w s d) (hb : Near lo w w') : IsSl lo w' s d := ⟨h.1, h.2.1, h.2.2.1, h.2.2.2.1, h.2.2.2.2.1.near h.2.2.2.2.2 hb, h.2.2.2.2.2⟩
theorem IsSl.below {lo : Nat} {w w' : World} {s : SlQ} {d : List Nat} (h : IsSl lo w s d) (hb : Below w.heap.size w w') : IsSl lo w' s d := h.near (.of_below hb)
theorem IsSl.low {lo lo' : Nat} {w : World} {s : SlQ} {d : List Nat} (h : IsSl lo w s d) (hl : lo' ≤ lo) : IsSl lo' w s d := ⟨h.1, h.2.1, h.2.2.1, h.2.2.2.1, h.2.2.2.2.1, fun x hx => Nat.le_trans hl (h.2.2.2.2.2 x hx)⟩

/-- WHERE A SLICE OF MESSAGES IS READ, from the block lo on. -/
def RdM (lo : Nat) (w : World) (a : Option Addr) (l : List Msg) : Prop :=
  l = [] ∨ ∃ b off, a = some ⟨b, off, none⟩ ∧ lo ≤ b ∧ b < w.heap.size ∧ ∀ i, i < l.length → ∃ s, (w.cell? ⟨b, off + i * 4, none⟩ = some (.int .i64 (nthM l i).u) ∧ w.cell? ⟨b, off + i * 4 + 1, none⟩ = some (.int .i64 (nthM l i).f) ∧ w.cell? ⟨b, off + i * 4 + 2, none⟩ = some (.int .i64 (nthM l i).d) ∧ w.cell? ⟨b, off + i * 4 + 3, none⟩ = some (slW s)) ∧ IsSl lo w s (nthM l i).b
theorem RdM.near {lo : Nat} {w w' : World} {a : Option Addr} {l : List Msg} (h : RdM lo w a l) (hb : Near lo w w') : RdM lo w' a l := by
  rcases h with h | ⟨b, off, e, hlo, hlt, hc⟩
  · exact .inl h
  · refine .inr ⟨b, off, e, hlo, Nat.lt_of_lt_of_le hlt hb.1, fun i hi => ?_⟩
    obtain ⟨s, ⟨c0, c1, c2, c3⟩, hs⟩ := hc i hi
    exact ⟨s, ⟨(hb.2 ⟨b, off + i * 4, none⟩ hlo hlt).trans c0, (hb.2 ⟨b, off + i * 4 + 1, none⟩ hlo hlt).trans c1, (hb.2 ⟨b, off + i * 4 + 2, none⟩ hlo hlt).trans c2, (hb.2 ⟨b, off + i * 4 + 3, none⟩ hlo hlt).trans c3⟩, hs.near hb⟩
theorem RdM.below {lo : Nat} {w w' : World} {a : Option Addr} {l : List Msg} (h : RdM lo w a l) (hb : Below w.heap.size w w') : RdM lo w' a l := h.near (.of_below hb)
theorem RdM.low {lo lo' : Nat} {w : World} {a : Option Addr} {l : List Msg} (h : RdM lo w a l) (hl : lo' ≤ lo) : RdM lo' w a l := by
  rcases h with h | ⟨b, off, e, hlo, hlt, hc⟩
  · exact .inl h
  · refine .inr ⟨b, off, e, Nat.le_trans hl hlo, hlt, fun i hi => ?_⟩
    obtain ⟨s, c, hs⟩ := hc i hi
    exact ⟨s, c, hs.low hl⟩
theorem RdM.at_ {lo : Nat} {w : World} {a : Option Addr} {l : List Msg} (h : RdM lo w a l) (hp : 0 < l.length) :
    ∃ b off, a = some ⟨b, off, none⟩ ∧ lo ≤ b ∧ b < w.heap.size ∧ ∀ i, i < l.length → ∃ s, (w.cell? ⟨b, off + i * 4, none⟩ = some (.int .i64 (nthM l i).u) ∧ w.cell? ⟨b, off + i * 4 + 1, none⟩ = some (.int .i64 (nthM l i).f) ∧ w.cell? ⟨b, off + i * 4 + 2, none⟩ = some (.int .i64 (nthM l i).d) ∧ w.cell? ⟨b, off + i * 4 + 3, none⟩ = some (slW s)) ∧ IsSl lo w s (nthM l i).b := by
  rcases h with h | h
  · rw [h] at hp; simp at hp
  · exact h
def IsMs (lo : Nat) (w : World) (s : SlQ) (l : List Msg) : Prop := l.length = s.2.1 ∧ s.2.1 ≤ s.2.2 ∧ s.2.2 ≤ maxLen ∧ RdM lo w s.1 l
theorem IsMs.near {lo : Nat} {w w' : World} {s : SlQ} {l : List Msg} (h : IsMs lo w s l) (hb : Near lo w w') : IsMs lo w' s l := ⟨h.1, h.2.1, h.2.2.1, h.2.2.2.near hb⟩
theorem IsMs.below {lo : Nat} {w w' : World} {s : SlQ} {l : List Msg} (h : IsMs lo w s l) (hb : Below w.heap.size w w') : IsMs lo w' s l := h.near (.of_below hb)
theorem IsMs.low {lo lo' : Nat} {w : World} {s : SlQ} {l : List Msg} (h : IsMs lo w s l) (hl : lo' ≤ lo) : IsMs lo' w s l := ⟨h.1, h.2.1, h.2.2.1, h.2.2.2.low hl⟩

/-- A MAILBOX: a name, a validity, the next Uid, messages. -/
structure Bx where
  n : ByteArray
  v : Int
  x : Int
  m : List Msg
def nthX (l : List Bx) (i : Nat) : Bx := l.getD i ⟨ByteArray.empty, 0, 0, []⟩
/-- WHERE A SLICE OF MAILBOXES IS READ, from the block lo on. -/
def RdX (lo : Nat) (w : World) (a : Option Addr) (l : List Bx) : Prop :=
  l = [] ∨ ∃ b off, a = some ⟨b, off, none⟩ ∧ lo ≤ b ∧ b < w.heap.size ∧ ∀ i, i < l.length → ∃ s, (w.cell? ⟨b, off + i * 4, none⟩ = some (.string (nthX l i).n) ∧ w.cell? ⟨b, off + i * 4 + 1, none⟩ = some (.int .i64 (nthX l i).v) ∧ w.cell? ⟨b, off + i * 4 + 2, none⟩ = some (.int .i64 (nthX l i).x) ∧ w.cell? ⟨b, off + i * 4 + 3, none⟩ = some (slW s)) ∧ IsMs lo w s (nthX l i).m
theorem RdX.near {lo : Nat} {w w' : World} {a : Option Addr} {l : List Bx} (h : RdX lo w a l) (hb : Near lo w w') : RdX lo w' a l := by
  rcases h with h | ⟨b, off, e, hlo, hlt, hc⟩
  · exact .inl h
  · refine .inr ⟨b, off, e, hlo, Nat.lt_of_lt_of_le hlt hb.1, fun i hi => ?_⟩
    obtain ⟨s, ⟨c0, c1, c2, c3⟩, hs⟩ := hc i hi
    exact ⟨s, ⟨(hb.2 ⟨b, off + i * 4, none⟩ hlo hlt).trans c0, (hb.2 ⟨b, off + i * 4 + 1, none⟩ hlo hlt).trans c1, (hb.2 ⟨b, off + i * 4 + 2, none⟩ hlo hlt).trans c2, (hb.2 ⟨b, off + i * 4 + 3, none⟩ hlo hlt).trans c3⟩, hs.near hb⟩
theorem RdX.below {lo : Nat} {w w' : World} {a : Option Addr} {l : List Bx} (h : RdX lo w a l) (hb : Below w.heap.size w w') : RdX lo w' a l := h.near (.of_below hb)
theorem RdX.low {lo lo' : Nat} {w : World} {a : Option Addr} {l : List Bx} (h : RdX lo w a l) (hl : lo' ≤ lo) : RdX lo' w a l := by
  rcases h with h | ⟨b, off, e, hlo, hlt, hc⟩
  · exact .inl h
  · refine .inr ⟨b, off, e, Nat.le_trans hl hlo, hlt, fun i hi => ?_⟩
    obtain ⟨s, c, hs⟩ := hc i hi
    exact ⟨s, c, hs.low hl⟩
theorem RdX.at_ {lo : Nat} {w : World} {a : Option Addr} {l : List Bx} (h : RdX lo w a l) (hp : 0 < l.length) :
    ∃ b off, a = some ⟨b, off, none⟩ ∧ lo ≤ b ∧ b < w.heap.size ∧ ∀ i, i < l.length → ∃ s, (w.cell? ⟨b, off + i * 4, none⟩ = some (.string (nthX l i).n) ∧ w.cell? ⟨b, off + i * 4 + 1, none⟩ = some (.int .i64 (nthX l i).v) ∧ w.cell? ⟨b, off + i * 4 + 2, none⟩ = some (.int .i64 (nthX l i).x) ∧ w.cell? ⟨b, off + i * 4 + 3, none⟩ = some (slW s)) ∧ IsMs lo w s (nthX l i).m := by
  rcases h with h | h
  · rw [h] at hp; simp at hp
  · exact h
def IsXs (lo : Nat) (w : World) (s : SlQ) (l : List Bx) : Prop := l.length = s.2.1 ∧ s.2.1 ≤ s.2.2 ∧ s.2.2 ≤ maxLen ∧ RdX lo w s.1 l
theorem IsXs.near {lo : Nat} {w w' : World} {s : SlQ} {l : List Bx} (h : IsXs lo w s l) (hb : Near lo w w') : IsXs lo w' s l := ⟨h.1, h.2.1, h.2.2.1, h.2.2.2.near hb⟩
theorem IsXs.below {lo : Nat} {w w' : World} {s : SlQ} {l : List Bx} (h : IsXs lo w s l) (hb : Below w.heap.size w w') : IsXs lo w' s l := h.near (.of_below hb)
theorem IsXs.low {lo lo' : Nat} {w : World} {s : SlQ} {l : List Bx} (h : IsXs lo w s l) (hl : lo' ≤ lo) : IsXs lo' w s l := ⟨h.1, h.2.1, h.2.2.1, h.2.2.2.low hl⟩

end Go.Proofs.YtooifkdbpghcfaaGreatDoor
