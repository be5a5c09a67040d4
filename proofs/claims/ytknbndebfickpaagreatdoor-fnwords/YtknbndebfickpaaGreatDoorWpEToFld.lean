/- A told word by its parts and by its places: the same; plain functions, with no program in them · Contracts of the library, laid over this program: each is one application of a theorem of the library; no conditions beyond those that each names · A field of a result that is held as a value: plain reading. -/
import Derived.Test.YtknbndebfickpaaGreatDoorEwMToWpm
import Derived.Shelf.Strings.Builder1
import Derived.Shelf.Strings.Builder2
import Derived.Shelf.Utf8.RuneCount
import Derived.Shelf.Strings.Search1
import Derived.Shelf.Strings.Search2
import Derived.Shelf.Strings.Search3
import Derived.Shelf.Strings.Count
import Derived.Shelf.LaysM
import Derived.Shelf.Strings.Shaped
import Derived.Shelf.Strings.Prefix
import Derived.Shelf.Strings.Split
import Derived.Shelf.Strings.Replace
import Derived.Shelf.Strings.SplitShaped
import Derived.Shelf.Unicode.Decode
import Derived.Shelf.Strings.RuneCount
import Derived.Shelf.Strings.Explode
import Derived.Shelf.Unicode.DecodeSlow
import Derived.Shelf.Unicode.DecodeAny
import Derived.Shelf.Bytes.Small
import Derived.Test.YtknbndebfickpaaGreatDoorProg
import Derived.Test.YtknbndebfickpaaGreatDoorApp
namespace Go.Proofs.YtknbndebfickpaaGreatDoor
open Go.RowKit

/-- The bytes of a word, by the text of its way. -/
def toldP (p2 t : List Nat) : Option (List Nat) := if p2.length = 1 then toldV (nth p2 0) t else none
/-- A told word, by its parts. -/
def tdP (v : List Nat) : Option (List Int × Nat) := match spl 4 v with
  | [p0, p1, p2, p3, p4] => if p0 = [61] ∧ nth p4 0 = 61 then (if csI (str (p1.map low)) = 0 then none else match toldP p2 p3 with
      | none => none
      | some bs => (decL (csI (str (p1.map low))) bs).map fun u => (u, v.length - p4.length + 1)) else none
  | _ => none
theorem tw_pre {p : Nat → Bool} : ∀ (a : List Nat) (x : Nat) (r : List Nat), a.all p = true → p x = false → (a ++ x :: r).takeWhile p = a
  | [], x, r, _, h => by rw [List.nil_append, List.takeWhile_cons, h]; rfl
  | c :: a, x, r, ha, h => by
    rw [List.all_cons, Bool.and_eq_true] at ha
    rw [List.cons_append, List.takeWhile_cons, ha.1, if_pos rfl, tw_pre a x r ha.2 h]
theorem drop_pre (a : List Nat) (x : Nat) (r : List Nat) : (a ++ x :: r).drop (a.length + 1) = r := by
  rw [show a ++ x :: r = (a ++ [x]) ++ r by simp, show a.length + 1 = (a ++ [x]).length by simp]
  exact List.drop_left
theorem spl_cut (k : Nat) (a r : List Nat) (ha : a.all noQu = true) : spl (k + 1) (a ++ 63 :: r) = a :: spl k r := by
  unfold spl
  rw [tw_pre a 63 r ha (by decide), if_pos (by rw [List.length_append, List.length_cons]; omega), drop_pre]
  cases k <;> rfl
theorem runL_pre (a r : List Nat) (k : Nat) (b : List Nat) (ha : a.all noQu = true) (hb : b.length = k) : runL noQu (b ++ (a ++ 63 :: r)) k = a.length := by
  unfold runL
  rw [← hb, List.drop_left, tw_pre a 63 r ha (by decide)]
/-- The form of a told word. -/
theorem wd_form (p1 p3 z : List Nat) (c : Nat) (h1 : p1.all noQu = true) (h3 : p3.all noQu = true) (v : List Nat) (hv : v = 61 :: 63 :: (p1 ++ 63 :: (c :: 63 :: (p3 ++ 63 :: (61 :: z))))) :
    wdA v = 2 + p1.length ∧ wdZ v = 2 + p1.length + 3 + p3.length ∧ wdF v ∧ (v.take (wdA v)).drop 2 = p1 ∧ nth v (wdA v + 1) = c ∧ (v.take (wdZ v)).drop (wdA v + 3) = p3 ∧ v.length = wdZ v + 2 + z.length := by
  have hA : wdA v = 2 + p1.length := by
    unfold wdA
    rw [hv, show 61 :: 63 :: (p1 ++ 63 :: (c :: 63 :: (p3 ++ 63 :: (61 :: z)))) = [61, 63] ++ (p1 ++ 63 :: (c :: 63 :: (p3 ++ 63 :: (61 :: z)))) from rfl, runL_pre _ _ 2 [61, 63] h1 rfl]
  have e2 : v = ([61, 63] ++ p1 ++ [63, c, 63]) ++ (p3 ++ 63 :: (61 :: z)) := by rw [hv]; simp
  have hl2 : ([61, 63] ++ p1 ++ [63, c, 63]).length = 2 + p1.length + 3 := by simp; omega
  have hZ : wdZ v = 2 + p1.length + 3 + p3.length := by
    unfold wdZ
    rw [hA]
    conv => lhs; rhs; rw [e2]
    rw [runL_pre p3 (61 :: z) _ _ h3 hl2]
  have gen : ∀ (a b : List Nat) (k j : Nat), a.length = k → nth (a ++ b) (k + j) = nth b j := fun a b k j h => by
    subst h
    simp [nth, List.getD_eq_getElem?_getD, List.getElem?_append_right]
  have e1 : v = ([61, 63] ++ p1) ++ (63 :: c :: 63 :: (p3 ++ 63 :: (61 :: z))) := by rw [hv]; simp
  have hl1 : ([61, 63] ++ p1).length = 2 + p1.length := by simp; omega
  have e3 : v = ([61, 63] ++ p1 ++ [63, c, 63] ++ p3) ++ (63 :: 61 :: z) := by rw [hv]; simp
  have hl3 : ([61, 63] ++ p1 ++ [63, c, 63] ++ p3).length = 2 + p1.length + 3 + p3.length := by simp; omega
  refine ⟨hA, hZ, ⟨?_, ?_, ?_, ?_⟩, ?_, ?_, ?_, ?_⟩
  · rw [hv]; rfl
  · rw [hv]; rfl
  · rw [hA]; conv => lhs; rw [e1]
    rw [gen _ _ _ 2 hl1]; rfl
  · rw [hZ]; conv => lhs; rw [e3]
    rw [gen _ _ _ 1 hl3]; rfl
  · rw [hA]; conv => lhs; rw [e1]
    rw [← hl1, List.take_left]; rfl
  · rw [hA]; conv => lhs; rw [e1]
    rw [gen _ _ _ 1 hl1]; rfl
  · rw [hZ, hA]; conv => lhs; rw [e3]
    rw [← hl3, List.take_left, ← hl2, List.drop_left]
  · rw [hZ, e3, List.length_append, hl3]; simp; omega
theorem noQu_no {x : Nat} (h : noQu x = false) : x = 63 := by
  have := of_decide_eq_false h
  omega
/-- What has the form is so built. -/
theorem wd_parts {v : List Nat} (hf : wdF v) : ∃ p1 c p3 z, p1.all noQu = true ∧ p3.all noQu = true ∧ v = 61 :: 63 :: (p1 ++ 63 :: (c :: 63 :: (p3 ++ 63 :: (61 :: z)))) := by
  obtain ⟨h0, h1, h2, h3⟩ := hf
  have l1 := nth_lt_len (l := v) (k := wdZ v + 1) (by rw [h3]; decide)
  match v, h0, h1, h2, h3, l1 with
  | a :: b :: u, h0, h1, h2, h3, l1 =>
    have ea : a = 61 := h0
    have eb : b = 63 := h1
    subst ea eb
    have hA : wdA (61 :: 63 :: u) = 2 + (u.takeWhile noQu).length := rfl
    have hl : (u.takeWhile noQu).length < u.length := by
      have := nth_lt_len (l := 61 :: 63 :: u) (k := wdA (61 :: 63 :: u) + 2) (by rw [h2]; decide)
      rw [hA] at this
      simp only [List.length_cons] at this
      omega
    obtain ⟨x, r, e1, hx, -, -⟩ := tw_split u hl
    have hx63 := noQu_no hx
    subst hx63
    have hp1 := tw_allp noQu u
    generalize u.takeWhile noQu = p1 at *
    subst e1
    -- r has the way and a mark
    have gen : ∀ (a b : List Nat) (k j : Nat), a.length = k → nth (a ++ b) (k + j) = nth b j := fun a b k j h => by
      subst h
      simp [nth, List.getD_eq_getElem?_getD, List.getElem?_append_right]
    have e2 : (61 :: 63 :: (p1 ++ 63 :: r)) = ([61, 63] ++ p1) ++ (63 :: r) := by simp
    have hl1 : ([61, 63] ++ p1).length = 2 + p1.length := by simp; omega
    have hr1 : nth r 1 = 63 := by
      rw [hA, e2, gen _ _ _ 2 hl1] at h2
      exact h2
    match r, hr1 with
    | c :: d :: y, hr1 =>
      have ed : d = 63 := hr1
      subst ed
      have hZ : wdZ (61 :: 63 :: (p1 ++ 63 :: c :: 63 :: y)) = 2 + p1.length + 3 + (y.takeWhile noQu).length := by
        unfold wdZ runL
        rw [hA, show 61 :: 63 :: (p1 ++ 63 :: c :: 63 :: y) = ([61, 63] ++ p1 ++ [63, c, 63]) ++ y by simp, show 2 + p1.length + 3 = ([61, 63] ++ p1 ++ [63, c, 63]).length by simp; omega, List.drop_left]
      have hly : (y.takeWhile noQu).length < y.length := by
        rw [hZ] at l1
        simp only [List.length_cons, List.length_append] at l1
        omega
      obtain ⟨x, q, e3, hx, -, -⟩ := tw_split y hly
      have hx63 := noQu_no hx
      subst hx63
      have hp3 := tw_allp noQu y
      generalize y.takeWhile noQu = p3 at *
      subst e3
      have e4 : (61 :: 63 :: (p1 ++ 63 :: c :: 63 :: (p3 ++ 63 :: q))) = ([61, 63] ++ p1 ++ [63, c, 63] ++ p3) ++ (63 :: q) := by simp
      have hl3 : ([61, 63] ++ p1 ++ [63, c, 63] ++ p3).length = 2 + p1.length + 3 + p3.length := by simp; omega
      have hq0 : nth q 0 = 61 := by
        rw [hZ, e4, gen _ _ _ 1 hl3] at h3
        exact h3
      match q, hq0 with
      | g :: z, hq0 =>
        have eg : g = 61 := hq0
        subst eg
        exact ⟨p1, c, p3, z, hp1, hp3, rfl⟩
theorem spl_step {k : Nat} {v p : List Nat} {ps : List (List Nat)} (h : spl (k + 1) v = p :: ps) (hp : ps ≠ []) : p.all noQu = true ∧ ∃ r, v = p ++ 63 :: r ∧ spl k r = ps := by
  unfold spl at h
  split at h
  · rename_i hl
    obtain ⟨x, r, e1, hx, h3, -⟩ := tw_split v hl
    have hx63 := noQu_no hx
    subst hx63
    rw [h3] at h
    cases h
    exact ⟨tw_allp noQu v, r, e1, by cases k <;> rfl⟩
  · cases h
    exact absurd rfl hp
theorem td_same (v : List Nat) : tdP v = wdV v := by
  cases hs : wdV v with
  | some r =>
    obtain ⟨hf, hc, bs, hb, hd, e⟩ := wdV_some hs
    obtain ⟨p1, c, p3, z, h1, h3, hv⟩ := wd_parts hf
    obtain ⟨hA, hZ, _, hq1, hqc, hq3, hlen⟩ := wd_form p1 p3 z c h1 h3 v hv
    have hc63 : noQu c = true := by
      unfold wdB at hb
      rw [hqc] at hb
      refine decide_eq_true (fun e => ?_)
      subst e
      rw [toldV_no (by decide) (by decide)] at hb
      cases hb
    have hsp : spl 4 v = [[61], p1, [c], p3, 61 :: z] := by
      rw [hv, show 61 :: 63 :: (p1 ++ 63 :: (c :: 63 :: (p3 ++ 63 :: (61 :: z)))) = [61] ++ 63 :: (p1 ++ 63 :: ([c] ++ 63 :: (p3 ++ 63 :: (61 :: z)))) from rfl,
        spl_cut 3 _ _ (by decide), spl_cut 2 _ _ h1, spl_cut 1 _ _ (by rw [List.all_cons, hc63]; rfl), spl_cut 0 _ _ h3]
      rfl
    unfold tdP
    rw [hsp]
    simp only
    rw [if_pos ⟨trivial, rfl⟩]
    unfold wdC at hc hd
    rw [hq1] at hc hd
    rw [if_neg hc]
    unfold wdB at hb
    rw [hqc, hq3] at hb
    have ht : toldP [c] p3 = some bs := (if_pos (show [c].length = 1 from rfl)).trans hb
    rw [ht]
    simp only
    rw [hd, hlen, List.length_cons]
    obtain ⟨r1, r2⟩ := r
    simp only at e
    subst e
    show some (r1, _) = some (r1, _)
    congr 2
    omega
  | none =>
    unfold tdP
    split
    · rename_i p0 p1 p2 p3 p4 hsp
      split
      · rename_i hc
        obtain ⟨h0, h4⟩ := hc
        obtain ⟨_, r0, e0, hs0⟩ := spl_step hsp (by simp)
        obtain ⟨ha1, r1, e1, hs1⟩ := spl_step hs0 (by simp)
        obtain ⟨ha2, r2, e2, hs2⟩ := spl_step hs1 (by simp)
        obtain ⟨ha3, r3, e3, hs3⟩ := spl_step hs2 (by simp)
        have e4 : r3 = p4 := by
          have : [r3] = [p4] := hs3
          simpa using this
        subst e4 e3 e2 e1 h0
        split
        · rfl
        · rename_i hcs
          cases htp : toldP p2 p3 with
          | none => rfl
          | some bs =>
            simp only
            unfold toldP at htp
            split at htp
            · rename_i h1
              match p2, h1 with
              | [c], _ =>
                match r3, h4 with
                | g :: z, h4 =>
                  have eg : g = 61 := h4
                  subst eg
                  obtain ⟨hA, hZ, hf, hq1, hqc, hq3, hlen⟩ := wd_form p1 p3 z c ha1 ha3 v (by rw [e0]; rfl)
                  have hd := wdV_dec (v := v) (bs := bs) hf (by unfold wdC; rw [hq1]; exact hcs) (by unfold wdB; rw [hqc, hq3]; exact htp)
                  rw [hs] at hd
                  unfold wdC at hd
                  rw [hq1] at hd
                  cases hdl : decL (csI (str (p1.map low))) bs with
                  | none => rfl
                  | some u => rw [hdl] at hd; cases hd
            · cases htp
      · rfl
    · rfl
end Go.Proofs.YtknbndebfickpaaGreatDoor

namespace Go.Proofs
open Go.Shelf
def Tryz.lays144_ren : Go.Shelf.Ren := ⟨fun | 144 => 27 | 143 => 43 | 219 => 60 | 217 => 76 | 225 => 77 | 224 => 78 | 267 => 79 | 266 => 90 | 314 => 91 | n => n, fun | 9 => 9 | 4 => 4 | 3 => 3 | 5 => 5 | 46 => 76 | 146 => 123 | 51 => 75 | n => n, fun | 1 => 2 | n => n⟩
theorem Tryz.lays144 : Go.Proofs.Lays.n144 Tryz.prog Tryz.lays144_ren := {
  mixed := by kernel_rfl
  f143 := Tryz.func43.trans (congrArg some (by kernel_rfl))
  f144 := Tryz.func27.trans (congrArg some (by kernel_rfl))
  f217 := Tryz.func76.trans (congrArg some (by kernel_rfl))
  f219 := Tryz.func60.trans (congrArg some (by kernel_rfl))
  f224 := Tryz.func78.trans (congrArg some (by kernel_rfl))
  f225 := Tryz.func77.trans (congrArg some (by kernel_rfl))
  f266 := Tryz.func90.trans (congrArg some (by kernel_rfl))
  f267 := Tryz.func79.trans (congrArg some (by kernel_rfl))
  f314 := Tryz.func91.trans (congrArg some (by kernel_rfl))
  t3 := Tryz.underlying3
  a3 := Tryz.isAgg3
  z3 := Tryz.sizeOf3
  v3 := Tryz.zeroValue3
  t4 := Tryz.underlying4
  a4 := Tryz.isAgg4
  z4 := Tryz.sizeOf4
  v4 := Tryz.zeroValue4
  t5 := Tryz.underlying5
  a5 := Tryz.isAgg5
  z5 := Tryz.sizeOf5
  v5 := Tryz.zeroValue5
  t9 := Tryz.underlying9
  a9 := Tryz.isAgg9
  z9 := Tryz.sizeOf9
  v9 := Tryz.zeroValue9
  t46 := Tryz.underlying76
  a46 := Tryz.isAgg76
  z46 := Tryz.sizeOf76
  v46 := Tryz.zeroValue76
  t51 := Tryz.underlying75
  a51 := Tryz.isAgg75
  z51 := Tryz.sizeOf75
  v51 := Tryz.zeroValue75
  t146 := Tryz.underlying123
  a146 := Tryz.isAgg123
  z146 := Tryz.sizeOf123
  v146 := Tryz.zeroValue123
  g1 := by kernel_rfl }
open Go.RowKit Go.Lib in
theorem Tryz.strings_Contains (s sub : ByteArray) (m : Int) (w : World) (hs : s.size < 4294967281) (hm : w.cell? ⟨2, 0, none⟩ = some (.int .i64 m)) :
    Calls Tryz.prog 27 #[.string s, .string sub] w fun e w' => e = .returned (.bool (Lib.contains s.data.toList sub.data.toList)) ∧ w' = w := Any.strings_Contains Tryz.lays144 s sub m w hs hm
def Tryz.lays99_ren : Go.Shelf.Ren := ⟨fun | 99 => 50 | 206 => 66 | n => n, fun | 9 => 9 | 4 => 4 | 3 => 3 | n => n, fun | n => n⟩
theorem Tryz.lays99 : Go.Proofs.Lays.n99 Tryz.prog Tryz.lays99_ren := {
  mixed := by kernel_rfl
  f99 := Tryz.func50.trans (congrArg some (by kernel_rfl))
  f206 := Tryz.func66.trans (congrArg some (by kernel_rfl))
  t3 := Tryz.underlying3
  a3 := Tryz.isAgg3
  z3 := Tryz.sizeOf3
  v3 := Tryz.zeroValue3
  t4 := Tryz.underlying4
  a4 := Tryz.isAgg4
  z4 := Tryz.sizeOf4
  v4 := Tryz.zeroValue4
  t9 := Tryz.underlying9
  a9 := Tryz.isAgg9
  z9 := Tryz.sizeOf9
  v9 := Tryz.zeroValue9 }
open Go.RowKit Go.Lib in
theorem Tryz.strings_HasPrefix (s p : ByteArray) (w : World) :
    Calls Tryz.prog 50 #[.string s, .string p] w fun e w' => e = .returned (.bool (Lib.hasPrefix s.data.toList p.data.toList)) ∧ w' = w := Any.strings_HasPrefix Tryz.lays99 s p w
def Tryz.lays147_ren : Go.Shelf.Ren := ⟨fun | 147 => 49 | 221 => 65 | 268 => 81 | 138 => 82 | 143 => 43 | 195 => 92 | 197 => 93 | 218 => 94 | 219 => 60 | 260 => 101 | 217 => 76 | 225 => 77 | 224 => 78 | 267 => 79 | 266 => 90 | 314 => 91 | n => n, fun | 9 => 9 | 3 => 3 | 31 => 39 | 4 => 4 | 0 => 0 | 105 => 126 | 21 => 21 | 5 => 5 | 46 => 76 | 119 => 143 | 139 => 146 | 138 => 145 | 146 => 123 | 51 => 75 | n => n, fun | 1 => 2 | 3 => 3 | 4 => 4 | n => n⟩
theorem Tryz.lays147 : Go.Proofs.Lays.n147 Tryz.prog Tryz.lays147_ren := {
  mixed := by kernel_rfl
  f138 := Tryz.func82.trans (congrArg some (by kernel_rfl))
  f143 := Tryz.func43.trans (congrArg some (by kernel_rfl))
  f147 := Tryz.func49.trans (congrArg some (by kernel_rfl))
  f195 := Tryz.func92.trans (congrArg some (by kernel_rfl))
  f197 := Tryz.func93.trans (congrArg some (by kernel_rfl))
  f217 := Tryz.func76.trans (congrArg some (by kernel_rfl))
  f218 := Tryz.func94.trans (congrArg some (by kernel_rfl))
  f219 := Tryz.func60.trans (congrArg some (by kernel_rfl))
  f221 := Tryz.func65.trans (congrArg some (by kernel_rfl))
  f224 := Tryz.func78.trans (congrArg some (by kernel_rfl))
  f225 := Tryz.func77.trans (congrArg some (by kernel_rfl))
  f260 := Tryz.func101.trans (congrArg some (by kernel_rfl))
  f266 := Tryz.func90.trans (congrArg some (by kernel_rfl))
  f267 := Tryz.func79.trans (congrArg some (by kernel_rfl))
  f268 := Tryz.func81.trans (congrArg some (by kernel_rfl))
  f314 := Tryz.func91.trans (congrArg some (by kernel_rfl))
  t0 := Tryz.underlying0
  a0 := Tryz.isAgg0
  z0 := Tryz.sizeOf0
  v0 := Tryz.zeroValue0
  t3 := Tryz.underlying3
  a3 := Tryz.isAgg3
  z3 := Tryz.sizeOf3
  v3 := Tryz.zeroValue3
  t4 := Tryz.underlying4
  a4 := Tryz.isAgg4
  z4 := Tryz.sizeOf4
  v4 := Tryz.zeroValue4
  t5 := Tryz.underlying5
  a5 := Tryz.isAgg5
  z5 := Tryz.sizeOf5
  v5 := Tryz.zeroValue5
  t9 := Tryz.underlying9
  a9 := Tryz.isAgg9
  z9 := Tryz.sizeOf9
  v9 := Tryz.zeroValue9
  t21 := Tryz.underlying21
  a21 := Tryz.isAgg21
  z21 := Tryz.sizeOf21
  v21 := Tryz.zeroValue21
  t31 := Tryz.underlying39
  a31 := Tryz.isAgg39
  z31 := Tryz.sizeOf39
  v31 := Tryz.zeroValue39
  t46 := Tryz.underlying76
  a46 := Tryz.isAgg76
  z46 := Tryz.sizeOf76
  v46 := Tryz.zeroValue76
  t51 := Tryz.underlying75
  a51 := Tryz.isAgg75
  z51 := Tryz.sizeOf75
  v51 := Tryz.zeroValue75
  t105 := Tryz.underlying126
  a105 := Tryz.isAgg126
  z105 := Tryz.sizeOf126
  v105 := Tryz.zeroValue126
  t119 := Tryz.underlying143
  a119 := Tryz.isAgg143
  z119 := Tryz.sizeOf143
  t138 := Tryz.underlying145
  a138 := Tryz.isAgg145
  z138 := Tryz.sizeOf145
  v138 := Tryz.zeroValue145
  t139 := Tryz.underlying146
  a139 := Tryz.isAgg146
  z139 := Tryz.sizeOf146
  v139 := Tryz.zeroValue146
  t146 := Tryz.underlying123
  a146 := Tryz.isAgg123
  z146 := Tryz.sizeOf123
  v146 := Tryz.zeroValue123
  g1 := by kernel_rfl
  g3 := by kernel_rfl
  g4 := by kernel_rfl }
open Go.RowKit Go.Lib in
theorem Tryz.strings_SplitN (s sep : ByteArray) (n : Nat) (m : Int) (w : World) (hs : s.size < 4294967281) (hm : w.cell? ⟨2, 0, none⟩ = some (.int .i64 m)) (h1 : 1 ≤ sep.size) (hn : 1 ≤ n) (hn63 : n ≤ 9223372036854775807) :
    Calls Tryz.prog 49 #[.string s, .string sep, .int .i64 n] w fun e w' =>
      e = .returned (.slice (some ⟨w.heap.size, 0, none⟩) (Lib.splitB sep 0 (min n (s.size + 1) - 1) s).length (min n (s.size + 1))) ∧ w' = w.alloc (.cells (Lib.cellsOf (Lib.splitB sep 0 (min n (s.size + 1) - 1) s) (min n (s.size + 1))) 9) := Any.strings_SplitN Tryz.lays147 (by kernel_rfl) s sep n m w hs hm h1 hn hn63
def Tryz.lays155_ren : Go.Shelf.Ren := ⟨fun | 155 => 86 | 154 => 100 | 138 => 82 | 165 => 103 | 143 => 43 | 166 => 104 | 197 => 93 | 169 => 105 | 195 => 92 | 218 => 94 | 240 => 106 | 241 => 107 | 219 => 60 | 260 => 101 | 276 => 108 | 277 => 109 | 217 => 76 | 225 => 77 | 224 => 78 | 267 => 79 | 266 => 90 | 314 => 91 | n => n, fun | 9 => 9 | 3 => 3 | 4 => 4 | 72 => 136 | 0 => 0 | 76 => 140 | 105 => 126 | 21 => 21 | 5 => 5 | 70 => 134 | 20 => 20 | 37 => 22 | 75 => 139 | 127 => 148 | 164 => 149 | 46 => 76 | 119 => 143 | 139 => 146 | 138 => 145 | 146 => 123 | 51 => 75 | 80 => 142 | n => n, fun | 1 => 2 | 3 => 3 | 4 => 4 | n => n⟩
theorem Tryz.lays155 : Go.Proofs.Lays.n155 Tryz.prog Tryz.lays155_ren := {
  mixed := by kernel_rfl
  f138 := Tryz.func82.trans (congrArg some (by kernel_rfl))
  f143 := Tryz.func43.trans (congrArg some (by kernel_rfl))
  f154 := Tryz.func100.trans (congrArg some (by kernel_rfl))
  f155 := Tryz.func86.trans (congrArg some (by kernel_rfl))
  f165 := Tryz.func103.trans (congrArg some (by kernel_rfl))
  f166 := Tryz.func104.trans (congrArg some (by kernel_rfl))
  f169 := Tryz.func105.trans (congrArg some (by kernel_rfl))
  f195 := Tryz.func92.trans (congrArg some (by kernel_rfl))
  f197 := Tryz.func93.trans (congrArg some (by kernel_rfl))
  f217 := Tryz.func76.trans (congrArg some (by kernel_rfl))
  f218 := Tryz.func94.trans (congrArg some (by kernel_rfl))
  f219 := Tryz.func60.trans (congrArg some (by kernel_rfl))
  f224 := Tryz.func78.trans (congrArg some (by kernel_rfl))
  f225 := Tryz.func77.trans (congrArg some (by kernel_rfl))
  f240 := Tryz.func106.trans (congrArg some (by kernel_rfl))
  f241 := Tryz.func107.trans (congrArg some (by kernel_rfl))
  f260 := Tryz.func101.trans (congrArg some (by kernel_rfl))
  f266 := Tryz.func90.trans (congrArg some (by kernel_rfl))
  f267 := Tryz.func79.trans (congrArg some (by kernel_rfl))
  f276 := Tryz.func108.trans (congrArg some (by kernel_rfl))
  f277 := Tryz.func109.trans (congrArg some (by kernel_rfl))
  f314 := Tryz.func91.trans (congrArg some (by kernel_rfl))
  t0 := Tryz.underlying0
  a0 := Tryz.isAgg0
  z0 := Tryz.sizeOf0
  v0 := Tryz.zeroValue0
  t3 := Tryz.underlying3
  a3 := Tryz.isAgg3
  z3 := Tryz.sizeOf3
  v3 := Tryz.zeroValue3
  t4 := Tryz.underlying4
  a4 := Tryz.isAgg4
  z4 := Tryz.sizeOf4
  v4 := Tryz.zeroValue4
  t5 := Tryz.underlying5
  a5 := Tryz.isAgg5
  z5 := Tryz.sizeOf5
  v5 := Tryz.zeroValue5
  t9 := Tryz.underlying9
  a9 := Tryz.isAgg9
  z9 := Tryz.sizeOf9
  v9 := Tryz.zeroValue9
  t20 := Tryz.underlying20
  a20 := Tryz.isAgg20
  z20 := Tryz.sizeOf20
  v20 := Tryz.zeroValue20
  t21 := Tryz.underlying21
  a21 := Tryz.isAgg21
  z21 := Tryz.sizeOf21
  v21 := Tryz.zeroValue21
  t37 := Tryz.underlying22
  a37 := Tryz.isAgg22
  z37 := Tryz.sizeOf22
  v37 := Tryz.zeroValue22
  t46 := Tryz.underlying76
  a46 := Tryz.isAgg76
  z46 := Tryz.sizeOf76
  v46 := Tryz.zeroValue76
  t51 := Tryz.underlying75
  a51 := Tryz.isAgg75
  z51 := Tryz.sizeOf75
  v51 := Tryz.zeroValue75
  t70 := Tryz.underlying134
  a70 := Tryz.isAgg134
  z70 := Tryz.sizeOf134
  v70 := Tryz.zeroValue134
  t72 := Tryz.underlying136
  a72 := Tryz.isAgg136
  z72 := Tryz.sizeOf136
  v72 := Tryz.zeroValue136
  t75 := Tryz.underlying139
  a75 := Tryz.isAgg139
  z75 := Tryz.sizeOf139
  v75 := Tryz.zeroValue139
  t76 := Tryz.underlying140
  a76 := Tryz.isAgg140
  z76 := Tryz.sizeOf140
  v76 := Tryz.zeroValue140
  t105 := Tryz.underlying126
  a105 := Tryz.isAgg126
  z105 := Tryz.sizeOf126
  v105 := Tryz.zeroValue126
  t119 := Tryz.underlying143
  a119 := Tryz.isAgg143
  z119 := Tryz.sizeOf143
  t127 := Tryz.underlying148
  a127 := Tryz.isAgg148
  z127 := Tryz.sizeOf148
  v127 := Tryz.zeroValue148
  t138 := Tryz.underlying145
  a138 := Tryz.isAgg145
  z138 := Tryz.sizeOf145
  v138 := Tryz.zeroValue145
  t139 := Tryz.underlying146
  a139 := Tryz.isAgg146
  z139 := Tryz.sizeOf146
  v139 := Tryz.zeroValue146
  t146 := Tryz.underlying123
  a146 := Tryz.isAgg123
  z146 := Tryz.sizeOf123
  v146 := Tryz.zeroValue123
  t164 := Tryz.underlying149
  a164 := Tryz.isAgg149
  z164 := Tryz.sizeOf149
  v164 := Tryz.zeroValue149
  g1 := by kernel_rfl
  g3 := by kernel_rfl
  g4 := by kernel_rfl }
theorem Tryz.Builder_Extra_155 : Builder.Extra Tryz.prog Tryz.lays155_ren := {
  sizeBuilder := by kernel_rfl
  liesBuilder := by kernel_rfl
  t5 := Tryz.underlying5
  a5 := Tryz.isAgg5
  z5 := Tryz.sizeOf5
  v5 := Tryz.zeroValue5
  infoByte := by kernel_rfl
  cellsByte := by kernel_rfl
  sizeByte := by kernel_rfl
  neB5 := by decide }
open Go.RowKit Go.Lib in
theorem Tryz.strings_ReplaceAll (s old new : ByteArray) (m : Int) (w : World) (hs : s.size < 4294967281) (hm : w.cell? ⟨2, 0, none⟩ = some (.int .i64 m)) (h1 : 1 ≤ old.size) (hlen : s.size + Lib.countB s old * new.size ≤ 140737488355328) :
    Calls Tryz.prog 86 #[.string s, .string old, .string new] w fun e w' =>
      e = .returned (.string ⟨(Lib.replaceAll s.data.toList old.data.toList new.data.toList).toArray⟩) ∧ Below w.heap.size w w' := Any.strings_ReplaceAll Tryz.lays155 Tryz.Builder_Extra_155 s old new m w hs hm h1 hlen
end Go.Proofs

namespace Go.Proofs.YtknbndebfickpaaGreatDoor
open Go.RowKit

theorem fldB0 (x y : Value) (w : World) : (Instr.field 50 (.agg #[x, y]) 0).run Tryz.prog w = .ok x w := by
  simp [Instr.field, asAgg, go_sem]
theorem fldB1 (x y : Value) (w : World) : (Instr.field 50 (.agg #[x, y]) 1).run Tryz.prog w = .ok y w := by
  simp [Instr.field, asAgg, go_sem]
theorem fldT0 (x y : Value) (w : World) : (Instr.field 33 (.agg #[x, y]) 0).run Tryz.prog w = .ok x w := by
  simp [Instr.field, asAgg, go_sem]
theorem fldT1 (x y : Value) (w : World) : (Instr.field 33 (.agg #[x, y]) 1).run Tryz.prog w = .ok y w := by
  simp [Instr.field, asAgg, go_sem]
end Go.Proofs.YtknbndebfickpaaGreatDoor
