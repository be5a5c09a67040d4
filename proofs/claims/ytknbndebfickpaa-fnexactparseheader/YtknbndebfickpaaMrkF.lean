/- The laws' marks in texts and fields: what is marked is found again. -/
import Derived.Test.YtknbndebfickpaaFldS2
import Derived.Test.YtknbndebfickpaaTxt
namespace Go.Proofs.Ytknbndebfickpaa
open Go.RowKit

/-- The digits of a number ahead of a text. -/
def dgt (k : Nat) (out : List Nat) : List Nat := if _h : k = 0 then out else dgt (k / 10) ((48 + k % 10) :: out)
termination_by k
decreasing_by omega
theorem dgt_zero (out : List Nat) : dgt 0 out = out := by rw [dgt, dif_pos rfl]
theorem dgt_step {k : Nat} (h : k ≠ 0) (out : List Nat) : dgt k out = dgt (k / 10) ((48 + k % 10) :: out) := by rw [dgt, dif_neg h]
/-- The mark of a number from 1 on. -/
def mtx (k : Nat) : ByteArray := str (109 :: dgt k [])

theorem str_plus (a b : List Nat) : str a ++ str b = str (a ++ b) := by
  apply ByteArray.ext
  rw [ByteArray.data_append]
  simp [str]

set_option maxHeartbeats 800000 in
set_option maxRecDepth 100000 in
theorem markText_any (k : Nat) (w : World) (h1 : 1 ≤ k) (hk : k ≤ 4194304) : Calls Try.prog 51 #[.int .i64 (k : Int)] w fun e w' => e = .returned (.string (mtx k)) ∧ Below w.heap.size w w' := by
  have c1 : ¬ (k : Int) ≤ 0 := by omega
  go_enter Try.func51, Try.ntmps51
  go_wp2
  go_loopw [0, 3] (fun q v wr => ∃ (j : Nat) (out : List Nat), j + out.length ≤ k ∧ q = .int .i64 j ∧ v = .string (str out) ∧ dgt k [] = dgt j out ∧ Below w.heap.size w wr) (fun q _ _ => (intOf q).toNat)
  case atStart => exact ⟨k, [], Nat.le_refl _, rfl, rfl, rfl, Below.refl _ _⟩
  case round =>
    obtain ⟨j, out, hj, rfl, rfl, hd, hbel⟩ := hrel
    have hos : (str out).size = out.length := str_size out
    have hob : out.length ≤ 4194304 := by omega
    by_cases hj0 : j = 0
    · subst hj0
      rw [dgt_zero] at hd
      have HM : Hid (⟨#[109]⟩ ++ str out = mtx k) := by
        show _ = _
        unfold mtx; rw [hd]
        exact str_plus [109] out
      clear hd
      generalize hL : out.length = L at *
      clear hL
      generalize str out = so at *
      go_wp2
      go_ret
      exact ⟨by rw [← HM.out]; rfl, hbel⟩
    · have hjp : (0 : Int) < (j : Int) := by omega
      obtain ⟨r, hr⟩ : ∃ r, r = j % 10 := ⟨_, rfl⟩
      obtain ⟨p, hp⟩ : ∃ p, p = j / 10 := ⟨_, rfl⟩
      have hr10 : r < 10 := by omega
      have hpj : p < j := by omega
      have HD : Hid (dgt k [] = dgt p ((48 + r) :: out)) := by
        show _ = _
        rw [hd, dgt_step hj0, ← hr, ← hp]
      have hst := fun (c : Nat) => run_str (w := wr.alloc (.cells #[.int .u8 ((48 + r : Nat) : Int)] 5)) (a := some ⟨wr.heap.size, 0, none⟩) (n := 1) (cap := c) (l := [48 + r]) rfl (.inr ⟨wr.heap.size, 0, rfl, by simp, fun i hi => by
        have : i = 0 := by simp at hi; omega
        subst this; simp [nth]⟩)
      rw [show ((48 + r : Nat) : Int) = 48 + (r : Int) by omega] at hst
      have e1 : (j : Int) % 10 = (r : Int) := by omega
      have e2 : (j : Int) / 10 = (p : Int) := by omega
      have HP : Hid (str [48 + r] ++ str out = str ((48 + r) :: out)) := str_plus [48 + r] out
      have hsr : (str [48 + r]).size = 1 := str_size _
      have HL : Hid (p + ((48 + r) :: out).length ≤ k) := by
        show _ ≤ _
        rw [List.length_cons]; omega
      have hb2 : Below w.heap.size w (wr.alloc (.cells #[.int .u8 (48 + (r : Int))] 5)) := hbel.alloc hbel.size _
      clear hd hr hp
      go_wp2
      go_roundw
      case rel => exact ⟨p, (48 + r) :: out, HL.out, rfl, by rw [HP.out], HD.out, hb2⟩
      case measure => simp [intOf]; omega

theorem ownRow_below {w w' : World} {B C e size n : Nat} {v : Value} {xs : List Value} (h : w.ownsRow B e size v n xs) (hb : Below C w w') (hC : w.heap.size ≤ C) : w'.ownsRow B e size v n xs := by
  refine ⟨h.1, ?_⟩
  rcases h.2 with h' | ⟨g, cap, cur, h1, h2, h3, h4⟩
  · exact .inl h'
  · refine .inr ⟨g, cap, cur, h1, h2, ?_, h4⟩
    have hg : g < w.heap.size := by
      rcases Nat.lt_or_ge g w.heap.size with hlt | hge
      · exact hlt
      · simp [Array.getElem?_eq_none hge] at h3
    rw [hb.block g (by omega)]; exact h3
theorem grow_below {w w1 w2 : World} {row : Option Nat} (h : w.grownBy w1 row) (k : Below w1.heap.size w1 w2) : w.grownBy w2 row :=
  ⟨k.os.trans h.os, k.tape.trans h.tape, k.output.trans h.output, Nat.le_trans h.size k.size, fun g hg hne => (k.block g (Nat.lt_of_lt_of_le hg h.size)).trans (h.block g hg hne)⟩
theorem grow_then {w w1 w2 : World} {row : Option Nat} (h : w.grownBy w1 row) (k : w1.grownBy w2 row) : w.grownBy w2 row :=
  ⟨k.os.trans h.os, k.tape.trans h.tape, k.output.trans h.output, Nat.le_trans h.size k.size, fun g hg hne => (k.block g (Nat.lt_of_lt_of_le hg h.size) hne).trans (h.block g hg hne)⟩

/-- The marks: two for each of n fields, from k on. -/
def marksF (n k : Nat) : List FldP := (List.range n).map fun i => (mtx (k + 2 * i), mtx (k + 2 * i + 1))
theorem marksF_len (n k : Nat) : (marksF n k).length = n := by simp [marksF]
theorem marksF_nth {n k i : Nat} (h : i < n) : nthF (marksF n k) i = (mtx (k + 2 * i), mtx (k + 2 * i + 1)) := by
  rw [nthF_get (by rw [marksF_len]; exact h)]; simp [marksF]
def mhalfF (l : List FldP) (k i : Nat) : List FldP := marksF i k ++ l.drop i
theorem mhalfF_zero (l : List FldP) (k : Nat) : mhalfF l k 0 = l := by simp [mhalfF, marksF]
theorem mhalfF_all (l : List FldP) (k : Nat) : mhalfF l k l.length = marksF l.length k := by simp [mhalfF]
theorem mhalfF_len (l : List FldP) (k i : Nat) (h : i ≤ l.length) : (mhalfF l k i).length = l.length := by simp [mhalfF, marksF_len]; omega
theorem mhalfF_set (l : List FldP) (k i : Nat) (h : i < l.length) : (mhalfF l k i).set i (mtx (k + 2 * i), mtx (k + 2 * i + 1)) = mhalfF l k (i + 1) := by
  have e : marksF (i + 1) k = marksF i k ++ [(mtx (k + 2 * i), mtx (k + 2 * i + 1))] := by simp [marksF, List.range_succ]
  unfold mhalfF
  rw [e, List.set_append, marksF_len, if_neg (Nat.lt_irrefl i), Nat.sub_self, drop_consF l i h]
  simp

set_option maxHeartbeats 1600000 in
set_option maxRecDepth 100000 in
theorem markFieldS_any (a : Option Addr) (n cap k B : Nat) (l : List FldP) (w : World) (hown : OwnF w B (.slice a n cap) l) (hn : n ≤ 1048576) (h1 : 1 ≤ k) (hk : k ≤ 1048576) :
    Calls Try.prog 24 #[.slice a n cap, .int .i64 (k : Int)] w fun e w' =>
      e = .returned (.int .i64 ((k + 2 * n : Nat) : Int)) ∧ OwnF w' B (.slice a n cap) (marksF n k) ∧ w.grownBy w' (Value.slice a n cap).ownBlock := by
  obtain ⟨hl, hr⟩ := hown.rd
  go_enter Try.func24, Try.ntmps24
  go_wp2
  go_loopw [1, 5] (fun q i wr => ∃ j : Nat, j ≤ n ∧ i = .int .i64 j ∧ q = .int .i64 ((k + 2 * j : Nat) : Int) ∧ OwnF wr B (.slice a n cap) (mhalfF l k j) ∧ w.grownBy wr (Value.slice a n cap).ownBlock)
    (fun _ i _ => n - (intOf i).toNat)
  case atStart => exact ⟨0, Nat.zero_le _, rfl, rfl, by rw [mhalfF_zero]; exact hown, World.grownBy.refl _ _⟩
  case round =>
    obtain ⟨j, hj, rfl, rfl, hown', hgr⟩ := hrel
    clear hown
    by_cases hjn : j < n
    · obtain ⟨g, hg⟩ : ∃ g, a = some ⟨g, 0, none⟩ := by
        rcases hown'.2 with ⟨h0, h1⟩ | ⟨g', cap', cur, h', _⟩
        · rw [mhalfF_len _ _ _ (by omega)] at h1; omega
        · simp at h'; exact ⟨g', h'.1⟩
      subst hg
      have hlen : (mhalfF l k j).length = n := by rw [mhalfF_len _ _ _ (by omega)]; exact hl
      have o0 : wr.ownsRow B 35 2 (.slice (some ⟨g, 0, none⟩) n cap) n (fc (mhalfF l k j)) := by have := hown'; unfold OwnF at this; rw [hlen] at this; exact this
      have hji : (j : Int) < (n : Int) := by omega
      have hfc := fc_get (mhalfF l k j) j (by omega)
      have hFS := fc_set (mhalfF l k j) j (mtx (k + 2 * j), mtx (k + 2 * j + 1)) (by omega)
      rw [mhalfF_set l k j (by omega)] at hFS
      have HFS : Hid (_) := hFS
      have hgr' : w.grownBy wr (some g) := hgr
      have e0 : ((k + 2 * j : Nat) : Int) = (k : Int) + 2 * (j : Int) := by omega
      have HT1 : Hid (∀ w, Calls Try.prog 51 #[.int .i64 ((k + 2 * j : Nat) : Int)] w fun e w' => e = .returned (.string (mtx (k + 2 * j))) ∧ Below w.heap.size w w') := fun w => markText_any (k + 2 * j) w (by omega) (by omega)
      have HT2 : Hid (∀ w, Calls Try.prog 51 #[.int .i64 (((k + 2 * j : Nat) : Int) + 1)] w fun e w' => e = .returned (.string (mtx (k + 2 * j + 1))) ∧ Below w.heap.size w w') := fun w => markText_any (k + 2 * j + 1) w (by omega) (by omega)
      have hb0 : ((k + 2 * j : Nat) : Int) ≤ 4194302 := by omega
      have hb1 : 0 ≤ ((k + 2 * j : Nat) : Int) := by omega
      have HK : Hid (((k + 2 * j : Nat) : Int) + 1 + 1 = ((k + 2 * (j + 1) : Nat) : Int)) := by
        show _ = _
        omega
      clear hown' hgr hr hFS e0
      generalize mtx (k + 2 * j) = t0 at *
      generalize mtx (k + 2 * j + 1) = t1 at *
      generalize hK0 : ((k + 2 * j : Nat) : Int) = kk at *
      clear hK0
      go_wp2_with fail
      refine (HT1.out _).mono ?_
      rintro e w1 ⟨rfl, hx1⟩
      have o1 := ownRow_below o0 hx1 (Nat.le_refl _)
      have g1 := grow_below hgr' hx1
      have c0 : w1.cell? ⟨g, j * 2, none⟩ = some (.string (nthF (mhalfF l k j) j).1) := by rw [o1.cellAt (j * 2) (by omega)]; exact hfc.1
      have z0 := o1.frozenAt (j * 2)
      obtain ⟨o2, g2⟩ := o1.stored (j * 2) (.string t0)
      have g2' := grow_then g1 g2
      clear o0 o1 hx1 hgr' g1 g2 HT1
      generalize (nthF (mhalfF l k j) j).1 = y0 at *
      go_wp2_with fail
      generalize w1.setCell ⟨g, j * 2, none⟩ (.string t0) = W at *
      refine (HT2.out _).mono ?_
      rintro e w2 ⟨rfl, hx2⟩
      have o3 := ownRow_below o2 hx2 (Nat.le_refl _)
      have g3 := grow_below g2' hx2
      have c1 : w2.cell? ⟨g, j * 2 + 1, none⟩ = some (.string (nthF (mhalfF l k j) j).2) := by
        rw [o3.cellAt (j * 2 + 1) (by omega), List.getElem?_set, if_neg (by omega)]
        exact hfc.2
      have z1 := o3.frozenAt (j * 2 + 1)
      obtain ⟨o4, g4⟩ := o3.stored (j * 2 + 1) (.string t1)
      have G4 : Hid (_) := grow_then g3 g4
      have O4 : Hid ((w2.setCell ⟨g, j * 2 + 1, none⟩ (.string t1)).ownsRow B 35 2 (.slice (some ⟨g, 0, none⟩) n cap) n (fc (mhalfF l k (j + 1)))) := by
        rw [← HFS.out]; exact o4
      clear o2 o3 o4 g2' g3 g4 hx2 HT2 HFS hfc c0 z0
      generalize (nthF (mhalfF l k j) j).2 = y1 at *
      go_wp2
      go_roundw
      case rel => exact ⟨j + 1, by omega, by go_num, by rw [HK.out], by unfold OwnF; rw [mhalfF_len _ _ _ (by omega), hl]; exact O4.out, G4.out⟩
      case measure => simp [intOf]; omega
    · have hjj : j = n := by omega
      subst hjj
      rw [← hl, mhalfF_all, hl] at hown'
      have hji : ¬ (j : Int) < (j : Int) := by omega
      go_wp2
      go_ret
      exact ⟨rfl, hown', hgr⟩
end Go.Proofs.Ytknbndebfickpaa
