/- Bytes that the model draws: their address is known, and how much of the source is used; sources of at most 1048576 bytes · Two bytes, bit by bit unlike; no conditions beyond those that each fact names. -/
import Derived.Test.YtdcgihcjiiemdaaDoorGrxToDrk
import Derived.Test.YtdcgihcjiiemdaaDoorDrw2ToAppI
import Derived.Test.YtdcgihcjiiemdaaDoorMemToApp
namespace Go.Proofs.YtdcgihcjiiemdaaDoor
open Go.RowKit

theorem own_atN {w : World} {B : Nat} {v : Value} {l : List Nat} (h : Own w B v l) (hp : 0 < l.length) : ∃ g cp, v = .slice (some ⟨g, 0, none⟩) l.length cp ∧ l.length ≤ cp := by
  rcases h.2 with ⟨_, h0⟩ | ⟨g, cap, cur, h', _, _, h4, _⟩
  · omega
  · exact ⟨g, cap, h', h4⟩
set_option maxHeartbeats 1600000 in
set_option maxRecDepth 100000 in
theorem l1Some_nk (B b M n : Nat) (w : World) (hs : Src w B b M) (hM : M + 2 * n ≤ 99000) (hn : n ≤ 100) :
    Calls Tryd.prog 24 #[.pointer (some ⟨b, 0, none⟩), .int .i64 (n : Int)] w fun e w' =>
      ∃ (v : Value) (out : List Nat), e = .returned v ∧ Own w' w.heap.size v out ∧ (∃ g cp, v = .slice (some ⟨g, 0, none⟩) out.length cp ∧ out.length ≤ cp) ∧ IsB out ∧ out.length = n ∧ Src w' B b (M + 2 * n) ∧ Below b w w' ∧ Kb b w w' := by
  obtain ⟨hBb, hbw, _⟩ := id hs
  go_enter Tryd.func24, Tryd.ntmps24
  go_wp2
  have hown0 : Own (w.alloc (.cells #[] 5)) w.heap.size (.slice (some ⟨w.heap.size, 0, none⟩) 0 0) [] := Own.lit w _ (Nat.le_refl _) #[] [] rfl (by decide)
  have hbel0 : Below b w (w.alloc (.cells #[] 5)) := (Below.refl _ _).alloc (by omega) _
  have hs0 : Src (w.alloc (.cells #[] 5)) B b M := hs.below ((Below.refl _ _).alloc (by omega) _)
  have hkb0 : Kb b w (w.alloc (.cells #[] 5)) := (Kb.refl b w).below ((Below.refl _ _).alloc (Nat.le_refl _) _)
  go_loopw [1, 5] (fun j v wr => ∃ (i : Nat) (out : List Nat), i ≤ n ∧ j = .int .i64 ((n - i : Nat) : Int) ∧ Own wr w.heap.size v out ∧ (∃ g cp, v = .slice (some ⟨g, 0, none⟩) out.length cp ∧ out.length ≤ cp) ∧ IsB out ∧ out.length = i ∧ Src wr B b (M + 2 * i) ∧ Below b w wr ∧ Kb b w wr)
    (fun j _ _ => (intOf j).toNat)
  case atStart => exact ⟨0, [], by omega, rfl, hown0, ⟨_, _, rfl, Nat.le_refl _⟩, fun x hx => by simp at hx, rfl, hs0, hbel0, hkb0⟩
  case round =>
    obtain ⟨i, out, hi, rfl, hown, hat, hBo, hol, hsr, hbel, hkb⟩ := hrel
    clear hown0 hbel0 hkb0 hs0 hs
    have hz := hbel.size
    by_cases hin : i < n
    · have hj : (0 : Int) < ((n - i : Nat) : Int) := by omega
      obtain ⟨_, hbr, _⟩ := id hsr
      go_wp2_with fail
      refine (l1Next_any B b (M + 2 * i) 256 _ hsr (by omega) (by omega) (by omega)).mono ?_
      rintro e w1 ⟨r, rfl, r0, r1, _, hs1, hg1⟩
      have ho1 := hown.keptG hg1 (by omega)
      have hb1 : Below b w w1 := hbel.trans ((Below.refl _ _).grown hg1 (by omega) (by intro k hk; simp at hk; omega))
      have hz1 := hg1.size
      have hkb1 := hkb.grown hg1
      have hs1' : Src (w1.alloc (.cells #[.int .i64 r, .int .i64 97, .int .i64 32, .int .i64 10, .int .i64 61, .int .i64 122] 2)) B b (M + 2 * i + 1) := hs1.below ((Below.refl _ _).alloc (by omega) _)
      have hr256 : r < 256 := r1 (by omega)
      go_wp2_with fail
      refine (l1Pick_any B b (M + 2 * i + 1) _ 6 6 [r, 97, 32, 10, 61, 122] _ hs1' (by omega) rfl (by omega) (by omega) (nums_new rfl) (by omega)).mono ?_
      rintro e w2 ⟨x, rfl, hx, hs2, hg2⟩
      have hx' : 0 ≤ x ∧ x < 256 := by
        simp only [List.mem_cons, List.not_mem_nil, or_false] at hx
        omega
      obtain ⟨y, rfl⟩ := Int.eq_ofNat_of_zero_le hx'.1
      have hy : y < 256 := by omega
      have ho2 := (ho1.alloc (.cells #[.int .i64 r, .int .i64 97, .int .i64 32, .int .i64 10, .int .i64 61, .int .i64 122] 2)).keptG hg2 (by omega)
      have hb2 : Below b w w2 := (hb1.alloc (by omega) _).trans ((Below.refl _ _).grown hg2 (by simp; omega) (by intro k hk; simp at hk; omega))
      have hz2 : w1.heap.size + 1 ≤ w2.heap.size := by have := hg2.size; simpa using this
      have hkb2 := (hkb1.below ((Below.refl _ _).alloc (Nat.le_refl _) _)).grown hg2
      have HKB2 : Hid (Kb b w w2) := hkb2
      clear hkb hkb1 hkb2
      have HS2 : Hid (Src w2 B b (M + 2 * i + 1 + 1)) := hs2
      clear hs1 hs1' hg1 hg2 ho1 hx hsr hown hs2 r1
      go_wp2_with (at_builtin; refine wpList_app_new rfl _ _ rfl w.heap.size _ out rfl ho2 1 1 [y] rfl rfl rfl (by omega) (by omega) ?_; intro v' w3 hown' hb')
      have hat' := own_atN hown' (by simp)
      have hs3 : Hid (Src w3 B b (M + 2 * (i + 1))) := Src.below (w := w2) HS2.out (hb'.mono (by omega))
      go_wp2
      go_roundw
      case rel => exact ⟨i + 1, out ++ [y], by omega, by go_num, hown', hat', fun z hz => by rcases List.mem_append.1 hz with h | h; exact hBo z h; simp at h; omega, by simp; omega, hs3.out, hb2.trans (hb'.mono (by omega)), HKB2.out.below' hb'⟩
      case measure => simp [intOf]; omega
    · have hii : i = n := by omega
      have hj : ¬ (0 : Int) < ((n - i : Nat) : Int) := by omega
      subst hii
      go_wp2
      go_ret
      exact ⟨_, rfl, out, hown, hat, hBo, hol, hsr, hbel, hkb⟩
end Go.Proofs.YtdcgihcjiiemdaaDoor

namespace Go.Proofs.YtdcgihcjiiemdaaDoor
open Go.RowKit

theorem xor_u8 (a b : Nat) (ha : a < 256) (hb : b < 256) : bits .xor .u8 (a : Int) (b : Int) = ((a ^^^ b : Nat) : Int) := by
  have hx : a ^^^ b < 2 ^ 8 := Nat.xor_lt_two_pow (by omega) (by omega)
  have h1 : (BitVec.ofInt 8 (a : Int)).toNat = a := by
    rw [BitVec.ofInt_natCast, BitVec.toNat_ofNat]; exact Nat.mod_eq_of_lt (by omega)
  have h2 : (BitVec.ofInt 8 (b : Int)).toNat = b := by
    rw [BitVec.ofInt_natCast, BitVec.toNat_ofNat]; exact Nat.mod_eq_of_lt (by omega)
  show IntKind.u8.wrap ((BitVec.ofInt 8 (a : Int) ^^^ BitVec.ofInt 8 (b : Int)).toNat : Int) = _
  rw [BitVec.toNat_xor, h1, h2]
  have : ∀ n : Int, IntKind.u8.wrap n = n % 256 := fun n => by simp [IntKind.wrap, IntKind.bits, IntKind.signed]
  rw [this]
  omega
theorem xor_lt8 {a b : Nat} (ha : a < 256) (hb : b < 256) : a ^^^ b < 256 := Nat.xor_lt_two_pow (n := 8) ha hb
theorem xor_ne {a b : Nat} (hb : b ≠ 0) : a ≠ a ^^^ b := fun h => by
  have h2 : a ^^^ a = a ^^^ (a ^^^ b) := congrArg (a ^^^ ·) h
  rw [Nat.xor_self, ← Nat.xor_assoc, Nat.xor_self, Nat.zero_xor] at h2
  exact hb h2.symm
end Go.Proofs.YtdcgihcjiiemdaaDoor
