/- The draws of chapters 2 and 3: each ends with some numbers, in memory of the draw's own; nothing that was there is turned; sources of at most 1048576 bytes. -/
import Derived.Test.YtknbndebfickpaaGreatDoorDrl
namespace Go.Proofs.YtknbndebfickpaaGreatDoor
open Go.RowKit

set_option maxHeartbeats 1600000 in
set_option maxRecDepth 100000 in
theorem l2Bent_any (B b M : Nat) (w : World) (hs : Src w B b M) (hM : M ≤ 800) :
    Calls Tryz.prog 23 #[.pointer (some ⟨b, 0, none⟩)] w fun e w' => NumsEnd B b (M + 8) 401 Any w e w' := by
  obtain ⟨i0, hi, hz0, hz1, hz2⟩ := info_parts infoBI
  obtain ⟨hBb, hbw, _⟩ := id hs
  go_enter Tryz.func23, Tryz.ntmps23
  go_wp2_with fail
  refine (l2Codes_any B b M _ hs (by omega)).mono ?_
  rintro e w1 ⟨v, out, rfl, ho, hol, -, hs1, hb1⟩
  have hzz := hb1.size
  go_wp2_with fail
  refine (l1Next_any B b _ 10 _ hs1 (by omega) (by omega) (by omega)).mono ?_
  rintro e w2 ⟨r, rfl, r0, r1, _, hs2, hg2⟩
  have hb2 : w.grownBy w2 (some b) := gthen hb1 hg2
  have hz2' := hb2.size
  have ho2 := ho.keptG hg2 (by omega)
  clear hs hs1 hg2 ho hb1
  by_cases h0 : r = 0
  · subst h0
    have hs2' : Src (w2.alloc (.cells #[.int .i64 (-1), .int .i64 55296, .int .i64 57343, .int .i64 65535, .int .i64 65536] 2)) B b (M + 6 + 1) := hs2.below ((Below.refl _ _).alloc (by omega) _)
    go_wp2_with fail
    refine (l1Pick_any B b _ _ 5 5 [-1, 55296, 57343, 65535, 65536] _ hs2' (by omega) rfl (by omega) (by omega) (nums_new rfl) (by omega)).mono ?_
    rintro e w3 ⟨x, rfl, hx, hs3, hg3⟩
    have ho3 := (ho2.alloc (.cells #[.int .i64 (-1), .int .i64 55296, .int .i64 57343, .int .i64 65535, .int .i64 65536] 2)).keptG hg3 (by omega)
    have hb3 : w.grownBy w3 (some b) := gthen (gnew hb2 _) hg3
    have hz3 := hb3.size
    have hz3' : w2.heap.size + 1 ≤ w3.heap.size := by have := hg3.size; simpa using this
    clear hs2 hs2' hg3 ho2 hb2 hx
    go_wp2_with (at_builtin; refine wpList_app_newI rfl _ _ rfl w.heap.size _ out rfl ho3 1 1 [x] rfl rfl rfl (by omega) (by omega) ?_; intro v' w4 hown' hb')
    have HF : Hid (NumsEnd B b (M + 8) 401 Any w (.returned v') w4) := numsEnd hown' (by simp; omega) trivial ((hs3.more (by omega)).below (hb'.mono (by omega))) (glow hb3 hb')
    clear hown' hs3
    go_wp2
    go_ret
    exact HF.out
  · by_cases h1 : r = 1
    · subst h1
      have hs2' : Src (w2.alloc (.cells #[.int .i64 400, .int .i64 401, .int .i64 300] 2)) B b (M + 6 + 1) := hs2.below ((Below.refl _ _).alloc (by omega) _)
      go_wp2_with fail
      refine (l1Pick_any B b _ _ 3 3 [400, 401, 300] _ hs2' (by omega) rfl (by omega) (by omega) (nums_new rfl) (by omega)).mono ?_
      rintro e w3 ⟨x, rfl, hx, hs3, hg3⟩
      have hx' : 300 ≤ x ∧ x ≤ 401 := by
        simp only [List.mem_cons, List.not_mem_nil, or_false] at hx
        omega
      obtain ⟨y, rfl⟩ := Int.eq_ofNat_of_zero_le (show 0 ≤ x by omega)
      have hb3 : w.grownBy w3 (some b) := gthen (gnew hb2 _) hg3
      have hz3 := hb3.size
      have hz3' : w2.heap.size + 1 ≤ w3.heap.size := by have := hg3.size; simpa using this
      clear hs2 hs2' hg3 ho2 hb2 hx
      go_wp2_with (at_make; refine wpList_make_full _ rfl _ _ 25 rfl w.heap.size 2 i0 (.int .i64 0) 1 Tryz.underlying25 hi hz0 hz1 .i64 .i64 _ _ y rfl rfl rfl rfl (by rw [hz2]; omega) (by unfold maxLen; omega) (by omega) ?_; intro w4 hown4 hgrow4)
      rw [made_bytesI] at hown4
      have ho : OwnI w4 w.heap.size (.slice (some ⟨w3.heap.size, 0, none⟩) y y) (List.replicate y 0) := by unfold OwnI; rw [List.length_replicate]; exact hown4
      have hb4 : Below w.heap.size w3 w4 := (Below.refl _ _).grown hgrow4 (by omega) (by intro k hk; cases hk)
      have HF : Hid (NumsEnd B b (M + 8) 401 Any w (.returned (.slice (some ⟨w3.heap.size, 0, none⟩) y y)) w4) := numsEnd ho (by rw [List.length_replicate]; omega) trivial ((hs3.more (by omega)).below (hb4.mono (by omega))) (glow hb3 hb4)
      clear ho hown4 hgrow4 hs3
      go_wp2
      go_ret
      exact HF.out
    · have e0 : (r == 0) = false := by simp; omega
      have e1 : (r == 1) = false := by simp; omega
      have HF : Hid (NumsEnd B b (M + 8) 401 Any w (.returned v) w2) := numsEnd ho2 (by omega) trivial (hs2.more (by omega)) hb2
      clear ho2 hs2 h0 h1
      go_wp2
      go_ret
      exact HF.out
end Go.Proofs.YtknbndebfickpaaGreatDoor
