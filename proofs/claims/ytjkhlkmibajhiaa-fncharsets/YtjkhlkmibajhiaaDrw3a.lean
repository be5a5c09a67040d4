/- Bytes that the model draws: at most 401 of them, in memory of the draw's own; nothing that was there is turned; sources of at most 1048576 bytes. -/
import Derived.Test.YtjkhlkmibajhiaaDrw2
namespace Go.Proofs.Ytjkhlkmibajhiaa
open Go.RowKit

/-- How a draw of bytes ends: a plain word, so that no walk opens it. -/
def LongEnd (b C : Nat) (w : World) (e : Ending) (w' : World) : Prop := ∃ (v : Value) (out : List Nat), e = .returned v ∧ Own w' C v out ∧ IsB out ∧ out.length ≤ 401 ∧ Below b w w'
theorem longEnd {b C : Nat} {w w' : World} {v : Value} {out : List Nat} (h1 : Own w' C v out) (h2 : IsB out) (h3 : out.length ≤ 401) (h4 : Below b w w') : LongEnd b C w (.returned v) w' := ⟨v, out, rfl, h1, h2, h3, h4⟩

set_option maxHeartbeats 1600000 in
set_option maxRecDepth 100000 in
theorem l1Long_any (B b M : Nat) (w : World) (hs : Src w B b M) (hM : M ≤ 800) :
    Calls Try.prog 50 #[.pointer (some ⟨b, 0, none⟩)] w fun e w' => LongEnd b (b + 1) w e w' := by
  obtain ⟨i0, hi, hz0, hz1, hz2⟩ := info_parts infoB
  obtain ⟨hBb, hbw, _⟩ := id hs
  go_enter Try.func50, Try.ntmps50
  go_wp2_with fail
  refine (l1Chance_any B b M 30 _ hs (by omega) (by omega) (by omega)).mono ?_
  rintro e w1 ⟨q, rfl, hs1, hg1⟩
  have hb1 : Below b w w1 := (Below.refl _ _).grown hg1 (by omega) (by intro k hk; simp at hk; omega)
  have hzz := hg1.size
  cases q with
  | true =>
    have hs1' : Src (w1.alloc (.cells #[.int .i64 400, .int .i64 401] 2)) B b (M + 1) := hs1.below ((Below.refl _ _).alloc (by omega) _)
    go_wp2_with fail
    refine (l1Pick_any B b (M + 1) _ 2 2 [400, 401] _ hs1' (by omega) rfl (by omega) (by omega) (nums_new rfl) (by omega)).mono ?_
    rintro e w2 ⟨x, rfl, hx, _, hg2⟩
    have hx' : 400 ≤ x ∧ x ≤ 401 := by
      simp only [List.mem_cons, List.not_mem_nil, or_false] at hx
      omega
    obtain ⟨y, rfl⟩ := Int.eq_ofNat_of_zero_le (show 0 ≤ x by omega)
    have hb2 : Below b w w2 := (hb1.alloc (by omega) _).trans ((Below.refl _ _).grown hg2 (by simp; omega) (by intro k hk; simp at hk; omega))
    have hz2' : w1.heap.size + 1 ≤ w2.heap.size := by have := hg2.size; simpa using this
    clear hx hs1 hs1' hg1 hg2 hs
    go_wp2_with (at_make; refine wpList_make_full _ rfl _ _ 22 rfl (b + 1) 5 i0 (.int .u8 0) 1 Try.underlying22 hi hz0 hz1 .i64 .i64 _ _ y rfl rfl rfl rfl (by rw [hz2]; omega) (by unfold maxLen; omega) (by omega) ?_; intro w3 hown3 hgrow3)
    rw [made_bytes] at hown3
    have ho : Own w3 (b + 1) (.slice (some ⟨w2.heap.size, 0, none⟩) y y) (List.replicate y 0) := by unfold Own; rw [List.length_replicate]; exact hown3
    have hb3 : Below b w w3 := hb2.grown hgrow3 (by omega) (by intro k hk; cases hk)
    go_ret
    exact longEnd ho (fun z hz => by rw [List.mem_replicate] at hz; omega) (by rw [List.length_replicate]; omega) hb3
  | false =>
    go_wp2_with fail
    refine (l1Next_any B b (M + 1) 14 _ hs1 (by omega) (by omega) (by omega)).mono ?_
    rintro e w2 ⟨r, rfl, r0, r1, _, hs2, hg2⟩
    obtain ⟨y, rfl⟩ := Int.eq_ofNat_of_zero_le r0
    have hy : y < 14 := by have := r1 (by omega); omega
    have hb2 : Below b w w2 := hb1.trans ((Below.refl _ _).grown hg2 (by omega) (by intro k hk; simp at hk; omega))
    clear hs hs1 hg1 hg2 r1
    go_wp2_with fail
    refine (l1Some_any B b (M + 1 + 1) y _ hs2 (by omega) (by omega)).mono ?_
    rintro e w3 ⟨v, out, rfl, ho, hBo, hol, _, hb3⟩
    go_wp2
    go_ret
    exact longEnd ho hBo (by omega) (hb2.trans hb3)

theorem lwBig_any (a : Option Addr) (n cap : Nat) (w : World) :
    Calls Try.prog 11 #[.slice a n cap] w fun e w' => e = .returned (.bool (decide ((1048576 : Int) < (n : Int)))) ∧ w = w' := by
  go_enter Try.func11, Try.ntmps11
  go_wp2
  go_ret
  exact ⟨rfl, rfl⟩

set_option maxHeartbeats 800000 in
set_option maxRecDepth 100000 in
theorem lwSame_any (a c : Option Addr) (n cap cap' : Nat) (l : List Nat) (w : World) (hl : l.length = n) (hr : Rd w a l) (hs : Rd w c l) :
    Calls Try.prog 15 #[.slice a n cap, .slice c n cap'] w fun e w' => e = .returned (.bool true) ∧ w = w' := by
  have h1 := fun x => run_str (cap := x) hl hr
  have h2 := fun x => run_str (cap := x) hl hs
  go_enter Try.func15, Try.ntmps15
  go_wp2
  go_ret
  exact ⟨rfl, rfl⟩
end Go.Proofs.Ytjkhlkmibajhiaa
