/- Draws that leave all but their source as it was; no conditions beyond those that each fact names · Bytes that the model draws: their address is known, and how much of the source is used; sources of at most 1048576 bytes · What is drawn for SliceOf: bytes, two numbers; sources of at most 1048576 bytes · Words on memory, with no program in them: where a row of elements of four cells is read (messages: three numbers and bytes; mailboxes: a text, two numbers and messages), and what a copy in the making holds. -/
import Derived.Test.YtooifkdbpghcfaaGreatDoorDrwToDrl
import Derived.Test.YtooifkdbpghcfaaGreatDoorMrk0ToSee
import Derived.OpenShut
namespace Go.Proofs.YtooifkdbpghcfaaGreatDoor
open Go.RowKit

/-- Of what there was, all blocks but b stay. -/
def Kb (b : Nat) (w w' : World) : Prop := w.grownBy w' (some b)
theorem Kb.refl (b : Nat) (w : World) : Kb b w w := ⟨rfl, rfl, rfl, Nat.le_refl _, fun _ _ _ => rfl⟩
theorem Kb.below' {b : Nat} {w w1 w2 : World} (h : Kb b w w1) (hb : Below w.heap.size w1 w2) : Kb b w w2 := ⟨hb.os.trans h.os, hb.tape.trans h.tape, hb.output.trans h.output, Nat.le_trans h.size hb.size, fun k hk hne => (hb.block k hk).trans (h.block k hk hne)⟩
theorem Kb.below {b : Nat} {w w1 w2 : World} (h : Kb b w w1) (hb : Below w1.heap.size w1 w2) : Kb b w w2 := h.below' (hb.mono h.size)
theorem Kb.grown {b : Nat} {w w1 w2 : World} (h : Kb b w w1) (hg : w1.grownBy w2 (some b)) : Kb b w w2 :=
  ⟨hg.os.trans h.os, hg.tape.trans h.tape, hg.output.trans h.output, Nat.le_trans h.size hg.size, fun k hk hne => (hg.block k (Nat.lt_of_lt_of_le hk h.size) hne).trans (h.block k hk hne)⟩
theorem Kb.trans {b : Nat} {w w1 w2 : World} (h : Kb b w w1) (h' : Kb b w1 w2) : Kb b w w2 := h.grown h'

set_option maxHeartbeats 1600000 in
set_option maxRecDepth 100000 in
theorem l1Some_kb (B b M n : Nat) (w : World) (hs : Src w B b M) (hM : M + 2 * n ≤ 99000) (hn : n ≤ 100) :
    Calls Tryz.prog 57 #[.pointer (some ⟨b, 0, none⟩), .int .i64 (n : Int)] w fun e w' =>
      ∃ (v : Value) (out : List Nat), e = .returned v ∧ Own w' w.heap.size v out ∧ IsB out ∧ out.length = n ∧ Src w' B b (M + 2 * n) ∧ Below b w w' ∧ Kb b w w' := by
  obtain ⟨hBb, hbw, _⟩ := id hs
  go_enter Tryz.func57, Tryz.ntmps57
  go_wp2
  have hown0 : Own (w.alloc (.cells #[] 5)) w.heap.size (.slice (some ⟨w.heap.size, 0, none⟩) 0 0) [] := Own.lit w _ (Nat.le_refl _) #[] [] rfl (by decide)
  have hbel0 : Below b w (w.alloc (.cells #[] 5)) := (Below.refl _ _).alloc (by omega) _
  have hs0 : Src (w.alloc (.cells #[] 5)) B b M := hs.below ((Below.refl _ _).alloc (by omega) _)
  have hkb0 : Kb b w (w.alloc (.cells #[] 5)) := (Kb.refl b w).below ((Below.refl _ _).alloc (Nat.le_refl _) _)
  go_loopw [1, 5] (fun j v wr => ∃ (i : Nat) (out : List Nat), i ≤ n ∧ j = .int .i64 ((n - i : Nat) : Int) ∧ Own wr w.heap.size v out ∧ IsB out ∧ out.length = i ∧ Src wr B b (M + 2 * i) ∧ Below b w wr ∧ Kb b w wr)
    (fun j _ _ => (intOf j).toNat)
  case atStart => exact ⟨0, [], by omega, rfl, hown0, fun x hx => by simp at hx, rfl, hs0, hbel0, hkb0⟩
  case round =>
    obtain ⟨i, out, hi, rfl, hown, hBo, hol, hsr, hbel, hkb⟩ := hrel
    clear hown0 hbel0 hkb0 hs0 hs
    have hz := hbel.size
    by_cases hin : i < n
    · have hj : (0 : Int) < ((n - i : Nat) : Int) := by omega
      obtain ⟨_, hbr, _⟩ := id hsr
      go_wp2_with fail
      refine (l1Next_any B b (M + 2 * i) 256 _ hsr (by omega) (by omega) (by omega)).mono ?_
      rintro e w1 ⟨r, rfl, r0, r1, _, hs1, hg1⟩
      have ho1 := hown.keptG hg1 (by omega)
      have hb1 : Below b w w1 := hbel.trans ((Below.refl _ _).grown hg1 (by omega) (by intro k hk; simp at hk; omega))
      have hz1 := hg1.size
      have hkb1 := hkb.grown hg1
      have hs1' : Src (w1.alloc (.cells #[.int .i64 r, .int .i64 97, .int .i64 32, .int .i64 10, .int .i64 61, .int .i64 122] 2)) B b (M + 2 * i + 1) := hs1.below ((Below.refl _ _).alloc (by omega) _)
      have hr256 : r < 256 := r1 (by omega)
      go_wp2_with fail
      refine (l1Pick_any B b (M + 2 * i + 1) _ 6 6 [r, 97, 32, 10, 61, 122] _ hs1' (by omega) rfl (by omega) (by omega) (nums_new rfl) (by omega)).mono ?_
      rintro e w2 ⟨x, rfl, hx, hs2, hg2⟩
      have hx' : 0 ≤ x ∧ x < 256 := by
        simp only [List.mem_cons, List.not_mem_nil, or_false] at hx
        omega
      obtain ⟨y, rfl⟩ := Int.eq_ofNat_of_zero_le hx'.1
      have hy : y < 256 := by omega
      have ho2 := (ho1.alloc (.cells #[.int .i64 r, .int .i64 97, .int .i64 32, .int .i64 10, .int .i64 61, .int .i64 122] 2)).keptG hg2 (by omega)
      have hb2 : Below b w w2 := (hb1.alloc (by omega) _).trans ((Below.refl _ _).grown hg2 (by simp; omega) (by intro k hk; simp at hk; omega))
      have hz2 : w1.heap.size + 1 ≤ w2.heap.size := by have := hg2.size; simpa using this
      have hkb2 := (hkb1.below ((Below.refl _ _).alloc (Nat.le_refl _) _)).grown hg2
      have HKB2 : Hid (Kb b w w2) := hkb2
      clear hkb hkb1 hkb2
      have HS2 : Hid (Src w2 B b (M + 2 * i + 1 + 1)) := hs2
      clear hs1 hs1' hg1 hg2 ho1 hx hsr hown hs2 r1
      go_wp2_with (at_builtin; refine wpList_app_new rfl _ _ rfl w.heap.size _ out rfl ho2 1 1 [y] rfl rfl rfl (by omega) (by omega) ?_; intro v' w3 hown' hb')
      have hs3 : Hid (Src w3 B b (M + 2 * (i + 1))) := Src.below (w := w2) HS2.out (hb'.mono (by omega))
      go_wp2
      go_roundw
      case rel => exact ⟨i + 1, out ++ [y], by omega, by go_num, hown', fun z hz => by rcases List.mem_append.1 hz with h | h; exact hBo z h; simp at h; omega, by simp; omega, hs3.out, hb2.trans (hb'.mono (by omega)), HKB2.out.below' hb'⟩
      case measure => simp [intOf]; omega
    · have hii : i = n := by omega
      have hj : ¬ (0 : Int) < ((n - i : Nat) : Int) := by omega
      subst hii
      go_wp2
      go_ret
      exact ⟨_, rfl, out, hown, hBo, hol, hsr, hbel, hkb⟩
end Go.Proofs.YtooifkdbpghcfaaGreatDoor

namespace Go.Proofs.YtooifkdbpghcfaaGreatDoor
open Go.RowKit

theorem own_atN {w : World} {B : Nat} {v : Value} {l : List Nat} (h : Own w B v l) (hp : 0 < l.length) : ∃ g cp, v = .slice (some ⟨g, 0, none⟩) l.length cp ∧ l.length ≤ cp := by
  rcases h.2 with ⟨_, h0⟩ | ⟨g, cap, cur, h', _, _, h4, _⟩
  · omega
  · exact ⟨g, cap, h', h4⟩
theorem Src.upN {w : World} {B b M M' : Nat} (h : Src w B b M) (hM : M ≤ M') : Src w B b M' := by
  obtain ⟨h1, h2, a, n, cap, at', l, c0, c1, f1, hl, hn, hB, ha, hd⟩ := h
  exact ⟨h1, h2, a, n, cap, at', l, c0, c1, f1, hl, hn, hB, Nat.le_trans ha hM, hd⟩

set_option maxHeartbeats 1600000 in
set_option maxRecDepth 100000 in
theorem l1Some_nk (B b M n : Nat) (w : World) (hs : Src w B b M) (hM : M + 2 * n ≤ 99000) (hn : n ≤ 100) :
    Calls Tryz.prog 57 #[.pointer (some ⟨b, 0, none⟩), .int .i64 (n : Int)] w fun e w' =>
      ∃ (v : Value) (out : List Nat), e = .returned v ∧ Own w' w.heap.size v out ∧ (∃ g cp, v = .slice (some ⟨g, 0, none⟩) out.length cp ∧ out.length ≤ cp) ∧ IsB out ∧ out.length = n ∧ Src w' B b (M + 2 * n) ∧ Below b w w' ∧ Kb b w w' := by
  obtain ⟨hBb, hbw, _⟩ := id hs
  go_enter Tryz.func57, Tryz.ntmps57
  go_wp2
  have hown0 : Own (w.alloc (.cells #[] 5)) w.heap.size (.slice (some ⟨w.heap.size, 0, none⟩) 0 0) [] := Own.lit w _ (Nat.le_refl _) #[] [] rfl (by decide)
  have hbel0 : Below b w (w.alloc (.cells #[] 5)) := (Below.refl _ _).alloc (by omega) _
  have hs0 : Src (w.alloc (.cells #[] 5)) B b M := hs.below ((Below.refl _ _).alloc (by omega) _)
  have hkb0 : Kb b w (w.alloc (.cells #[] 5)) := (Kb.refl b w).below ((Below.refl _ _).alloc (Nat.le_refl _) _)
  go_loopw [1, 5] (fun j v wr => ∃ (i : Nat) (out : List Nat), i ≤ n ∧ j = .int .i64 ((n - i : Nat) : Int) ∧ Own wr w.heap.size v out ∧ (∃ g cp, v = .slice (some ⟨g, 0, none⟩) out.length cp ∧ out.length ≤ cp) ∧ IsB out ∧ out.length = i ∧ Src wr B b (M + 2 * i) ∧ Below b w wr ∧ Kb b w wr)
    (fun j _ _ => (intOf j).toNat)
  case atStart => exact ⟨0, [], by omega, rfl, hown0, ⟨_, _, rfl, Nat.le_refl _⟩, fun x hx => by simp at hx, rfl, hs0, hbel0, hkb0⟩
  case round =>
    obtain ⟨i, out, hi, rfl, hown, hat, hBo, hol, hsr, hbel, hkb⟩ := hrel
    clear hown0 hbel0 hkb0 hs0 hs
    have hz := hbel.size
    by_cases hin : i < n
    · have hj : (0 : Int) < ((n - i : Nat) : Int) := by omega
      obtain ⟨_, hbr, _⟩ := id hsr
      go_wp2_with fail
      refine (l1Next_any B b (M + 2 * i) 256 _ hsr (by omega) (by omega) (by omega)).mono ?_
      rintro e w1 ⟨r, rfl, r0, r1, _, hs1, hg1⟩
      have ho1 := hown.keptG hg1 (by omega)
      have hb1 : Below b w w1 := hbel.trans ((Below.refl _ _).grown hg1 (by omega) (by intro k hk; simp at hk; omega))
      have hz1 := hg1.size
      have hkb1 := hkb.grown hg1
      have hs1' : Src (w1.alloc (.cells #[.int .i64 r, .int .i64 97, .int .i64 32, .int .i64 10, .int .i64 61, .int .i64 122] 2)) B b (M + 2 * i + 1) := hs1.below ((Below.refl _ _).alloc (by omega) _)
      have hr256 : r < 256 := r1 (by omega)
      go_wp2_with fail
      refine (l1Pick_any B b (M + 2 * i + 1) _ 6 6 [r, 97, 32, 10, 61, 122] _ hs1' (by omega) rfl (by omega) (by omega) (nums_new rfl) (by omega)).mono ?_
      rintro e w2 ⟨x, rfl, hx, hs2, hg2⟩
      have hx' : 0 ≤ x ∧ x < 256 := by
        simp only [List.mem_cons, List.not_mem_nil, or_false] at hx
        omega
      obtain ⟨y, rfl⟩ := Int.eq_ofNat_of_zero_le hx'.1
      have hy : y < 256 := by omega
      have ho2 := (ho1.alloc (.cells #[.int .i64 r, .int .i64 97, .int .i64 32, .int .i64 10, .int .i64 61, .int .i64 122] 2)).keptG hg2 (by omega)
      have hb2 : Below b w w2 := (hb1.alloc (by omega) _).trans ((Below.refl _ _).grown hg2 (by simp; omega) (by intro k hk; simp at hk; omega))
      have hz2 : w1.heap.size + 1 ≤ w2.heap.size := by have := hg2.size; simpa using this
      have hkb2 := (hkb1.below ((Below.refl _ _).alloc (Nat.le_refl _) _)).grown hg2
      have HKB2 : Hid (Kb b w w2) := hkb2
      clear hkb hkb1 hkb2
      have HS2 : Hid (Src w2 B b (M + 2 * i + 1 + 1)) := hs2
      clear hs1 hs1' hg1 hg2 ho1 hx hsr hown hs2 r1
      go_wp2_with (at_builtin; refine wpList_app_new rfl _ _ rfl w.heap.size _ out rfl ho2 1 1 [y] rfl rfl rfl (by omega) (by omega) ?_; intro v' w3 hown' hb')
      have hat' := own_atN hown' (by simp)
      have hs3 : Hid (Src w3 B b (M + 2 * (i + 1))) := Src.below (w := w2) HS2.out (hb'.mono (by omega))
      go_wp2
      go_roundw
      case rel => exact ⟨i + 1, out ++ [y], by omega, by go_num, hown', hat', fun z hz => by rcases List.mem_append.1 hz with h | h; exact hBo z h; simp at h; omega, by simp; omega, hs3.out, hb2.trans (hb'.mono (by omega)), HKB2.out.below' hb'⟩
      case measure => simp [intOf]; omega
    · have hii : i = n := by omega
      have hj : ¬ (0 : Int) < ((n - i : Nat) : Int) := by omega
      subst hii
      go_wp2
      go_ret
      exact ⟨_, rfl, out, hown, hat, hBo, hol, hsr, hbel, hkb⟩
/-- How a draw of bytes ends. -/
def LgkEnd (B b M : Nat) (w : World) (e : Ending) (w' : World) : Prop := ∃ (g cp : Nat) (out : List Nat), e = .returned (.slice (some ⟨g, 0, none⟩) out.length cp) ∧ Own w' (b + 1) (.slice (some ⟨g, 0, none⟩) out.length cp) out ∧ out.length ≤ cp ∧ out.length ≤ 401 ∧ IsB out ∧ Src w' B b M ∧ Below b w w'
theorem Own.lowN {w : World} {B C : Nat} {v : Value} {l : List Nat} (h : Own w B v l) (hC : C ≤ B) : Own w C v l := by
  refine ⟨h.1, ?_⟩
  rcases h.2 with h' | ⟨g, cap, cur, h1, h2, h3, h4⟩
  · exact .inl h'
  · exact .inr ⟨g, cap, cur, h1, by omega, h3, h4⟩

set_option maxHeartbeats 1600000 in
set_option maxRecDepth 100000 in
theorem l1Long_nk (B b M : Nat) (w : World) (hs : Src w B b M) (hM : M ≤ 800) :
    Calls Tryz.prog 24 #[.pointer (some ⟨b, 0, none⟩)] w fun e w' => LgkEnd B b (M + 40) w e w' := by
  obtain ⟨i0, hi, hz0, hz1, hz2⟩ := info_parts infoB
  obtain ⟨hBb, hbw, _⟩ := id hs
  go_enter Tryz.func24, Tryz.ntmps24
  go_wp2_with fail
  refine (l1Chance_any B b M 30 _ hs (by omega) (by omega) (by omega)).mono ?_
  rintro e w1 ⟨q, rfl, hs1, hg1⟩
  have hb1 : Below b w w1 := (Below.refl _ _).grown hg1 (by omega) (by intro k hk; simp at hk; omega)
  have hzz := hg1.size
  cases q with
  | true =>
    have hs1' : Src (w1.alloc (.cells #[.int .i64 400, .int .i64 401] 2)) B b (M + 1) := hs1.below ((Below.refl _ _).alloc (by omega) _)
    go_wp2_with fail
    refine (l1Pick_any B b (M + 1) _ 2 2 [400, 401] _ hs1' (by omega) rfl (by omega) (by omega) (nums_new rfl) (by omega)).mono ?_
    rintro e w2 ⟨x, rfl, hx, hs2, hg2⟩
    have hx' : 400 ≤ x ∧ x ≤ 401 := by
      simp only [List.mem_cons, List.not_mem_nil, or_false] at hx
      omega
    obtain ⟨y, rfl⟩ := Int.eq_ofNat_of_zero_le (show 0 ≤ x by omega)
    have hb2 : Below b w w2 := (hb1.alloc (by omega) _).trans ((Below.refl _ _).grown hg2 (by simp; omega) (by intro k hk; simp at hk; omega))
    have hz2' : w1.heap.size + 1 ≤ w2.heap.size := by have := hg2.size; simpa using this
    have HS2 : Hid (Src w2 B b (M + 1 + 1)) := hs2
    clear hx hs1 hs1' hg1 hg2 hs hs2
    go_wp2_with (at_make; refine wpList_make_full _ rfl _ _ 22 rfl (b + 1) 5 i0 (.int .u8 0) 1 Tryz.underlying22 hi hz0 hz1 .i64 .i64 _ _ y rfl rfl rfl rfl (by rw [hz2]; omega) (by unfold maxLen; omega) (by omega) ?_; intro w3 hown3 hgrow3)
    rw [made_bytes] at hown3
    have ho : Own w3 (b + 1) (.slice (some ⟨w2.heap.size, 0, none⟩) y y) (List.replicate y 0) := by unfold Own; rw [List.length_replicate]; exact hown3
    have hb3 : Below b w w3 := hb2.grown hgrow3 (by omega) (by intro k hk; cases hk)
    go_ret
    refine ⟨w2.heap.size, y, List.replicate y 0, by rw [List.length_replicate]; rfl, by rw [List.length_replicate]; exact ho, by rw [List.length_replicate]; exact Nat.le_refl _, by rw [List.length_replicate]; omega, fun z hz => by rw [List.mem_replicate] at hz; omega, HS2.out.below (((Below.refl _ _).grown hgrow3 (by omega) (by intro k hk; cases hk)).mono (by omega)) |>.upN (by omega), hb3⟩
  | false =>
    go_wp2_with fail
    refine (l1Next_any B b (M + 1) 14 _ hs1 (by omega) (by omega) (by omega)).mono ?_
    rintro e w2 ⟨r, rfl, r0, r1, _, hs2, hg2⟩
    obtain ⟨y, rfl⟩ := Int.eq_ofNat_of_zero_le r0
    have hy : y < 14 := by have := r1 (by omega); omega
    have hb2 : Below b w w2 := hb1.trans ((Below.refl _ _).grown hg2 (by omega) (by intro k hk; simp at hk; omega))
    clear hs hs1 hg1 hg2 r1
    go_wp2_with fail
    refine (l1Some_nk B b (M + 1 + 1) y _ hs2 (by omega) (by omega)).mono ?_
    rintro e w3 ⟨v, out, rfl, ho, ⟨g, cp, rfl, hcp⟩, hBo, hol, hs3, hb3, -⟩
    have HS3 : Hid (Src w3 B b (M + 40)) := hs3.upN (by omega)
    have hz2 : b + 1 ≤ w2.heap.size := by have := hs2.2.1; omega
    have ho' := ho.lowN hz2
    clear hs2 hs3 ho
    go_wp2
    go_ret
    exact ⟨g, cp, out, by rw [hol]; rfl, ho', hcp, by omega, hBo, HS3.out, hb2.trans hb3⟩
end Go.Proofs.YtooifkdbpghcfaaGreatDoor

namespace Go.Proofs.YtooifkdbpghcfaaGreatDoor
open Go.RowKit
set_option linter.unusedVariables false

/-- What is drawn. -/
def SfEnd (w : World) (e : Ending) (w' : World) : Prop := ∃ (d : List Nat) (g cp : Nat) (f n : Int), e = .returned (.tuple #[.slice (some ⟨g, 0, none⟩) d.length cp, .int .i64 f, .int .i64 n]) ∧ Own w' (w.heap.size + 1) (.slice (some ⟨g, 0, none⟩) d.length cp) d ∧ d.length ≤ cp ∧ d.length ≤ 401 ∧ IsB d ∧ Below w.heap.size w w'

set_option maxHeartbeats 6400000 in
set_option maxRecDepth 100000 in
theorem drawSliceOf_any (a : Option Addr) (n cap : Nat) (l : List Nat) (w : World) (hl : l.length = n) (hr : Rd w a l) (hB0 : IsB l) (hn : n ≤ 1048576) :
    Calls Tryz.prog 6 #[.slice a n cap] w fun e w' => SfEnd w e w' := by
  go_enter Tryz.func6, Tryz.ntmps6
  go_wp2_with fail
  refine (l1Source_any a n cap l _ hl hr hB0 hn).mono ?_
  rintro e w1 ⟨rfl, hs1, hb1⟩
  have HE : Hid (∀ e w', SfEnd w e w' → SfEnd w e w') := fun _ _ h => h
  obtain ⟨b, hbb⟩ : ∃ b, w.heap.size = b := ⟨_, rfl⟩
  rw [hbb] at hs1 ⊢
  have hbw1 : b < w1.heap.size := hs1.2.1
  go_wp2_with fail
  refine (l1Long_nk b b 0 w1 hs1 (by omega)).mono ?_
  rintro e w2 ⟨g, cp, d, rfl, ho2, hcp, h401, hBd, hs2, hb2⟩
  have hB2 : Below w.heap.size w w2 := by rw [hbb] at hb1 ⊢; exact hb1.trans hb2
  have hbw2 : b < w2.heap.size := hs2.2.1
  obtain ⟨N, hN⟩ : ∃ N, d.length = N := ⟨_, rfl⟩
  have HF : Hid (∀ (f n : Int) w', Own w' (b + 1) (.slice (some ⟨g, 0, none⟩) N cp) d → Below w.heap.size w w' → SfEnd w (.returned (.tuple #[.slice (some ⟨g, 0, none⟩) N cp, .int .i64 f, .int .i64 n])) w') := fun f n w' h1 h2 => ⟨d, g, cp, f, n, by rw [hN], by rw [hN, hbb]; exact h1, hcp, h401, hBd, h2⟩
  rw [hN] at ho2
  rw [hN]
  clear hb1 hb2 hs1 HE hcp h401 hBd
  have ho := ho2
  have hs := hs2
  have hB := hB2
  clear ho2 hs2 hB2
  go_wp2_with fail
  refine (l1Next_any b b 40 12 w2 hs (by omega) (by omega) (by omega)).mono ?_
  rintro e w3 ⟨u1, rfl, -, -, -, hs', hk⟩
  have ho' := ho.keptG hk (by omega)
  have hz' := World.grownBy.size hk
  have hB' : Below w.heap.size w w3 := hB.trans ((gbelow hk (by omega)).mono (by omega))
  have hb' : b < w3.heap.size := by omega
  clear ho hk hB hs
  have ho := ho'
  have hs := hs'
  have hB := hB'
  clear ho' hs' hB'
  go_wp2_with fail
  refine (l1Next_any b b (40 + 1) 12 w3 hs (by omega) (by omega) (by omega)).mono ?_
  rintro e w4 ⟨u2, rfl, -, -, -, hs', hk⟩
  have ho' := ho.keptG hk (by omega)
  have hz' := World.grownBy.size hk
  have hB' : Below w.heap.size w w4 := hB.trans ((gbelow hk (by omega)).mono (by omega))
  have hb' : b < w4.heap.size := by omega
  clear ho hk hB hs
  have ho := ho'
  have hs := hs'
  have hB := hB'
  clear ho' hs' hB'
  obtain ⟨X1, hX1⟩ : ∃ W, w4.alloc (.cells #[.int .i64 u1, .int .i64 u2, .int .i64 400, .int .i64 401, .int .i64 (-1)] 2) = W := ⟨_, rfl⟩
  have hbP : Below w4.heap.size w4 X1 := by rw [← hX1]; exact (Below.refl _ _).alloc (Nat.le_refl _) _
  have HNW : Hid (Nums X1 w4.heap.size [u1, u2, 400, 401, -1]) := by show Nums _ _ _; rw [← hX1]; exact nums_new rfl
  have hs1 := hs.below (hbP.mono (by omega))
  have ho1 := ho.below hbP (Nat.le_refl _)
  have hB1 := hB.trans (hbP.mono hB.size)
  have hzP := hbP.size
  have HP : Hid (_ = X1) := hX1
  clear hs ho hB hbP hX1
  go_wp2_with (rw [HP.out])
  refine (l1Pick_any b b (40 + 1 + 1) w4.heap.size 5 5 [u1, u2, 400, 401, -1] X1 hs1 (by omega) rfl (by omega) (by omega) HNW.out (by omega)).mono ?_
  rintro e w5 ⟨f, rfl, -, hs, hk⟩
  have ho := ho1.keptG hk (by omega)
  have hz' := World.grownBy.size hk
  have hB : Below w.heap.size w w5 := hB1.trans ((gbelow hk (by omega)).mono (by omega))
  have hb' : b < w5.heap.size := by omega
  clear ho1 hk hB1 hs1 HNW HP
  go_wp2_with fail
  refine (l1Next_any b b (40 + 1 + 1 + 1) 12 w5 hs (by omega) (by omega) (by omega)).mono ?_
  rintro e w6 ⟨u3, rfl, -, -, -, hs', hk⟩
  have ho' := ho.keptG hk (by omega)
  have hz' := World.grownBy.size hk
  have hB' : Below w.heap.size w w6 := hB.trans ((gbelow hk (by omega)).mono (by omega))
  have hb' : b < w6.heap.size := by omega
  clear ho hk hB hs
  have ho := ho'
  have hs := hs'
  have hB := hB'
  clear ho' hs' hB'
  go_wp2_with fail
  refine (l1Next_any b b (40 + 1 + 1 + 1 + 1) 12 w6 hs (by omega) (by omega) (by omega)).mono ?_
  rintro e w7 ⟨u4, rfl, -, -, -, hs', hk⟩
  have ho' := ho.keptG hk (by omega)
  have hz' := World.grownBy.size hk
  have hB' : Below w.heap.size w w7 := hB.trans ((gbelow hk (by omega)).mono (by omega))
  have hb' : b < w7.heap.size := by omega
  clear ho hk hB hs
  have ho := ho'
  have hs := hs'
  have hB := hB'
  clear ho' hs' hB'
  obtain ⟨X2, hX2⟩ : ∃ W, w7.alloc (.cells #[.int .i64 u3, .int .i64 u4, .int .i64 400, .int .i64 401, .int .i64 (-1)] 2) = W := ⟨_, rfl⟩
  have hbP : Below w7.heap.size w7 X2 := by rw [← hX2]; exact (Below.refl _ _).alloc (Nat.le_refl _) _
  have HNW : Hid (Nums X2 w7.heap.size [u3, u4, 400, 401, -1]) := by show Nums _ _ _; rw [← hX2]; exact nums_new rfl
  have hs1 := hs.below (hbP.mono (by omega))
  have ho1 := ho.below hbP (Nat.le_refl _)
  have hB1 := hB.trans (hbP.mono hB.size)
  have hzP := hbP.size
  have HP : Hid (_ = X2) := hX2
  clear hs ho hB hbP hX2
  go_wp2_with (rw [HP.out])
  refine (l1Pick_any b b (40 + 1 + 1 + 1 + 1 + 1) w7.heap.size 5 5 [u3, u4, 400, 401, -1] X2 hs1 (by omega) rfl (by omega) (by omega) HNW.out (by omega)).mono ?_
  rintro e w8 ⟨t, rfl, -, hs, hk⟩
  have ho := ho1.keptG hk (by omega)
  have hz' := World.grownBy.size hk
  have hB : Below w.heap.size w w8 := hB1.trans ((gbelow hk (by omega)).mono (by omega))
  have hb' : b < w8.heap.size := by omega
  clear ho1 hk hB1 hs1 HNW HP
  go_wp2
  refine bodyPost_ret (v := .tuple #[.slice (some ⟨g, 0, none⟩) N cp, .int .i64 f, .int .i64 t]) (by simp [results, Tryz.results6, go_sem]) rfl ?_
  exact HF.out f t _ ho hB
end Go.Proofs.YtooifkdbpghcfaaGreatDoor

namespace Go.Proofs.YtooifkdbpghcfaaGreatDoor
open Go.RowKit

/-- A slice by its address, its length and its room. -/
abbrev SlQ := Option Addr × Nat × Nat
abbrev slW (p : SlQ) : Value := .slice p.1 p.2.1 p.2.2
/-- Four cells. -/
abbrev Qd := Value × Value × Value × Value
def qc (l : List Qd) : List Value := l.flatMap fun p => [p.1, p.2.1, p.2.2.1, p.2.2.2]
/-- A MESSAGE: Uid, flags, date, bytes. -/
structure Msg where
  u : Int
  f : Int
  d : Int
  b : List Nat
def nthM (l : List Msg) (i : Nat) : Msg := l.getD i ⟨0, 0, 0, []⟩
/-- From the block lo on all cells stay. -/
def Near (lo : Nat) (w w' : World) : Prop := w.heap.size ≤ w'.heap.size ∧ ∀ p : Addr, lo ≤ p.block → p.block < w.heap.size → w'.cell? p = w.cell? p
theorem Near.refl (lo : Nat) (w : World) : Near lo w w := ⟨Nat.le_refl _, fun _ _ _ => rfl⟩
theorem Near.of_below {lo : Nat} {w w' : World} (hb : Below w.heap.size w w') : Near lo w w' := ⟨hb.size, fun _ _ hlt => hb.cell hlt⟩
theorem Near.trans {lo : Nat} {w w' w'' : World} (h : Near lo w w') (h' : Near lo w' w'') : Near lo w w'' := ⟨Nat.le_trans h.1 h'.1, fun p hp hlt => (h'.2 p hp (Nat.lt_of_lt_of_le hlt h.1)).trans (h.2 p hp hlt)⟩
theorem Near.mono {lo lo' : Nat} {w w' : World} (h : Near lo w w') (hl : lo ≤ lo') : Near lo' w w' := ⟨h.1, fun p hp hlt => h.2 p (Nat.le_trans hl hp) hlt⟩
theorem Near.set {lo : Nat} {w : World} {g j : Nat} (v : Value) (hg : g < lo) : Near lo w (w.setCell ⟨g, j, none⟩ v) :=
  ⟨by simp, fun p hp _ => World.cell?_setCell_other _ _ _ _ (fun h => by subst h; exact absurd hg (Nat.not_lt.2 hp))⟩
theorem Rd.near {lo : Nat} {w w' : World} {a : Option Addr} {l : List Nat} (h : Rd w a l) (hlo : ∀ x, a = some x → lo ≤ x.block) (hb : Near lo w w') : Rd w' a l := by
  rcases h with h | ⟨b, off, e, hlt, hc⟩
  · exact .inl h
  · have := hlo _ e
    exact .inr ⟨b, off, e, Nat.lt_of_lt_of_le hlt hb.1, fun i hi => (hb.2 ⟨b, off + i, none⟩ this hlt).trans (hc i hi)⟩

/-- The slice s, from the block lo on, holds the bytes d. -/
def IsSl (lo : Nat) (w : World) (s : SlQ) (d : List Nat) : Prop := d.length = s.2.1 ∧ s.2.1 ≤ s.2.2 ∧ s.2.2 ≤ maxLen ∧ IsB d ∧ Rd w s.1 d ∧ ∀ x, s.1 = some x → lo ≤ x.block
theorem IsSl.near {lo : Nat} {w w' : World} {s : SlQ} {d : List Nat} (h : IsSl lo w s d) (hb : Near lo w w') : IsSl lo w' s d := ⟨h.1, h.2.1, h.2.2.1, h.2.2.2.1, h.2.2.2.2.1.near h.2.2.2.2.2 hb, h.2.2.2.2.2⟩
theorem IsSl.below {lo : Nat} {w w' : World} {s : SlQ} {d : List Nat} (h : IsSl lo w s d) (hb : Below w.heap.size w w') : IsSl lo w' s d := h.near (.of_below hb)
theorem IsSl.low {lo lo' : Nat} {w : World} {s : SlQ} {d : List Nat} (h : IsSl lo w s d) (hl : lo' ≤ lo) : IsSl lo' w s d := ⟨h.1, h.2.1, h.2.2.1, h.2.2.2.1, h.2.2.2.2.1, fun x hx => Nat.le_trans hl (h.2.2.2.2.2 x hx)⟩

/-- WHERE A SLICE OF MESSAGES IS READ, from the block lo on. -/
def RdM (lo : Nat) (w : World) (a : Option Addr) (l : List Msg) : Prop :=
  l = [] ∨ ∃ b off, a = some ⟨b, off, none⟩ ∧ lo ≤ b ∧ b < w.heap.size ∧ ∀ i, i < l.length → ∃ s, (w.cell? ⟨b, off + i * 4, none⟩ = some (.int .i64 (nthM l i).u) ∧ w.cell? ⟨b, off + i * 4 + 1, none⟩ = some (.int .i64 (nthM l i).f) ∧ w.cell? ⟨b, off + i * 4 + 2, none⟩ = some (.int .i64 (nthM l i).d) ∧ w.cell? ⟨b, off + i * 4 + 3, none⟩ = some (slW s)) ∧ IsSl lo w s (nthM l i).b
theorem RdM.near {lo : Nat} {w w' : World} {a : Option Addr} {l : List Msg} (h : RdM lo w a l) (hb : Near lo w w') : RdM lo w' a l := by
  rcases h with h | ⟨b, off, e, hlo, hlt, hc⟩
  · exact .inl h
  · refine .inr ⟨b, off, e, hlo, Nat.lt_of_lt_of_le hlt hb.1, fun i hi => ?_⟩
    obtain ⟨s, ⟨c0, c1, c2, c3⟩, hs⟩ := hc i hi
    exact ⟨s, ⟨(hb.2 ⟨b, off + i * 4, none⟩ hlo hlt).trans c0, (hb.2 ⟨b, off + i * 4 + 1, none⟩ hlo hlt).trans c1, (hb.2 ⟨b, off + i * 4 + 2, none⟩ hlo hlt).trans c2, (hb.2 ⟨b, off + i * 4 + 3, none⟩ hlo hlt).trans c3⟩, hs.near hb⟩
theorem RdM.below {lo : Nat} {w w' : World} {a : Option Addr} {l : List Msg} (h : RdM lo w a l) (hb : Below w.heap.size w w') : RdM lo w' a l := h.near (.of_below hb)
theorem RdM.low {lo lo' : Nat} {w : World} {a : Option Addr} {l : List Msg} (h : RdM lo w a l) (hl : lo' ≤ lo) : RdM lo' w a l := by
  rcases h with h | ⟨b, off, e, hlo, hlt, hc⟩
  · exact .inl h
  · refine .inr ⟨b, off, e, Nat.le_trans hl hlo, hlt, fun i hi => ?_⟩
    obtain ⟨s, c, hs⟩ := hc i hi
    exact ⟨s, c, hs.low hl⟩
theorem RdM.at_ {lo : Nat} {w : World} {a : Option Addr} {l : List Msg} (h : RdM lo w a l) (hp : 0 < l.length) :
    ∃ b off, a = some ⟨b, off, none⟩ ∧ lo ≤ b ∧ b < w.heap.size ∧ ∀ i, i < l.length → ∃ s, (w.cell? ⟨b, off + i * 4, none⟩ = some (.int .i64 (nthM l i).u) ∧ w.cell? ⟨b, off + i * 4 + 1, none⟩ = some (.int .i64 (nthM l i).f) ∧ w.cell? ⟨b, off + i * 4 + 2, none⟩ = some (.int .i64 (nthM l i).d) ∧ w.cell? ⟨b, off + i * 4 + 3, none⟩ = some (slW s)) ∧ IsSl lo w s (nthM l i).b := by
  rcases h with h | h
  · rw [h] at hp; simp at hp
  · exact h
def IsMs (lo : Nat) (w : World) (s : SlQ) (l : List Msg) : Prop := l.length = s.2.1 ∧ s.2.1 ≤ s.2.2 ∧ s.2.2 ≤ maxLen ∧ RdM lo w s.1 l
theorem IsMs.near {lo : Nat} {w w' : World} {s : SlQ} {l : List Msg} (h : IsMs lo w s l) (hb : Near lo w w') : IsMs lo w' s l := ⟨h.1, h.2.1, h.2.2.1, h.2.2.2.near hb⟩
theorem IsMs.below {lo : Nat} {w w' : World} {s : SlQ} {l : List Msg} (h : IsMs lo w s l) (hb : Below w.heap.size w w') : IsMs lo w' s l := h.near (.of_below hb)
theorem IsMs.low {lo lo' : Nat} {w : World} {s : SlQ} {l : List Msg} (h : IsMs lo w s l) (hl : lo' ≤ lo) : IsMs lo' w s l := ⟨h.1, h.2.1, h.2.2.1, h.2.2.2.low hl⟩

/-- A MAILBOX: a name, a validity, the next Uid, messages. -/
structure Bx where
  n : ByteArray
  v : Int
  x : Int
  m : List Msg
def nthX (l : List Bx) (i : Nat) : Bx := l.getD i ⟨ByteArray.empty, 0, 0, []⟩
/-- WHERE A SLICE OF MAILBOXES IS READ, from the block lo on. -/
def RdX (lo : Nat) (w : World) (a : Option Addr) (l : List Bx) : Prop :=
  l = [] ∨ ∃ b off, a = some ⟨b, off, none⟩ ∧ lo ≤ b ∧ b < w.heap.size ∧ ∀ i, i < l.length → ∃ s, (w.cell? ⟨b, off + i * 4, none⟩ = some (.string (nthX l i).n) ∧ w.cell? ⟨b, off + i * 4 + 1, none⟩ = some (.int .i64 (nthX l i).v) ∧ w.cell? ⟨b, off + i * 4 + 2, none⟩ = some (.int .i64 (nthX l i).x) ∧ w.cell? ⟨b, off + i * 4 + 3, none⟩ = some (slW s)) ∧ IsMs lo w s (nthX l i).m
theorem RdX.near {lo : Nat} {w w' : World} {a : Option Addr} {l : List Bx} (h : RdX lo w a l) (hb : Near lo w w') : RdX lo w' a l := by
  rcases h with h | ⟨b, off, e, hlo, hlt, hc⟩
  · exact .inl h
  · refine .inr ⟨b, off, e, hlo, Nat.lt_of_lt_of_le hlt hb.1, fun i hi => ?_⟩
    obtain ⟨s, ⟨c0, c1, c2, c3⟩, hs⟩ := hc i hi
    exact ⟨s, ⟨(hb.2 ⟨b, off + i * 4, none⟩ hlo hlt).trans c0, (hb.2 ⟨b, off + i * 4 + 1, none⟩ hlo hlt).trans c1, (hb.2 ⟨b, off + i * 4 + 2, none⟩ hlo hlt).trans c2, (hb.2 ⟨b, off + i * 4 + 3, none⟩ hlo hlt).trans c3⟩, hs.near hb⟩
theorem RdX.below {lo : Nat} {w w' : World} {a : Option Addr} {l : List Bx} (h : RdX lo w a l) (hb : Below w.heap.size w w') : RdX lo w' a l := h.near (.of_below hb)
theorem RdX.low {lo lo' : Nat} {w : World} {a : Option Addr} {l : List Bx} (h : RdX lo w a l) (hl : lo' ≤ lo) : RdX lo' w a l := by
  rcases h with h | ⟨b, off, e, hlo, hlt, hc⟩
  · exact .inl h
  · refine .inr ⟨b, off, e, Nat.le_trans hl hlo, hlt, fun i hi => ?_⟩
    obtain ⟨s, c, hs⟩ := hc i hi
    exact ⟨s, c, hs.low hl⟩
theorem RdX.at_ {lo : Nat} {w : World} {a : Option Addr} {l : List Bx} (h : RdX lo w a l) (hp : 0 < l.length) :
    ∃ b off, a = some ⟨b, off, none⟩ ∧ lo ≤ b ∧ b < w.heap.size ∧ ∀ i, i < l.length → ∃ s, (w.cell? ⟨b, off + i * 4, none⟩ = some (.string (nthX l i).n) ∧ w.cell? ⟨b, off + i * 4 + 1, none⟩ = some (.int .i64 (nthX l i).v) ∧ w.cell? ⟨b, off + i * 4 + 2, none⟩ = some (.int .i64 (nthX l i).x) ∧ w.cell? ⟨b, off + i * 4 + 3, none⟩ = some (slW s)) ∧ IsMs lo w s (nthX l i).m := by
  rcases h with h | h
  · rw [h] at hp; simp at hp
  · exact h
def IsXs (lo : Nat) (w : World) (s : SlQ) (l : List Bx) : Prop := l.length = s.2.1 ∧ s.2.1 ≤ s.2.2 ∧ s.2.2 ≤ maxLen ∧ RdX lo w s.1 l
theorem IsXs.near {lo : Nat} {w w' : World} {s : SlQ} {l : List Bx} (h : IsXs lo w s l) (hb : Near lo w w') : IsXs lo w' s l := ⟨h.1, h.2.1, h.2.2.1, h.2.2.2.near hb⟩
theorem IsXs.below {lo : Nat} {w w' : World} {s : SlQ} {l : List Bx} (h : IsXs lo w s l) (hb : Below w.heap.size w w') : IsXs lo w' s l := h.near (.of_below hb)
theorem IsXs.low {lo lo' : Nat} {w : World} {s : SlQ} {l : List Bx} (h : IsXs lo w s l) (hl : lo' ≤ lo) : IsXs lo' w s l := ⟨h.1, h.2.1, h.2.2.1, h.2.2.2.low hl⟩

end Go.Proofs.YtooifkdbpghcfaaGreatDoor
