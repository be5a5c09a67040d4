/- The model's draws of characters: each ends with some numbers, in memory of the draw's own; nothing that was there is turned but the source; sources of at most 1048576 bytes · The draw of uids; no conditions beyond those that each fact names. -/
import Derived.Test.YtdcgihcjiiemdaaDoorDrw2ToAppI
namespace Go.Proofs.YtdcgihcjiiemdaaDoor
open Go.RowKit

theorem OwnI.keptG {w w' : World} {B b : Nat} {v : Value} {l : List Int} (h : OwnI w B v l) (hg : w.grownBy w' (some b)) (hb : b < B) : OwnI w' B v l := by
  refine World.ownsRow.kept h hg ?_
  cases hv : v.ownBlock with
  | none => exact .inl rfl
  | some k => right; intro e; have := (h.lt k hv).1; simp at e; omega
theorem gthen {w w1 w2 : World} {row : Option Nat} (h : w.grownBy w1 row) (k : w1.grownBy w2 row) : w.grownBy w2 row := ⟨k.os.trans h.os, k.tape.trans h.tape, k.output.trans h.output, Nat.le_trans h.size k.size, fun g hg hne => (k.block g (Nat.lt_of_lt_of_le hg h.size) hne).trans (h.block g hg hne)⟩
theorem glow {w w1 w2 : World} {row : Option Nat} (h : w.grownBy w1 row) (k : Below w.heap.size w1 w2) : w.grownBy w2 row := ⟨k.os.trans h.os, k.tape.trans h.tape, k.output.trans h.output, Nat.le_trans h.size k.size, fun g hg hne => (k.block g hg).trans (h.block g hg hne)⟩
theorem gnew {w w1 : World} {row : Option Nat} (h : w.grownBy w1 row) (o : Obj) : w.grownBy (w1.alloc o) row := gthen h (World.grownBy_alloc _ _ _)
theorem gbelow {w w1 : World} {b : Nat} (h : w.grownBy w1 (some b)) (hb : b < w.heap.size) : Below b w w1 := (Below.refl _ _).grown h (by omega) (by intro k hk; simp at hk; omega)
/-- How a draw of numbers ends: a plain word, so that no walk opens it. -/
def NumsEnd (B b M K : Nat) (V : List Int → Prop) (w : World) (e : Ending) (w' : World) : Prop := ∃ (v : Value) (out : List Int), e = .returned v ∧ OwnI w' w.heap.size v out ∧ out.length ≤ K ∧ V out ∧ Src w' B b M ∧ w.grownBy w' (some b)
theorem numsEnd {B b M K : Nat} {V : List Int → Prop} {w w' : World} {v : Value} {out : List Int} (h1 : OwnI w' w.heap.size v out) (h3 : out.length ≤ K) (h2 : V out) (h5 : Src w' B b M) (h4 : w.grownBy w' (some b)) : NumsEnd B b M K V w (.returned v) w' := ⟨v, out, rfl, h1, h3, h2, h5, h4⟩
def Any (_ : List Int) : Prop := True
/-- The characters that the model draws. -/
def Drawn (l : List Int) : Prop := ∀ x ∈ l, x ∈ [97, 66, 32, 228, 1078, 1046, 8470, 167, 8364, 127, 160, 1037, (0 : Int)]
theorem Drawn.nil : Drawn [] := fun _ h => by simp at h
theorem Drawn.snoc {l : List Int} {x : Int} (h : Drawn l) (hx : x ∈ [97, 66, 32, 228, 1078, 1046, 8470, 167, 8364, 127, 160, (1037 : Int)]) : Drawn (l ++ [x]) := fun y hy => by
  rcases List.mem_append.1 hy with hy | hy
  · exact h y hy
  · rw [List.mem_singleton] at hy
    subst hy
    simp only [List.mem_cons, List.not_mem_nil, or_false] at hx ⊢
    omega
set_option maxHeartbeats 1600000 in
set_option maxRecDepth 100000 in
theorem l2Codes_any (B b M : Nat) (w : World) (hs : Src w B b M) (hM : M ≤ 99000) :
    Calls Tryd.prog 71 #[.pointer (some ⟨b, 0, none⟩)] w fun e w' => NumsEnd B b (M + 6) 6 Drawn w e w' := by
  obtain ⟨hBb, hbw, _⟩ := id hs
  have hown0 : OwnI (w.alloc (.cells #[] 2)) w.heap.size (.slice (some ⟨w.heap.size, 0, none⟩) 0 0) [] := OwnI.lit w _ (Nat.le_refl _) #[] [] rfl (by decide)
  have hbel0 : w.grownBy (w.alloc (.cells #[] 2)) (some b) := World.grownBy_alloc _ _ _
  have hs0 : Src (w.alloc (.cells #[] 2)) B b M := hs.below ((Below.refl _ _).alloc (by omega) _)
  go_enter Tryd.func71, Tryd.ntmps71
  go_wp2_with fail
  refine (l1Next_any B b M 6 _ hs0 (by omega) (by omega) (by omega)).mono ?_
  rintro e w1 ⟨r, rfl, r0, r1, _, hs1, hg1⟩
  obtain ⟨n, rfl⟩ := Int.eq_ofNat_of_zero_le r0
  have hn6 : n < 6 := by have := r1 (by omega); omega
  have hown1 := hown0.keptG hg1 (by omega)
  have hb1 : w.grownBy w1 (some b) := gthen hbel0 hg1
  have HA : Hid (OwnI w1 w.heap.size (.slice (some ⟨w.heap.size, 0, none⟩) 0 0) [] ∧ Src w1 B b (M + 1) ∧ w.grownBy w1 (some b)) := ⟨hown1, hs1, hb1⟩
  clear hs hs0 hg1 hown0 hbel0 hown1 hs1 hb1 r1
  go_wp2
  go_loopw [3, 4] (fun v j wr => ∃ (i : Nat) (out : List Int), i ≤ n ∧ j = .int .i64 ((n - i : Nat) : Int) ∧ OwnI wr w.heap.size v out ∧ out.length = i ∧ Drawn out ∧ Src wr B b (M + 1 + i) ∧ w.grownBy wr (some b))
    (fun _ j _ => (intOf j).toNat)
  case atStart => exact ⟨0, [], by omega, rfl, HA.out.1, rfl, Drawn.nil, HA.out.2.1, HA.out.2.2⟩
  case round =>
    obtain ⟨i, out, hi, rfl, hown, hol, hV, hsr, hbel⟩ := hrel
    clear HA
    have hz := hbel.size
    by_cases hin : i < n
    · have hj : (0 : Int) < ((n - i : Nat) : Int) := by omega
      obtain ⟨_, hbr, _⟩ := id hsr
      have hs1' : Src (wr.alloc (.cells #[.int .i64 97, .int .i64 66, .int .i64 32, .int .i64 228, .int .i64 1078, .int .i64 1046, .int .i64 8470, .int .i64 167, .int .i64 8364, .int .i64 127, .int .i64 160, .int .i64 1037] 2)) B b (M + 1 + i) := hsr.below ((Below.refl _ _).alloc (by omega) _)
      go_wp2_with fail
      refine (l1Pick_any B b (M + 1 + i) _ 12 12 [97, 66, 32, 228, 1078, 1046, 8470, 167, 8364, 127, 160, 1037] _ hs1' (by omega) rfl (by omega) (by omega) (nums_new rfl) (by omega)).mono ?_
      rintro e w2 ⟨x, rfl, hx, hs2, hg2⟩
      have ho2 := (hown.alloc (.cells #[.int .i64 97, .int .i64 66, .int .i64 32, .int .i64 228, .int .i64 1078, .int .i64 1046, .int .i64 8470, .int .i64 167, .int .i64 8364, .int .i64 127, .int .i64 160, .int .i64 1037] 2)).keptG hg2 (by omega)
      have hb2 : w.grownBy w2 (some b) := gthen (gnew hbel _) hg2
      have hz2 : wr.heap.size + 1 ≤ w2.heap.size := by have := hg2.size; simpa using this
      have HS2 : Hid (Src w2 B b (M + 1 + i + 1)) := hs2
      have HV : Hid (Drawn (out ++ [x])) := hV.snoc hx
      clear hV
      clear hs1' hg2 hx hsr hown hs2
      go_wp2_with (at_builtin; refine wpList_app_newI rfl _ _ rfl w.heap.size _ out rfl ho2 1 1 [x] rfl rfl rfl (by omega) (by omega) ?_; intro v' w3 hown' hb')
      have hs3 : Hid (Src w3 B b (M + 1 + (i + 1))) := Src.below (w := w2) HS2.out (hb'.mono (by omega))
      go_wp2
      go_roundw
      case rel => exact ⟨i + 1, out ++ [x], by omega, by go_num, hown', by simp; omega, HV.out, hs3.out, glow hb2 hb'⟩
      case measure => simp [intOf]; omega
    · have hii : i = n := by omega
      have hj : ¬ (0 : Int) < ((n - i : Nat) : Int) := by omega
      subst hii
      have HF : Hid (NumsEnd B b (M + 6) 6 Drawn w (.returned _) wr) := numsEnd hown (by omega) hV (hsr.more (by omega)) hbel
      clear hown hsr hV
      go_wp2
      go_ret
      exact HF.out

end Go.Proofs.YtdcgihcjiiemdaaDoor

namespace Go.Proofs.YtdcgihcjiiemdaaDoor
open Go.RowKit

/-- Uids that an op may have. -/
def UidR (l : List Int) : Prop := ∀ z ∈ l, 1 ≤ z ∧ z ≤ 999
theorem UidR.nil : UidR [] := fun z h => by simp at h
theorem UidR.snoc {l : List Int} {i : Nat} (h : UidR l) (hi : i < 5) : UidR (l ++ [((i + 1 : Nat) : Int)]) := fun z hz => by
  rcases List.mem_append.1 hz with hz | hz
  · exact h z hz
  · obtain rfl := List.mem_singleton.1 hz
    omega

set_option maxHeartbeats 1600000 in
set_option maxRecDepth 100000 in
theorem l8DrawUids_any (B b M : Nat) (w : World) (hs : Src w B b M) (hM : M ≤ 90000) :
    Calls Tryd.prog 42 #[.pointer (some ⟨b, 0, none⟩)] w fun e w' => NumsEnd B b (M + 6) 6 UidR w e w' := by
  obtain ⟨hBb, hbw, _⟩ := id hs
  have hown0 : OwnI (w.alloc (.cells #[] 2)) w.heap.size (.slice (some ⟨w.heap.size, 0, none⟩) 0 0) [] := OwnI.lit w _ (Nat.le_refl _) #[] [] rfl (by decide)
  have hbel0 : w.grownBy (w.alloc (.cells #[] 2)) (some b) := World.grownBy_alloc _ _ _
  have hs0 : Src (w.alloc (.cells #[] 2)) B b M := hs.below ((Below.refl _ _).alloc (by omega) _)
  go_enter Tryd.func42, Tryd.ntmps42
  have HA : Hid (OwnI (w.alloc (.cells #[] 2)) w.heap.size (.slice (some ⟨w.heap.size, 0, none⟩) 0 0) [] ∧ Src (w.alloc (.cells #[] 2)) B b M ∧ w.grownBy (w.alloc (.cells #[] 2)) (some b)) := ⟨hown0, hs0, hbel0⟩
  clear hs hs0 hown0 hbel0
  go_wp2
  go_loopw [3, 4] (fun v j wr => ∃ (i : Nat) (out : List Int), i ≤ 5 ∧ j = .int .i64 ((i + 1 : Nat) : Int) ∧ OwnI wr w.heap.size v out ∧ out.length ≤ i ∧ UidR out ∧ Src wr B b (M + i) ∧ w.grownBy wr (some b))
    (fun _ j _ => 6 - (intOf j).toNat)
  case atStart => exact ⟨0, [], by omega, rfl, HA.out.1, Nat.le_refl _, UidR.nil, HA.out.2.1, HA.out.2.2⟩
  case round =>
    obtain ⟨i, out, hi, rfl, hown, hol, hV, hsr, hbel⟩ := hrel
    clear HA
    have hz := hbel.size
    by_cases hin : i < 5
    · have hj : ((i + 1 : Nat) : Int) < 6 := by omega
      obtain ⟨_, hbr, _⟩ := id hsr
      go_wp2_with fail
      refine (l1Chance_any B b (M + i) 2 _ hsr (by omega) (by omega) (by omega)).mono ?_
      rintro e w2 ⟨q, rfl, hs2, hg2⟩
      have ho2 := hown.keptG hg2 (by omega)
      have hb2 : w.grownBy w2 (some b) := gthen hbel hg2
      have hz2 : wr.heap.size ≤ w2.heap.size := hg2.size
      have HS2 : Hid (Src w2 B b (M + i + 1)) := hs2
      clear hg2 hsr hown hs2
      cases q with
      | true =>
        go_wp2_with (at_builtin; refine wpList_app_newI rfl _ _ rfl w.heap.size _ out rfl ho2 1 1 [((i + 1 : Nat) : Int)] rfl rfl rfl (by omega) (by omega) ?_; intro v' w3 hown' hb')
        have hs3 : Hid (Src w3 B b (M + (i + 1))) := Src.below (w := w2) HS2.out (hb'.mono (by omega))
        go_wp2
        go_roundw
        case rel => exact ⟨i + 1, out ++ [((i + 1 : Nat) : Int)], by omega, by go_num, hown', by simp; omega, hV.snoc hin, hs3.out, glow hb2 hb'⟩
        case measure => simp [intOf]; omega
      | false =>
        go_wp2
        go_roundw
        case rel => exact ⟨i + 1, out, by omega, by go_num, ho2, by omega, hV, HS2.out, hb2⟩
        case measure => simp [intOf]; omega
    · have hii : i = 5 := by omega
      have hj : ¬ ((i + 1 : Nat) : Int) < 6 := by omega
      have HF : Hid (NumsEnd B b (M + 6) 6 UidR w (.returned _) wr) := numsEnd hown (by omega) hV (hsr.more (by omega)) hbel
      clear hown hsr
      go_wp2
      go_ret
      exact HF.out
end Go.Proofs.YtdcgihcjiiemdaaDoor
