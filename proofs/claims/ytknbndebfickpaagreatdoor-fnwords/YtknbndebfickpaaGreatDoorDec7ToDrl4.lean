/- The program's and the model's DecodeText at once · The model's draws of characters: each ends with some numbers, in memory of the draw's own; nothing that was there is turned but the source; sources of at most 1048576 bytes · The draws of chapters 2 and 3: each ends with some numbers, in memory of the draw's own; nothing that was there is turned; sources of at most 1048576 bytes · The draws of chapters 2 and 3, each whole: some numbers and slices of memory of the draw's own; nothing that was there is turned; sources of at most 1048576 bytes · The draw of bytes of a charset: some number and some bytes, in memory of the draw's own; nothing that was there is turned; sources of at most 1048576 bytes. -/
import Derived.Test.YtknbndebfickpaaGreatDoorDec4
import Derived.Test.YtknbndebfickpaaGreatDoorDec6
import Derived.Test.YtknbndebfickpaaGreatDoorDecLToDrw3a
import Derived.Test.YtknbndebfickpaaGreatDoorMemToAppI
import Derived.Test.YtknbndebfickpaaGreatDoorDec3
namespace Go.Proofs.YtknbndebfickpaaGreatDoor
open Go.RowKit

theorem decL_len (cs : Int) : ∀ (n : Nat) (l : List Nat) (u : List Int), l.length ≤ n → decL cs l = some u → u.length ≤ l.length := by
  intro n
  induction n with
  | zero =>
    intro l u hl h
    rw [decL_nil (by omega)] at h
    cases h
    exact Nat.zero_le _
  | succ n ih =>
    intro l u hl h
    by_cases h0 : l.length = 0
    · rw [decL_nil h0] at h
      cases h
      exact Nat.zero_le _
    · by_cases hs : (rdC cs l).2 = 0
      · rw [decL_none (by omega) hs] at h; cases h
      · rw [decL_step (c := (rdC cs l).1) (s := (rdC cs l).2) (by omega) hs rfl] at h
        cases hd : decL cs (l.drop (rdC cs l).2) with
        | none => rw [hd] at h; cases h
        | some v =>
          rw [hd] at h
          simp only [Option.map_some, Option.some.injEq] at h
          subst h
          have := ih _ _ (by rw [List.length_drop]; omega) hd
          rw [List.length_drop] at this
          rw [List.length_cons]
          omega
theorem decT_few (cs : Int) (l : List Nat) : (decT cs l).2.length ≤ 400 := by
  unfold decT
  split
  · split
    · simp
    · cases hd : decL cs l with
      | none => simp
      | some u =>
        have := decL_len cs l.length l u (Nat.le_refl _) hd
        simp only
        omega
  · simp
end Go.Proofs.YtknbndebfickpaaGreatDoor

namespace Go.Proofs.YtknbndebfickpaaGreatDoor
open Go.RowKit

theorem OwnI.keptG {w w' : World} {B b : Nat} {v : Value} {l : List Int} (h : OwnI w B v l) (hg : w.grownBy w' (some b)) (hb : b < B) : OwnI w' B v l := by
  refine World.ownsRow.kept h hg ?_
  cases hv : v.ownBlock with
  | none => exact .inl rfl
  | some k => right; intro e; have := (h.lt k hv).1; simp at e; omega
theorem OwnI.lowG {w : World} {B C : Nat} {v : Value} {l : List Int} (h : OwnI w B v l) (hC : C ≤ B) : OwnI w C v l := by
  refine ⟨h.1, ?_⟩
  rcases h.2 with h' | ⟨g, cap, cur, h1, h2, h3⟩
  · exact .inl h'
  · exact .inr ⟨g, cap, cur, h1, Nat.le_trans hC h2, h3⟩
theorem gthen {w w1 w2 : World} {row : Option Nat} (h : w.grownBy w1 row) (k : w1.grownBy w2 row) : w.grownBy w2 row := ⟨k.os.trans h.os, k.tape.trans h.tape, k.output.trans h.output, Nat.le_trans h.size k.size, fun g hg hne => (k.block g (Nat.lt_of_lt_of_le hg h.size) hne).trans (h.block g hg hne)⟩
theorem glow {w w1 w2 : World} {row : Option Nat} (h : w.grownBy w1 row) (k : Below w.heap.size w1 w2) : w.grownBy w2 row := ⟨k.os.trans h.os, k.tape.trans h.tape, k.output.trans h.output, Nat.le_trans h.size k.size, fun g hg hne => (k.block g hg).trans (h.block g hg hne)⟩
theorem gnew {w w1 : World} {row : Option Nat} (h : w.grownBy w1 row) (o : Obj) : w.grownBy (w1.alloc o) row := gthen h (World.grownBy_alloc _ _ _)
theorem gbelow {w w1 : World} {b : Nat} (h : w.grownBy w1 (some b)) (hb : b < w.heap.size) : Below b w w1 := (Below.refl _ _).grown h (by omega) (by intro k hk; simp at hk; omega)
/-- How a draw of numbers ends: a plain word, so that no walk opens it. -/
def NumsEnd (B b M K : Nat) (V : List Int → Prop) (w : World) (e : Ending) (w' : World) : Prop := ∃ (v : Value) (out : List Int), e = .returned v ∧ OwnI w' w.heap.size v out ∧ out.length ≤ K ∧ V out ∧ Src w' B b M ∧ w.grownBy w' (some b)
theorem numsEnd {B b M K : Nat} {V : List Int → Prop} {w w' : World} {v : Value} {out : List Int} (h1 : OwnI w' w.heap.size v out) (h3 : out.length ≤ K) (h2 : V out) (h5 : Src w' B b M) (h4 : w.grownBy w' (some b)) : NumsEnd B b M K V w (.returned v) w' := ⟨v, out, rfl, h1, h3, h2, h5, h4⟩
def Any (_ : List Int) : Prop := True
/-- The characters that the model draws. -/
def Drawn (l : List Int) : Prop := ∀ x ∈ l, x ∈ [97, 66, 32, 228, 1078, 1046, 8470, 167, 8364, 127, 160, 1037, (0 : Int)]
theorem Drawn.nil : Drawn [] := fun _ h => by simp at h
theorem Drawn.snoc {l : List Int} {x : Int} (h : Drawn l) (hx : x ∈ [97, 66, 32, 228, 1078, 1046, 8470, 167, 8364, 127, 160, (1037 : Int)]) : Drawn (l ++ [x]) := fun y hy => by
  rcases List.mem_append.1 hy with hy | hy
  · exact h y hy
  · rw [List.mem_singleton] at hy
    subst hy
    simp only [List.mem_cons, List.not_mem_nil, or_false] at hx ⊢
    omega
/-- How a draw of one number ends. -/
def OneEnd (B b M : Nat) (w : World) (e : Ending) (w' : World) : Prop := ∃ r : Int, e = .returned (.int .i64 r) ∧ Src w' B b M ∧ w.grownBy w' (some b)

set_option maxHeartbeats 1600000 in
set_option maxRecDepth 100000 in
theorem l2Codes_any (B b M : Nat) (w : World) (hs : Src w B b M) (hM : M ≤ 900) :
    Calls Tryz.prog 31 #[.pointer (some ⟨b, 0, none⟩)] w fun e w' => NumsEnd B b (M + 6) 6 Drawn w e w' := by
  obtain ⟨hBb, hbw, _⟩ := id hs
  have hown0 : OwnI (w.alloc (.cells #[] 2)) w.heap.size (.slice (some ⟨w.heap.size, 0, none⟩) 0 0) [] := OwnI.lit w _ (Nat.le_refl _) #[] [] rfl (by decide)
  have hbel0 : w.grownBy (w.alloc (.cells #[] 2)) (some b) := World.grownBy_alloc _ _ _
  have hs0 : Src (w.alloc (.cells #[] 2)) B b M := hs.below ((Below.refl _ _).alloc (by omega) _)
  go_enter Tryz.func31, Tryz.ntmps31
  go_wp2_with fail
  refine (l1Next_any B b M 6 _ hs0 (by omega) (by omega) (by omega)).mono ?_
  rintro e w1 ⟨r, rfl, r0, r1, _, hs1, hg1⟩
  obtain ⟨n, rfl⟩ := Int.eq_ofNat_of_zero_le r0
  have hn6 : n < 6 := by have := r1 (by omega); omega
  have hown1 := hown0.keptG hg1 (by omega)
  have hb1 : w.grownBy w1 (some b) := gthen hbel0 hg1
  have HA : Hid (OwnI w1 w.heap.size (.slice (some ⟨w.heap.size, 0, none⟩) 0 0) [] ∧ Src w1 B b (M + 1) ∧ w.grownBy w1 (some b)) := ⟨hown1, hs1, hb1⟩
  clear hs hs0 hg1 hown0 hbel0 hown1 hs1 hb1 r1
  go_wp2
  go_loopw [3, 4] (fun v j wr => ∃ (i : Nat) (out : List Int), i ≤ n ∧ j = .int .i64 ((n - i : Nat) : Int) ∧ OwnI wr w.heap.size v out ∧ out.length = i ∧ Drawn out ∧ Src wr B b (M + 1 + i) ∧ w.grownBy wr (some b))
    (fun _ j _ => (intOf j).toNat)
  case atStart => exact ⟨0, [], by omega, rfl, HA.out.1, rfl, Drawn.nil, HA.out.2.1, HA.out.2.2⟩
  case round =>
    obtain ⟨i, out, hi, rfl, hown, hol, hV, hsr, hbel⟩ := hrel
    clear HA
    have hz := hbel.size
    by_cases hin : i < n
    · have hj : (0 : Int) < ((n - i : Nat) : Int) := by omega
      obtain ⟨_, hbr, _⟩ := id hsr
      have hs1' : Src (wr.alloc (.cells #[.int .i64 97, .int .i64 66, .int .i64 32, .int .i64 228, .int .i64 1078, .int .i64 1046, .int .i64 8470, .int .i64 167, .int .i64 8364, .int .i64 127, .int .i64 160, .int .i64 1037] 2)) B b (M + 1 + i) := hsr.below ((Below.refl _ _).alloc (by omega) _)
      go_wp2_with fail
      refine (l1Pick_any B b (M + 1 + i) _ 12 12 [97, 66, 32, 228, 1078, 1046, 8470, 167, 8364, 127, 160, 1037] _ hs1' (by omega) rfl (by omega) (by omega) (nums_new rfl) (by omega)).mono ?_
      rintro e w2 ⟨x, rfl, hx, hs2, hg2⟩
      have ho2 := (hown.alloc (.cells #[.int .i64 97, .int .i64 66, .int .i64 32, .int .i64 228, .int .i64 1078, .int .i64 1046, .int .i64 8470, .int .i64 167, .int .i64 8364, .int .i64 127, .int .i64 160, .int .i64 1037] 2)).keptG hg2 (by omega)
      have hb2 : w.grownBy w2 (some b) := gthen (gnew hbel _) hg2
      have hz2 : wr.heap.size + 1 ≤ w2.heap.size := by have := hg2.size; simpa using this
      have HS2 : Hid (Src w2 B b (M + 1 + i + 1)) := hs2
      have HV : Hid (Drawn (out ++ [x])) := hV.snoc hx
      clear hV
      clear hs1' hg2 hx hsr hown hs2
      go_wp2_with (at_builtin; refine wpList_app_newI rfl _ _ rfl w.heap.size _ out rfl ho2 1 1 [x] rfl rfl rfl (by omega) (by omega) ?_; intro v' w3 hown' hb')
      have hs3 : Hid (Src w3 B b (M + 1 + (i + 1))) := Src.below (w := w2) HS2.out (hb'.mono (by omega))
      go_wp2
      go_roundw
      case rel => exact ⟨i + 1, out ++ [x], by omega, by go_num, hown', by simp; omega, HV.out, hs3.out, glow hb2 hb'⟩
      case measure => simp [intOf]; omega
    · have hii : i = n := by omega
      have hj : ¬ (0 : Int) < ((n - i : Nat) : Int) := by omega
      subst hii
      have HF : Hid (NumsEnd B b (M + 6) 6 Drawn w (.returned _) wr) := numsEnd hown (by omega) hV (hsr.more (by omega)) hbel
      clear hown hsr hV
      go_wp2
      go_ret
      exact HF.out

end Go.Proofs.YtknbndebfickpaaGreatDoor

namespace Go.Proofs.YtknbndebfickpaaGreatDoor
open Go.RowKit

set_option maxHeartbeats 1600000 in
set_option maxRecDepth 100000 in
theorem l2Bent_any (B b M : Nat) (w : World) (hs : Src w B b M) (hM : M ≤ 800) :
    Calls Tryz.prog 23 #[.pointer (some ⟨b, 0, none⟩)] w fun e w' => NumsEnd B b (M + 8) 401 Any w e w' := by
  obtain ⟨i0, hi, hz0, hz1, hz2⟩ := info_parts infoBI
  obtain ⟨hBb, hbw, _⟩ := id hs
  go_enter Tryz.func23, Tryz.ntmps23
  go_wp2_with fail
  refine (l2Codes_any B b M _ hs (by omega)).mono ?_
  rintro e w1 ⟨v, out, rfl, ho, hol, -, hs1, hb1⟩
  have hzz := hb1.size
  go_wp2_with fail
  refine (l1Next_any B b _ 10 _ hs1 (by omega) (by omega) (by omega)).mono ?_
  rintro e w2 ⟨r, rfl, r0, r1, _, hs2, hg2⟩
  have hb2 : w.grownBy w2 (some b) := gthen hb1 hg2
  have hz2' := hb2.size
  have ho2 := ho.keptG hg2 (by omega)
  clear hs hs1 hg2 ho hb1
  by_cases h0 : r = 0
  · subst h0
    have hs2' : Src (w2.alloc (.cells #[.int .i64 (-1), .int .i64 55296, .int .i64 57343, .int .i64 65535, .int .i64 65536] 2)) B b (M + 6 + 1) := hs2.below ((Below.refl _ _).alloc (by omega) _)
    go_wp2_with fail
    refine (l1Pick_any B b _ _ 5 5 [-1, 55296, 57343, 65535, 65536] _ hs2' (by omega) rfl (by omega) (by omega) (nums_new rfl) (by omega)).mono ?_
    rintro e w3 ⟨x, rfl, hx, hs3, hg3⟩
    have ho3 := (ho2.alloc (.cells #[.int .i64 (-1), .int .i64 55296, .int .i64 57343, .int .i64 65535, .int .i64 65536] 2)).keptG hg3 (by omega)
    have hb3 : w.grownBy w3 (some b) := gthen (gnew hb2 _) hg3
    have hz3 := hb3.size
    have hz3' : w2.heap.size + 1 ≤ w3.heap.size := by have := hg3.size; simpa using this
    clear hs2 hs2' hg3 ho2 hb2 hx
    go_wp2_with (at_builtin; refine wpList_app_newI rfl _ _ rfl w.heap.size _ out rfl ho3 1 1 [x] rfl rfl rfl (by omega) (by omega) ?_; intro v' w4 hown' hb')
    have HF : Hid (NumsEnd B b (M + 8) 401 Any w (.returned v') w4) := numsEnd hown' (by simp; omega) trivial ((hs3.more (by omega)).below (hb'.mono (by omega))) (glow hb3 hb')
    clear hown' hs3
    go_wp2
    go_ret
    exact HF.out
  · by_cases h1 : r = 1
    · subst h1
      have hs2' : Src (w2.alloc (.cells #[.int .i64 400, .int .i64 401, .int .i64 300] 2)) B b (M + 6 + 1) := hs2.below ((Below.refl _ _).alloc (by omega) _)
      go_wp2_with fail
      refine (l1Pick_any B b _ _ 3 3 [400, 401, 300] _ hs2' (by omega) rfl (by omega) (by omega) (nums_new rfl) (by omega)).mono ?_
      rintro e w3 ⟨x, rfl, hx, hs3, hg3⟩
      have hx' : 300 ≤ x ∧ x ≤ 401 := by
        simp only [List.mem_cons, List.not_mem_nil, or_false] at hx
        omega
      obtain ⟨y, rfl⟩ := Int.eq_ofNat_of_zero_le (show 0 ≤ x by omega)
      have hb3 : w.grownBy w3 (some b) := gthen (gnew hb2 _) hg3
      have hz3 := hb3.size
      have hz3' : w2.heap.size + 1 ≤ w3.heap.size := by have := hg3.size; simpa using this
      clear hs2 hs2' hg3 ho2 hb2 hx
      go_wp2_with (at_make; refine wpList_make_full _ rfl _ _ 25 rfl w.heap.size 2 i0 (.int .i64 0) 1 Tryz.underlying25 hi hz0 hz1 .i64 .i64 _ _ y rfl rfl rfl rfl (by rw [hz2]; omega) (by unfold maxLen; omega) (by omega) ?_; intro w4 hown4 hgrow4)
      rw [made_bytesI] at hown4
      have ho : OwnI w4 w.heap.size (.slice (some ⟨w3.heap.size, 0, none⟩) y y) (List.replicate y 0) := by unfold OwnI; rw [List.length_replicate]; exact hown4
      have hb4 : Below w.heap.size w3 w4 := (Below.refl _ _).grown hgrow4 (by omega) (by intro k hk; cases hk)
      have HF : Hid (NumsEnd B b (M + 8) 401 Any w (.returned (.slice (some ⟨w3.heap.size, 0, none⟩) y y)) w4) := numsEnd ho (by rw [List.length_replicate]; omega) trivial ((hs3.more (by omega)).below (hb4.mono (by omega))) (glow hb3 hb4)
      clear ho hown4 hgrow4 hs3
      go_wp2
      go_ret
      exact HF.out
    · have e0 : (r == 0) = false := by simp; omega
      have e1 : (r == 1) = false := by simp; omega
      have HF : Hid (NumsEnd B b (M + 8) 401 Any w (.returned v) w2) := numsEnd ho2 (by omega) trivial (hs2.more (by omega)) hb2
      clear ho2 hs2 h0 h1
      go_wp2
      go_ret
      exact HF.out
end Go.Proofs.YtknbndebfickpaaGreatDoor

namespace Go.Proofs.YtknbndebfickpaaGreatDoor
open Go.RowKit

/-- How a draw of two numbers ends. -/
def PairEnd (w : World) (e : Ending) (w' : World) : Prop := ∃ r x : Int, e = .returned (.tuple #[.int .i64 r, .int .i64 x]) ∧ Below w.heap.size w w'
/-- A slice of numbers that can be read. -/
def Sl (w : World) (v : Value) (l : List Int) : Prop := ∃ (a : Option Addr) (n cap : Nat), v = .slice a n cap ∧ l.length = n ∧ n ≤ cap ∧ n ≤ 1000 ∧ RdI w a l
theorem Sl.below {w w' : World} {v : Value} {l : List Int} (h : Sl w v l) (hb : Below w.heap.size w w') : Sl w' v l := by
  obtain ⟨a, n, cap, e, h1, h2, h3, h4⟩ := h
  exact ⟨a, n, cap, e, h1, h2, h3, h4.below hb⟩
theorem OwnI.sl {w : World} {B : Nat} {v : Value} {l : List Int} (h : OwnI w B v l) (hl : l.length ≤ 1000) : Sl w v l := by
  obtain ⟨a, cap, rfl, h2, _⟩ := h.form
  exact ⟨a, _, cap, rfl, rfl, h2, hl, h.rd.2⟩
/-- How a draw of a number and a text ends. -/
def TxtEndD (w : World) (e : Ending) (w' : World) : Prop := ∃ (r : Int) (v : Value) (l : List Int), e = .returned (.tuple #[.int .i64 r, v]) ∧ Sl w' v l ∧ Below w.heap.size w w'
/-- How a draw of a number and two texts ends. -/
def TwoTxtD (w : World) (e : Ending) (w' : World) : Prop := ∃ (r : Int) (v u : Value) (l s : List Int), e = .returned (.tuple #[.int .i64 r, v, u]) ∧ Sl w' v l ∧ Sl w' u s ∧ Below w.heap.size w w'

end Go.Proofs.YtknbndebfickpaaGreatDoor

namespace Go.Proofs.YtknbndebfickpaaGreatDoor
open Go.RowKit

theorem encV_isB {cs : Int} {l : List Int} (hcs : 1 ≤ cs ∧ cs ≤ 5) (hch : ∀ x ∈ l, chr x = true) : IsB (encV cs l).2 := by
  unfold encV
  split
  · rename_i ha
    split
    · intro b hb; simp at hb
    · intro b hb
      obtain ⟨x, hx, hbx⟩ := List.mem_flatMap.1 hb
      exact tellL_isB hcs (hch x hx) (List.all_eq_true.1 ha x hx) b hbx
  · intro b hb; simp at hb
theorem encV_short (cs : Int) (l : List Int) : (encV cs l).2.length ≤ 400 := by
  unfold encV
  split
  · split
    · simp
    · simp only; omega
  · simp
theorem Drawn.chr {l : List Int} (h : Drawn l) : ∀ x ∈ l, Go.Proofs.YtknbndebfickpaaGreatDoor.chr x = true := fun x hx => by
  have := h x hx
  simp only [List.mem_cons, List.not_mem_nil, or_false] at this
  rw [chr_iff]
  omega
/-- A slice of bytes that can be read. -/
def SlB (w : World) (v : Value) (l : List Nat) : Prop := ∃ (a : Option Addr) (n cap : Nat), v = .slice a n cap ∧ l.length = n ∧ n ≤ cap ∧ n ≤ 1000 ∧ Rd w a l
theorem Own.slB {w : World} {B : Nat} {v : Value} {l : List Nat} (h : Own w B v l) (hl : l.length ≤ 1000) : SlB w v l := by
  obtain ⟨a, cap, rfl, h2, _⟩ := h.form
  exact ⟨a, _, cap, rfl, rfl, h2, hl, h.rd.2⟩
/-- How a draw of a number and some bytes ends. -/
def BTxtEnd (w : World) (e : Ending) (w' : World) : Prop := ∃ (r : Int) (v : Value) (l : List Nat), e = .returned (.tuple #[.int .i64 r, v]) ∧ SlB w' v l ∧ IsB l ∧ Below w.heap.size w w'

end Go.Proofs.YtknbndebfickpaaGreatDoor
