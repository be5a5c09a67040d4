/- Bytes that the model draws: at most 401 of them, in memory of the draw's own; nothing that was there is turned; sources of at most 1048576 bytes · The model's draws of characters: each ends with some numbers, in memory of the draw's own; nothing that was there is turned but the source; sources of at most 1048576 bytes · The draws of chapters 2 and 3: each ends with some numbers, in memory of the draw's own; nothing that was there is turned; sources of at most 1048576 bytes · The draws of chapters 2 and 3, each whole: some numbers and slices of memory of the draw's own; nothing that was there is turned; sources of at most 1048576 bytes · The draw of bytes of a charset: some number and some bytes, in memory of the draw's own; nothing that was there is turned; sources of at most 1048576 bytes · Characters told in bytes are read back from them, and bytes that are read are told so again: plain facts, with no program in them. -/
import Derived.Test.YtfbjodbihenmjaaGreatDoorDec7ToDrw2
import Derived.Test.YtfbjodbihenmjaaGreatDoorLowToChs2
import Derived.Test.YtfbjodbihenmjaaGreatDoorAppToChs0
import Derived.Test.YtfbjodbihenmjaaGreatDoorDec3
namespace Go.Proofs.YtfbjodbihenmjaaGreatDoor
open Go.RowKit

/-- How a draw of bytes ends: a plain word, so that no walk opens it. -/
def LongEnd (b C : Nat) (w : World) (e : Ending) (w' : World) : Prop := ∃ (v : Value) (out : List Nat), e = .returned v ∧ Own w' C v out ∧ IsB out ∧ out.length ≤ 401 ∧ Below b w w'
theorem longEnd {b C : Nat} {w w' : World} {v : Value} {out : List Nat} (h1 : Own w' C v out) (h2 : IsB out) (h3 : out.length ≤ 401) (h4 : Below b w w') : LongEnd b C w (.returned v) w' := ⟨v, out, rfl, h1, h2, h3, h4⟩


theorem lwBig_any (a : Option Addr) (n cap : Nat) (w : World) :
    Calls Tryz.prog 5 #[.slice a n cap] w fun e w' => e = .returned (.bool (decide ((1048576 : Int) < (n : Int)))) ∧ w = w' := by
  go_enter Tryz.func5, Tryz.ntmps5
  go_wp2
  go_ret
  exact ⟨rfl, rfl⟩

end Go.Proofs.YtfbjodbihenmjaaGreatDoor

namespace Go.Proofs.YtfbjodbihenmjaaGreatDoor
open Go.RowKit

theorem OwnI.keptG {w w' : World} {B b : Nat} {v : Value} {l : List Int} (h : OwnI w B v l) (hg : w.grownBy w' (some b)) (hb : b < B) : OwnI w' B v l := by
  refine World.ownsRow.kept h hg ?_
  cases hv : v.ownBlock with
  | none => exact .inl rfl
  | some k => right; intro e; have := (h.lt k hv).1; simp at e; omega
theorem OwnI.lowG {w : World} {B C : Nat} {v : Value} {l : List Int} (h : OwnI w B v l) (hC : C ≤ B) : OwnI w C v l := by
  refine ⟨h.1, ?_⟩
  rcases h.2 with h' | ⟨g, cap, cur, h1, h2, h3⟩
  · exact .inl h'
  · exact .inr ⟨g, cap, cur, h1, Nat.le_trans hC h2, h3⟩
theorem gthen {w w1 w2 : World} {row : Option Nat} (h : w.grownBy w1 row) (k : w1.grownBy w2 row) : w.grownBy w2 row := ⟨k.os.trans h.os, k.tape.trans h.tape, k.output.trans h.output, Nat.le_trans h.size k.size, fun g hg hne => (k.block g (Nat.lt_of_lt_of_le hg h.size) hne).trans (h.block g hg hne)⟩
theorem glow {w w1 w2 : World} {row : Option Nat} (h : w.grownBy w1 row) (k : Below w.heap.size w1 w2) : w.grownBy w2 row := ⟨k.os.trans h.os, k.tape.trans h.tape, k.output.trans h.output, Nat.le_trans h.size k.size, fun g hg hne => (k.block g hg).trans (h.block g hg hne)⟩
theorem gnew {w w1 : World} {row : Option Nat} (h : w.grownBy w1 row) (o : Obj) : w.grownBy (w1.alloc o) row := gthen h (World.grownBy_alloc _ _ _)
theorem gbelow {w w1 : World} {b : Nat} (h : w.grownBy w1 (some b)) (hb : b < w.heap.size) : Below b w w1 := (Below.refl _ _).grown h (by omega) (by intro k hk; simp at hk; omega)
/-- How a draw of numbers ends: a plain word, so that no walk opens it. -/
def NumsEnd (B b M K : Nat) (V : List Int → Prop) (w : World) (e : Ending) (w' : World) : Prop := ∃ (v : Value) (out : List Int), e = .returned v ∧ OwnI w' w.heap.size v out ∧ out.length ≤ K ∧ V out ∧ Src w' B b M ∧ w.grownBy w' (some b)
theorem numsEnd {B b M K : Nat} {V : List Int → Prop} {w w' : World} {v : Value} {out : List Int} (h1 : OwnI w' w.heap.size v out) (h3 : out.length ≤ K) (h2 : V out) (h5 : Src w' B b M) (h4 : w.grownBy w' (some b)) : NumsEnd B b M K V w (.returned v) w' := ⟨v, out, rfl, h1, h3, h2, h5, h4⟩
def Any (_ : List Int) : Prop := True
/-- The characters that the model draws. -/
def Drawn (l : List Int) : Prop := ∀ x ∈ l, x ∈ [97, 66, 32, 228, 1078, 1046, 8470, 167, 8364, 127, 160, 1037, (0 : Int)]
theorem Drawn.nil : Drawn [] := fun _ h => by simp at h
theorem Drawn.snoc {l : List Int} {x : Int} (h : Drawn l) (hx : x ∈ [97, 66, 32, 228, 1078, 1046, 8470, 167, 8364, 127, 160, (1037 : Int)]) : Drawn (l ++ [x]) := fun y hy => by
  rcases List.mem_append.1 hy with hy | hy
  · exact h y hy
  · rw [List.mem_singleton] at hy
    subst hy
    simp only [List.mem_cons, List.not_mem_nil, or_false] at hx ⊢
    omega
/-- How a draw of one number ends. -/
def OneEnd (B b M : Nat) (w : World) (e : Ending) (w' : World) : Prop := ∃ r : Int, e = .returned (.int .i64 r) ∧ Src w' B b M ∧ w.grownBy w' (some b)

set_option maxHeartbeats 1600000 in
set_option maxRecDepth 100000 in
theorem l2Codes_any (B b M : Nat) (w : World) (hs : Src w B b M) (hM : M ≤ 99000) :
    Calls Tryz.prog 61 #[.pointer (some ⟨b, 0, none⟩)] w fun e w' => NumsEnd B b (M + 6) 6 Drawn w e w' := by
  obtain ⟨hBb, hbw, _⟩ := id hs
  have hown0 : OwnI (w.alloc (.cells #[] 2)) w.heap.size (.slice (some ⟨w.heap.size, 0, none⟩) 0 0) [] := OwnI.lit w _ (Nat.le_refl _) #[] [] rfl (by decide)
  have hbel0 : w.grownBy (w.alloc (.cells #[] 2)) (some b) := World.grownBy_alloc _ _ _
  have hs0 : Src (w.alloc (.cells #[] 2)) B b M := hs.below ((Below.refl _ _).alloc (by omega) _)
  go_enter Tryz.func61, Tryz.ntmps61
  go_wp2_with fail
  refine (l1Next_any B b M 6 _ hs0 (by omega) (by omega) (by omega)).mono ?_
  rintro e w1 ⟨r, rfl, r0, r1, _, hs1, hg1⟩
  obtain ⟨n, rfl⟩ := Int.eq_ofNat_of_zero_le r0
  have hn6 : n < 6 := by have := r1 (by omega); omega
  have hown1 := hown0.keptG hg1 (by omega)
  have hb1 : w.grownBy w1 (some b) := gthen hbel0 hg1
  have HA : Hid (OwnI w1 w.heap.size (.slice (some ⟨w.heap.size, 0, none⟩) 0 0) [] ∧ Src w1 B b (M + 1) ∧ w.grownBy w1 (some b)) := ⟨hown1, hs1, hb1⟩
  clear hs hs0 hg1 hown0 hbel0 hown1 hs1 hb1 r1
  go_wp2
  go_loopw [3, 4] (fun v j wr => ∃ (i : Nat) (out : List Int), i ≤ n ∧ j = .int .i64 ((n - i : Nat) : Int) ∧ OwnI wr w.heap.size v out ∧ out.length = i ∧ Drawn out ∧ Src wr B b (M + 1 + i) ∧ w.grownBy wr (some b))
    (fun _ j _ => (intOf j).toNat)
  case atStart => exact ⟨0, [], by omega, rfl, HA.out.1, rfl, Drawn.nil, HA.out.2.1, HA.out.2.2⟩
  case round =>
    obtain ⟨i, out, hi, rfl, hown, hol, hV, hsr, hbel⟩ := hrel
    clear HA
    have hz := hbel.size
    by_cases hin : i < n
    · have hj : (0 : Int) < ((n - i : Nat) : Int) := by omega
      obtain ⟨_, hbr, _⟩ := id hsr
      have hs1' : Src (wr.alloc (.cells #[.int .i64 97, .int .i64 66, .int .i64 32, .int .i64 228, .int .i64 1078, .int .i64 1046, .int .i64 8470, .int .i64 167, .int .i64 8364, .int .i64 127, .int .i64 160, .int .i64 1037] 2)) B b (M + 1 + i) := hsr.below ((Below.refl _ _).alloc (by omega) _)
      go_wp2_with fail
      refine (l1Pick_any B b (M + 1 + i) _ 12 12 [97, 66, 32, 228, 1078, 1046, 8470, 167, 8364, 127, 160, 1037] _ hs1' (by omega) rfl (by omega) (by omega) (nums_new rfl) (by omega)).mono ?_
      rintro e w2 ⟨x, rfl, hx, hs2, hg2⟩
      have ho2 := (hown.alloc (.cells #[.int .i64 97, .int .i64 66, .int .i64 32, .int .i64 228, .int .i64 1078, .int .i64 1046, .int .i64 8470, .int .i64 167, .int .i64 8364, .int .i64 127, .int .i64 160, .int .i64 1037] 2)).keptG hg2 (by omega)
      have hb2 : w.grownBy w2 (some b) := gthen (gnew hbel _) hg2
      have hz2 : wr.heap.size + 1 ≤ w2.heap.size := by have := hg2.size; simpa using this
      have HS2 : Hid (Src w2 B b (M + 1 + i + 1)) := hs2
      have HV : Hid (Drawn (out ++ [x])) := hV.snoc hx
      clear hV
      clear hs1' hg2 hx hsr hown hs2
      go_wp2_with (at_builtin; refine wpList_app_newI rfl _ _ rfl w.heap.size _ out rfl ho2 1 1 [x] rfl rfl rfl (by omega) (by omega) ?_; intro v' w3 hown' hb')
      have hs3 : Hid (Src w3 B b (M + 1 + (i + 1))) := Src.below (w := w2) HS2.out (hb'.mono (by omega))
      go_wp2
      go_roundw
      case rel => exact ⟨i + 1, out ++ [x], by omega, by go_num, hown', by simp; omega, HV.out, hs3.out, glow hb2 hb'⟩
      case measure => simp [intOf]; omega
    · have hii : i = n := by omega
      have hj : ¬ (0 : Int) < ((n - i : Nat) : Int) := by omega
      subst hii
      have HF : Hid (NumsEnd B b (M + 6) 6 Drawn w (.returned _) wr) := numsEnd hown (by omega) hV (hsr.more (by omega)) hbel
      clear hown hsr hV
      go_wp2
      go_ret
      exact HF.out

end Go.Proofs.YtfbjodbihenmjaaGreatDoor

namespace Go.Proofs.YtfbjodbihenmjaaGreatDoor
open Go.RowKit

theorem l3Draw_any (B b M : Nat) (w : World) (hs : Src w B b M) (hM : M ≤ 900) :
    Calls Tryz.prog 20 #[.pointer (some ⟨b, 0, none⟩)] w fun e w' => OneEnd B b (M + 1) w e w' := by
  obtain ⟨hBb, hbw, _⟩ := id hs
  have hs1 : Src (w.alloc (.cells #[.int .i64 1, .int .i64 2, .int .i64 3, .int .i64 3, .int .i64 3, .int .i64 0, .int .i64 4] 2)) B b M := hs.below ((Below.refl _ _).alloc (by omega) _)
  go_enter Tryz.func20, Tryz.ntmps20
  go_wp2_with fail
  refine (l1Pick_any B b M _ 7 7 [1, 2, 3, 3, 3, 0, 4] _ hs1 (by omega) rfl (by omega) (by omega) (nums_new rfl) (by omega)).mono ?_
  rintro e w2 ⟨x, rfl, hx, hs2, hg2⟩
  have hb2 : w.grownBy w2 (some b) := gthen (World.grownBy_alloc _ _ _) hg2
  have HF : Hid (OneEnd B b (M + 1) w (.returned (.int .i64 x)) w2) := ⟨x, rfl, hs2, hb2⟩
  clear hs2 hg2 hx hb2 hs1 hs
  go_wp2
  go_ret
  exact HF.out

end Go.Proofs.YtfbjodbihenmjaaGreatDoor

namespace Go.Proofs.YtfbjodbihenmjaaGreatDoor
open Go.RowKit

/-- How a draw of two numbers ends. -/
def PairEnd (w : World) (e : Ending) (w' : World) : Prop := ∃ r x : Int, e = .returned (.tuple #[.int .i64 r, .int .i64 x]) ∧ Below w.heap.size w w'
/-- A slice of numbers that can be read. -/
def Sl (w : World) (v : Value) (l : List Int) : Prop := ∃ (a : Option Addr) (n cap : Nat), v = .slice a n cap ∧ l.length = n ∧ n ≤ cap ∧ n ≤ 1000 ∧ RdI w a l
theorem Sl.below {w w' : World} {v : Value} {l : List Int} (h : Sl w v l) (hb : Below w.heap.size w w') : Sl w' v l := by
  obtain ⟨a, n, cap, e, h1, h2, h3, h4⟩ := h
  exact ⟨a, n, cap, e, h1, h2, h3, h4.below hb⟩
theorem OwnI.sl {w : World} {B : Nat} {v : Value} {l : List Int} (h : OwnI w B v l) (hl : l.length ≤ 1000) : Sl w v l := by
  obtain ⟨a, cap, rfl, h2, _⟩ := h.form
  exact ⟨a, _, cap, rfl, rfl, h2, hl, h.rd.2⟩
/-- How a draw of a number and a text ends. -/
def TxtEndD (w : World) (e : Ending) (w' : World) : Prop := ∃ (r : Int) (v : Value) (l : List Int), e = .returned (.tuple #[.int .i64 r, v]) ∧ Sl w' v l ∧ Below w.heap.size w w'
/-- How a draw of a number and two texts ends. -/
def TwoTxtD (w : World) (e : Ending) (w' : World) : Prop := ∃ (r : Int) (v u : Value) (l s : List Int), e = .returned (.tuple #[.int .i64 r, v, u]) ∧ Sl w' v l ∧ Sl w' u s ∧ Below w.heap.size w w'

end Go.Proofs.YtfbjodbihenmjaaGreatDoor

namespace Go.Proofs.YtfbjodbihenmjaaGreatDoor
open Go.RowKit

theorem encV_isB {cs : Int} {l : List Int} (hcs : 1 ≤ cs ∧ cs ≤ 5) (hch : ∀ x ∈ l, chr x = true) : IsB (encV cs l).2 := by
  unfold encV
  split
  · rename_i ha
    split
    · intro b hb; simp at hb
    · intro b hb
      obtain ⟨x, hx, hbx⟩ := List.mem_flatMap.1 hb
      exact tellL_isB hcs (hch x hx) (List.all_eq_true.1 ha x hx) b hbx
  · intro b hb; simp at hb
theorem encV_short (cs : Int) (l : List Int) : (encV cs l).2.length ≤ 400 := by
  unfold encV
  split
  · split
    · simp
    · simp only; omega
  · simp
theorem Drawn.chr {l : List Int} (h : Drawn l) : ∀ x ∈ l, Go.Proofs.YtfbjodbihenmjaaGreatDoor.chr x = true := fun x hx => by
  have := h x hx
  simp only [List.mem_cons, List.not_mem_nil, or_false] at this
  rw [chr_iff]
  omega
/-- A slice of bytes that can be read. -/
def SlB (w : World) (v : Value) (l : List Nat) : Prop := ∃ (a : Option Addr) (n cap : Nat), v = .slice a n cap ∧ l.length = n ∧ n ≤ cap ∧ n ≤ 1000 ∧ Rd w a l
theorem Own.slB {w : World} {B : Nat} {v : Value} {l : List Nat} (h : Own w B v l) (hl : l.length ≤ 1000) : SlB w v l := by
  obtain ⟨a, cap, rfl, h2, _⟩ := h.form
  exact ⟨a, _, cap, rfl, rfl, h2, hl, h.rd.2⟩
/-- How a draw of a number and some bytes ends. -/
def BTxtEnd (w : World) (e : Ending) (w' : World) : Prop := ∃ (r : Int) (v : Value) (l : List Nat), e = .returned (.tuple #[.int .i64 r, v]) ∧ SlB w' v l ∧ IsB l ∧ Below w.heap.size w w'

end Go.Proofs.YtfbjodbihenmjaaGreatDoor

namespace Go.Proofs.YtfbjodbihenmjaaGreatDoor
open Go.RowKit

theorem cyU_cyr {c : Int} (h : 0 ≤ cyr c) : cyU (cyr c).toNat = c.toNat := by
  have hp := cyr_pos.1 h
  by_cases h1 : 0 ≤ c ∧ c ≤ 160 ∨ c = 173
  · rw [cyr_same h1]
    unfold cyU
    rw [if_neg (by omega), if_neg (by omega), if_pos (by omega)]
  · by_cases h2 : c = 167
    · subst h2; rw [cyr_167]; rfl
    · by_cases h3 : c = 8470
      · subst h3; rw [cyr_8470]; rfl
      · rw [cyr_far (by omega)]
        unfold cyU
        rw [if_neg (by omega), if_neg (by omega), if_neg (by omega)]
        omega
theorem gss_tell {cs c : Int} (hcs : 1 ≤ cs ∧ cs ≤ 5) (hch : chr c = true) (hh : hasC cs c = true) (rest : List Nat) : gss cs (tellL cs c ++ rest) = (c.toNat, (tellL cs c).length) := by
  have hc := chr_iff.1 hch
  rcases cs_cases hcs with rfl | rfl | rfl | rfl | rfl
  · rw [tellL_1]; simp [gss, nth]
  · rw [tellL_2]; simp [gss, nth]
  · rw [tellL_3]
    rw [hasC_3] at hh
    have h0 : 0 ≤ cyr c := decide_eq_true_iff.1 (show decide (0 ≤ cyr c) = true from hh)
    simp [gss, nth, cyU_cyr h0]
  · rw [tellL_4]
    generalize hk : c.toNat = k
    have hk' : k ≤ 65535 := by omega
    by_cases h1 : k < 128
    · rw [u8L_one h1]; simp [gss, nth, h1]
    · by_cases h2 : k < 2048
      · rw [u8L_two h1 h2]
        have e1 : ¬ 192 + k / 64 < 128 := by omega
        have e2 : 192 + k / 64 < 224 := by omega
        have e3 : (192 + k / 64) % 32 * 64 + (128 + k % 64) % 64 = k := by omega
        unfold gss
        rw [if_neg (by decide), if_pos rfl, if_neg (show ¬ nth ([192 + k / 64, 128 + k % 64] ++ rest) 0 < 128 from e1), if_pos (show 2 ≤ ([192 + k / 64, 128 + k % 64] ++ rest).length ∧ nth ([192 + k / 64, 128 + k % 64] ++ rest) 0 < 224 from ⟨by simp, e2⟩)]
        exact Prod.ext e3 rfl
      · rw [u8L_three h1 h2]
        have e1 : ¬ 224 + k / 4096 < 128 := by omega
        have e2 : ¬ 224 + k / 4096 < 224 := by omega
        have e3 : (224 + k / 4096) % 16 * 4096 + (128 + k / 64 % 64) % 64 * 64 + (128 + k % 64) % 64 = k := by omega
        unfold gss
        rw [if_neg (by decide), if_pos rfl, if_neg (show ¬ nth ([224 + k / 4096, 128 + k / 64 % 64, 128 + k % 64] ++ rest) 0 < 128 from e1), if_neg (show ¬ (2 ≤ ([224 + k / 4096, 128 + k / 64 % 64, 128 + k % 64] ++ rest).length ∧ nth ([224 + k / 4096, 128 + k / 64 % 64, 128 + k % 64] ++ rest) 0 < 224) from fun h => e2 h.2), if_pos (show 3 ≤ ([224 + k / 4096, 128 + k / 64 % 64, 128 + k % 64] ++ rest).length by simp)]
        exact Prod.ext e3 rfl
  · rw [tellL_5]
    have e3 : c.toNat / 256 * 256 + c.toNat % 256 = c.toNat := by omega
    simp [gss, nth, e3]
theorem rdC_tell {cs c : Int} (hcs : 1 ≤ cs ∧ cs ≤ 5) (hch : chr c = true) (hh : hasC cs c = true) (rest : List Nat) : rdC cs (tellL cs c ++ rest) = (c.toNat, (tellL cs c).length) := by
  have hg := gss_tell hcs hch hh rest
  have h0 : ((c.toNat : Nat) : Int) = c := Int.toNat_of_nonneg (chr_iff.1 hch).1
  have hlen := (tellL_len cs c).1
  rw [rdC_yes (by rw [hg]; simp only; omega) (by rw [hg]; simp only; rw [h0]; exact hch) (by rw [hg]; simp only; rw [h0]; exact hh) (by rw [hg]; simp only; rw [h0, List.take_left]), hg]
theorem decL_tell {cs : Int} (hcs : 1 ≤ cs ∧ cs ≤ 5) : ∀ u : List Int, (∀ x ∈ u, chr x = true) → (∀ x ∈ u, hasC cs x = true) → decL cs (u.flatMap (tellL cs)) = some u
  | [], _, _ => decL_nil rfl
  | c :: u, h1, h2 => by
    have hc := h1 c (List.mem_cons_self ..)
    have hh := h2 c (List.mem_cons_self ..)
    have hlen := (tellL_len cs c).1
    rw [List.flatMap_cons, decL_step (by rw [List.length_append]; omega) (by omega) (rdC_tell hcs hc hh _), List.drop_left, decL_tell hcs u (fun x hx => h1 x (List.mem_cons_of_mem _ hx)) (fun x hx => h2 x (List.mem_cons_of_mem _ hx))]
    simp [Int.toNat_of_nonneg (chr_iff.1 hc).1]
theorem decL_told {cs : Int} : ∀ (n : Nat) (l : List Nat) (u : List Int), l.length ≤ n → decL cs l = some u → u.flatMap (tellL cs) = l ∧ (∀ x ∈ u, chr x = true) ∧ (∀ x ∈ u, hasC cs x = true) := by
  intro n
  induction n with
  | zero =>
    intro l u hl h
    have hl0 : l = [] := List.length_eq_zero_iff.1 (by omega)
    subst hl0
    rw [decL_nil rfl] at h
    cases h
    exact ⟨rfl, fun x hx => by simp at hx, fun x hx => by simp at hx⟩
  | succ n ih =>
    intro l u hl h
    by_cases h0 : l.length = 0
    · have hl0 : l = [] := List.length_eq_zero_iff.1 h0
      subst hl0
      rw [decL_nil rfl] at h
      cases h
      exact ⟨rfl, fun x hx => by simp at hx, fun x hx => by simp at hx⟩
    · by_cases hs : (rdC cs l).2 = 0
      · rw [decL_none (by omega) hs] at h; cases h
      · have hr : (gss cs l).2 ≠ 0 ∧ chr ((gss cs l).1 : Int) = true ∧ hasC cs ((gss cs l).1 : Int) = true ∧ tellL cs ((gss cs l).1 : Int) = l.take (gss cs l).2 ∧ rdC cs l = gss cs l := by
          unfold rdC at hs
          split at hs
          · exact absurd rfl hs
          · rename_i hn
            have n1 : (gss cs l).2 ≠ 0 := fun e => hn (.inl e)
            have n2 : chr ((gss cs l).1 : Int) = true := by
              cases hx : chr ((gss cs l).1 : Int)
              · exact absurd (.inr (.inl hx)) hn
              · rfl
            have n3 : hasC cs ((gss cs l).1 : Int) = true := by
              cases hx : hasC cs ((gss cs l).1 : Int)
              · exact absurd (.inr (.inr (.inl hx))) hn
              · rfl
            have n4 : tellL cs ((gss cs l).1 : Int) = l.take (gss cs l).2 := by
              by_cases hx : tellL cs ((gss cs l).1 : Int) = l.take (gss cs l).2
              · exact hx
              · exact absurd (.inr (.inr (.inr hx))) hn
            exact ⟨n1, n2, n3, n4, rdC_yes n1 n2 n3 n4⟩
        obtain ⟨n1, n2, n3, n4, n5⟩ := hr
        rw [decL_step (c := (gss cs l).1) (s := (gss cs l).2) (by omega) n1 n5] at h
        cases hd : decL cs (l.drop (gss cs l).2) with
        | none => rw [hd] at h; cases h
        | some v =>
          rw [hd] at h
          simp only [Option.map_some, Option.some.injEq] at h
          subst h
          obtain ⟨e1, e2, e3⟩ := ih _ _ (by rw [List.length_drop]; omega) hd
          refine ⟨?_, ?_, ?_⟩
          · rw [List.flatMap_cons, e1, n4, List.take_append_drop]
          · intro x hx
            rcases List.mem_cons.1 hx with rfl | hx
            · exact n2
            · exact e2 x hx
          · intro x hx
            rcases List.mem_cons.1 hx with rfl | hx
            · exact n3
            · exact e3 x hx

/-- What was read is told so again. -/
theorem enc_dec {cs : Int} {l : List Nat} {u : List Int} (h : decT cs l = (0, u)) : encT cs u = (0, l) := by
  unfold decT at h
  split at h
  · rename_i hcs
    split at h
    · cases h
    · rename_i h4
      cases hd : decL cs l with
      | none => rw [hd] at h; cases h
      | some v =>
        rw [hd] at h
        simp only [Prod.mk.injEq, true_and] at h
        subst h
        obtain ⟨e1, e2, e3⟩ := decL_told l.length l v (Nat.le_refl _) hd
        have hlen := decL_len cs l.length l v (Nat.le_refl _) hd
        rw [encT_ok hcs (flt_ok (by omega) (List.all_eq_true.2 e2)), encV_ok (List.all_eq_true.2 e3) (by rw [e1]; exact h4), e1]
  · cases h
/-- What was told is read back; and all of it is there. -/
theorem dec_enc {cs : Int} {u : List Int} {l : List Nat} (h : encT cs u = (0, l)) : decT cs l = (0, u) ∧ flt u = 0 ∧ u.all (hasV cs) = true ∧ IsB l := by
  unfold encT at h
  split at h
  · rename_i hcs
    split at h
    · rename_i hf
      obtain ⟨h4, hch⟩ := flt_zero hf
      have hE := h
      unfold encV at h
      split at h
      · rename_i ha
        split at h
        · cases h
        · rename_i hn
          simp only [Prod.mk.injEq, true_and] at h
          refine ⟨?_, hf, ?_, ?_⟩
          · rw [← h]
            exact decT_ok hcs hn (decL_tell hcs u hch (fun x hx => List.all_eq_true.1 ha x hx))
          · rw [List.all_eq_true]
            intro x hx
            unfold hasV
            rw [decide_eq_true hcs, hch x hx, List.all_eq_true.1 ha x hx]
            rfl
          · have := encV_isB (l := u) hcs hch
            rw [hE] at this
            exact this
      · cases h
    · rename_i hf
      exact absurd (Prod.mk.inj h).1 hf
  · cases h
/-- Where a character is lacking not all are there. -/
theorem enc_lacks {cs : Int} {u : List Int} {l : List Nat} (h : encT cs u = (8, l)) : u.all (hasV cs) = false := by
  unfold encT at h
  split at h
  · rename_i hcs
    split at h
    · rename_i hf
      obtain ⟨h4, hch⟩ := flt_zero hf
      unfold encV at h
      split at h
      · split at h <;> cases h
      · rename_i ha
        have ha' : u.all (hasC cs) = false := by cases hx : u.all (hasC cs); rfl; exact absurd hx ha
        rw [List.all_eq_false] at ha' ⊢
        obtain ⟨x, hx, hn⟩ := ha'
        refine ⟨x, hx, fun hv => hn ?_⟩
        unfold hasV at hv
        simp only [Bool.and_eq_true] at hv
        exact hv.2
    · rename_i hf
      have := (Prod.mk.inj h).1
      rcases flt_cases u with h' | h' | h' <;> omega
  · cases h
theorem encT_codes (cs : Int) (u : List Int) : (encT cs u).1 = 0 ∨ (encT cs u).1 ≠ 0 ∧ (encT cs u).2 = [] := by
  unfold encT
  split
  · split
    · unfold encV
      split
      · split
        · exact .inr ⟨by decide, rfl⟩
        · exact .inl rfl
      · exact .inr ⟨by decide, rfl⟩
    · exact .inr ⟨by assumption, rfl⟩
  · exact .inr ⟨by decide, rfl⟩
theorem decT_codes (cs : Int) (l : List Nat) : (decT cs l).1 = 0 ∨ (decT cs l).1 ≠ 0 ∧ (decT cs l).2 = [] := by
  unfold decT
  split
  · split
    · exact .inr ⟨by decide, rfl⟩
    · cases decL cs l with
      | none => exact .inr ⟨by decide, rfl⟩
      | some v => exact .inl rfl
  · exact .inr ⟨by decide, rfl⟩
end Go.Proofs.YtfbjodbihenmjaaGreatDoor
