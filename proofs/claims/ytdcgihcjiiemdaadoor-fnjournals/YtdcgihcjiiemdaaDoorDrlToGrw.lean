/- The model's draws of characters: each ends with some numbers, in memory of the draw's own; nothing that was there is turned but the source; sources of at most 1048576 bytes · The draw of uids; no conditions beyond those that each fact names · A slice of bytes that was made of a text: it may be written; no conditions beyond those that each fact names · A slice of bytes that may be written and grows by appends, whether it was made of a text or is a row of the call's own; no conditions beyond those that each fact names. -/
import Derived.Test.YtdcgihcjiiemdaaDoorDrw2ToAppI
import Derived.Test.YtdcgihcjiiemdaaDoorMrk0ToDrw
import Derived.Test.YtdcgihcjiiemdaaDoorMemToApp
import Derived.ArgAppend
import Derived.Deep.MidRow
namespace Go.Proofs.YtdcgihcjiiemdaaDoor
open Go.RowKit
theorem OwnI.keptG {w w' : World} {B b : Nat} {v : Value} {l : List Int} (h : OwnI w B v l) (hg : w.grownBy w' (some b)) (hb : b < B) : OwnI w' B v l := by
 refine World.ownsRow.kept h hg ?_
 cases hv : v.ownBlock with
 | none => exact .inl rfl
 | some k => right; intro e; have := (h.lt k hv).1; simp at e; omega
theorem gthen {w w1 w2 : World} {row : Option Nat} (h : w.grownBy w1 row) (k : w1.grownBy w2 row) : w.grownBy w2 row := ⟨k.os.trans h.os, k.tape.trans h.tape, k.output.trans h.output, Nat.le_trans h.size k.size, fun g hg hne => (k.block g (Nat.lt_of_lt_of_le hg h.size) hne).trans (h.block g hg hne)⟩
theorem glow {w w1 w2 : World} {row : Option Nat} (h : w.grownBy w1 row) (k : Below w.heap.size w1 w2) : w.grownBy w2 row := ⟨k.os.trans h.os, k.tape.trans h.tape, k.output.trans h.output, Nat.le_trans h.size k.size, fun g hg hne => (k.block g hg).trans (h.block g hg hne)⟩
theorem gnew {w w1 : World} {row : Option Nat} (h : w.grownBy w1 row) (o : Obj) : w.grownBy (w1.alloc o) row := gthen h (World.grownBy_alloc _ _ _)
theorem gbelow {w w1 : World} {b : Nat} (h : w.grownBy w1 (some b)) (hb : b < w.heap.size) : Below b w w1 := (Below.refl _ _).grown h (by omega) (by intro k hk; simp at hk; omega)
def NumsEnd (B b M K : Nat) (V : List Int → Prop) (w : World) (e : Ending) (w' : World) : Prop := ∃ (v : Value) (out : List Int), e = .returned v ∧ OwnI w' w.heap.size v out ∧ out.length ≤ K ∧ V out ∧ Src w' B b M ∧ w.grownBy w' (some b)
theorem numsEnd {B b M K : Nat} {V : List Int → Prop} {w w' : World} {v : Value} {out : List Int} (h1 : OwnI w' w.heap.size v out) (h3 : out.length ≤ K) (h2 : V out) (h5 : Src w' B b M) (h4 : w.grownBy w' (some b)) : NumsEnd B b M K V w (.returned v) w' := ⟨v, out, rfl, h1, h3, h2, h5, h4⟩
def Any (_ : List Int) : Prop := True
def Drawn (l : List Int) : Prop := ∀ x ∈ l, x ∈ [97, 66, 32, 228, 1078, 1046, 8470, 167, 8364, 127, 160, 1037, (0 : Int)]
theorem Drawn.nil : Drawn [] := fun _ h => by simp at h
theorem Drawn.snoc {l : List Int} {x : Int} (h : Drawn l) (hx : x ∈ [97, 66, 32, 228, 1078, 1046, 8470, 167, 8364, 127, 160, (1037 : Int)]) : Drawn (l ++ [x]) := fun y hy => by
 rcases List.mem_append.1 hy with hy | hy
 ·exact h y hy
 ·rw [List.mem_singleton] at hy
  subst hy
  simp only [List.mem_cons, List.not_mem_nil, or_false] at hx ⊢
  omega
set_option maxHeartbeats 1600000 in
set_option maxRecDepth 100000 in
theorem l2Codes_any (B b M : Nat) (w : World) (hs : Src w B b M) (hM : M ≤ 99000) :
  Calls Tryd.prog 71 #[.pointer (some ⟨b, 0, none⟩)] w fun e w' => NumsEnd B b (M + 6) 6 Drawn w e w' := by
 obtain ⟨hBb, hbw, _⟩ := id hs
 have hown0 : OwnI (w.alloc (.cells #[] 2)) w.heap.size (.slice (some ⟨w.heap.size, 0, none⟩) 0 0) [] := OwnI.lit w _ (Nat.le_refl _) #[] [] rfl (by decide)
 have hbel0 : w.grownBy (w.alloc (.cells #[] 2)) (some b) := World.grownBy_alloc _ _ _
 have hs0 : Src (w.alloc (.cells #[] 2)) B b M := hs.below ((Below.refl _ _).alloc (by omega) _)
 go_enter Tryd.func71, Tryd.ntmps71
 go_wp2_with fail
 refine (l1Next_any B b M 6 _ hs0 (by omega) (by omega) (by omega)).mono ?_
 rintro e w1 ⟨r, rfl, r0, r1, _, hs1, hg1⟩
 obtain ⟨n, rfl⟩ := Int.eq_ofNat_of_zero_le r0
 have hn6 : n < 6 := by have := r1 (by omega); omega
 have hown1 := hown0.keptG hg1 (by omega)
 have hb1 : w.grownBy w1 (some b) := gthen hbel0 hg1
 have HA : Hid (OwnI w1 w.heap.size (.slice (some ⟨w.heap.size, 0, none⟩) 0 0) [] ∧ Src w1 B b (M + 1) ∧ w.grownBy w1 (some b)) := ⟨hown1, hs1, hb1⟩
 clear hs hs0 hg1 hown0 hbel0 hown1 hs1 hb1 r1
 go_wp2
 go_loopw [3, 4] (fun v j wr => ∃ (i : Nat) (out : List Int), i ≤ n ∧ j = .int .i64 ((n - i : Nat) : Int) ∧ OwnI wr w.heap.size v out ∧ out.length = i ∧ Drawn out ∧ Src wr B b (M + 1 + i) ∧ w.grownBy wr (some b))
  (fun _ j _ => (intOf j).toNat)
 case atStart => exact ⟨0, [], by omega, rfl, HA.out.1, rfl, Drawn.nil, HA.out.2.1, HA.out.2.2⟩
 case round =>
  obtain ⟨i, out, hi, rfl, hown, hol, hV, hsr, hbel⟩ := hrel
  clear HA
  have hz := hbel.size
  by_cases hin : i < n
  ·have hj : (0 : Int) < ((n - i : Nat) : Int) := by omega
   obtain ⟨_, hbr, _⟩ := id hsr
   have hs1' : Src (wr.alloc (.cells #[.int .i64 97, .int .i64 66, .int .i64 32, .int .i64 228, .int .i64 1078, .int .i64 1046, .int .i64 8470, .int .i64 167, .int .i64 8364, .int .i64 127, .int .i64 160, .int .i64 1037] 2)) B b (M + 1 + i) := hsr.below ((Below.refl _ _).alloc (by omega) _)
   go_wp2_with fail
   refine (l1Pick_any B b (M + 1 + i) _ 12 12 [97, 66, 32, 228, 1078, 1046, 8470, 167, 8364, 127, 160, 1037] _ hs1' (by omega) rfl (by omega) (by omega) (nums_new rfl) (by omega)).mono ?_
   rintro e w2 ⟨x, rfl, hx, hs2, hg2⟩
   have ho2 := (hown.alloc (.cells #[.int .i64 97, .int .i64 66, .int .i64 32, .int .i64 228, .int .i64 1078, .int .i64 1046, .int .i64 8470, .int .i64 167, .int .i64 8364, .int .i64 127, .int .i64 160, .int .i64 1037] 2)).keptG hg2 (by omega)
   have hb2 : w.grownBy w2 (some b) := gthen (gnew hbel _) hg2
   have hz2 : wr.heap.size + 1 ≤ w2.heap.size := by have := hg2.size; simpa using this
   have HS2 : Hid (Src w2 B b (M + 1 + i + 1)) := hs2
   have HV : Hid (Drawn (out ++ [x])) := hV.snoc hx
   clear hV
   clear hs1' hg2 hx hsr hown hs2
   go_wp2_with (at_builtin; refine wpList_app_newI rfl _ _ rfl w.heap.size _ out rfl ho2 1 1 [x] rfl rfl rfl (by omega) (by omega) ?_; intro v' w3 hown' hb')
   have hs3 : Hid (Src w3 B b (M + 1 + (i + 1))) := Src.below (w := w2) HS2.out (hb'.mono (by omega))
   go_wp2
   go_roundw
   case rel => exact ⟨i + 1, out ++ [x], by omega, by go_num, hown', by simp; omega, HV.out, hs3.out, glow hb2 hb'⟩
   case measure => simp [intOf]; omega
  ·have hii : i = n := by omega
   have hj : ¬ (0 : Int) < ((n - i : Nat) : Int) := by omega
   subst hii
   have HF : Hid (NumsEnd B b (M + 6) 6 Drawn w (.returned _) wr) := numsEnd hown (by omega) hV (hsr.more (by omega)) hbel
   clear hown hsr hV
   go_wp2
   go_ret
   exact HF.out
end Go.Proofs.YtdcgihcjiiemdaaDoor
namespace Go.Proofs.YtdcgihcjiiemdaaDoor
open Go.RowKit
def UidR (l : List Int) : Prop := ∀ z ∈ l, 1 ≤ z ∧ z ≤ 999
theorem UidR.nil : UidR [] := fun z h => by simp at h
theorem UidR.snoc {l : List Int} {i : Nat} (h : UidR l) (hi : i < 5) : UidR (l ++ [((i + 1 : Nat) : Int)]) := fun z hz => by
 rcases List.mem_append.1 hz with hz | hz
 ·exact h z hz
 ·obtain rfl := List.mem_singleton.1 hz
  omega
set_option maxHeartbeats 1600000 in
set_option maxRecDepth 100000 in
theorem l8DrawUids_any (B b M : Nat) (w : World) (hs : Src w B b M) (hM : M ≤ 90000) :
  Calls Tryd.prog 42 #[.pointer (some ⟨b, 0, none⟩)] w fun e w' => NumsEnd B b (M + 6) 6 UidR w e w' := by
 obtain ⟨hBb, hbw, _⟩ := id hs
 have hown0 : OwnI (w.alloc (.cells #[] 2)) w.heap.size (.slice (some ⟨w.heap.size, 0, none⟩) 0 0) [] := OwnI.lit w _ (Nat.le_refl _) #[] [] rfl (by decide)
 have hbel0 : w.grownBy (w.alloc (.cells #[] 2)) (some b) := World.grownBy_alloc _ _ _
 have hs0 : Src (w.alloc (.cells #[] 2)) B b M := hs.below ((Below.refl _ _).alloc (by omega) _)
 go_enter Tryd.func42, Tryd.ntmps42
 have HA : Hid (OwnI (w.alloc (.cells #[] 2)) w.heap.size (.slice (some ⟨w.heap.size, 0, none⟩) 0 0) [] ∧ Src (w.alloc (.cells #[] 2)) B b M ∧ w.grownBy (w.alloc (.cells #[] 2)) (some b)) := ⟨hown0, hs0, hbel0⟩
 clear hs hs0 hown0 hbel0
 go_wp2
 go_loopw [3, 4] (fun v j wr => ∃ (i : Nat) (out : List Int), i ≤ 5 ∧ j = .int .i64 ((i + 1 : Nat) : Int) ∧ OwnI wr w.heap.size v out ∧ out.length ≤ i ∧ UidR out ∧ Src wr B b (M + i) ∧ w.grownBy wr (some b))
  (fun _ j _ => 6 - (intOf j).toNat)
 case atStart => exact ⟨0, [], by omega, rfl, HA.out.1, Nat.le_refl _, UidR.nil, HA.out.2.1, HA.out.2.2⟩
 case round =>
  obtain ⟨i, out, hi, rfl, hown, hol, hV, hsr, hbel⟩ := hrel
  clear HA
  have hz := hbel.size
  by_cases hin : i < 5
  ·have hj : ((i + 1 : Nat) : Int) < 6 := by omega
   obtain ⟨_, hbr, _⟩ := id hsr
   go_wp2_with fail
   refine (l1Chance_any B b (M + i) 2 _ hsr (by omega) (by omega) (by omega)).mono ?_
   rintro e w2 ⟨q, rfl, hs2, hg2⟩
   have ho2 := hown.keptG hg2 (by omega)
   have hb2 : w.grownBy w2 (some b) := gthen hbel hg2
   have hz2 : wr.heap.size ≤ w2.heap.size := hg2.size
   have HS2 : Hid (Src w2 B b (M + i + 1)) := hs2
   clear hg2 hsr hown hs2
   cases q with
   | true =>
    go_wp2_with (at_builtin; refine wpList_app_newI rfl _ _ rfl w.heap.size _ out rfl ho2 1 1 [((i + 1 : Nat) : Int)] rfl rfl rfl (by omega) (by omega) ?_; intro v' w3 hown' hb')
    have hs3 : Hid (Src w3 B b (M + (i + 1))) := Src.below (w := w2) HS2.out (hb'.mono (by omega))
    go_wp2
    go_roundw
    case rel => exact ⟨i + 1, out ++ [((i + 1 : Nat) : Int)], by omega, by go_num, hown', by simp; omega, hV.snoc hin, hs3.out, glow hb2 hb'⟩
    case measure => simp [intOf]; omega
   | false =>
    go_wp2
    go_roundw
    case rel => exact ⟨i + 1, out, by omega, by go_num, ho2, by omega, hV, HS2.out, hb2⟩
    case measure => simp [intOf]; omega
  ·have hii : i = 5 := by omega
   have hj : ¬ ((i + 1 : Nat) : Int) < 6 := by omega
   have HF : Hid (NumsEnd B b (M + 6) 6 UidR w (.returned _) wr) := numsEnd hown (by omega) hV (hsr.more (by omega)) hbel
   clear hown hsr
   go_wp2
   go_ret
   exact HF.out
end Go.Proofs.YtdcgihcjiiemdaaDoor
namespace Go.Proofs.YtdcgihcjiiemdaaDoor
open Go.RowKit
def Cv (w : World) (g n cap : Nat) (l : List Nat) : Prop := l.length = n ∧ n ≤ cap ∧ g < w.heap.size ∧ (∀ i, i < n → w.cell? ⟨g, i, none⟩ = some (.int .u8 (nth l i : Int))) ∧ ∀ i, i < cap → (w.cell? ⟨g, i, none⟩).isSome = true ∧ w.frozen? ⟨g, i, none⟩ = false
theorem Cv.rd {w : World} {g n cap : Nat} {l : List Nat} (h : Cv w g n cap l) : Rd w (some ⟨g, 0, none⟩) l := by
 obtain ⟨hl, _, hg, hc, _⟩ := h
 exact .inr ⟨g, 0, rfl, hg, fun i hi => by rw [Nat.zero_add]; exact hc i (by omega)⟩
theorem Cv.kept {w w' : World} {g n cap b : Nat} {l : List Nat} (h : Cv w g n cap l) (hg : w.grownBy w' (some b)) (hb : b ≠ g) : Cv w' g n cap l := by
 obtain ⟨hl, hn, hlt, hc, hf⟩ := h
 have e1 : ∀ i, w'.cell? ⟨g, i, none⟩ = w.cell? ⟨g, i, none⟩ := fun i => hg.cell_far ⟨g, i, none⟩ hlt (by simp; omega)
 have e2 : ∀ i, w'.frozen? ⟨g, i, none⟩ = w.frozen? ⟨g, i, none⟩ := fun i => hg.frozen_far ⟨g, i, none⟩ hlt (by simp; omega)
 exact ⟨hl, hn, Nat.lt_of_lt_of_le hlt hg.size, fun i hi => (e1 i).trans (hc i hi), fun i hi => by rw [e1, e2]; exact hf i hi⟩
theorem Cv.below {w w' : World} {g n cap C : Nat} {l : List Nat} (h : Cv w g n cap l) (hb : Below C w w') (hC : g < C) : Cv w' g n cap l := by
 obtain ⟨hl, hn, hlt, hc, hf⟩ := h
 have e1 : ∀ i, w'.cell? ⟨g, i, none⟩ = w.cell? ⟨g, i, none⟩ := fun i => hb.cell (p := ⟨g, i, none⟩) hC
 have e2 : ∀ i, w'.frozen? ⟨g, i, none⟩ = w.frozen? ⟨g, i, none⟩ := fun i => hb.frozen (p := ⟨g, i, none⟩) hC
 exact ⟨hl, hn, Nat.lt_of_lt_of_le hlt hb.size, fun i hi => (e1 i).trans (hc i hi), fun i hi => by rw [e1, e2]; exact hf i hi⟩
theorem bytesRow_size (l : List Nat) (cap : Nat) (h : l.length ≤ cap) : (bytesRow (str l) cap).size = cap := by
 have := str_size l
 have e : (str l).data.size = (str l).size := rfl
 simp [bytesRow, e, this]; omega
theorem Cv.conv (w : World) (l : List Nat) (hB : IsB l) (cap : Nat) (h : l.length ≤ cap) : Cv (w.alloc (.cells (bytesRow (str l) cap) 5 ((bytesRow (str l) cap).size, (bytesRow (str l) cap).size + 1))) w.heap.size l.length cap l := by
 have hs := bytesRow_size l cap h
 refine ⟨rfl, h, by simp, fun i hi => ?_, fun i hi => ⟨?_, ?_⟩⟩
 ·rw [World.cell?_alloc_mark, ← Array.getElem?_toList, ← bc_get hi, ← bytesRow_take l hB cap, List.getElem?_take, if_pos hi]
 ·rw [World.cell?_alloc_mark, Array.getElem?_eq_getElem (by omega)]; rfl
 ·rw [World.frozen?_alloc_mark, hs, decide_eq_false (by omega), Bool.false_and]
theorem below_setCells (g : Nat) : ∀ (vs : List Value) (o : Nat) (w : World), Below g w (w.setCells g o vs)
 | [], _, _ => Below.refl _ _
 | v :: r, o, w => ((Below.refl _ _).setCell (p := ⟨g, o, none⟩) (Nat.le_refl _) v).trans (below_setCells g r (o + 1) (w.setCell ⟨g, o, none⟩ v))
theorem Cv.put {w : World} {g n cap j y : Nat} {l : List Nat} (h : Cv w g n cap l) (hj : j < n) : Cv (w.setCell ⟨g, j, none⟩ (.int .u8 (y : Int))) g n cap (l.set j y) := by
 obtain ⟨hl, hn, hg, hc, hf⟩ := h
 have hcell : ∀ i, j ≠ i → (w.setCell ⟨g, j, none⟩ (.int .u8 (y : Int))).cell? ⟨g, i, none⟩ = w.cell? ⟨g, i, none⟩ := fun i e => World.cell?_setCell_other _ _ _ _ (fun h => e (by cases h; rfl))
 refine ⟨by rw [List.length_set]; exact hl, hn, by simpa using hg, fun i hi => ?_, fun i hi => ⟨?_, ?_⟩⟩
 ·by_cases e : j = i
  ·subst e
   rw [World.cell?_setCell_same _ _ _ (hc j hj), nth_get (by rw [List.length_set]; omega)]
   simp
  ·rw [hcell i e, hc i hi, nth_get (by omega), nth_get (by rw [List.length_set]; omega), List.getElem_set, if_neg e]
 ·by_cases e : j = i
  ·subst e
   rw [World.cell?_setCell_same _ _ _ (hc j hj)]; rfl
  ·rw [hcell i e]; exact (hf i hi).1
 ·rw [World.frozen?_setCell]; exact (hf i hi).2
end Go.Proofs.YtdcgihcjiiemdaaDoor
namespace Go.Proofs.YtdcgihcjiiemdaaDoor
open Go.RowKit
def Gr (w : World) (B : Nat) (v : Value) (l : List Nat) : Prop := ∃ g cap, v = .slice (some ⟨g, 0, none⟩) l.length cap ∧ B ≤ g ∧ cap ≤ maxLen ∧ Cv w g l.length cap l
theorem Gr.rd {w : World} {B : Nat} {v : Value} {l : List Nat} (h : Gr w B v l) : ∃ g cap, v = .slice (some ⟨g, 0, none⟩) l.length cap ∧ Rd w (some ⟨g, 0, none⟩) l ∧ l.length ≤ cap := by
 obtain ⟨g, cap, e, _, _, hc⟩ := h
 exact ⟨g, cap, e, hc.rd, hc.2.1⟩
theorem Gr.below {w w' : World} {B C : Nat} {v : Value} {l : List Nat} (h : Gr w B v l) (hb : Below C w w') (hC : w.heap.size ≤ C) : Gr w' B v l := by
 obtain ⟨g, cap, e, h1, h2, hc⟩ := h
 exact ⟨g, cap, e, h1, h2, hc.below hb (Nat.lt_of_lt_of_le hc.2.2.1 hC)⟩
theorem Gr.alloc {w : World} {B : Nat} {v : Value} {l : List Nat} (h : Gr w B v l) (o : Obj) : Gr (w.alloc o) B v l := h.below ((Below.refl _ _).alloc (Nat.le_refl _) o) (Nat.le_refl _)
theorem Gr.drew {w : World} {B : Nat} {v : Value} {l : List Nat} (h : Gr w B v l) : Gr w.drew B v l := h.below (Below.refl _ _).drew (Nat.le_refl _)
theorem Gr.low {w : World} {B C : Nat} {v : Value} {l : List Nat} (h : Gr w B v l) (hC : C ≤ B) : Gr w C v l := by
 obtain ⟨g, cap, e, h1, h2, hc⟩ := h
 exact ⟨g, cap, e, by omega, h2, hc⟩
theorem Gr.conv (w : World) (l : List Nat) (hB : IsB l) (B cap : Nat) (hBw : B ≤ w.heap.size) (h : l.length ≤ cap) (hm : cap ≤ maxLen) : Gr (w.alloc (.cells (bytesRow (str l) cap) 5 ((bytesRow (str l) cap).size, (bytesRow (str l) cap).size + 1))) B (.slice (some ⟨w.heap.size, 0, none⟩) l.length cap) l :=
 ⟨w.heap.size, cap, rfl, hBw, hm, Cv.conv w l hB cap h⟩
theorem Gr.own {w : World} {B : Nat} {v : Value} {l : List Nat} (h : Own w B v l) (hp : 0 < l.length) : Gr w B v l := by
 obtain ⟨a, cap, hv, h1, h2⟩ := h.form
 subst hv
 obtain ⟨hlen, hrd⟩ := h.rd
 rcases h.2 with ⟨h', h0⟩ | ⟨g, cap', cur, e, hB, hh, hc1, hc2, hcs, -⟩
 ·omega
 ·injection e with e1 _ e2
  subst e1 e2
  have hlt : g < w.heap.size := (Array.getElem?_eq_some_iff.1 hh).1
  refine ⟨g, cap, rfl, hB, h2, rfl, h1, hlt, ?_, ?_⟩
  ·obtain ⟨b', off', e', -, hc⟩ := hrd.at_ hp
   cases e'
   intro i hi
   have := hc i hi
   rw [Nat.zero_add] at this
   exact this
  ·intro i hi
   have hs : cur.size = cap := by simpa using hcs
   refine ⟨?_, ?_⟩
   ·simp [World.cell?, hh, hs, hi]
   ·simp [World.frozen?, hh]
end Go.Proofs.YtdcgihcjiiemdaaDoor
