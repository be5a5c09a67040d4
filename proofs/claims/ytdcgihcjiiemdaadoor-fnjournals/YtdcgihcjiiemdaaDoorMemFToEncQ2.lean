/- Words on memory, with no program in them: where a slice of fields (two texts each) is read, what a row of the call's own holds · A slice of fields of the call's own, and what an append to it leaves: laws for this program's types · A slice of fields that came in: what the row tells of it gives its cells; no program in it · The laws' helpers over slices of fields: they copy one, reckon its size, and hold two against each other · More of the laws' helpers over slices of fields: a slice's size, and whether two are the same · FieldsFault, the model's, at every slice of fields: by a plain function · Told words, the model's: the place of a question mark, blanks and tabs · Plain facts on lists of bytes, with no program in them: quoted text is read back as the bytes that it was told of, and it is plain; no conditions · Told words: plain functions, with no program in them · Contracts of the library, laid over this program: each is one application of a theorem of the library; no conditions beyond those that each names · A field of a result that is held as a value: plain reading · The library's own bound · EncodeWords, the program's, at every slice of characters; the bytes that are seen · EncodeWords, the model's, at every slice of characters · EncodeQuoted, the program's and the model's: of at most 400 bytes each answers their quoted text, of more the code 2; slices of at most 1048576 bytes · The program's EncodeQuoted: of at most 400 bytes it answers their quoted text, of more the code 2. -/
import Derived.Test.YtdcgihcjiiemdaaDoorMrk0ToDrw
import Derived.OpenShut
import Derived.Test.YtdcgihcjiiemdaaDoorMemToApp
import Derived.ChangeArms
import Derived.DataReads
import Derived.Deep.RegionHeld3
import Derived.Test.YtdcgihcjiiemdaaDoorChs0ToTel2
import Derived.Shelf.Bytes.SlSmallAll
import Derived.Shelf.Bytes.Small
import Derived.Test.YtdcgihcjiiemdaaDoorProg
import Derived.Below
import Derived.Test.YtdcgihcjiiemdaaDoorMathToEncB2
import Derived.Test.YtdcgihcjiiemdaaDoorEncB3
import Derived.Handy
import Derived.WalkLawsBesides
namespace Go.Proofs.YtdcgihcjiiemdaaDoor
open Go.RowKit
abbrev FldP := ByteArray × ByteArray
def nthF (l : List FldP) (i : Nat) : FldP := l.getD i (ByteArray.empty, ByteArray.empty)
def fc (l : List FldP) : List Value := l.flatMap fun p => [Value.string p.1, Value.string p.2]
theorem fc_cons (p : FldP) (l : List FldP) : fc (p :: l) = .string p.1 :: .string p.2 :: fc l := rfl
theorem fc_len : ∀ l : List FldP, (fc l).length = l.length * 2
 | [] => rfl
 | p :: l => by rw [fc_cons, List.length_cons, List.length_cons, fc_len l, List.length_cons]; omega
theorem fc_get : ∀ (l : List FldP) (i : Nat), i < l.length → (fc l)[i * 2]? = some (.string (nthF l i).1) ∧ (fc l)[i * 2 + 1]? = some (.string (nthF l i).2)
 | [], _, h => by simp at h
 | p :: l, 0, _ => ⟨rfl, rfl⟩
 | p :: l, i + 1, h => by
  have := fc_get l i (by simpa using h)
  rw [fc_cons, show (i + 1) * 2 = i * 2 + 2 by omega]
  exact this
def RdF (w : World) (a : Option Addr) (l : List FldP) : Prop :=
 l = [] ∨ ∃ b off, a = some ⟨b, off, none⟩ ∧ b < w.heap.size ∧ ∀ i, i < l.length → w.cell? ⟨b, off + i * 2, none⟩ = some (.string (nthF l i).1) ∧ w.cell? ⟨b, off + i * 2 + 1, none⟩ = some (.string (nthF l i).2)
theorem RdF.below {w w' : World} {a : Option Addr} {l : List FldP} (h : RdF w a l) (hb : Below w.heap.size w w') : RdF w' a l := by
 rcases h with h | ⟨b, off, e, hlt, hc⟩
 ·exact .inl h
 ·exact .inr ⟨b, off, e, Nat.lt_of_lt_of_le hlt hb.size, fun i hi => ⟨(hb.cell (p := ⟨b, off + i * 2, none⟩) hlt).trans (hc i hi).1, (hb.cell (p := ⟨b, off + i * 2 + 1, none⟩) hlt).trans (hc i hi).2⟩⟩
theorem RdF.at_ {w : World} {a : Option Addr} {l : List FldP} (h : RdF w a l) (hp : 0 < l.length) :
  ∃ b off, a = some ⟨b, off, none⟩ ∧ b < w.heap.size ∧ ∀ i, i < l.length → w.cell? ⟨b, off + i * 2, none⟩ = some (.string (nthF l i).1) ∧ w.cell? ⟨b, off + i * 2 + 1, none⟩ = some (.string (nthF l i).2) := by
 rcases h with h | h
 ·rw [h] at hp; simp at hp
 ·exact h
theorem RdF.own {w : World} {base e n cap : Nat} {a : Option Addr} {l : List FldP} (h : w.ownsRow base e 2 (.slice a n cap) n (fc l)) : RdF w a l := by
 have hl : l.length = n := by have := h.1; rw [fc_len] at this; omega
 rcases h.2 with ⟨_, h0⟩ | ⟨g, cap', cur, h', _, hg, _, _, _, htake⟩
 ·left; exact List.length_eq_zero_iff.1 (by omega)
 ·simp only [Value.slice.injEq] at h'
  obtain ⟨rfl, _, rfl⟩ := h'
  right
  refine ⟨g, 0, rfl, ?_, fun i hi => ?_⟩
  ·rcases Nat.lt_or_ge g w.heap.size with hlt | hge
   ·exact hlt
   ·simp [Array.getElem?_eq_none hge] at hg
  ·have hf := fc_get l i hi
   refine ⟨?_, ?_⟩
   ·rw [cell_of_row w g (0 + i * 2) cur e (0, 0) hg, ← hf.1, ← htake, List.getElem?_take, if_pos (by omega)]
    simp
   ·rw [cell_of_row w g (0 + i * 2 + 1) cur e (0, 0) hg, ← hf.2, ← htake, List.getElem?_take, if_pos (by omega)]
    simp
end Go.Proofs.YtdcgihcjiiemdaaDoor
namespace Go.Proofs.YtdcgihcjiiemdaaDoor
open Go.RowKit
end Go.Proofs.YtdcgihcjiiemdaaDoor
namespace Go.Proofs.YtdcgihcjiiemdaaDoor
open Go.RowKit
theorem add_zero (a : Addr) : a.add 0 = a := by cases a; simp [Addr.add]
end Go.Proofs.YtdcgihcjiiemdaaDoor
namespace Go.Proofs.YtdcgihcjiiemdaaDoor
open Go.RowKit
end Go.Proofs.YtdcgihcjiiemdaaDoor
namespace Go.Proofs.YtdcgihcjiiemdaaDoor
open Go.RowKit
end Go.Proofs.YtdcgihcjiiemdaaDoor
namespace Go.Proofs.YtdcgihcjiiemdaaDoor
open Go.RowKit
end Go.Proofs.YtdcgihcjiiemdaaDoor
namespace Go.Proofs.YtdcgihcjiiemdaaDoor
open Go.RowKit
end Go.Proofs.YtdcgihcjiiemdaaDoor
namespace Go.Proofs.YtdcgihcjiiemdaaDoor
namespace Xq
def self (b : Nat) (r : List Nat) : Bool :=
 if b = 10 then true else if b = 32 ∨ b = 9 then decide (0 < r.length ∧ nth r 0 ≠ 10) else decide (33 ≤ b ∧ b ≤ 126 ∧ b ≠ 61)
def hex (v : Nat) : Nat := if v < 10 then 48 + v else 55 + v
theorem hex_lt {v : Nat} (h : v < 16) : hex v < 128 ∧ 1 ≤ hex v ∧ hex v ≠ 10 := by unfold hex; split <;> omega
def quo : List Nat → List Nat
 | [] => []
 | b :: r => if self b r = true then b :: quo r else 61 :: hex (b / 16) :: hex (b % 16) :: quo r
theorem self_plain {b : Nat} {r : List Nat} (h : self b r = true) : 1 ≤ b ∧ b < 128 ∧ b ≠ 61 := by
 unfold self at h
 split at h
 ·omega
 ·split at h
  ·omega
  ·simp at h; omega
theorem quo_plain : ∀ l : List Nat, IsB l → ∀ x ∈ quo l, 1 ≤ x ∧ x < 128
 | [], _ => by simp [quo]
 | b :: r, h => by
  have hb := h b (by simp)
  have ih := quo_plain r (fun y hy => h y (by simp [hy]))
  rw [quo]
  split
  ·rename_i hs
   have := self_plain hs
   intro x hx
   rcases List.mem_cons.1 hx with rfl | hx
   ·omega
   ·exact ih x hx
  ·intro x hx
   have h1 := hex_lt (v := b / 16) (by omega)
   have h2 := hex_lt (v := b % 16) (by omega)
   simp only [List.mem_cons] at hx
   rcases hx with rfl | rfl | rfl | hx
   ·omega
   ·omega
   ·omega
   ·exact ih x hx
end Xq
end Go.Proofs.YtdcgihcjiiemdaaDoor
namespace Go.Proofs.YtdcgihcjiiemdaaDoor
open Go.RowKit
end Go.Proofs.YtdcgihcjiiemdaaDoor
namespace Go.Proofs
open Go.Shelf
def Tryd.laysnb116_ren : Go.Shelf.Ren := ⟨fun | 116 => 27 | 115 => 50 | n => n, fun | 37 => 22 | 4 => 4 | 3 => 3 | 9 => 9 | 5 => 5 | n => n, fun | n => n⟩
theorem Tryd.laysnb116 : Go.Proofs.Lays.nb116 Tryd.prog Tryd.laysnb116_ren := {
 mixed := by kernel_rfl
 f115 := Tryd.func50.trans (congrArg some (by kernel_rfl))
 f116 := Tryd.func27.trans (congrArg some (by kernel_rfl))
 t3 := Tryd.underlying3
 a3 := Tryd.isAgg3
 z3 := Tryd.sizeOf3
 v3 := Tryd.zeroValue3
 t4 := Tryd.underlying4
 a4 := Tryd.isAgg4
 z4 := Tryd.sizeOf4
 v4 := Tryd.zeroValue4
 t9 := Tryd.underlying9
 a9 := Tryd.isAgg9
 z9 := Tryd.sizeOf9
 v9 := Tryd.zeroValue9
 t37 := Tryd.underlying22
 a37 := Tryd.isAgg22
 z37 := Tryd.sizeOf22
 v37 := Tryd.zeroValue22
 t5 := Tryd.underlying5
 a5 := Tryd.isAgg5
 z5 := Tryd.sizeOf5
 v5 := Tryd.zeroValue5 }
theorem Tryd.bytes_HasPrefix_all (p1 p2 : Option Addr) (n c m d : Nat) (xs ys : List Int) (w : World) (hx : xs.length = n) (hy : ys.length = m) (hnc : n ≤ c) (h1 : Lib.BytesIn w p1 n xs) (h2 : Lib.BytesIn w p2 m ys) :
  Calls Tryd.prog 27 #[.slice p1 n c, .slice p2 m d] w fun e w' => e = .returned (.bool (Lib.hasPrefix (Lib.bytesOf xs) (Lib.bytesOf ys))) ∧ w' = w := Any.bytes_HasPrefix_all Tryd.laysnb116 p1 p2 n c m d xs ys w hx hy hnc h1 h2
end Go.Proofs
namespace Go.Proofs.YtdcgihcjiiemdaaDoor
open Go.RowKit
theorem fldB0 (x y : Value) (w : World) : (Instr.field 33 (.agg #[x, y]) 0).run Tryd.prog w = .ok x w := by
 simp [Instr.field, asAgg, go_sem]
theorem fldB1 (x y : Value) (w : World) : (Instr.field 33 (.agg #[x, y]) 1).run Tryd.prog w = .ok y w := by
 simp [Instr.field, asAgg, go_sem]
end Go.Proofs.YtdcgihcjiiemdaaDoor
namespace Go.Proofs.YtdcgihcjiiemdaaDoor
open Go.RowKit
end Go.Proofs.YtdcgihcjiiemdaaDoor
namespace Go.Proofs.YtdcgihcjiiemdaaDoor
open Go.RowKit
theorem str_sum (a b : List Nat) : str (a ++ b) = str a ++ str b := by
 unfold str
 apply ByteArray.ext
 simp [ByteArray.data_append]
theorem told_sum (o : List Nat) (h : (toldW o).length ≤ 1048576) : ∃ u : ByteArray, (∀ w, (Op.stringOp .add ⟨#[61, 63, 117, 116, 102, 45, 56, 63, 66, 63]⟩ (str (Xf.enc o))).run Tryd.prog w = .ok (.string u) w) ∧ ∀ w, (Op.stringOp .add u ⟨#[63, 61]⟩).run Tryd.prog w = .ok (.string (str (toldW o))) w := by
 rw [toldW_len] at h
 have e0 : (⟨#[61, 63, 117, 116, 102, 45, 56, 63, 66, 63]⟩ : ByteArray) = str twB := rfl
 have e1 : (⟨#[63, 61]⟩ : ByteArray) = str [63, 61] := rfl
 refine ⟨str (twB ++ Xf.enc o), fun w => ?_, fun w => ?_⟩
 ·rw [e0, str_sum]
  exact run_string_add_sum w _ _ (by rw [str_size, str_size]; simp only [twB, List.length_cons, List.length_nil]; omega)
 ·unfold toldW
  rw [e1, str_sum (twB ++ Xf.enc o)]
  exact run_string_add_sum w _ _ (by rw [str_size, str_size, List.length_append]; simp only [twB, List.length_cons, List.length_nil]; omega)
theorem enc_few {o : List Nat} (h : o.length ≤ 400) : (Xf.enc o).length ≤ 1000 := by
 rw [Xf.enc_len]; omega
def TxtEnd (r : Int × List Nat) (w : World) (e : Ending) (w' : World) : Prop := e = .returned (.agg #[.int .i64 r.1, .string (str r.2)]) ∧ Below w.heap.size w w'
theorem TxtEnd.put {r : Int × List Nat} {w w1 : World} (hbel : Below w.heap.size w w1) (x y : Value) : TxtEnd r w (.returned (.agg #[.int .i64 r.1, .string (str r.2)])) ((w1.setCell ⟨w.heap.size, 0, none⟩ x).setCell ⟨w.heap.size, 1, none⟩ y) :=
 ⟨rfl, (hbel.setCell (by simp) _).setCell (by simp) _⟩
end Go.Proofs.YtdcgihcjiiemdaaDoor
namespace Go.Proofs.YtdcgihcjiiemdaaDoor
open Go.RowKit
def TwoTxt (r : Int × List Nat) (w : World) (e : Ending) (w' : World) : Prop := e = .returned (.tuple #[.string (str r.2), .int .i64 r.1]) ∧ Below w.heap.size w w'
theorem encT_few4 {l : List Int} (hf : flt l = 0) : encT 4 l = encV 4 l := encT_ok (by omega) hf
set_option maxHeartbeats 3200000 in
set_option maxRecDepth 100000 in
theorem l4Encode_any (a : Option Addr) (n cap : Nat) (l : List Int) (w : World) (hl : l.length = n) (hr : RdI w a l) (hf : flt l = 0) :
  Calls Tryd.prog 70 #[.slice a n cap] w fun e w' => TwoTxt (ewV l) w e w' := by
 obtain ⟨hn, hch⟩ := flt_zero hf
 rw [hl] at hn
 have HE := l2Encode_any 4 a n cap l w (by omega) hl hr hn hch
 have HSf := fun w' (hb : Below w.heap.size w w') => l4Self_any a n cap l w' hl (hr.below hb) (by omega)
 have HB : Hid ((encT 4 l).1 ≠ 0 → ewV l = ((encT 4 l).1, [])) := ewV_bad
 have HS : Hid ((encT 4 l).1 = 0 → sfV l = true → ewV l = (0, (encT 4 l).2)) := ewV_self
 have HMn : Hid ((encT 4 l).1 = 0 → sfV l = false → 400 < (toldW (encT 4 l).2).length → ewV l = (2, [])) := ewV_many
 have HT : Hid ((encT 4 l).1 = 0 → sfV l = false → ¬ 400 < (toldW (encT 4 l).2).length → ewV l = (0, toldW (encT 4 l).2)) := ewV_told
 have HI : Hid ((encT 4 l).1 = 0 → IsB (encT 4 l).2 ∧ (encT 4 l).2.length ≤ 400) := fun h => ⟨encT_isB h, (encT_zero h).2.2⟩
 unfold EncEnd at HE
 rw [← encT_few4 hf] at HE
 clear hr hl hf hch
 generalize encT 4 l = r at *
 obtain ⟨c, o⟩ := r
 generalize sfV l = sf at *
 generalize ewV l = x at *
 simp only at HB HS HMn HT HI
 go_enter Tryd.func70, Tryd.ntmps70
 go_wp2_with fail
 refine HE.mono ?_
 rintro e w1 ⟨v, rfl, hown, hb1⟩
 obtain ⟨ao, oc, rfl, ho1, ho2⟩ := hown.form
 have hrd := hown.rd.2
 clear HE
 by_cases hc : c = 0
 ·subst hc
  obtain ⟨hBo, h4o⟩ := HI.out (by first | rfl | trivial)
  have hst := run_str (cap := oc) (n := o.length) rfl hrd
  have HEb := l1Encode_any ao o.length oc o _ rfl hrd hBo (by omega)
  obtain ⟨tu, ht1, ht2⟩ := told_sum o (by rw [toldW_len]; have := enc_few h4o; omega)
  go_wp2_with fail
  refine (HSf _ hb1).mono ?_
  rintro e w' ⟨rfl, rfl⟩
  clear HSf
  cases sf with
  | true =>
   have HM : Hid (_) := HS.out (by first | rfl | trivial) (by first | rfl | trivial)
   clear HS HMn HT HI HB HEb ht1 ht2
   go_wp2
   go_ret2
   rw [HM.out]
   exact ⟨rfl, hb1⟩
  | false =>
   go_wp2_with fail
   refine HEb.mono ?_
   rintro e w2 ⟨rfl, hb2⟩
   have hbw2 := hb1.trans (hb2.mono hb1.size)
   clear hb2 HEb
   by_cases h4 : 400 < (toldW o).length
   ·have h4' : (400 : Int) < ((toldW o).length : Int) := by omega
    have HM : Hid (_) := HMn.out (by first | rfl | trivial) (by first | rfl | trivial) h4
    have hsz : (str (toldW o)).size = (toldW o).length := str_size _
    clear HS HMn HT HI HB
    generalize toldW o = tw at *
    go_wp2
    go_ret2
    rw [HM.out]
    exact ⟨rfl, hbw2⟩
   ·have h4' : ¬ (400 : Int) < ((toldW o).length : Int) := by omega
    have HM : Hid (_) := HT.out (by first | rfl | trivial) (by first | rfl | trivial) h4
    have hsz : (str (toldW o)).size = (toldW o).length := str_size _
    clear HS HMn HT HI HB
    generalize toldW o = tw at *
    go_wp2
    go_ret2
    rw [HM.out]
    exact ⟨rfl, hbw2⟩
 ·have HM : Hid (_) := HB.out hc
  clear HS HMn HT HI HB HSf
  have hc' : (c == 0) = false := by simp [hc]
  go_wp2
  go_ret2
  rw [HM.out]
  exact ⟨rfl, hb1⟩
end Go.Proofs.YtdcgihcjiiemdaaDoor
namespace Go.Proofs.YtdcgihcjiiemdaaDoor
open Go.RowKit
def selfL (l : List Nat) : Bool := Xq.self (nth l 0) (l.drop 1)
theorem selfL_lf {l : List Nat} (h : nth l 0 = 10) : selfL l = true := by simp [selfL, Xq.self, h]
theorem selfL_bl {l : List Nat} (h : nth l 0 = 32 ∨ nth l 0 = 9) (hn : 1 < l.length) (hc : nth l 1 ≠ 10) : selfL l = true := by
 have h1 : nth l 0 ≠ 10 := by omega
 unfold selfL Xq.self
 rw [if_neg h1, if_pos h]
 exact decide_eq_true ⟨by simp; omega, by rw [nth_drop]; exact hc⟩
theorem selfL_bl_no {l : List Nat} (h : nth l 0 = 32 ∨ nth l 0 = 9) (hc : ¬ (1 < l.length ∧ nth l 1 ≠ 10)) : selfL l = false := by
 have h1 : nth l 0 ≠ 10 := by omega
 unfold selfL Xq.self
 rw [if_neg h1, if_pos h]
 refine decide_eq_false (fun hh => hc ⟨?_, ?_⟩)
 ·have := hh.1; simp at this; omega
 ·have := hh.2; rw [nth_drop] at this; exact this
theorem selfL_other {l : List Nat} (h1 : nth l 0 ≠ 10) (h2 : ¬ (nth l 0 = 32 ∨ nth l 0 = 9)) : selfL l = decide (33 ≤ nth l 0 ∧ nth l 0 ≤ 126 ∧ nth l 0 ≠ 61) := by
 unfold selfL Xq.self
 rw [if_neg h1, if_neg h2]
theorem hex_text (k : Nat) (h : k < 16) : ((⟨#[48, 49, 50, 51, 52, 53, 54, 55, 56, 57, 65, 66, 67, 68, 69, 70]⟩ : ByteArray)[k]'h).toNat = Xq.hex k := by
 have : ∀ k (h : k < 16), ((⟨#[48, 49, 50, 51, 52, 53, 54, 55, 56, 57, 65, 66, 67, 68, 69, 70]⟩ : ByteArray)[k]'h).toNat = Xq.hex k := by decide +kernel
 exact this k h
set_option maxHeartbeats 800000 in
set_option maxRecDepth 100000 in
theorem l1Hex_any (k : Nat) (h : k < 16) (w : World) : Calls Tryd.prog 78 #[.int .u8 (k : Int)] w fun e w' => e = .returned (.int .u8 (Xq.hex k : Int)) ∧ w' = w := by
 have h' : (k : Int) < 16 := by omega
 go_enter Tryd.func78, Tryd.ntmps78
 go_wp2
 go_ret
 exact ⟨ret_intD (by rw [← hex_text k h]), rfl⟩
theorem quo_step_self {l : List Nat} {k : Nat} (hk : k < l.length) (h : selfL (l.drop k) = true) : Xq.quo (l.drop k) = nth l k :: Xq.quo (l.drop (k + 1)) := by
 have e0 : nth (l.drop k) 0 = nth l k := by rw [nth_drop, Nat.add_zero]
 have e1 : (l.drop k).drop 1 = l.drop (k + 1) := by rw [List.drop_drop]
 unfold selfL at h
 rw [e0, e1] at h
 rw [drop_cons l k hk, Xq.quo, if_pos h]
theorem quo_step_hex {l : List Nat} {k : Nat} (hk : k < l.length) (h : selfL (l.drop k) = false) : Xq.quo (l.drop k) = 61 :: Xq.hex (nth l k / 16) :: Xq.hex (nth l k % 16) :: Xq.quo (l.drop (k + 1)) := by
 have e0 : nth (l.drop k) 0 = nth l k := by rw [nth_drop, Nat.add_zero]
 have e1 : (l.drop k).drop 1 = l.drop (k + 1) := by rw [List.drop_drop]
 unfold selfL at h
 rw [e0, e1] at h
 rw [drop_cons l k hk, Xq.quo, if_neg (by rw [h]; simp)]
end Go.Proofs.YtdcgihcjiiemdaaDoor
namespace Go.Proofs.YtdcgihcjiiemdaaDoor
open Go.RowKit
end Go.Proofs.YtdcgihcjiiemdaaDoor
