/- A step of a region that draws its order: what is plain of it is found by itself; no conditions beyond those that each fact names · The words of a term joined, the program's; no conditions beyond those that each fact names · The digits of numbers up to 9999; no program in it. -/
import Derived.Test.YtjogclofjollnaaGreatDoorProg
import Derived.OrdersHeld
import Derived.WalkKit
import Derived.Test.YtjogclofjollnaaGreatDoorEncT2ToTxw
import Derived.Test.YtjogclofjollnaaGreatDoorYtv
import Derived.Laws.AppendOwnNone
import Derived.Test.YtjogclofjollnaaGreatDoorYte
import Derived.Lib.AppendIntMem
namespace Go.Proofs.YtjogclofjollnaaGreatDoor
open Go.RowKit
theorem tk {P : Program} {md : _} {ops : Array Oper} {Q : Exit → Act → World → Prop} {S : World → Prop} {i : Nat} {oi : Oper} {v : Value} {fuel : Nat} {listed : Array Bool} {a : Act} {w : World} (hi : ops[i]? = some oi)
  (hy : YieldsIf P ops S oi v a) (h : wpAnyH P md ops Q S fuel (listed.setIfInBounds i true) (a.put oi.dst v) w)
  (hs : Region.noSelect ops = true := by kernel_rfl) (hf : Region.free md ops listed i = true := by kernel_rfl) (hr : (Region.ready md ops listed).contains i = true := by kernel_rfl)
  (hQ : ∀ c a w, Q (.panic c) (a.put oi.dst v) w → Q (.panic c) a w := by exact fun _ _ _ h => h) (hS : S w := by assumption) : wpAnyH P md ops Q S (fuel + 1) listed a w :=
 wpAnyH_take hi hs hf hr hQ hy hS h
theorem J1 {α : Type} {l : List α} {i : Nat} (h : i < l.toArray.size) : l.toArray[i] = l[i]'h := rfl
theorem J2 {α : Type} {a : α} {l : List α} (h : 0 < (a :: l).length) : (a :: l)[0]'h = a := rfl
theorem J3 {α : Type} {a : α} {l : List α} {i : Nat} (h : i + 1 < (a :: l).length) : (a :: l)[i + 1]'h = l[i]'(Nat.lt_of_succ_lt_succ h) := rfl
theorem J4 {α : Type} {l : List α} {i : Nat} {a : α} : l.toArray.setIfInBounds i a = (l.set i a).toArray := List.setIfInBounds_toArray ..
theorem J5 {α : Type} {a b : α} {l : List α} : (a :: l).set 0 b = b :: l := rfl
theorem J6 {α : Type} {a b : α} {l : List α} {n : Nat} : (a :: l).set (n + 1) b = a :: l.set n b := rfl
end Go.Proofs.YtjogclofjollnaaGreatDoor
namespace Go.Proofs.YtjogclofjollnaaGreatDoor
open Go.RowKit
set_option linter.unusedVariables false
def TabT (w : World) : Prop := ∀ v, v < 12 → w.cell? ⟨8, v, none⟩ = some (.string (str (twN v)))
theorem TabT.below {w w' : World} (h : TabT w) (hb : Below w.heap.size w w') : TabT w' := fun v hv =>
 (hb.cell (p := ⟨8, v, none⟩) (World.block_lt_of_cell? w ⟨8, v, none⟩ (h v hv))).trans (h v hv)
theorem join_row (w : World) (B : Nat) (a : Option Addr) (n c : Nat) (ws : List (List Nat)) (hO : OwnS w B (.slice a n c) ws) (hp : 0 < ws.length) (r : List Nat)
  (hj : Lib.join (ws.map fun x => (str x).data.toList) [32] = r.map UInt8.ofNat) (hl : ws.length ≤ 1000) (hr : r.length ≤ 100000000) :
  Calls Tryz.prog 42 #[.slice a n c, .string ⟨#[32]⟩] w fun e w' => e = .returned (.string (str r)) ∧ Below w.heap.size w w' := by
 obtain ⟨aw, cw, hv, hwc, hwm⟩ := hO.form
 cases hv
 obtain ⟨hlen, hrd⟩ := hO.rd
 obtain ⟨g, o, rfl, hglt, hcell⟩ := hrd.at_ hp
 have HC := Tryz.strings_Join g o c (ws.map str) ⟨#[32]⟩ w (fun i x hx => by
  have hi : i < ws.length := by
   rcases Nat.lt_or_ge i ws.length with h | h
   ·exact h
   ·rw [List.getElem?_eq_none (by rw [List.length_map]; exact h)] at hx; cases hx
  rw [List.getElem?_map, List.getElem?_eq_getElem hi, Option.map_some] at hx
  cases hx
  have := hcell i hi
  rw [nthS_get hi] at this
  exact this) hglt (by rw [List.length_map]; omega) (by rw [List.length_map]; exact hwc) (by
  rw [List.map_map]
  rw [show (List.map ((fun x => x.data.toList) ∘ str) ws) = (ws.map fun x => (str x).data.toList) from rfl, show (ByteArray.mk #[32]).data.toList = [32] from rfl, hj, List.length_map]
  omega)
 rw [List.length_map, List.map_map, show (List.map ((fun x => x.data.toList) ∘ str) ws) = (ws.map fun x => (str x).data.toList) from rfl, show (ByteArray.mk #[32]).data.toList = [32] from rfl, hj] at HC
 exact HC
set_option maxHeartbeats 1600000 in
set_option maxRecDepth 100000 in
theorem termText_0 (w : World) (hT : TabT w) :
  Calls Tryz.prog 123 #[.int .i64 1, .slice none 0 0] w fun e w' => e = .returned (.string (str (twN 1))) ∧ Below w.heap.size w w' := by
 have t1 := hT 1 (by omega)
 have HO : OwnS (w.alloc (.cells #[.string (str (twN 1))] 9)) w.heap.size (.slice (some ⟨w.heap.size, 0, none⟩) 1 1) [twN 1] := OwnS.lit w w.heap.size (Nat.le_refl _) _ [twN 1] rfl (show 1 ≤ maxLen by unfold maxLen; omega)
 have HJ := join_row _ _ _ _ _ _ HO (by simp) (twN 1) (jn1 (twN 1)) (by simp) (Nat.le_trans (twN_len 1) (by omega))
 have hb0 : Below w.heap.size w (w.alloc (.cells #[.string (str (twN 1))] 9)) := (Below.refl _ _).alloc (Nat.le_refl _) _
 obtain ⟨i0, hi, hz0, hz1, hz2⟩ := info_parts infoS
 generalize str (twN 1) = r at *
 go_enter Tryz.func123, Tryz.ntmps123
 go_wp2_with (first | (at_builtin; refine wpList_append_own_none rfl _ _ 77 rfl w.heap.size 9 i0 1 Tryz.underlying77 hi _ 1 (sc [twN 1]) rfl HO rfl ?_))
 refine HJ.mono ?_
 rintro e w1 ⟨rfl, hb1⟩
 go_wp2
 go_ret
 exact ⟨rfl, hb0.trans (hb1.mono hb0.size)⟩
set_option maxHeartbeats 1600000 in
set_option maxRecDepth 100000 in
theorem termText_n (k : Nat) (hk : k < 12) (b m : Nat) (ws : List (List Nat)) (w : World) (hT : TabT w) (hr : RdS w (some ⟨b, 0, none⟩) ws) (hl : ws.length = m) (h1 : 1 ≤ m) (h2 : m ≤ 2) (r : List Nat)
  (hj : Lib.join ((twN k :: ws).map fun x => (str x).data.toList) [32] = r.map UInt8.ofNat) (hrl : r.length ≤ 100000000) :
  Calls Tryz.prog 123 #[.int .i64 (k : Int), .slice (some ⟨b, 0, none⟩) m m] w fun e w' => e = .returned (.string (str r)) ∧ Below w.heap.size w w' := by
 have t1 := hT k hk
 have hki : (k : Int) < 12 := by omega
 have hk0 : (0 : Int) ≤ (k : Int) := by omega
 have HO : OwnS (w.alloc (.cells #[.string (str (twN k))] 9)) w.heap.size (.slice (some ⟨w.heap.size, 0, none⟩) 1 1) [twN k] := OwnS.lit w w.heap.size (Nat.le_refl _) _ [twN k] rfl (show 1 ≤ maxLen by unfold maxLen; omega)
 have hb0 : Below w.heap.size w (w.alloc (.cells #[.string (str (twN k))] 9)) := (Below.refl _ _).alloc (Nat.le_refl _) _
 obtain ⟨b', off', eb, hblt, hc⟩ := (hr.below hb0).at_ (by omega)
 cases eb
 have HC : Hid (∀ j, j < m → (w.alloc (.cells #[.string (str (twN k))] 9)).cell? ((⟨b, 0, none⟩ : Addr).add j) = some (.string (str (nthS ws j)))) := fun j hj => by
  rw [Go.WideShapes.add_plain]; exact hc j (by omega)
 have HJ : Hid (∀ (a : Option Addr) (n c : Nat) (W : World), OwnS W w.heap.size (.slice a n c) (twN k :: ws) → Calls Tryz.prog 42 #[.slice a n c, .string ⟨#[32]⟩] W fun e w' => e = .returned (.string (str r)) ∧ Below W.heap.size W w') := fun a n c W h =>
  join_row W _ a n c _ h (by simp) r hj (by simp; omega) hrl
 have HL : Hid (ws.length = m ∧ 1 + m ≤ 134217728) := ⟨hl, by omega⟩
 clear hc hj hl h1 h2 hr hrl hT
 generalize str (twN k) = x at *
 generalize str r = y at *
 go_enter Tryz.func123, Tryz.ntmps123
 go_wp2_with (first | (at_builtin; refine wpList_appT rfl _ _ rfl w.heap.size _ [twN k] rfl HO ⟨b, 0, none⟩ m m ws rfl HL.out.1 HC.out HL.out.2 (by simp) ?_; intro v' w1 hO1 hb1; obtain ⟨a', c', rfl, -, -⟩ := hO1.form))
 refine (HJ.out _ _ _ w1 hO1).mono ?_
 rintro e w2 ⟨rfl, hb2⟩
 have hB1 := hb0.trans hb1
 go_wp2
 go_ret
 exact ⟨rfl, hB1.trans (hb2.mono hB1.size)⟩
theorem fldBy (x y : Value) (w : World) : (Instr.field 212 (.agg #[x, y]) 1).run Tryz.prog w = .ok y w := by
 simp [Instr.field, asAgg, go_sem]
theorem fldTx (x y : Value) (w : World) : (Instr.field 30 (.agg #[x, y]) 1).run Tryz.prog w = .ok y w := by
 simp [Instr.field, asAgg, go_sem]
set_option maxHeartbeats 1600000 in
theorem charsText_any (a : Option Addr) (n cap : Nat) (l : List Int) (w : World) (hl : l.length = n) (hr : RdI w a l) (hn : n ≤ 1048576) :
  Calls Tryz.prog 125 #[.slice a n cap] w fun e w' => e = .returned (.string (str (encT 4 l).2)) ∧ Below w.heap.size w w' := by
 have HE := encodeText_any 4 a n cap l w hl hr hn
 have HF := fldBy
 generalize encT 4 l = r at *
 clear hl hr hn
 go_enter Tryz.func125, Tryz.ntmps125
 go_wp2_with fail
 refine HE.mono ?_
 rintro e w1 ⟨v, rfl, hO, hb1⟩
 obtain ⟨av, cv, rfl, -, -⟩ := hO.form
 have hst := fun (c : Nat) => run_str (w := w1) (a := av) (n := r.2.length) (cap := c) rfl hO.rd.2
 go_wp2
 go_ret
 exact ⟨rfl, hb1⟩
end Go.Proofs.YtjogclofjollnaaGreatDoor
namespace Go.Proofs.YtjogclofjollnaaGreatDoor
open Go.RowKit
theorem itoa4 : (List.range 10000).all (fun n => Lib.itoa (n : Int) == (dgF 3 n).map UInt8.ofNat) = true := by kernel_rfl
theorem itoa4_str {n : Nat} (h9 : n ≤ 9999) : (⟨(Lib.itoa (n : Int)).toArray⟩ : ByteArray) = str (dgF 3 n) := by
 have := List.all_eq_true.1 itoa4 n (by rw [List.mem_range]; omega)
 rw [beq_iff_eq] at this
 rw [this]; rfl
end Go.Proofs.YtjogclofjollnaaGreatDoor
