/- Maps of numbered elements, in plain words; a look-up that gives the element itself; no conditions beyond those that each fact names · The keys of a map, sorted: the library's contracts at this program, in plain words · The keys of a map, sorted; no conditions beyond those that each fact names. -/
import Derived.Test.YtejbbnpgghpgaaaGreatDoorStx
import Derived.Maps.OwnSet
import Derived.Maps.OwnOps
import Derived.Lib.SlKeysI
import Derived.Shelf.SlIterI.Nil
import Derived.Shelf.SortM.Plain
import Derived.Shelf.SortM.SortNone
import Derived.Ground.GgzProg
import Derived.Ground.SlgmProg
import Derived.Test.YtejbbnpgghpgaaaGreatDoorProg
namespace Go.Proofs.YtejbbnpgghpgaaaGreatDoor
open Go.RowKit Go.Maps
set_option linter.unusedVariables false
def Rh (v : Value) : Option (DataW Value × List MemPlace) := some (.held v, [])
def agQ (q : Qd) : Value := .agg #[q.1, q.2.1, q.2.2.1, q.2.2.2]
def mapL (ql : List Qd) (L : List Nat) : DataW Value := .map (L.map fun (j : Nat) => (Lit.int .i64 (j : Int), DataW.held (agQ (nthQ ql j))))
theorem insert_last {x : Lit × DataW Value} : ∀ {es : List (Lit × DataW Value)}, (∀ y ∈ es, x.1.before y.1 = false) → DataW.insert x es = es ++ [x]
  | [], _ => rfl
  | y :: es, h => by
    unfold DataW.insert
    rw [if_neg (by rw [h y (List.mem_cons_self ..)]; decide), insert_last (fun z hz => h z (List.mem_cons_of_mem _ hz))]
    rfl
theorem mapL_put (ql : List Qd) (L : List Nat) (k : Nat) (h : ∀ j ∈ L, j < k) : (mapL ql L).put (.int .i64 (k : Int)) (.held (agQ (nthQ ql k))) = mapL ql (L ++ [k]) := by
  unfold mapL DataW.put
  dsimp only
  have hf : (L.map fun (j : Nat) => (Lit.int .i64 (j : Int), DataW.held (agQ (nthQ ql j)))).filter (fun p => !p.1.sameKey (.int .i64 (k : Int))) = L.map fun (j : Nat) => (Lit.int .i64 (j : Int), DataW.held (agQ (nthQ ql j))) := by
    rw [List.filter_eq_self]
    intro p hp
    obtain ⟨j, hj, rfl⟩ := List.mem_map.1 hp
    have := h j hj
    simp only [Lit.sameKey, Bool.not_eq_true', decide_eq_false_iff_not, true_and]
    omega
  rw [hf, insert_last, List.map_append]
  · rfl
  · intro p hp
    obtain ⟨j, hj, rfl⟩ := List.mem_map.1 hp
    have := h j hj
    simp only [Lit.before, decide_eq_false_iff_not]
    omega
theorem mapL_del (ql : List Qd) (L : List Nat) (z : Int) : (mapL ql L).del (.int .i64 z) = mapL ql (L.filter fun (j : Nat) => !decide ((j : Int) = z)) := by
  unfold mapL DataW.del
  dsimp only
  rw [List.filter_map]
  congr 1
  congr 1
  refine List.filter_congr fun j _ => ?_
  simp [Lit.sameKey]
theorem mapL_at (ql : List Qd) (L : List Nat) (k : Nat) (h : k ∈ L) (z : DataW Value) : (mapL ql L).atKey (.int .i64 (k : Int)) z = .held (agQ (nthQ ql k)) := by
  unfold mapL DataW.atKey
  dsimp only
  cases hf : (L.map fun (j : Nat) => (Lit.int .i64 (j : Int), DataW.held (agQ (nthQ ql j)))).find? (fun p => p.1.sameKey (.int .i64 (k : Int))) with
  | none =>
    have := List.find?_eq_none.1 hf (Lit.int .i64 (k : Int), DataW.held (agQ (nthQ ql k))) (List.mem_map.2 ⟨k, h, rfl⟩)
    simp [Lit.sameKey] at this
  | some p =>
    have h1 := List.find?_some hf
    obtain ⟨j, hj, rfl⟩ := List.mem_map.1 (List.mem_of_find?_eq_some hf)
    simp only [Lit.sameKey, decide_eq_true_eq, true_and] at h1
    have : j = k := by omega
    rw [this]
theorem mapL_keys (ql : List Qd) (L : List Nat) : intKeys (mapL ql L) = L.map fun (j : Nat) => (j : Int) := by
  unfold mapL intKeys
  dsimp only
  rw [List.map_map]
  rfl
theorem mapL_size (ql : List Qd) (L : List Nat) : Maps.size (mapL ql L) = L.length := by unfold mapL; rw [Maps.size_eq, List.length_map]
theorem sortedL {L : List Nat} (h : L.Pairwise (· < ·)) {ss : List Int} (hp : ss.Perm (L.map fun (j : Nat) => (j : Int))) : ss.mergeSort (fun x y => decide (x ≤ y)) = L.map fun (j : Nat) => (j : Int) := by
  rw [mergeSort_of_perm_i hp]
  refine List.mergeSort_of_pairwise ?_
  rw [List.pairwise_map]
  exact h.imp fun {a b} hab => by simp only [decide_eq_true_eq]; omega
theorem wpList_lookup_held {P : Program} (w : World) {ops : Array Oper} {rest : List Oper} {o : Oper} {a : Act} {Q : Exit → Act → World → Prop}
    (hg : o.guard = none) (m x : Operand) (t : TypeId) (hop : o.op = Op.lookup t m x false)
    (k e : TypeId) (K : Keyed P k) (ht : P.underlying t = some (.map k e)) {z : Value} (hz : (zeroValue e).run P w = .ok z w) (b n : Nat) (D : DataW Value)
    (hm : a.eval m = .map (some b)) (hown : w.ownsMap P k Rh b n D) (key : Value) (kl : Lit) (hx : a.eval x = key) (hkey : keyOf P k key = some kl) (v : Value) (hat : D.atKey kl (.held z) = .held v)
    (hK : wpList P ops Q rest (a.put o.dst v) w) : wpList P ops Q (o :: rest) a w := by
  refine wpList_plain hg fun K' hK' => ?_
  obtain ⟨v', ps, hrun, hv⟩ := hown.lookup K ht hz (zd := .held z) (zp := []) rfl hkey
  obtain rfl : v' = v := by
    rw [hat] at hv
    unfold Rh at hv
    injection hv with hv
    injection hv with hv _
    injection hv
  unfold Oper.wp
  simp [execOp, hop, hm, hx, hrun, Result.andThen]
  exact hK' _ _ hK
theorem run_makeMap_hint {P : Program} {t k e : TypeId} (ht : P.underlying t = some (.map k e)) (n : Int) (w : World) : (Instr.makeMap t (some (.int .i64 n))).run P w = .ok (.map (some w.heap.size)) (w.alloc (.map #[] 0)) := by
  simp [Instr.makeMap, run_underlying ht, asInt, asIntOf, Result.andThen]
def lfN (ps : List Int) (n : Nat) : List Nat := (List.range n).filter fun (j : Nat) => !hasZ ps (j : Int)
theorem lfN_pw (ps : List Int) (n : Nat) : (lfN ps n).Pairwise (· < ·) := (List.pairwise_lt_range (n := n)).filter _
theorem lfN_lt {ps : List Int} {n k : Nat} (h : k ∈ lfN ps n) : k < n := List.mem_range.1 (List.mem_filter.1 h).1
theorem lfN_len (ps : List Int) (n : Nat) : (lfN ps n).length ≤ n := by have := List.length_filter_le (fun (j : Nat) => !hasZ ps (j : Int)) (List.range n); rw [List.length_range] at this; exact this
theorem lfN_nil (n : Nat) : lfN [] n = List.range n := by unfold lfN; rw [List.filter_eq_self]; intro a _; simp [hasZ]
theorem lfN_snoc (ps : List Int) (z : Int) (n : Nat) : (lfN ps n).filter (fun (j : Nat) => !decide ((j : Int) = z)) = lfN (ps ++ [z]) n := by
  unfold lfN
  rw [List.filter_filter]
  refine List.filter_congr fun j _ => ?_
  simp [hasZ, Bool.and_comm]
end Go.Proofs.YtejbbnpgghpgaaaGreatDoor
namespace Go.Proofs
open Go.Shelf
def Tryz.keysB_ren : Go.Shelf.Ren := ⟨fun | 7 => 216 | 10 => 223 | n => n, fun | 23 => 231 | 26 => 3 | 3 => 128 | 28 => 234 | 0 => 0 | 27 => 233 | 33 => 178 | 4 => 4 | n => n, fun | n => n⟩
theorem Tryz.keysB : Go.Proofs.SlLaysZI.n7 Tryz.prog Tryz.keysB_ren := {
  mixed := by kernel_rfl
  f7 := ⟨Tryz.f216.name, by decide, Tryz.func216.trans (congrArg some (by kernel_rfl))⟩
  f10 := ⟨Tryz.f223.name, by decide, Tryz.func223.trans (congrArg some (by kernel_rfl))⟩
  t0 := Tryz.underlying0
  a0 := Tryz.isAgg0
  z0 := Tryz.sizeOf0
  v0 := Tryz.zeroValue0
  t4 := Tryz.underlying4
  a4 := Tryz.isAgg4
  z4 := Tryz.sizeOf4
  v4 := Tryz.zeroValue4
  t23 := Tryz.underlying231
  a23 := Tryz.isAgg231
  z23 := Tryz.sizeOf231
  v23 := Tryz.zeroValue231
  t26 := Tryz.underlying3
  a26 := Tryz.isAgg3
  z26 := Tryz.sizeOf3
  v26 := Tryz.zeroValue3
  t27 := Tryz.underlying233
  a27 := Tryz.isAgg233
  z27 := Tryz.sizeOf233
  v27 := Tryz.zeroValue233
  t28 := Tryz.underlying234
  a28 := Tryz.isAgg234
  z28 := Tryz.sizeOf234
  v28 := Tryz.zeroValue234
  t33 := Tryz.underlying178
  a33 := Tryz.isAgg178
  z33 := Tryz.sizeOf178
  v33 := Tryz.zeroValue178 }
def Tryz.keysM_ren : Go.Shelf.Ren := ⟨fun | 7 => 219 | 10 => 225 | n => n, fun | 23 => 236 | 26 => 3 | 3 => 136 | 28 => 234 | 0 => 0 | 27 => 233 | 33 => 178 | 4 => 4 | n => n, fun | n => n⟩
theorem Tryz.keysM : Go.Proofs.SlLaysZI.n7 Tryz.prog Tryz.keysM_ren := {
  mixed := by kernel_rfl
  f7 := ⟨Tryz.f219.name, by decide, Tryz.func219.trans (congrArg some (by kernel_rfl))⟩
  f10 := ⟨Tryz.f225.name, by decide, Tryz.func225.trans (congrArg some (by kernel_rfl))⟩
  t0 := Tryz.underlying0
  a0 := Tryz.isAgg0
  z0 := Tryz.sizeOf0
  v0 := Tryz.zeroValue0
  t4 := Tryz.underlying4
  a4 := Tryz.isAgg4
  z4 := Tryz.sizeOf4
  v4 := Tryz.zeroValue4
  t23 := Tryz.underlying236
  a23 := Tryz.isAgg236
  z23 := Tryz.sizeOf236
  v23 := Tryz.zeroValue236
  t26 := Tryz.underlying3
  a26 := Tryz.isAgg3
  z26 := Tryz.sizeOf3
  v26 := Tryz.zeroValue3
  t27 := Tryz.underlying233
  a27 := Tryz.isAgg233
  z27 := Tryz.sizeOf233
  v27 := Tryz.zeroValue233
  t28 := Tryz.underlying234
  a28 := Tryz.isAgg234
  z28 := Tryz.sizeOf234
  v28 := Tryz.zeroValue234
  t33 := Tryz.underlying178
  a33 := Tryz.isAgg178
  z33 := Tryz.sizeOf178
  v33 := Tryz.zeroValue178 }
def Tryz.sortedA_ren : Go.Shelf.Ren := ⟨fun | 6 => 215 | 8 => 221 | 9 => 222 | 11 => 226 | 13 => 228 | 12 => 227 | 23 => 238 | 24 => 239 | 14 => 229 | 15 => 230 | 16 => 231 | 17 => 232 | 18 => 233 | 19 => 234 | 20 => 235 | 21 => 236 | 22 => 237 | 25 => 240 | 26 => 241 | 27 => 242 | 28 => 243 | 29 => 244 | 30 => 245 | 31 => 246 | n => n, fun | 26 => 3 | 28 => 234 | 24 => 207 | 0 => 0 | 3 => 3 | 37 => 219 | 48 => 254 | 50 => 256 | 4 => 4 | 40 => 246 | 39 => 245 | 45 => 251 | 5 => 5 | 9 => 9 | 51 => 257 | 55 => 261 | 57 => 263 | 58 => 264 | 33 => 178 | n => n, fun | n => n⟩
theorem Tryz.sortedA : Go.Proofs.SlLaysZI.n6 Tryz.prog Tryz.sortedA_ren := {
  mixed := by kernel_rfl
  f6 := ⟨Tryz.f215.name, by decide, Tryz.func215.trans (congrArg some (by kernel_rfl))⟩
  f8 := ⟨Tryz.f221.name, by decide, Tryz.func221.trans (congrArg some (by kernel_rfl))⟩
  f11 := ⟨Tryz.f226.name, by decide, Tryz.func226.trans (congrArg some (by kernel_rfl))⟩
  t0 := Tryz.underlying0
  a0 := Tryz.isAgg0
  z0 := Tryz.sizeOf0
  v0 := Tryz.zeroValue0
  t24 := Tryz.underlying207
  a24 := Tryz.isAgg207
  z24 := Tryz.sizeOf207
  v24 := Tryz.zeroValue207
  t26 := Tryz.underlying3
  a26 := Tryz.isAgg3
  z26 := Tryz.sizeOf3
  v26 := Tryz.zeroValue3
  t28 := Tryz.underlying234
  a28 := Tryz.isAgg234
  z28 := Tryz.sizeOf234
  v28 := Tryz.zeroValue234
  i26 := by kernel_rfl }
def Tryz.sortA_ren : Go.Shelf.Ren := ⟨fun | 5 => 222 | 8 => 228 | 7 => 227 | 19 => 238 | 20 => 239 | 10 => 229 | 11 => 230 | 12 => 231 | 13 => 232 | 14 => 233 | 15 => 234 | 16 => 235 | 17 => 236 | 18 => 237 | 30 => 240 | 31 => 241 | 32 => 242 | 33 => 243 | 34 => 244 | 35 => 245 | 40 => 246 | n => n, fun | 23 => 207 | 25 => 3 | 3 => 3 | 32 => 219 | 22 => 207 | 0 => 0 | 44 => 254 | 46 => 256 | 4 => 4 | 36 => 246 | 35 => 245 | 41 => 251 | 5 => 5 | 9 => 9 | 53 => 257 | 57 => 261 | 63 => 263 | 64 => 264 | n => n, fun | n => n⟩
theorem Tryz.sortA : Go.Proofs.SlLaysM.n5 Tryz.prog Tryz.sortA_ren := {
  mixed := by kernel_rfl
  f5 := ⟨Tryz.f222.name, by decide, Tryz.func222.trans (congrArg some (by kernel_rfl))⟩
  f7 := ⟨Tryz.f227.name, by decide, Tryz.func227.trans (congrArg some (by kernel_rfl))⟩
  f8 := Tryz.func228.trans (congrArg some (by kernel_rfl))
  f10 := ⟨Tryz.f229.name, by decide, Tryz.func229.trans (congrArg some (by kernel_rfl))⟩
  f11 := ⟨Tryz.f230.name, by decide, Tryz.func230.trans (congrArg some (by kernel_rfl))⟩
  f12 := ⟨Tryz.f231.name, by decide, Tryz.func231.trans (congrArg some (by kernel_rfl))⟩
  f13 := ⟨Tryz.f232.name, by decide, Tryz.func232.trans (congrArg some (by kernel_rfl))⟩
  f14 := ⟨Tryz.f233.name, by decide, Tryz.func233.trans (congrArg some (by kernel_rfl))⟩
  f15 := ⟨Tryz.f234.name, by decide, Tryz.func234.trans (congrArg some (by kernel_rfl))⟩
  f16 := ⟨Tryz.f235.name, by decide, Tryz.func235.trans (congrArg some (by kernel_rfl))⟩
  f17 := ⟨Tryz.f236.name, by decide, Tryz.func236.trans (congrArg some (by kernel_rfl))⟩
  f18 := ⟨Tryz.f237.name, by decide, Tryz.func237.trans (congrArg some (by kernel_rfl))⟩
  f19 := Tryz.func238.trans (congrArg some (by kernel_rfl))
  f20 := Tryz.func239.trans (congrArg some (by kernel_rfl))
  f30 := ⟨Tryz.f240.name, by decide, Tryz.func240.trans (congrArg some (by kernel_rfl))⟩
  f31 := Tryz.func241.trans (congrArg some (by kernel_rfl))
  f32 := Tryz.func242.trans (congrArg some (by kernel_rfl))
  f33 := ⟨Tryz.f243.name, by decide, Tryz.func243.trans (congrArg some (by kernel_rfl))⟩
  f34 := ⟨Tryz.f244.name, by decide, Tryz.func244.trans (congrArg some (by kernel_rfl))⟩
  f35 := ⟨Tryz.f245.name, by decide, Tryz.func245.trans (congrArg some (by kernel_rfl))⟩
  f40 := ⟨Tryz.f246.name, by decide, Tryz.func246.trans (congrArg some (by kernel_rfl))⟩
  t0 := Tryz.underlying0
  a0 := Tryz.isAgg0
  z0 := Tryz.sizeOf0
  v0 := Tryz.zeroValue0
  t3 := Tryz.underlying3
  a3 := Tryz.isAgg3
  z3 := Tryz.sizeOf3
  v3 := Tryz.zeroValue3
  t4 := Tryz.underlying4
  a4 := Tryz.isAgg4
  z4 := Tryz.sizeOf4
  v4 := Tryz.zeroValue4
  t5 := Tryz.underlying5
  a5 := Tryz.isAgg5
  z5 := Tryz.sizeOf5
  v5 := Tryz.zeroValue5
  t9 := Tryz.underlying9
  a9 := Tryz.isAgg9
  z9 := Tryz.sizeOf9
  v9 := Tryz.zeroValue9
  t22 := Tryz.underlying207
  a22 := Tryz.isAgg207
  z22 := Tryz.sizeOf207
  v22 := Tryz.zeroValue207
  t23 := Tryz.underlying207
  a23 := Tryz.isAgg207
  z23 := Tryz.sizeOf207
  v23 := Tryz.zeroValue207
  t25 := Tryz.underlying3
  a25 := Tryz.isAgg3
  z25 := Tryz.sizeOf3
  v25 := Tryz.zeroValue3
  t32 := Tryz.underlying219
  a32 := Tryz.isAgg219
  z32 := Tryz.sizeOf219
  v32 := Tryz.zeroValue219
  t35 := Tryz.underlying245
  a35 := Tryz.isAgg245
  z35 := Tryz.sizeOf245
  v35 := Tryz.zeroValue245
  t36 := Tryz.underlying246
  a36 := Tryz.isAgg246
  z36 := Tryz.sizeOf246
  v36 := Tryz.zeroValue246
  t41 := Tryz.underlying251
  a41 := Tryz.isAgg251
  z41 := Tryz.sizeOf251
  v41 := Tryz.zeroValue251
  t44 := Tryz.underlying254
  a44 := Tryz.isAgg254
  z44 := Tryz.sizeOf254
  v44 := Tryz.zeroValue254
  t46 := Tryz.underlying256
  a46 := Tryz.isAgg256
  z46 := Tryz.sizeOf256
  v46 := Tryz.zeroValue256
  t53 := Tryz.underlying257
  a53 := Tryz.isAgg257
  z53 := Tryz.sizeOf257
  v53 := Tryz.zeroValue257
  t57 := Tryz.underlying261
  a57 := Tryz.isAgg261
  z57 := Tryz.sizeOf261
  v57 := Tryz.zeroValue261
  t63 := Tryz.underlying263
  a63 := Tryz.isAgg263
  z63 := Tryz.sizeOf263
  v63 := Tryz.zeroValue263
  t64 := Tryz.underlying264
  a64 := Tryz.isAgg264
  z64 := Tryz.sizeOf264
  v64 := Tryz.zeroValue264 }
open Go.RowKit Go.Maps Go.Sort in
theorem Tryz.sortsA (m : Nat) : AnyZI.SortsIn Tryz.prog Tryz.sortedA_ren Fence.wide m :=
  ⟨fun blk off cap ss W hH hblk hsz => callsIn_wide.2 (AnyM.slices_Sort_int Tryz.sortA blk off cap ss W hH hblk hsz),
   fun p cap W => callsIn_wide.2 (AnyM.slices_Sort_int_none Tryz.sortA p cap W)⟩
end Go.Proofs
namespace Go.Proofs.YtejbbnpgghpgaaaGreatDoor
open Go.RowKit Go.Maps Go.Sort Go.Shelf
set_option linter.unusedVariables false
def SoEnd (L : List Nat) (w : World) (e : Ending) (w' : World) : Prop := ∃ s, e = .returned (slW s) ∧ OwZ 3 w' s (L.map fun (j : Nat) => (j : Int)) ∧ (∀ g ∈ blkS s, w.heap.size ≤ g) ∧ Below w.heap.size w w'
theorem so_of {w w' : World} {L : List Nat} (hL : L.Pairwise (· < ·)) {v : Value} {ss : List Int} (hp : ss.Perm (L.map fun (j : Nat) => (j : Int))) (hr : w'.ownsRow w.heap.size 3 1 v ss.length ((ss.mergeSort (fun x y => decide (x ≤ y))).map encZ)) (hb : Below w.heap.size w w') : SoEnd L w (.returned v) w' := by
  obtain ⟨s, rfl, -⟩ := row_form hr
  refine ⟨s, rfl, ?_, fun g hg => (hr.lt g (mem_blkS.1 hg)).1, hb⟩
  rw [sortedL hL hp, hp.length_eq] at hr
  exact row_low hr (Nat.zero_le _)
theorem keysB_any (b : Nat) (w : World) : Calls Tryz.prog 216 #[.map (some b)] w fun e w' => e = .returned (.func (.func 223) #[] #[.pointer (some ⟨w.heap.size, 0, none⟩)]) ∧ w' = w.alloc (.cells #[.map (some b)] 231) :=
  (callsIn_wide (n := 5)).1 (AnyZI.keys_in Tryz.keysB Fence.wide 5 trivial rfl (some b) w)
theorem sortedB_any (b nn g : Nat) (D0 : DataW Value) (L : List Nat) (w : World) (hc : w.cell? ⟨g, 0, none⟩ = some (.map (some b))) (hown : w.ownsMap Tryz.prog 3 Rh b nn D0) (hk : intKeys D0 = L.map fun (j : Nat) => (j : Int)) (hL : L.Pairwise (· < ·)) (hsz : Maps.size D0 ≤ 1000000) :
    Calls Tryz.prog 215 #[.func (.func 223) #[] #[.pointer (some ⟨g, 0, none⟩)]] w fun e w' => SoEnd L w e w' := by
  refine (callsIn_wide (n := 5)).1 ?_
  have hseq : SeqGives Fence.wide 2 Tryz.prog 223 #[.pointer (some ⟨g, 0, none⟩)] encZ (fun ss => ss.Perm (intKeys D0)) (Maps.size D0) w :=
    AnyZI.keys_gives (ρ := Tryz.keysB_ren) { Tryz.keysB with } Fence.wide _ trivial rfl (by omega) g b nn D0 _ (World.block_lt_of_cell? w _ hc) hc hown
  have cS := AnyZI.sorted_in Tryz.sortedA Fence.wide 5 trivial trivial trivial trivial rfl (by omega) (Tryz.sortsA _) (enters_of Tryz.func222 (by kernel_rfl) rfl) 223 #[.pointer (some ⟨g, 0, none⟩)] trivial (enters_of Tryz.func223 (by kernel_rfl) rfl) _ _ (by unfold maxLen; omega) (by omega) _ hseq
  change CallsIn _ _ Tryz.prog 215 _ _ _ at cS
  refine cS.mono ?_
  rintro e w' ⟨v, ss, rfl, hS, hrow, -, hb⟩
  rw [hk] at hS
  exact so_of hL hS hrow hb
theorem keysM_any (b : Nat) (w : World) : Calls Tryz.prog 219 #[.map (some b)] w fun e w' => e = .returned (.func (.func 225) #[] #[.pointer (some ⟨w.heap.size, 0, none⟩)]) ∧ w' = w.alloc (.cells #[.map (some b)] 236) :=
  (callsIn_wide (n := 5)).1 (AnyZI.keys_in Tryz.keysM Fence.wide 5 trivial rfl (some b) w)
theorem sortedM_any (b nn g : Nat) (D0 : DataW Value) (L : List Nat) (w : World) (hc : w.cell? ⟨g, 0, none⟩ = some (.map (some b))) (hown : w.ownsMap Tryz.prog 3 Rh b nn D0) (hk : intKeys D0 = L.map fun (j : Nat) => (j : Int)) (hL : L.Pairwise (· < ·)) (hsz : Maps.size D0 ≤ 1000000) :
    Calls Tryz.prog 215 #[.func (.func 225) #[] #[.pointer (some ⟨g, 0, none⟩)]] w fun e w' => SoEnd L w e w' := by
  refine (callsIn_wide (n := 5)).1 ?_
  have hseq : SeqGives Fence.wide 2 Tryz.prog 225 #[.pointer (some ⟨g, 0, none⟩)] encZ (fun ss => ss.Perm (intKeys D0)) (Maps.size D0) w :=
    AnyZI.keys_gives (ρ := Tryz.keysM_ren) { Tryz.keysM with } Fence.wide _ trivial rfl (by omega) g b nn D0 _ (World.block_lt_of_cell? w _ hc) hc hown
  have cS := AnyZI.sorted_in Tryz.sortedA Fence.wide 5 trivial trivial trivial trivial rfl (by omega) (Tryz.sortsA _) (enters_of Tryz.func222 (by kernel_rfl) rfl) 225 #[.pointer (some ⟨g, 0, none⟩)] trivial (enters_of Tryz.func225 (by kernel_rfl) rfl) _ _ (by unfold maxLen; omega) (by omega) _ hseq
  change CallsIn _ _ Tryz.prog 215 _ _ _ at cS
  refine cS.mono ?_
  rintro e w' ⟨v, ss, rfl, hS, hrow, -, hb⟩
  rw [hk] at hS
  exact so_of hL hS hrow hb
end Go.Proofs.YtejbbnpgghpgaaaGreatDoor
