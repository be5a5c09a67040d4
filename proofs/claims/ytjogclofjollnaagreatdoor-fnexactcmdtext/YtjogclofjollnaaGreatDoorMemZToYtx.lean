/- Ranges as complex numbers: whole numbers to 999 as floats and back, by looking at them all; where a slice of such ranges is read, what a row of the call's own holds, an append · What is in a set, on both sides: the program's ranges as complex numbers; at every set without a fault; no conditions beyond those that each fact names · Whether a number is in a set, on both sides: at every set and all numbers; no conditions beyond those that each fact names · The text of a set, on both sides: at every set; the library's table of powers is as it was laid; no conditions beyond those that each fact names. -/
import Derived.Test.YtjogclofjollnaaGreatDoorYftToCfv
import Derived.WalkLawsBesides
import Derived.Deep.RegionHeld3
import Derived.Test.YtjogclofjollnaaGreatDoorYte
import Derived.Test.YtjogclofjollnaaGreatDoorMemSToFlh
import Derived.Test.YtjogclofjollnaaGreatDoorTpgToTbs
import Derived.Lib.AppendIntMem
import Derived.Lib.LaidTab
namespace Go.Proofs.YtjogclofjollnaaGreatDoor
open Go.RowKit
def fB (n : Int) : Nat := floatOfInt .f64 n
def cz (p : YgP) : Value := .complex .f64 (fB p.1) (fB p.2)
theorem fB_all : (List.range 1000).all (fun n => floatToIntVal .f64 (floatOfInt .f64 (n : Int)) .i64 == some (n : Int)) = true := by kernel_rfl
theorem fB_back {n : Int} (h : bty n 0 999 = true) : floatToIntVal .f64 (fB n) .i64 = some n := by
 have h' := of_decide_eq_true h
 have := List.all_eq_true.1 fB_all n.toNat (by rw [List.mem_range]; omega)
 rw [show ((n.toNat : Nat) : Int) = n by omega] at this
 simpa [fB] using this
def zeroZ : Value := .complex .f64 0 0
theorem infoZ : (Tryz.prog.info? 171).map (fun i => (i.zero, i.size, i.bytes)) = some (some zeroZ, 1, 16) := by kernel_rfl
def nthZ (l : List YgP) (i : Nat) : YgP := l.getD i (0, 0)
def zc (l : List YgP) : List Value := l.map fun (b : YgP) => cz b
theorem nthZ_get {l : List YgP} {i : Nat} (h : i < l.length) : nthZ l i = l[i] := by
 unfold nthZ; rw [List.getD_eq_getElem?_getD, List.getElem?_eq_getElem h]; rfl
theorem zc_len (l : List YgP) : (zc l).length = l.length := by simp [zc]
theorem zc_one (l : List YgP) : ∀ u ∈ zc l, u.oneCell' = true := by
 intro u hu
 simp only [zc, List.mem_map] at hu
 obtain ⟨b, _, rfl⟩ := hu
 rfl
theorem zc_app (a b : List YgP) : zc (a ++ b) = zc a ++ zc b := by simp [zc]
theorem zc_get {l : List YgP} {i : Nat} (h : i < l.length) : (zc l)[i]? = some (cz (nthZ l i)) := by
 rw [nthZ_get h]; simp [zc, h]
theorem nthZ_drop (l : List YgP) (k i : Nat) : nthZ (l.drop k) i = nthZ l (k + i) := by
 simp [nthZ, List.getD_eq_getElem?_getD, List.getElem?_drop]
def RdZ (w : World) (a : Option Addr) (l : List YgP) : Prop :=
 l = [] ∨ ∃ b off, a = some ⟨b, off, none⟩ ∧ b < w.heap.size ∧ ∀ i, i < l.length → w.cell? ⟨b, off + i, none⟩ = some (cz (nthZ l i))
theorem RdZ.below {w w' : World} {a : Option Addr} {l : List YgP} (h : RdZ w a l) (hb : Below w.heap.size w w') : RdZ w' a l := by
 rcases h with h | ⟨b, off, e, hlt, hc⟩
 ·exact .inl h
 ·exact .inr ⟨b, off, e, Nat.lt_of_lt_of_le hlt hb.size, fun i hi => (hb.cell (p := ⟨b, off + i, none⟩) hlt).trans (hc i hi)⟩
theorem RdZ.at_ {w : World} {a : Option Addr} {l : List YgP} (h : RdZ w a l) (hp : 0 < l.length) :
  ∃ b off, a = some ⟨b, off, none⟩ ∧ b < w.heap.size ∧ ∀ i, i < l.length → w.cell? ⟨b, off + i, none⟩ = some (cz (nthZ l i)) := by
 rcases h with h | h
 ·rw [h] at hp; simp at hp
 ·exact h
theorem RdZ.drop {w : World} {b off : Nat} {l : List YgP} (h : RdZ w (some ⟨b, off, none⟩) l) (k : Nat) : RdZ w (some ⟨b, off + k, none⟩) (l.drop k) := by
 rcases h with h | ⟨b', off', e, hlt, hc⟩
 ·left; simp [h]
 ·obtain ⟨rfl, rfl⟩ : b = b' ∧ off = off' := by simpa using e
  right
  refine ⟨b, off + k, rfl, hlt, fun i hi => ?_⟩
  rw [List.length_drop] at hi
  rw [nthZ_drop, Nat.add_assoc]
  exact hc (k + i) (by omega)
theorem RdZ.own {w : World} {base e n cap : Nat} {a : Option Addr} {l : List YgP} (h : w.ownsRow base e 1 (.slice a n cap) n (zc l)) : RdZ w a l := by
 have hl : l.length = n := by simpa [zc_len] using h.1
 rcases h.2 with ⟨_, h0⟩ | ⟨g, cap', cur, h', _, hg, _, _, _, htake⟩
 ·left; exact List.length_eq_zero_iff.1 (by omega)
 ·simp only [Value.slice.injEq] at h'
  obtain ⟨rfl, _, rfl⟩ := h'
  right
  refine ⟨g, 0, rfl, ?_, fun i hi => ?_⟩
  ·rcases Nat.lt_or_ge g w.heap.size with hlt | hge
   ·exact hlt
   ·simp [Array.getElem?_eq_none hge] at hg
  ·rw [cell_of_row w g (0 + i) cur e (0, 0) hg, ← zc_get hi, ← htake, List.getElem?_take, if_pos (by omega)]
   simp
def OwnZ (w : World) (B : Nat) (v : Value) (l : List YgP) : Prop := w.ownsRow B 171 1 v l.length (zc l)
theorem OwnZ.nil (w : World) (B : Nat) : OwnZ w B (.slice none 0 0) [] := World.ownsRow_nil _ _ _ _
theorem OwnZ.lit (w : World) (B : Nat) (hB : B ≤ w.heap.size) (cs : Array Value) (l : List YgP) (h : cs.toList = zc l) (hl : l.length ≤ maxLen) : OwnZ (w.alloc (.cells cs 171)) B (.slice (some ⟨w.heap.size, 0, none⟩) l.length l.length) l := by
 have := World.ownsRow_lit (base := B) (e := 171) (size := 1) w cs l.length hB hl (by rw [← Array.length_toList, h, zc_len]; omega)
 rw [h] at this
 exact this
theorem OwnZ.alloc {w : World} {B : Nat} {v : Value} {l : List YgP} (h : OwnZ w B v l) (o : Obj) : OwnZ (w.alloc o) B v l := World.ownsRow.alloc h o
theorem OwnZ.drew {w : World} {B : Nat} {v : Value} {l : List YgP} (h : OwnZ w B v l) : OwnZ w.drew B v l := h
theorem OwnZ.below {w w' : World} {B C : Nat} {v : Value} {l : List YgP} (h : OwnZ w B v l) (hb : Below C w w') (hC : w.heap.size ≤ C) : OwnZ w' B v l := by
 refine ⟨h.1, ?_⟩
 rcases h.2 with h' | ⟨g, cap, cur, h1, h2, h3, h4⟩
 ·exact .inl h'
 ·refine .inr ⟨g, cap, cur, h1, h2, ?_, h4⟩
  have hg : g < w.heap.size := by
   rcases Nat.lt_or_ge g w.heap.size with hlt | hge
   ·exact hlt
   ·simp [Array.getElem?_eq_none hge] at h3
  rw [hb.block g (by omega)]; exact h3
theorem OwnZ.form {w : World} {B : Nat} {v : Value} {l : List YgP} (h : OwnZ w B v l) : ∃ a cap, v = .slice a l.length cap ∧ l.length ≤ cap ∧ cap ≤ maxLen := by
 rcases h.2 with ⟨h', h0⟩ | ⟨g, cap, cur, h', _, _, h4, h5, _⟩
 ·exact ⟨none, 0, by rw [h', h0], by omega, by decide⟩
 ·exact ⟨_, cap, h', h4, h5⟩
theorem OwnZ.rd {w : World} {B n cap : Nat} {a : Option Addr} {l : List YgP} (h : OwnZ w B (.slice a n cap) l) : l.length = n ∧ RdZ w a l := by
 have hf : l.length = n := by
  obtain ⟨a', c', e, _⟩ := h.form
  simp at e; omega
 subst hf
 exact ⟨rfl, RdZ.own h⟩
theorem wpList_appZ {w : World} {ops : Array Oper} {rest : List Oper} {o : Oper} {a : Act} {Q : Exit → Act → World → Prop} (hgd : o.guard = none) (s x : Operand)
  (ho : o.op = .call { callee := .builtin .append, args := #[s, x], argTypes := #[141, 141] })
  (B : Nat) (v : Value) (l : List YgP) (hs : a.eval s = v) (hown : OwnZ w B v l) (ad : Addr) (m c : Nat) (new : List YgP) (hx : a.eval x = .slice (some ad) m c) (hm : new.length = m)
  (hnew : ∀ j, j < m → w.cell? (ad.add j) = some (cz (nthZ new j))) (hsz : l.length + m ≤ 1073741824) (hB : B ≤ w.heap.size)
  (h : ∀ v' w1, OwnZ w1 B v' (l ++ new) → Below B w w1 → wpList Tryz.prog ops Q rest (a.put o.dst v') w1) : wpList Tryz.prog ops Q (o :: rest) a w := by
 obtain ⟨i0, hi, hz0, hz1, hz2⟩ := info_parts infoZ
 refine wpList_append_own w hgd s x 141 ho B 171 i0 zeroZ 1 16 Tryz.underlying141 hi hz0 hz1 hz2 rfl (by decide) v l.length (zc l) hs hown ad m c (zc new) hx (by rw [zc_len, hm]; omega) ?_ (zc_one new) (by unfold maxLen; omega) (by omega) hB ?_
 ·intro j u hj
  have hjl : j < new.length := by
   rcases Nat.lt_or_ge j new.length with hlt | hge
   ·exact hlt
   ·rw [List.getElem?_eq_none (by rw [zc_len]; exact hge)] at hj; cases hj
  rw [zc_get hjl] at hj
  cases hj
  exact hnew j (by omega)
 ·intro v' w1 hown' hgr _
  refine h v' w1 ?_ ((Below.refl _ _).grown hgr hB (fun k hk => (hown.lt k hk).1))
  unfold OwnZ
  rw [zc_app, List.length_append, hm]
  exact hown'
theorem wpList_app_newZ {wr : World} {cs : Array Value} {ops : Array Oper} {rest : List Oper} {o : Oper} {a : Act} {Q : Exit → Act → World → Prop} (hgd : o.guard = none) (s x : Operand)
  (ho : o.op = .call { callee := .builtin .append, args := #[s, x], argTypes := #[141, 141] })
  (B : Nat) (v : Value) (l : List YgP) (hs : a.eval s = v) (hown : OwnZ wr B v l) (m c : Nat) (new : List YgP) (hx : a.eval x = .slice (some ⟨wr.heap.size, 0, none⟩) m c) (hm : new.length = m) (hcs : cs.toList = zc new)
  (hsz : l.length + m ≤ 1073741824) (hB : B ≤ wr.heap.size)
  (h : ∀ v' w1, OwnZ w1 B v' (l ++ new) → Below B wr w1 → wpList Tryz.prog ops Q rest (a.put o.dst v') w1) : wpList Tryz.prog ops Q (o :: rest) a (wr.alloc (.cells cs 171)) := by
 have hb : Below B wr (wr.alloc (.cells cs 171)) := (Below.refl _ _).alloc hB _
 refine wpList_appZ hgd s x ho B v l hs (hown.alloc _) ⟨wr.heap.size, 0, none⟩ m c new hx hm ?_ hsz (by simp; omega) (fun v' w1 h1 h2 => h v' w1 h1 (hb.trans h2))
 intro j hj
 have e : (⟨wr.heap.size, 0, none⟩ : Addr).add j = ⟨wr.heap.size, j, none⟩ := by rw [Go.WideShapes.add_plain, Nat.zero_add]
 rw [e, World.cell?_alloc_mark, ← Array.getElem?_toList, hcs]
 exact zc_get (by omega)
end Go.Proofs.YtjogclofjollnaaGreatDoor
namespace Go.Proofs.YtjogclofjollnaaGreatDoor
open Go.RowKit
theorem reachOf_any (x y : Int) (w : World) : Calls Tryz.prog 122 #[.int .i64 x, .int .i64 y] w fun e w' => e = .returned (cz (x, y)) ∧ w = w' := by
 go_enter Tryz.func122, Tryz.ntmps122
 go_wp2
 go_ret
 exact ⟨rfl, rfl⟩
theorem reachFrom_any (p : YgP) (w : World) (h : bty p.1 0 999 = true) : Calls Tryz.prog 140 #[cz p] w fun e w' => e = .returned (.int .i64 p.1) ∧ w = w' := by
 have hc : ∀ w, (convert 209 2 (.float .f64 (fB p.1))).run Tryz.prog w = .ok (.int .i64 p.1) w := fun w => run_convert_float_int w 209 2 .f64 .i64 (fB p.1) p.1 (by rw [Tryz.underlying209]; rfl) Tryz.underlying2 (fB_back h)
 unfold cz
 go_enter Tryz.func140, Tryz.ntmps140
 go_wp2_with (simp only [hc])
 go_ret
 exact ⟨rfl, rfl⟩
theorem reachTo_any (p : YgP) (w : World) (h : bty p.2 0 999 = true) : Calls Tryz.prog 141 #[cz p] w fun e w' => e = .returned (.int .i64 p.2) ∧ w = w' := by
 have hc : ∀ w, (convert 209 2 (.float .f64 (fB p.2))).run Tryz.prog w = .ok (.int .i64 p.2) w := fun w => run_convert_float_int w 209 2 .f64 .i64 (fB p.2) p.2 (by rw [Tryz.underlying209]; rfl) Tryz.underlying2 (fB_back h)
 unfold cz
 go_enter Tryz.func141, Tryz.ntmps141
 go_wp2_with (simp only [hc])
 go_ret
 exact ⟨rfl, rfl⟩
theorem rfA_nth {l : List YgP} (h : rfA l = true) {i : Nat} (hi : i < l.length) : bty (nthY l i).1 0 999 = true ∧ bty (nthY l i).2 0 999 = true := by
 have := List.all_eq_true.1 h (nthY l i) (by rw [nthY_get hi]; exact List.getElem_mem hi)
 exact Bool.and_eq_true_iff.1 this
def RoEnd (l : List YgP) (w : World) (e : Ending) (w' : World) : Prop := ∃ v, e = .returned v ∧ OwnZ w' w.heap.size v l ∧ Below w.heap.size w w'
set_option maxHeartbeats 1600000 in
set_option maxRecDepth 100000 in
theorem reachesOf_any (a : Option Addr) (n cap : Nat) (l : List YgP) (w : World) (hl : l.length = n) (hr : RdY w a l) (hn : n ≤ 1048576) :
  Calls Tryz.prog 106 #[.slice a n cap] w fun e w' => RoEnd l w e w' := by
 go_enter Tryz.func106, Tryz.ntmps106
 go_wp2
 go_loopw [3, 8] (fun v i wr => ∃ k : Nat, k ≤ n ∧ i = .int .i64 k ∧ OwnZ wr w.heap.size v (l.take k) ∧ Below w.heap.size w wr) (fun _ i _ => n - (intOf i).toNat)
 case atStart => exact ⟨0, Nat.zero_le _, rfl, OwnZ.nil _ _, Below.refl _ _⟩
 case round =>
  rename_i v _
  obtain ⟨k, hk, rfl, hown, hbel⟩ := hrel
  by_cases hkn : k < n
  ·obtain ⟨b, off, rfl, hblt, hcell⟩ := hr.at_ (by omega)
   have hc0 : wr.cell? ⟨b, off + k * 2, none⟩ = some (.int .i64 (nthY l k).1) := (hbel.cell (p := ⟨b, off + k * 2, none⟩) hblt).trans (hcell k (by omega)).1
   have hc1 : wr.cell? ⟨b, off + k * 2 + 1, none⟩ = some (.int .i64 (nthY l k).2) := (hbel.cell (p := ⟨b, off + k * 2 + 1, none⟩) hblt).trans (hcell k (by omega)).2
   have hki : (k : Int) < (n : Int) := by omega
   have HT : Hid (l.take k ++ [nthY l k] = l.take (k + 1)) := (take_snocY l k (by omega)).symm
   have hlt : (l.take k).length = k := by rw [List.length_take]; omega
   clear hcell
   generalize nthY l k = p at *
   obtain ⟨x, y⟩ := p
   simp only at hc0 hc1
   obtain ⟨av, cv, ev, _, _⟩ := hown.form
   rw [hlt] at ev
   subst ev
   have hB1 : Below w.heap.size w (wr.alloc (.cells #[.int .i64 x, .int .i64 y] 70)) := hbel.alloc hbel.size _
   have hown1 := hown.alloc (.cells #[.int .i64 x, .int .i64 y] 70)
   clear hown
   go_wp2_with fail
   refine (reachOf_any x y _).mono ?_
   rintro e w2 ⟨rfl, rfl⟩
   generalize wr.alloc (.cells #[.int .i64 x, .int .i64 y] 70) = W at *
   rw [show cz (x, y) = .complex .f64 (fB x) (fB y) from rfl]
   go_wp2_with (at_builtin; refine wpList_app_newZ rfl _ _ rfl w.heap.size _ (l.take k) rfl hown1 1 1 [(x, y)] rfl rfl rfl (by rw [hlt]; omega) hB1.size ?_; intro v' w3 ho3 hb3)
   have hB3 := hB1.trans hb3
   rw [HT.out] at ho3
   obtain ⟨av', cv', ev', _, _⟩ := ho3.form
   clear hb3 hown1
   go_wp2
   go_roundw
   case rel => exact ⟨k + 1, by omega, by go_num, ho3, hB3⟩
   case measure => simp [intOf]; omega
  ·have hki : ¬ (k : Int) < (n : Int) := by omega
   have hkk : l.take k = l := List.take_of_length_le (by omega)
   rw [hkk] at hown
   go_wp2
   go_ret
   exact ⟨_, rfl, hown, hbel⟩
end Go.Proofs.YtjogclofjollnaaGreatDoor
namespace Go.Proofs.YtjogclofjollnaaGreatDoor
open Go.RowKit
theorem rfV_A {l : List YgP} (h : rfV l = 0) : rfA l = true ∧ 1 ≤ l.length ∧ l.length ≤ 8 := by
 unfold rfV at h
 split at h
 ·split at h
  ·exact ⟨by assumption, by assumption⟩
  ·omega
 ·omega
theorem rfV_three (l : List YgP) : rfV l = 0 ∨ rfV l = 2 ∨ rfV l = 3 := by
 unfold rfV
 split
 ·split
  ·exact .inl rfl
  ·exact .inr (.inr rfl)
 ·exact .inr (.inl rfl)
end Go.Proofs.YtjogclofjollnaaGreatDoor
namespace Go.Proofs.YtjogclofjollnaaGreatDoor
open Go.RowKit
def TabW (w : World) : Prop := Lib.TabIs Tryz.prog w "internal/strconv.uint64pow10" .u64 Lib.pow10Tab
theorem gW : Tryz.prog.globalNamed "internal/strconv.uint64pow10" = some 11 := by kernel_rfl
theorem TabW.below {w w' : World} (h : TabW w) (hb : Below w.heap.size w w') : TabW w' := by
 unfold TabW Lib.TabIs World.var? at h ⊢
 rw [gW] at h ⊢
 simp only [Option.bind_some] at h ⊢
 have hlt : 11 < w.heap.size := by
  rcases Nat.lt_or_ge 11 w.heap.size with h' | h'
  ·exact h'
  ·rw [Array.getElem?_eq_none h'] at h; simp at h
 rw [hb.block _ hlt]; exact h
def wdN (n : Int) : List Nat := if n = 0 then [42] else dgF 2 n.toNat
theorem wdN_len (n : Int) : (wdN n).length ≤ 3 := by
 unfold wdN
 split
 ·decide
 ·exact dgF_len 2 _
def wdY (p : YgP) : List Nat := if p.1 = p.2 then wdN p.1 else wdN p.1 ++ [58] ++ wdN p.2
theorem wdY_len (p : YgP) : (wdY p).length ≤ 7 := by
 have h1 := wdN_len p.1
 have h2 := wdN_len p.2
 unfold wdY
 split
 ·omega
 ·rw [List.length_append, List.length_append]; simp; omega
def jnT : List (List Nat) → List Nat
 | [] => []
 | x :: r => x ++ (r.map ([44] ++ ·)).flatten
theorem jnT_snoc (xs : List (List Nat)) (y : List Nat) : jnT (xs ++ [y]) = if xs = [] then y else jnT xs ++ [44] ++ y := by
 cases xs with
 | nil => simp [jnT]
 | cons x r => simp [jnT]
theorem jnT_len : ∀ xs : List (List Nat), (∀ x ∈ xs, x.length ≤ 7) → (jnT xs).length ≤ 8 * xs.length
 | [], _ => Nat.le_refl _
 | x :: r, h => by
  have hx := h x (List.mem_cons_self ..)
  have : ∀ r : List (List Nat), (∀ x ∈ r, x.length ≤ 7) → ((r.map ([44] ++ ·)).flatten).length ≤ 8 * r.length := by
   intro r
   induction r with
   | nil => intro _; exact Nat.le_refl _
   | cons y r ih =>
    intro h
    have h1 := h y (List.mem_cons_self ..)
    have h2 := ih fun x hx => h x (List.mem_cons_of_mem _ hx)
    simp only [List.map_cons, List.flatten_cons, List.length_append, List.length_cons, List.length_nil]
    omega
  have h2 := this r fun x hx => h x (List.mem_cons_of_mem _ hx)
  show (x ++ (r.map ([44] ++ ·)).flatten).length ≤ _
  rw [List.length_append, List.length_cons]
  omega
theorem str_list (l : List Nat) : (str l).data.toList = l.map UInt8.ofNat := by simp [str]
theorem jnT_join (ws : List (List Nat)) : Lib.join (ws.map fun x => (str x).data.toList) [44] = (jnT ws).map UInt8.ofNat := by
 cases ws with
 | nil => rfl
 | cons x r =>
  rw [List.map_cons, Lib.join_cons, str_list]
  show _ = (x ++ (r.map ([44] ++ ·)).flatten).map UInt8.ofNat
  rw [List.map_append]
  congr 1
  unfold Lib.joinTail
  rw [List.map_map, List.map_flatten, List.map_map]
  congr 1
def txY (l : List YgP) : List Nat := jnT (l.map wdY)
theorem txY_len (l : List YgP) : (txY l).length ≤ 8 * l.length := by
 have := jnT_len (l.map wdY) (fun x hx => by obtain ⟨p, _, rfl⟩ := List.mem_map.1 hx; exact wdY_len p)
 rw [List.length_map] at this
 exact this
theorem txY_step {l : List YgP} {k : Nat} (h : k < l.length) : txY (l.take (k + 1)) = (if k = 0 then [] else txY (l.take k) ++ [44]) ++ wdY (nthY l k) := by
 unfold txY
 rw [take_snocY l k h, List.map_append, List.map_cons, List.map_nil, jnT_snoc]
 by_cases h0 : k = 0
 ·subst h0; simp
 ·rw [if_neg h0, if_neg]
  intro h1
  have := congrArg List.length h1
  rw [List.length_map, List.length_take] at this
  rw [List.length_nil] at this
  omega
theorem itoa_all : (List.range 1000).all (fun n => n == 0 || Lib.itoa (n : Int) == (dgF 2 n).map UInt8.ofNat) = true := by kernel_rfl
theorem itoa_str {n : Nat} (h0 : n ≠ 0) (h9 : n ≤ 999) : (⟨(Lib.itoa (n : Int)).toArray⟩ : ByteArray) = str (dgF 2 n) := by
 have := List.all_eq_true.1 itoa_all n (by rw [List.mem_range]; omega)
 simp [h0] at this
 rw [this]; rfl
theorem endWord_any (n : Int) (w : World) (h : bty n 0 999 = true) (ht : TabW w) : Calls Tryz.prog 142 #[.int .i64 n] w fun e w' => e = .returned (.string (str (wdN n))) ∧ Below w.heap.size w w' := by
 have hb := of_decide_eq_true h
 by_cases h0 : n = 0
 ·subst h0
  go_enter Tryz.func142, Tryz.ntmps142
  go_wp2
  go_ret
  exact ⟨rfl, Below.refl _ _⟩
 ·obtain ⟨m, rfl⟩ : ∃ m : Nat, n = (m : Int) := ⟨n.toNat, by omega⟩
  have HF := Tryz.strconv_FormatInt_10 (m : Int) (by omega) (by omega) w ht
  have hm0 : m ≠ 0 := by omega
  rw [itoa_str hm0 (by omega)] at HF
  have HV : Hid (wdN (m : Int) = dgF 2 m) := by
   show wdN (m : Int) = _
   unfold wdN
   rw [if_neg h0, Int.toNat_natCast]
  go_enter Tryz.func142, Tryz.ntmps142
  go_wp2_with fail
  refine HF.mono ?_
  rintro e w1 ⟨rfl, k, os, rfl⟩
  have hbw := Lib.below_grow w.heap.size w (Nat.le_refl _) k os
  go_wp2
  go_ret
  exact ⟨by rw [HV.out]; rfl, hbw⟩
theorem l11Number_any (n : Int) (w : World) (h : bty n 0 999 = true) : Calls Tryz.prog 89 #[.int .i64 n] w fun e w' => e = .returned (.string (str (wdN n))) ∧ Below w.heap.size w w' := by
 have hb := of_decide_eq_true h
 by_cases h0 : n = 0
 ·subst h0
  go_enter Tryz.func89, Tryz.ntmps89
  go_wp2
  go_ret
  exact ⟨rfl, Below.refl _ _⟩
 ·obtain ⟨m, rfl⟩ : ∃ m : Nat, n = (m : Int) := ⟨n.toNat, by omega⟩
  have HF := l1Digits_any 2 m w (by simp; omega) (by omega)
  have HV : Hid (wdN (m : Int) = dgF 2 m) := by
   show wdN (m : Int) = _
   unfold wdN
   rw [if_neg h0, Int.toNat_natCast]
  go_enter Tryz.func89, Tryz.ntmps89
  go_wp2_with fail
  refine HF.mono ?_
  rintro e w1 ⟨rfl, hbw⟩
  go_wp2
  go_ret
  exact ⟨by rw [HV.out]; rfl, hbw⟩
set_option maxHeartbeats 1600000 in
set_option maxRecDepth 100000 in
theorem word_any (p : YgP) (w : World) (h1 : bty p.1 0 999 = true) (h2 : bty p.2 0 999 = true) (ht : TabW w) : Calls Tryz.prog 121 #[cz p] w fun e w' => e = .returned (.string (str (wdY p))) ∧ Below w.heap.size w w' := by
 obtain ⟨x, y⟩ := p
 simp only at h1 h2
 have HFr : Hid (_) := fun w => reachFrom_any (x, y) w h1
 have HTo : Hid (_) := fun w => reachTo_any (x, y) w h2
 have HW1 : Hid (_) := fun w ht => endWord_any x w h1 ht
 have HW2 : Hid (_) := fun w ht => endWord_any y w h2 ht
 by_cases hxy : x = y
 ·subst hxy
  have HV : Hid (wdY (x, x) = wdN x) := if_pos rfl
  go_enter Tryz.func121, Tryz.ntmps121
  go_wp2_with fail
  refine (HFr.out _).mono ?_
  rintro e w1 ⟨rfl, rfl⟩
  go_wp2_with fail
  refine (HTo.out _).mono ?_
  rintro e w1 ⟨rfl, rfl⟩
  go_wp2_with fail
  refine (HFr.out _).mono ?_
  rintro e w1 ⟨rfl, rfl⟩
  go_wp2_with fail
  refine (HW1.out _ ht).mono ?_
  rintro e w1 ⟨rfl, hb1⟩
  go_wp2
  go_ret
  exact ⟨by rw [HV.out]; rfl, hb1⟩
 ·have HV : Hid ((str (wdN x) ++ ⟨#[58]⟩) ++ str (wdN y) = str (wdY (x, y))) := by
   show _ = _
   rw [show (⟨#[58]⟩ : ByteArray) = str [58] from rfl, str_plusY, str_plusY, wdY, if_neg hxy]
  have l1 : (str (wdN x)).size ≤ 3 := by rw [str_size]; exact wdN_len x
  have l2 : (str (wdN y)).size ≤ 3 := by rw [str_size]; exact wdN_len y
  have l3 : (str (wdN x) ++ ⟨#[58]⟩).size ≤ 4 := by
   rw [ByteArray.size_append]
   have : (⟨#[58]⟩ : ByteArray).size = 1 := rfl
   omega
  generalize str (wdN x) = s1 at *
  generalize str (wdN y) = s2 at *
  go_enter Tryz.func121, Tryz.ntmps121
  go_wp2_with fail
  refine (HFr.out _).mono ?_
  rintro e w1 ⟨rfl, rfl⟩
  go_wp2_with fail
  refine (HTo.out _).mono ?_
  rintro e w1 ⟨rfl, rfl⟩
  go_wp2_with fail
  refine (HFr.out _).mono ?_
  rintro e w1 ⟨rfl, rfl⟩
  go_wp2_with fail
  refine (HW1.out _ ht).mono ?_
  rintro e w1 ⟨rfl, hb1⟩
  go_wp2_with fail
  refine (HTo.out _).mono ?_
  rintro e w2 ⟨rfl, rfl⟩
  go_wp2_with fail
  refine (HW2.out _ (TabW.below ht hb1)).mono ?_
  rintro e w2 ⟨rfl, hb2⟩
  have hb12 := hb1.trans (hb2.mono hb1.size)
  clear hb1 hb2
  go_wp2
  go_ret
  exact ⟨by rw [← HV.out]; rfl, hb12⟩
end Go.Proofs.YtjogclofjollnaaGreatDoor
