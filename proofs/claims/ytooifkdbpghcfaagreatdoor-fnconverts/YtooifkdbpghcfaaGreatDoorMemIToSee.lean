/- Words on memory, with no program in them: where a slice of whole numbers is read, what a row of the call's own holds; no conditions beyond those that each fact names · Each helper of the laws over slices of whole numbers does what its text says: it copies one, and holds two against each other; slices of at most 1048576 numbers · What an append of numbers to a slice of the call's own leaves: laws for this program's types; at most 1073741824 numbers · Words on rows of memory, and on texts: no program in them · Words on memory, with no program in them: where a slice of fields (two texts each) is read, what a row of the call's own holds · A slice of fields of the call's own, and what an append to it leaves: laws for this program's types · What a face sees, or the code of what it cannot see: the deferred catch, and see over bytes and over numbers. -/
import Derived.Test.YtooifkdbpghcfaaGreatDoorMemToApp
import Derived.Test.YtooifkdbpghcfaaGreatDoorProg
import Derived.BigQuiet
import Derived.Deep.QuietTactic
import Derived.KernelRfl
import Derived.Handy
import Derived.OpenShut
import Derived.Defers
import Derived.Recover
import Derived.Laws.Pointers
namespace Go.Proofs.YtooifkdbpghcfaaGreatDoor
open Go.RowKit

/-- The i-th number of a list (0 behind its end). -/
def nthI (l : List Int) (i : Nat) : Int := l.getD i 0
/-- Numbers as cells. -/
def ic (l : List Int) : List Value := l.map fun (b : Int) => Value.int .i64 b

theorem nthI_get {l : List Int} {i : Nat} (h : i < l.length) : nthI l i = l[i] := by
  unfold nthI; rw [List.getD_eq_getElem?_getD, List.getElem?_eq_getElem h]; rfl

theorem ic_len (l : List Int) : (ic l).length = l.length := by simp [ic]
theorem ic_one (l : List Int) : ∀ u ∈ ic l, u.oneCell' = true := by
  intro u hu
  simp only [ic, List.mem_map] at hu
  obtain ⟨b, _, rfl⟩ := hu
  rfl
theorem ic_app (a b : List Int) : ic (a ++ b) = ic a ++ ic b := by simp [ic]
theorem ic_get {l : List Int} {i : Nat} (h : i < l.length) : (ic l)[i]? = some (.int .i64 (nthI l i)) := by
  rw [nthI_get h]; simp [ic, h]

theorem nthI_drop (l : List Int) (k i : Nat) : nthI (l.drop k) i = nthI l (k + i) := by
  simp [nthI, List.getD_eq_getElem?_getD, List.getElem?_drop]
theorem take_snocI (l : List Int) (k : Nat) (h : k < l.length) : l.take (k + 1) = l.take k ++ [nthI l k] := by
  rw [List.take_succ_eq_append_getElem h, nthI_get h]
/-- WHERE A SLICE OF BYTES IS READ: at its address stand the bytes l. -/
def RdI (w : World) (a : Option Addr) (l : List Int) : Prop :=
  l = [] ∨ ∃ b off, a = some ⟨b, off, none⟩ ∧ b < w.heap.size ∧ ∀ i, i < l.length → w.cell? ⟨b, off + i, none⟩ = some (.int .i64 (nthI l i))

theorem RdI.below {w w' : World} {a : Option Addr} {l : List Int} (h : RdI w a l) (hb : Below w.heap.size w w') : RdI w' a l := by
  rcases h with h | ⟨b, off, e, hlt, hc⟩
  · exact .inl h
  · exact .inr ⟨b, off, e, Nat.lt_of_lt_of_le hlt hb.size, fun i hi => (hb.cell (p := ⟨b, off + i, none⟩) hlt).trans (hc i hi)⟩
/-- Where there is an element there is an address. -/
theorem RdI.at_ {w : World} {a : Option Addr} {l : List Int} (h : RdI w a l) (hp : 0 < l.length) :
    ∃ b off, a = some ⟨b, off, none⟩ ∧ b < w.heap.size ∧ ∀ i, i < l.length → w.cell? ⟨b, off + i, none⟩ = some (.int .i64 (nthI l i)) := by
  rcases h with h | h
  · rw [h] at hp; simp at hp
  · exact h
theorem RdI.drop {w : World} {b off : Nat} {l : List Int} (h : RdI w (some ⟨b, off, none⟩) l) (k : Nat) : RdI w (some ⟨b, off + k, none⟩) (l.drop k) := by
  rcases h with h | ⟨b', off', e, hlt, hc⟩
  · left; simp [h]
  · obtain ⟨rfl, rfl⟩ : b = b' ∧ off = off' := by simpa using e
    right
    refine ⟨b, off + k, rfl, hlt, fun i hi => ?_⟩
    rw [List.length_drop] at hi
    rw [nthI_drop, Nat.add_assoc]
    exact hc (k + i) (by omega)


/-- A row of the call's own, read. -/
theorem RdI.own {w : World} {base e n cap : Nat} {a : Option Addr} {l : List Int} (h : w.ownsRow base e 1 (.slice a n cap) n (ic l)) : RdI w a l := by
  have hl : l.length = n := by simpa [ic_len] using h.1
  rcases h.2 with ⟨_, h0⟩ | ⟨g, cap', cur, h', _, hg, _, _, _, htake⟩
  · left; exact List.length_eq_zero_iff.1 (by omega)
  · simp only [Value.slice.injEq] at h'
    obtain ⟨rfl, _, rfl⟩ := h'
    right
    refine ⟨g, 0, rfl, ?_, fun i hi => ?_⟩
    · rcases Nat.lt_or_ge g w.heap.size with hlt | hge
      · exact hlt
      · simp [Array.getElem?_eq_none hge] at hg
    · rw [cell_of_row w g (0 + i) cur e (0, 0) hg, ← ic_get hi, ← htake, List.getElem?_take, if_pos (by omega)]
      simp


end Go.Proofs.YtooifkdbpghcfaaGreatDoor

namespace Go.Proofs.YtooifkdbpghcfaaGreatDoor
open Go.RowKit

theorem infoBI : (Tryz.prog.info? 2).map (fun i => (i.zero, i.size, i.bytes)) = some (some (.int .i64 0), 1, 8) := by kernel_rfl

end Go.Proofs.YtooifkdbpghcfaaGreatDoor

namespace Go.Proofs.YtooifkdbpghcfaaGreatDoor
open Go.RowKit

/-- THE SLICE v IS THE CALL's OWN AND HOLDS THE BYTES l. -/
def OwnI (w : World) (B : Nat) (v : Value) (l : List Int) : Prop := w.ownsRow B 2 1 v l.length (ic l)

theorem OwnI.nil (w : World) (B : Nat) : OwnI w B (.slice none 0 0) [] := World.ownsRow_nil _ _ _ _
theorem OwnI.lit (w : World) (B : Nat) (hB : B ≤ w.heap.size) (cs : Array Value) (l : List Int) (h : cs.toList = ic l) (hl : l.length ≤ maxLen) : OwnI (w.alloc (.cells cs 2)) B (.slice (some ⟨w.heap.size, 0, none⟩) l.length l.length) l := by
  have := World.ownsRow_lit (base := B) (e := 2) (size := 1) w cs l.length hB hl (by rw [← Array.length_toList, h, ic_len]; omega)
  rw [h] at this
  exact this
theorem OwnI.alloc {w : World} {B : Nat} {v : Value} {l : List Int} (h : OwnI w B v l) (o : Obj) : OwnI (w.alloc o) B v l := World.ownsRow.alloc h o
theorem OwnI.drew {w : World} {B : Nat} {v : Value} {l : List Int} (h : OwnI w B v l) : OwnI w.drew B v l := h
theorem OwnI.below {w w' : World} {B C : Nat} {v : Value} {l : List Int} (h : OwnI w B v l) (hb : Below C w w') (hC : w.heap.size ≤ C) : OwnI w' B v l := by
  refine ⟨h.1, ?_⟩
  rcases h.2 with h' | ⟨g, cap, cur, h1, h2, h3, h4⟩
  · exact .inl h'
  · refine .inr ⟨g, cap, cur, h1, h2, ?_, h4⟩
    have hg : g < w.heap.size := by
      rcases Nat.lt_or_ge g w.heap.size with hlt | hge
      · exact hlt
      · simp [Array.getElem?_eq_none hge] at h3
    rw [hb.block g (by omega)]; exact h3
theorem OwnI.form {w : World} {B : Nat} {v : Value} {l : List Int} (h : OwnI w B v l) : ∃ a cap, v = .slice a l.length cap ∧ l.length ≤ cap ∧ cap ≤ maxLen := by
  rcases h.2 with ⟨h', h0⟩ | ⟨g, cap, cur, h', _, _, h4, h5, _⟩
  · exact ⟨none, 0, by rw [h', h0], by omega, by decide⟩
  · exact ⟨_, cap, h', h4, h5⟩
theorem OwnI.rd {w : World} {B n cap : Nat} {a : Option Addr} {l : List Int} (h : OwnI w B (.slice a n cap) l) : l.length = n ∧ RdI w a l := by
  have hf : l.length = n := by
    obtain ⟨a', c', e, _⟩ := h.form
    simp at e; omega
  subst hf
  exact ⟨rfl, RdI.own h⟩

/-- AN APPEND: what stands at the second slice's address is there behind what was. -/
theorem wpList_appI {w : World} {ops : Array Oper} {rest : List Oper} {o : Oper} {a : Act} {Q : Exit → Act → World → Prop} (hgd : o.guard = none) (s x : Operand)
    (ho : o.op = .call { callee := .builtin .append, args := #[s, x], argTypes := #[31, 31] })
    (B : Nat) (v : Value) (l : List Int) (hs : a.eval s = v) (hown : OwnI w B v l) (ad : Addr) (m c : Nat) (new : List Int) (hx : a.eval x = .slice (some ad) m c) (hm : new.length = m)
    (hnew : ∀ j, j < m → w.cell? (ad.add j) = some (.int .i64 (nthI new j))) (hsz : l.length + m ≤ 1073741824) (hB : B ≤ w.heap.size)
    (h : ∀ v' w1, OwnI w1 B v' (l ++ new) → Below B w w1 → wpList Tryz.prog ops Q rest (a.put o.dst v') w1) : wpList Tryz.prog ops Q (o :: rest) a w := by
  obtain ⟨i0, hi, hz0, hz1, hz2⟩ := info_parts infoBI
  refine wpList_append_own w hgd s x 31 ho B 2 i0 (.int .i64 0) 1 8 Tryz.underlying31 hi hz0 hz1 hz2 rfl (by decide) v l.length (ic l) hs hown ad m c (ic new) hx (by rw [ic_len, hm]; omega) ?_ (ic_one new) (by unfold maxLen; omega) (by omega) hB ?_
  · intro j u hj
    have hjl : j < new.length := by
      rcases Nat.lt_or_ge j new.length with hlt | hge
      · exact hlt
      · rw [List.getElem?_eq_none (by rw [ic_len]; exact hge)] at hj; cases hj
    rw [ic_get hjl] at hj
    cases hj
    exact hnew j (by omega)
  · intro v' w1 hown' hgr _
    refine h v' w1 ?_ ((Below.refl _ _).grown hgr hB (fun k hk => (hown.lt k hk).1))
    unfold OwnI
    rw [ic_app, List.length_append, hm]
    exact hown'

/-- The same where the second slice is the block that was laid just ahead. -/
theorem wpList_app_newI {wr : World} {cs : Array Value} {ops : Array Oper} {rest : List Oper} {o : Oper} {a : Act} {Q : Exit → Act → World → Prop} (hgd : o.guard = none) (s x : Operand)
    (ho : o.op = .call { callee := .builtin .append, args := #[s, x], argTypes := #[31, 31] })
    (B : Nat) (v : Value) (l : List Int) (hs : a.eval s = v) (hown : OwnI wr B v l) (m c : Nat) (new : List Int) (hx : a.eval x = .slice (some ⟨wr.heap.size, 0, none⟩) m c) (hm : new.length = m) (hcs : cs.toList = ic new)
    (hsz : l.length + m ≤ 1073741824) (hB : B ≤ wr.heap.size)
    (h : ∀ v' w1, OwnI w1 B v' (l ++ new) → Below B wr w1 → wpList Tryz.prog ops Q rest (a.put o.dst v') w1) : wpList Tryz.prog ops Q (o :: rest) a (wr.alloc (.cells cs 2)) := by
  have hb : Below B wr (wr.alloc (.cells cs 2)) := (Below.refl _ _).alloc hB _
  refine wpList_appI hgd s x ho B v l hs (hown.alloc _) ⟨wr.heap.size, 0, none⟩ m c new hx hm ?_ hsz (by simp; omega) (fun v' w1 h1 h2 => h v' w1 h1 (hb.trans h2))
  intro j hj
  have e : (⟨wr.heap.size, 0, none⟩ : Addr).add j = ⟨wr.heap.size, j, none⟩ := by rw [Go.WideShapes.add_plain, Nat.zero_add]
  rw [e, World.cell?_alloc_mark, ← Array.getElem?_toList, hcs]
  exact ic_get (by omega)

end Go.Proofs.YtooifkdbpghcfaaGreatDoor

namespace Go.Proofs.YtooifkdbpghcfaaGreatDoor
open Go.RowKit

/-- Every text is the text of some bytes. -/
theorem str_surj (s : ByteArray) : ∃ t, s = str t ∧ IsB t := by
  refine ⟨s.data.toList.map UInt8.toNat, ?_, ?_⟩
  · obtain ⟨d⟩ := s
    unfold str
    congr 1
    rw [List.map_map]
    have : (UInt8.ofNat ∘ UInt8.toNat) = id := by funext b; simp
    rw [this]
    simp
  · intro b hb
    simp only [List.mem_map] at hb
    obtain ⟨u, _, rfl⟩ := hb
    exact u.toNat_lt
end Go.Proofs.YtooifkdbpghcfaaGreatDoor

namespace Go.Proofs.YtooifkdbpghcfaaGreatDoor
open Go.RowKit

/-- A field: its name and its value. -/
abbrev FldP := ByteArray × ByteArray
def nthF (l : List FldP) (i : Nat) : FldP := l.getD i (ByteArray.empty, ByteArray.empty)
/-- Fields as cells. -/
def fc (l : List FldP) : List Value := l.flatMap fun p => [Value.string p.1, Value.string p.2]
theorem nthF_get {l : List FldP} {i : Nat} (h : i < l.length) : nthF l i = l[i] := by
  unfold nthF; rw [List.getD_eq_getElem?_getD, List.getElem?_eq_getElem h]; rfl
theorem fc_cons (p : FldP) (l : List FldP) : fc (p :: l) = .string p.1 :: .string p.2 :: fc l := rfl
theorem fc_len : ∀ l : List FldP, (fc l).length = l.length * 2
  | [] => rfl
  | p :: l => by rw [fc_cons, List.length_cons, List.length_cons, fc_len l, List.length_cons]; omega
theorem fc_app (a b : List FldP) : fc (a ++ b) = fc a ++ fc b := by simp [fc]
theorem fc_one (l : List FldP) : ∀ u ∈ fc l, u.oneCell' = true := by
  intro u hu
  simp only [fc, List.mem_flatMap, List.mem_cons, List.not_mem_nil, or_false] at hu
  obtain ⟨p, _, rfl | rfl⟩ := hu <;> rfl
theorem fc_get : ∀ (l : List FldP) (i : Nat), i < l.length → (fc l)[i * 2]? = some (.string (nthF l i).1) ∧ (fc l)[i * 2 + 1]? = some (.string (nthF l i).2)
  | [], _, h => by simp at h
  | p :: l, 0, _ => ⟨rfl, rfl⟩
  | p :: l, i + 1, h => by
    have := fc_get l i (by simpa using h)
    rw [fc_cons, show (i + 1) * 2 = i * 2 + 2 by omega]
    exact this
theorem take_snocF (l : List FldP) (k : Nat) (h : k < l.length) : l.take (k + 1) = l.take k ++ [nthF l k] := by
  rw [List.take_succ_eq_append_getElem h, nthF_get h]
theorem drop_consF (l : List FldP) (k : Nat) (h : k < l.length) : l.drop k = nthF l k :: l.drop (k + 1) := by
  rw [nthF_get h]; exact List.drop_eq_getElem_cons h

/-- WHERE A SLICE OF FIELDS IS READ. -/
def RdF (w : World) (a : Option Addr) (l : List FldP) : Prop :=
  l = [] ∨ ∃ b off, a = some ⟨b, off, none⟩ ∧ b < w.heap.size ∧ ∀ i, i < l.length → w.cell? ⟨b, off + i * 2, none⟩ = some (.string (nthF l i).1) ∧ w.cell? ⟨b, off + i * 2 + 1, none⟩ = some (.string (nthF l i).2)
theorem RdF.below {w w' : World} {a : Option Addr} {l : List FldP} (h : RdF w a l) (hb : Below w.heap.size w w') : RdF w' a l := by
  rcases h with h | ⟨b, off, e, hlt, hc⟩
  · exact .inl h
  · exact .inr ⟨b, off, e, Nat.lt_of_lt_of_le hlt hb.size, fun i hi => ⟨(hb.cell (p := ⟨b, off + i * 2, none⟩) hlt).trans (hc i hi).1, (hb.cell (p := ⟨b, off + i * 2 + 1, none⟩) hlt).trans (hc i hi).2⟩⟩
theorem RdF.at_ {w : World} {a : Option Addr} {l : List FldP} (h : RdF w a l) (hp : 0 < l.length) :
    ∃ b off, a = some ⟨b, off, none⟩ ∧ b < w.heap.size ∧ ∀ i, i < l.length → w.cell? ⟨b, off + i * 2, none⟩ = some (.string (nthF l i).1) ∧ w.cell? ⟨b, off + i * 2 + 1, none⟩ = some (.string (nthF l i).2) := by
  rcases h with h | h
  · rw [h] at hp; simp at hp
  · exact h
theorem RdF.own {w : World} {base e n cap : Nat} {a : Option Addr} {l : List FldP} (h : w.ownsRow base e 2 (.slice a n cap) n (fc l)) : RdF w a l := by
  have hl : l.length = n := by have := h.1; rw [fc_len] at this; omega
  rcases h.2 with ⟨_, h0⟩ | ⟨g, cap', cur, h', _, hg, _, _, _, htake⟩
  · left; exact List.length_eq_zero_iff.1 (by omega)
  · simp only [Value.slice.injEq] at h'
    obtain ⟨rfl, _, rfl⟩ := h'
    right
    refine ⟨g, 0, rfl, ?_, fun i hi => ?_⟩
    · rcases Nat.lt_or_ge g w.heap.size with hlt | hge
      · exact hlt
      · simp [Array.getElem?_eq_none hge] at hg
    · have hf := fc_get l i hi
      refine ⟨?_, ?_⟩
      · rw [cell_of_row w g (0 + i * 2) cur e (0, 0) hg, ← hf.1, ← htake, List.getElem?_take, if_pos (by omega)]
        simp
      · rw [cell_of_row w g (0 + i * 2 + 1) cur e (0, 0) hg, ← hf.2, ← htake, List.getElem?_take, if_pos (by omega)]
        simp

end Go.Proofs.YtooifkdbpghcfaaGreatDoor

namespace Go.Proofs.YtooifkdbpghcfaaGreatDoor
open Go.RowKit

def zeroF : Value := .agg #[.string ⟨#[]⟩, .string ⟨#[]⟩]
theorem infoF : (Tryz.prog.info? 169).map (fun i => (i.zero, i.size, i.bytes)) = some (some zeroF, 2, 32) := by kernel_rfl

/-- THE SLICE v IS THE CALL's OWN AND HOLDS THE FIELDS l. -/
def OwnF (w : World) (B : Nat) (v : Value) (l : List FldP) : Prop := w.ownsRow B 169 2 v l.length (fc l)
theorem OwnF.nil (w : World) (B : Nat) : OwnF w B (.slice none 0 0) [] := World.ownsRow_nil _ _ _ _
theorem OwnF.alloc {w : World} {B : Nat} {v : Value} {l : List FldP} (h : OwnF w B v l) (o : Obj) : OwnF (w.alloc o) B v l := World.ownsRow.alloc h o
theorem OwnF.below {w w' : World} {B C : Nat} {v : Value} {l : List FldP} (h : OwnF w B v l) (hb : Below C w w') (hC : w.heap.size ≤ C) : OwnF w' B v l := by
  refine ⟨h.1, ?_⟩
  rcases h.2 with h' | ⟨g, cap, cur, h1, h2, h3, h4⟩
  · exact .inl h'
  · refine .inr ⟨g, cap, cur, h1, h2, ?_, h4⟩
    have hg : g < w.heap.size := by
      rcases Nat.lt_or_ge g w.heap.size with hlt | hge
      · exact hlt
      · simp [Array.getElem?_eq_none hge] at h3
    rw [hb.block g (by omega)]; exact h3
theorem OwnF.form {w : World} {B : Nat} {v : Value} {l : List FldP} (h : OwnF w B v l) : ∃ a cap, v = .slice a l.length cap ∧ l.length ≤ cap ∧ cap ≤ maxLen := by
  rcases h.2 with ⟨h', h0⟩ | ⟨g, cap, cur, h', _, _, h4, h5, _⟩
  · exact ⟨none, 0, by rw [h', h0], by omega, by decide⟩
  · exact ⟨_, cap, h', h4, h5⟩
theorem OwnF.rd {w : World} {B n cap : Nat} {a : Option Addr} {l : List FldP} (h : OwnF w B (.slice a n cap) l) : l.length = n ∧ RdF w a l := by
  have hf : l.length = n := by
    obtain ⟨a', c', e, _⟩ := h.form
    simp at e; omega
  subst hf
  exact ⟨rfl, RdF.own h⟩
theorem OwnF.low {w : World} {B C : Nat} {v : Value} {l : List FldP} (h : OwnF w B v l) (hC : C ≤ B) : OwnF w C v l := by
  refine ⟨h.1, ?_⟩
  rcases h.2 with h' | ⟨g, cap, cur, h1, h2, h3⟩
  · exact .inl h'
  · exact .inr ⟨g, cap, cur, h1, Nat.le_trans hC h2, h3⟩
theorem OwnF.kept {w : World} {B : Nat} {v : Value} {l : List FldP} (h : OwnF w B v l) (p : Addr) (hp : p.block < B) (u : Value) : OwnF (w.setCell p u) B v l := ownsRow_setCell_below h hp u
theorem OwnF.far {w w' : World} {B : Nat} {v : Value} {l : List FldP} {row : Option Nat} (h : OwnF w B v l) (hg : w.grownBy w' row) (hne : ∀ b, v.ownBlock = some b → some b ≠ row) : OwnF w' B v l := by
  refine ⟨h.1, ?_⟩
  rcases h.2 with h' | ⟨g, cap, cur, h1, h2, h3, h4⟩
  · exact .inl h'
  · refine .inr ⟨g, cap, cur, h1, h2, ?_, h4⟩
    have hlt : g < w.heap.size := by
      rcases Nat.lt_or_ge g w.heap.size with hlt | hge
      · exact hlt
      · simp [Array.getElem?_eq_none hge] at h3
    rw [hg.block g hlt (hne g (by rw [h1]; rfl))]; exact h3

/-- AN APPEND: what stands at the second slice's address is there behind what was. -/
theorem wpList_appF {w : World} {ops : Array Oper} {rest : List Oper} {o : Oper} {a : Act} {Q : Exit → Act → World → Prop} (hgd : o.guard = none) (s x : Operand)
    (ho : o.op = .call { callee := .builtin .append, args := #[s, x], argTypes := #[129, 129] })
    (B : Nat) (v : Value) (l : List FldP) (hs : a.eval s = v) (hown : OwnF w B v l) (ad : Addr) (m c : Nat) (new : List FldP) (hx : a.eval x = .slice (some ad) m c) (hm : new.length = m)
    (hnew : ∀ j, j < m → w.cell? (ad.add (j * 2)) = some (.string (nthF new j).1) ∧ w.cell? (ad.add (j * 2 + 1)) = some (.string (nthF new j).2)) (hsz : l.length + m ≤ 1048576) (hB : B ≤ w.heap.size)
    (h : ∀ v' w1, OwnF w1 B v' (l ++ new) → Below B w w1 → wpList Tryz.prog ops Q rest (a.put o.dst v') w1) : wpList Tryz.prog ops Q (o :: rest) a w := by
  obtain ⟨i0, hi, hz0, hz1, hz2⟩ := info_parts infoF
  refine wpList_append_own w hgd s x 129 ho B 169 i0 zeroF 2 32 Tryz.underlying129 hi hz0 hz1 hz2 rfl (by decide) v l.length (fc l) hs hown ad m c (fc new) hx (by rw [fc_len, hm]) ?_ (fc_one new) (by unfold maxLen; omega) (by omega) hB ?_
  · intro j u hj
    have hjl : j < new.length * 2 := by
      rcases Nat.lt_or_ge j (new.length * 2) with hlt | hge
      · exact hlt
      · rw [List.getElem?_eq_none (by rw [fc_len]; exact hge)] at hj; cases hj
    have hf := fc_get new (j / 2) (by omega)
    have hn := hnew (j / 2) (by omega)
    have hjj : j = j / 2 * 2 ∨ j = j / 2 * 2 + 1 := by omega
    rcases hjj with e | e
    · rw [e, hf.1] at hj
      rw [e, hn.1]; exact hj
    · rw [e, hf.2] at hj
      rw [e, hn.2]; exact hj
  · intro v' w1 hown' hgr _
    refine h v' w1 ?_ ((Below.refl _ _).grown hgr hB (fun k hk => (hown.lt k hk).1))
    unfold OwnF
    rw [fc_app, List.length_append, hm]
    exact hown'
/-- AN APPEND AT A STEP OF A REGION THAT DRAWS ITS ORDER. -/
theorem step_appF {w : World} {ops : Array Oper} {o : Oper} {a : Act} {K : Act → World → Prop} {Q : Exit → Act → World → Prop} {E : Prop} (hgd : o.guard = none) (s x : Operand)
    (ho : o.op = .call { callee := .builtin .append, args := #[s, x], argTypes := #[129, 129] })
    (B : Nat) (v : Value) (l : List FldP) (hs : a.eval s = v) (hown : OwnF w B v l) (ad : Addr) (m c : Nat) (new : List FldP) (hx : a.eval x = .slice (some ad) m c) (hm : new.length = m)
    (hnew : ∀ j, j < m → w.cell? (ad.add (j * 2)) = some (.string (nthF new j).1) ∧ w.cell? (ad.add (j * 2 + 1)) = some (.string (nthF new j).2)) (hsz : l.length + m ≤ 1048576) (hB : B ≤ w.heap.size)
    (h : ∀ v' w1, OwnF w1 B v' (l ++ new) → Below B w w1 → w.grownBy w1 v.ownBlock → K (a.put o.dst v') w1) : if Region.wanted o (yielded ops a.tmps) = true then Oper.wp Tryz.prog o a w K Q else E := by
  have hw : Region.wanted o (yielded ops a.tmps) = true := by simp [Region.wanted, hgd]
  rw [if_pos hw]
  obtain ⟨i0, hi, hz0, hz1, hz2⟩ := info_parts infoF
  refine wp_append_own w s x 129 ho B 169 i0 zeroF 2 32 Tryz.underlying129 hi hz0 hz1 hz2 rfl (by decide) v l.length (fc l) hs hown ad m c (fc new) hx (by rw [fc_len, hm]) ?_ (fc_one new) (by unfold maxLen; omega) (by omega) hB ?_
  · intro j u hj
    have hjl : j < new.length * 2 := by
      rcases Nat.lt_or_ge j (new.length * 2) with hlt | hge
      · exact hlt
      · rw [List.getElem?_eq_none (by rw [fc_len]; exact hge)] at hj; cases hj
    have hf := fc_get new (j / 2) (by omega)
    have hn := hnew (j / 2) (by omega)
    have hjj : j = j / 2 * 2 ∨ j = j / 2 * 2 + 1 := by omega
    rcases hjj with e | e
    · rw [e, hf.1] at hj
      rw [e, hn.1]; exact hj
    · rw [e, hf.2] at hj
      rw [e, hn.2]; exact hj
  · intro v' w1 hown' hgr _
    refine h v' w1 ?_ ((Below.refl _ _).grown hgr hB (fun k hk => (hown.lt k hk).1)) hgr
    unfold OwnF
    rw [fc_app, List.length_append, hm]
    exact hown'
end Go.Proofs.YtooifkdbpghcfaaGreatDoor

namespace Go.Proofs.YtooifkdbpghcfaaGreatDoor
open Go.RowKit

theorem row_low {w : World} {B C e size n : Nat} {v : Value} {xs : List Value} (h : w.ownsRow B e size v n xs) (hC : C ≤ B) : w.ownsRow C e size v n xs := by
  refine ⟨h.1, ?_⟩
  rcases h.2 with h' | ⟨g, cap, cur, h1, h2, h3, h4⟩
  · exact .inl h'
  · exact .inr ⟨g, cap, cur, h1, by omega, h3, h4⟩

theorem catchB_panic (p : Addr) (x c : Int) (older : List PanicEntry) (w : World) (hc : w.cell? p = some (.int .i64 x)) (hz : w.frozen? p = false) :
    CallsD Tryz.prog 58 #[.pointer (some p)] (.panicking ({ v := .iface 91 (.int .i64 c), recovered := false } :: older)) w fun e u' w' =>
      e = .returned (.tuple #[]) ∧ u' = .panicking ({ v := .iface 91 (.int .i64 c), recovered := true } :: older) ∧ w' = w.setCell p (.int .i64 c) := by
  have hne : ∀ (v : Value) (w : World), (binOp BinOp.neq 20 (.iface 91 v) .nilIface).run Tryz.prog w = .ok (.bool true) w := fun _ _ => by kernel_rfl
  have hta : ∀ (v : Value) (w : World), (Instr.typeAssert (.iface 91 v) 20 91 false).run Tryz.prog w = .ok v w := fun _ _ => by kernel_rfl
  refine callsD_of_wpS Tryz.func58 rfl fun c₀ cs hu => ?_
  apply wpS_seq
  apply wpS_region
  simp [wpOpsS, go_sem, recoverD, hu, Tryz.ntmps58, Exit.thenS]
  apply wpS_seq
  apply wpS_region
  simp [wpOpsS, go_sem, Exit.thenS, hne]
  refine wpS_cond (t := true) (by simp [Act.eval, Array.replicate]) ?_
  simp only [if_true]
  apply wpS_region
  simp [wpOpsS, go_sem, hc, hz, hta, bodyPostS, results, Tryz.results58]

theorem catchB_idle (p : Addr) (w : World) :
    CallsD Tryz.prog 58 #[.pointer (some p)] .returning w fun e u' w' => e = .returned (.tuple #[]) ∧ u' = .returning ∧ w' = w := by
  have hne : ∀ (w : World), (binOp BinOp.neq 20 .nilIface .nilIface).run Tryz.prog w = .ok (.bool false) w := fun _ => by kernel_rfl
  refine callsD_of_wpS Tryz.func58 rfl fun c₀ cs hu => ?_
  apply wpS_seq
  apply wpS_region
  simp [wpOpsS, go_sem, recoverD, hu, Tryz.ntmps58, Exit.thenS]
  apply wpS_seq
  apply wpS_region
  simp [wpOpsS, go_sem, Exit.thenS, hne]
  refine wpS_cond (t := false) (by simp [Act.eval, Array.replicate]) ?_
  simp only [Bool.false_eq_true, if_false]
  refine wpS_of_wp (wp_skip ?_)
  cases c₀
  simp_all [bodyPostS, results, Tryz.results58]

/-- WHAT A LOOK SEES is answered with the code 0. -/
theorem seeB_ok (G : Nat) (caps : Array Value) (l : List Nat) (w : World) (hG : ∀ (args : Array Value) (w : World), (callFunc G args).run Tryz.prog w = .ok (.enter G args) w)
    (h : Calls Tryz.prog G caps (w.alloc (.cells #[.int .i64 0] 2)) fun e w' => ∃ v, e = .returned v ∧ Own w' (w.heap.size + 1) v l ∧ Below (w.heap.size + 1) (w.alloc (.cells #[.int .i64 0] 2)) w') :
    Calls Tryz.prog 27 #[.func (.func G) #[] caps] w fun e w' => ∃ v, e = .returned (.tuple #[v, .int .i64 0]) ∧ Own w' w.heap.size v l ∧ Below w.heap.size w w' := by
  have hmf : ∀ (fn : Fn) (first cap : Array Value) (w : World), (Instr.makeFunc fn first cap).run Tryz.prog w = .ok (.func fn first cap) w := fun _ _ _ _ => rfl


  go_enter_defers Tryz.func27, Tryz.ntmps27
  go_wp2_with fail
  refine h.mono ?_
  rintro e w1 ⟨v, rfl, ho, hb⟩
  have hz := hb.size
  rw [World.size_alloc] at hz
  have h0 : w1.heap[w.heap.size]? = some (.cells #[.int .i64 0] 2 (0, 0)) := (hb.block w.heap.size (by omega)).trans (heap_alloc_new w _)
  have c0 : w1.cell? ⟨w.heap.size, 0, none⟩ = some (.int .i64 0) := by simp [World.cell?, h0]
  have z0 : w1.frozen? ⟨w.heap.size, 0, none⟩ = false := by simp [World.frozen?, h0]
  have HE : Hid (Own (w1.setCell ⟨w.heap.size, 0, none⟩ (.int .i64 0)) w.heap.size v l ∧ Below w.heap.size w (w1.setCell ⟨w.heap.size, 0, none⟩ (.int .i64 0))) :=
    ⟨row_low (ownsRow_setCell_below ho (by simp) _) (by omega), (((Below.refl _ _).alloc (Nat.le_refl _) _).trans (hb.mono (by omega))).setCell (p := ⟨w.heap.size, 0, none⟩) (Nat.le_refl _) _⟩
  have c1 : (w1.setCell ⟨w.heap.size, 0, none⟩ (.int .i64 0)).cell? ⟨w.heap.size, 0, none⟩ = some (.int .i64 0) := by simp [World.cell?_setCell_same, c0]
  clear ho hb h h0
  go_wp2
  refine leaves_cons (f := 58) (args := #[.pointer (some ⟨w.heap.size, 0, none⟩)]) (by simp) (by simp [go_sem]) ?_
  refine (catchB_idle ⟨w.heap.size, 0, none⟩ _).mono ?_
  rintro e u' w'' ⟨rfl, rfl, rfl⟩
  simp [Leaves, settle, results, Tryz.results27, go_sem, c1]
  exact HE.out

/-- WHAT A LOOK CANNOT SEE is answered with its code. -/
theorem seeB_bad (G : Nat) (caps : Array Value) (c : Int) (w : World) (hG : ∀ (args : Array Value) (w : World), (callFunc G args).run Tryz.prog w = .ok (.enter G args) w)
    (h : Calls Tryz.prog G caps (w.alloc (.cells #[.int .i64 0] 2)) fun e w' => e = .panicked [{ v := .iface 91 (.int .i64 c), recovered := false }] ∧ Below (w.heap.size + 1) (w.alloc (.cells #[.int .i64 0] 2)) w') :
    Calls Tryz.prog 27 #[.func (.func G) #[] caps] w fun e w' => e = .returned (.tuple #[.slice none 0 0, .int .i64 c]) ∧ Below w.heap.size w w' := by
  have hmf : ∀ (fn : Fn) (first cap : Array Value) (w : World), (Instr.makeFunc fn first cap).run Tryz.prog w = .ok (.func fn first cap) w := fun _ _ _ _ => rfl


  go_enter_defers Tryz.func27, Tryz.ntmps27
  go_wp2_with fail
  refine h.mono ?_
  rintro e w1 ⟨rfl, hb⟩
  have hz := hb.size
  rw [World.size_alloc] at hz
  have h0 : w1.heap[w.heap.size]? = some (.cells #[.int .i64 0] 2 (0, 0)) := (hb.block w.heap.size (by omega)).trans (heap_alloc_new w _)
  have c0 : w1.cell? ⟨w.heap.size, 0, none⟩ = some (.int .i64 0) := by simp [World.cell?, h0]
  have z0 : w1.frozen? ⟨w.heap.size, 0, none⟩ = false := by simp [World.frozen?, h0]
  have HE : Hid (Below w.heap.size w (w1.setCell ⟨w.heap.size, 0, none⟩ (.int .i64 c))) := (((Below.refl _ _).alloc (Nat.le_refl _) _).trans (hb.mono (by omega))).setCell (p := ⟨w.heap.size, 0, none⟩) (Nat.le_refl _) _
  have c1 : (w1.setCell ⟨w.heap.size, 0, none⟩ (.int .i64 c)).cell? ⟨w.heap.size, 0, none⟩ = some (.int .i64 c) := by simp [World.cell?_setCell_same, c0]
  clear hb h h0
  refine leaves_cons (f := 58) (args := #[.pointer (some ⟨w.heap.size, 0, none⟩)]) (by simp) (by simp [go_sem]) ?_
  refine (catchB_panic ⟨w.heap.size, 0, none⟩ 0 c [] _ c0 z0).mono ?_
  rintro e u' w'' ⟨rfl, rfl, rfl⟩
  simp [Leaves, settle, results, Tryz.results27, go_sem, c1]
  exact HE.out

theorem catchI_panic (p : Addr) (x c : Int) (older : List PanicEntry) (w : World) (hc : w.cell? p = some (.int .i64 x)) (hz : w.frozen? p = false) :
    CallsD Tryz.prog 62 #[.pointer (some p)] (.panicking ({ v := .iface 91 (.int .i64 c), recovered := false } :: older)) w fun e u' w' =>
      e = .returned (.tuple #[]) ∧ u' = .panicking ({ v := .iface 91 (.int .i64 c), recovered := true } :: older) ∧ w' = w.setCell p (.int .i64 c) := by
  have hne : ∀ (v : Value) (w : World), (binOp BinOp.neq 20 (.iface 91 v) .nilIface).run Tryz.prog w = .ok (.bool true) w := fun _ _ => by kernel_rfl
  have hta : ∀ (v : Value) (w : World), (Instr.typeAssert (.iface 91 v) 20 91 false).run Tryz.prog w = .ok v w := fun _ _ => by kernel_rfl
  refine callsD_of_wpS Tryz.func62 rfl fun c₀ cs hu => ?_
  apply wpS_seq
  apply wpS_region
  simp [wpOpsS, go_sem, recoverD, hu, Tryz.ntmps62, Exit.thenS]
  apply wpS_seq
  apply wpS_region
  simp [wpOpsS, go_sem, Exit.thenS, hne]
  refine wpS_cond (t := true) (by simp [Act.eval, Array.replicate]) ?_
  simp only [if_true]
  apply wpS_region
  simp [wpOpsS, go_sem, hc, hz, hta, bodyPostS, results, Tryz.results62]

theorem catchI_idle (p : Addr) (w : World) :
    CallsD Tryz.prog 62 #[.pointer (some p)] .returning w fun e u' w' => e = .returned (.tuple #[]) ∧ u' = .returning ∧ w' = w := by
  have hne : ∀ (w : World), (binOp BinOp.neq 20 .nilIface .nilIface).run Tryz.prog w = .ok (.bool false) w := fun _ => by kernel_rfl
  refine callsD_of_wpS Tryz.func62 rfl fun c₀ cs hu => ?_
  apply wpS_seq
  apply wpS_region
  simp [wpOpsS, go_sem, recoverD, hu, Tryz.ntmps62, Exit.thenS]
  apply wpS_seq
  apply wpS_region
  simp [wpOpsS, go_sem, Exit.thenS, hne]
  refine wpS_cond (t := false) (by simp [Act.eval, Array.replicate]) ?_
  simp only [Bool.false_eq_true, if_false]
  refine wpS_of_wp (wp_skip ?_)
  cases c₀
  simp_all [bodyPostS, results, Tryz.results62]

/-- WHAT A LOOK SEES is answered with the code 0. -/
theorem seeI_ok (G : Nat) (caps : Array Value) (l : List Int) (w : World) (hG : ∀ (args : Array Value) (w : World), (callFunc G args).run Tryz.prog w = .ok (.enter G args) w)
    (h : Calls Tryz.prog G caps (w.alloc (.cells #[.int .i64 0] 2)) fun e w' => ∃ v, e = .returned v ∧ OwnI w' (w.heap.size + 1) v l ∧ Below (w.heap.size + 1) (w.alloc (.cells #[.int .i64 0] 2)) w') :
    Calls Tryz.prog 34 #[.func (.func G) #[] caps] w fun e w' => ∃ v, e = .returned (.tuple #[v, .int .i64 0]) ∧ OwnI w' w.heap.size v l ∧ Below w.heap.size w w' := by
  have hmf : ∀ (fn : Fn) (first cap : Array Value) (w : World), (Instr.makeFunc fn first cap).run Tryz.prog w = .ok (.func fn first cap) w := fun _ _ _ _ => rfl


  go_enter_defers Tryz.func34, Tryz.ntmps34
  go_wp2_with fail
  refine h.mono ?_
  rintro e w1 ⟨v, rfl, ho, hb⟩
  have hz := hb.size
  rw [World.size_alloc] at hz
  have h0 : w1.heap[w.heap.size]? = some (.cells #[.int .i64 0] 2 (0, 0)) := (hb.block w.heap.size (by omega)).trans (heap_alloc_new w _)
  have c0 : w1.cell? ⟨w.heap.size, 0, none⟩ = some (.int .i64 0) := by simp [World.cell?, h0]
  have z0 : w1.frozen? ⟨w.heap.size, 0, none⟩ = false := by simp [World.frozen?, h0]
  have HE : Hid (OwnI (w1.setCell ⟨w.heap.size, 0, none⟩ (.int .i64 0)) w.heap.size v l ∧ Below w.heap.size w (w1.setCell ⟨w.heap.size, 0, none⟩ (.int .i64 0))) :=
    ⟨row_low (ownsRow_setCell_below ho (by simp) _) (by omega), (((Below.refl _ _).alloc (Nat.le_refl _) _).trans (hb.mono (by omega))).setCell (p := ⟨w.heap.size, 0, none⟩) (Nat.le_refl _) _⟩
  have c1 : (w1.setCell ⟨w.heap.size, 0, none⟩ (.int .i64 0)).cell? ⟨w.heap.size, 0, none⟩ = some (.int .i64 0) := by simp [World.cell?_setCell_same, c0]
  clear ho hb h h0
  go_wp2
  refine leaves_cons (f := 62) (args := #[.pointer (some ⟨w.heap.size, 0, none⟩)]) (by simp) (by simp [go_sem]) ?_
  refine (catchI_idle ⟨w.heap.size, 0, none⟩ _).mono ?_
  rintro e u' w'' ⟨rfl, rfl, rfl⟩
  simp [Leaves, settle, results, Tryz.results34, go_sem, c1]
  exact HE.out

/-- WHAT A LOOK CANNOT SEE is answered with its code. -/
theorem seeI_bad (G : Nat) (caps : Array Value) (c : Int) (w : World) (hG : ∀ (args : Array Value) (w : World), (callFunc G args).run Tryz.prog w = .ok (.enter G args) w)
    (h : Calls Tryz.prog G caps (w.alloc (.cells #[.int .i64 0] 2)) fun e w' => e = .panicked [{ v := .iface 91 (.int .i64 c), recovered := false }] ∧ Below (w.heap.size + 1) (w.alloc (.cells #[.int .i64 0] 2)) w') :
    Calls Tryz.prog 34 #[.func (.func G) #[] caps] w fun e w' => e = .returned (.tuple #[.slice none 0 0, .int .i64 c]) ∧ Below w.heap.size w w' := by
  have hmf : ∀ (fn : Fn) (first cap : Array Value) (w : World), (Instr.makeFunc fn first cap).run Tryz.prog w = .ok (.func fn first cap) w := fun _ _ _ _ => rfl


  go_enter_defers Tryz.func34, Tryz.ntmps34
  go_wp2_with fail
  refine h.mono ?_
  rintro e w1 ⟨rfl, hb⟩
  have hz := hb.size
  rw [World.size_alloc] at hz
  have h0 : w1.heap[w.heap.size]? = some (.cells #[.int .i64 0] 2 (0, 0)) := (hb.block w.heap.size (by omega)).trans (heap_alloc_new w _)
  have c0 : w1.cell? ⟨w.heap.size, 0, none⟩ = some (.int .i64 0) := by simp [World.cell?, h0]
  have z0 : w1.frozen? ⟨w.heap.size, 0, none⟩ = false := by simp [World.frozen?, h0]
  have HE : Hid (Below w.heap.size w (w1.setCell ⟨w.heap.size, 0, none⟩ (.int .i64 c))) := (((Below.refl _ _).alloc (Nat.le_refl _) _).trans (hb.mono (by omega))).setCell (p := ⟨w.heap.size, 0, none⟩) (Nat.le_refl _) _
  have c1 : (w1.setCell ⟨w.heap.size, 0, none⟩ (.int .i64 c)).cell? ⟨w.heap.size, 0, none⟩ = some (.int .i64 c) := by simp [World.cell?_setCell_same, c0]
  clear hb h h0
  refine leaves_cons (f := 62) (args := #[.pointer (some ⟨w.heap.size, 0, none⟩)]) (by simp) (by simp [go_sem]) ?_
  refine (catchI_panic ⟨w.heap.size, 0, none⟩ 0 c [] _ c0 z0).mono ?_
  rintro e u' w'' ⟨rfl, rfl, rfl⟩
  simp [Leaves, settle, results, Tryz.results34, go_sem, c1]
  exact HE.out
end Go.Proofs.YtooifkdbpghcfaaGreatDoor
