/- Stores of the call's own, block by block: messages, mailboxes and where each of their slices lies; what stays where other blocks are written; no conditions beyond those that each fact names · Each helper of the laws over slices of bytes does what its text says: it copies one, and holds two against each other; slices of at most 1048576 bytes · Messages: their size, a copy, whether two are the same, and their fault, on both sides; no conditions beyond those that each fact names. -/
import Derived.Test.YtejbbnpgghpgaaaGreatDoorMqrToMemI
import Derived.Test.YtejbbnpgghpgaaaGreatDoorJfzToMrk0
import Derived.Maps.AppendAt
import Derived.OneCell
import Derived.Deep.RegionHeld3
namespace Go.Proofs.YtejbbnpgghpgaaaGreatDoor
open Go.RowKit
set_option linter.unusedVariables false
def blkS (s : SlQ) : List Nat := (s.1.map (·.block)).toList
theorem blkS_own (s : SlQ) : blkS s = (slW s).ownBlock.toList := by obtain ⟨a, n, c⟩ := s; cases a <;> rfl
theorem mem_blkS {s : SlQ} {g : Nat} : g ∈ blkS s ↔ (slW s).ownBlock = some g := by
  obtain ⟨a, n, c⟩ := s
  cases a with
  | none => simp [blkS, Value.ownBlock]
  | some a => simp [blkS, Value.ownBlock, eq_comm]
theorem blkS_nodup (s : SlQ) : (blkS s).Nodup := by obtain ⟨a, n, c⟩ := s; cases a <;> simp [blkS]
structure Dm where
  m : Msg
  s : SlQ
structure Dx where
  n : ByteArray
  v : Int
  x : Int
  s : SlQ
  ms : List Dm
def Dm.q (d : Dm) : Qd := msQ d.m d.s
def Dx.q (d : Dx) : Qd := (.string d.n, .int .i64 d.v, .int .i64 d.x, slW d.s)
def Dx.bx (d : Dx) : Bx := ⟨d.n, d.v, d.x, d.ms.map Dm.m⟩
def fpM (ms : List Dm) : List Nat := ms.flatMap fun d => blkS d.s
def fpD (d : Dx) : List Nat := blkS d.s ++ fpM d.ms
def fpX (l : List Dx) : List Nat := l.flatMap fpD
theorem row_keep {w w' : World} {B e k n : Nat} {v : Value} {xs : List Value} (h : w.ownsRow B e k v n xs) (hb : ∀ g, v.ownBlock = some g → w'.heap[g]? = w.heap[g]?) : w'.ownsRow B e k v n xs := by
  refine ⟨h.1, ?_⟩
  rcases h.2 with h' | ⟨g, cap, cur, h1, h2, h3, h4⟩
  · exact .inl h'
  · exact .inr ⟨g, cap, cur, h1, h2, (hb g (by rw [h1]; rfl)).trans h3, h4⟩
theorem row_base {w : World} {B B' e k n : Nat} {v : Value} {xs : List Value} (h : w.ownsRow B e k v n xs) (hB : ∀ g, v.ownBlock = some g → B' ≤ g) : w.ownsRow B' e k v n xs := by
  refine ⟨h.1, ?_⟩
  rcases h.2 with h' | ⟨g, cap, cur, h1, h2, h3, h4⟩
  · exact .inl h'
  · exact .inr ⟨g, cap, cur, h1, hB g (by rw [h1]; rfl), h3, h4⟩
theorem row_low {w : World} {B B' e k n : Nat} {v : Value} {xs : List Value} (h : w.ownsRow B e k v n xs) (hB : B' ≤ B) : w.ownsRow B' e k v n xs := row_base h fun g hg => Nat.le_trans hB (h.lt g hg).1
theorem row_form {w : World} {B e k n : Nat} {v : Value} {xs : List Value} (h : w.ownsRow B e k v n xs) : ∃ s : SlQ, v = slW s ∧ s.2.1 = n ∧ n ≤ s.2.2 ∧ s.2.2 ≤ maxLen ∧ (s.1 = none ∧ n = 0 ∨ ∃ g, s.1 = some ⟨g, 0, none⟩) := by
  rcases h.2 with ⟨h', h0⟩ | ⟨g, cap, cur, h', _, _, h4, h5, _⟩
  · exact ⟨(none, 0, 0), h', h0.symm, by omega, by decide, .inl ⟨rfl, h0⟩⟩
  · exact ⟨(some ⟨g, 0, none⟩, n, cap), h', rfl, h4, h5, .inr ⟨g, rfl⟩⟩
def OwB (w : World) (s : SlQ) (b : List Nat) : Prop := Own w 0 (slW s) b ∧ IsB b
def HM (w : World) (s : SlQ) (ms : List Dm) : Prop := w.ownsRow 0 136 4 (slW s) ms.length (qc (ms.map Dm.q)) ∧ ∀ d ∈ ms, OwB w d.s d.m.b
def HX (w : World) (s : SlQ) (l : List Dx) : Prop := w.ownsRow 0 128 4 (slW s) l.length (qc (l.map Dx.q)) ∧ ∀ d ∈ l, HM w d.s d.ms
theorem OwB.keep {w w' : World} {s : SlQ} {b : List Nat} (h : OwB w s b) (hb : ∀ g ∈ blkS s, w'.heap[g]? = w.heap[g]?) : OwB w' s b := ⟨row_keep h.1 fun g hg => hb g (mem_blkS.2 hg), h.2⟩
theorem HM.keep {w w' : World} {s : SlQ} {ms : List Dm} (h : HM w s ms) (hb : ∀ g ∈ blkS s ++ fpM ms, w'.heap[g]? = w.heap[g]?) : HM w' s ms :=
  ⟨row_keep h.1 fun g hg => hb g (List.mem_append_left _ (mem_blkS.2 hg)), fun d hd => (h.2 d hd).keep fun g hg => hb g (List.mem_append_right _ (List.mem_flatMap.2 ⟨d, hd, hg⟩))⟩
theorem HX.keep {w w' : World} {s : SlQ} {l : List Dx} (h : HX w s l) (hb : ∀ g ∈ blkS s ++ fpX l, w'.heap[g]? = w.heap[g]?) : HX w' s l :=
  ⟨row_keep h.1 fun g hg => hb g (List.mem_append_left _ (mem_blkS.2 hg)), fun d hd => (h.2 d hd).keep fun g hg => hb g (List.mem_append_right _ (List.mem_flatMap.2 ⟨d, hd, hg⟩))⟩
theorem OwB.lt {w : World} {s : SlQ} {b : List Nat} (h : OwB w s b) : ∀ g ∈ blkS s, g < w.heap.size := fun g hg => (h.1.lt g (mem_blkS.1 hg)).2
theorem HM.lt {w : World} {s : SlQ} {ms : List Dm} (h : HM w s ms) : ∀ g ∈ blkS s ++ fpM ms, g < w.heap.size := fun g hg => by
  rcases List.mem_append.1 hg with hg | hg
  · exact (h.1.lt g (mem_blkS.1 hg)).2
  · obtain ⟨d, hd, hg⟩ := List.mem_flatMap.1 hg
    exact (h.2 d hd).lt g hg
theorem HX.lt {w : World} {s : SlQ} {l : List Dx} (h : HX w s l) : ∀ g ∈ blkS s ++ fpX l, g < w.heap.size := fun g hg => by
  rcases List.mem_append.1 hg with hg | hg
  · exact (h.1.lt g (mem_blkS.1 hg)).2
  · obtain ⟨d, hd, hg⟩ := List.mem_flatMap.1 hg
    exact (h.2 d hd).lt g hg
theorem OwB.below {w w' : World} {C : Nat} {s : SlQ} {b : List Nat} (h : OwB w s b) (hb : Below C w w') (hC : w.heap.size ≤ C) : OwB w' s b := h.keep fun g hg => hb.block g (Nat.lt_of_lt_of_le (h.lt g hg) hC)
theorem HM.below {w w' : World} {C : Nat} {s : SlQ} {ms : List Dm} (h : HM w s ms) (hb : Below C w w') (hC : w.heap.size ≤ C) : HM w' s ms := h.keep fun g hg => hb.block g (Nat.lt_of_lt_of_le (h.lt g hg) hC)
theorem HX.below {w w' : World} {C : Nat} {s : SlQ} {l : List Dx} (h : HX w s l) (hb : Below C w w') (hC : w.heap.size ≤ C) : HX w' s l := h.keep fun g hg => hb.block g (Nat.lt_of_lt_of_le (h.lt g hg) hC)
theorem HM.far {w : World} {s : SlQ} {ms : List Dm} (h : HM w s ms) (k j : Nat) (u : Value) (hk : k ∉ blkS s ++ fpM ms) : HM (w.setCell ⟨k, j, none⟩ u) s ms := h.keep fun g hg => Below.heap_setCell _ _ _ _ (fun e => hk (by rw [← show g = k from e]; exact hg))
theorem HX.far {w : World} {s : SlQ} {l : List Dx} (h : HX w s l) (k j : Nat) (u : Value) (hk : k ∉ blkS s ++ fpX l) : HX (w.setCell ⟨k, j, none⟩ u) s l := h.keep fun g hg => Below.heap_setCell _ _ _ _ (fun e => hk (by rw [← show g = k from e]; exact hg))
theorem OwB.sl {w : World} {s : SlQ} {b : List Nat} {lo : Nat} (h : OwB w s b) (hlo : ∀ g ∈ blkS s, lo ≤ g) : IsSl lo w s b := by
  obtain ⟨a, n, cap⟩ := s
  obtain ⟨a', cap', e, h1, h2⟩ := h.1.form
  cases e
  refine ⟨rfl, h1, h2, h.2, h.1.rd.2, fun x hx => hlo _ ?_⟩
  rw [show a = some x from hx]; simp [blkS]
theorem map_nthQ {α : Type} {f : α → Qd} {l : List α} {i : Nat} (h : i < l.length) : nthQ (l.map f) i = f l[i] := by rw [nthQ_get (by rw [List.length_map]; exact h), List.getElem_map]
theorem map_nthM {l : List Dm} {i : Nat} (h : i < l.length) : nthM (l.map Dm.m) i = l[i].m := by rw [nthM_get (by rw [List.length_map]; exact h), List.getElem_map]
theorem map_nthX {l : List Dx} {i : Nat} (h : i < l.length) : nthX (l.map Dx.bx) i = l[i].bx := by rw [nthX_get (by rw [List.length_map]; exact h), List.getElem_map]
theorem HM.ms {w : World} {s : SlQ} {ms : List Dm} {lo : Nat} (h : HM w s ms) (hlo : ∀ g ∈ blkS s ++ fpM ms, lo ≤ g) : IsMs lo w s (ms.map Dm.m) := by
  obtain ⟨a, n, cap⟩ := s
  obtain ⟨⟨a', n', c'⟩, e, h1, h2, h3, h4⟩ := row_form h.1
  cases e
  dsimp only at h1 h2 h3 h4
  refine ⟨by rw [List.length_map]; exact h1.symm, by rw [h1]; exact h2, h3, ?_⟩
  rcases h4 with ⟨-, h0⟩ | ⟨g, rfl⟩
  · exact .inl (by rw [List.length_eq_zero_iff.1 h0]; rfl)
  · refine .inr ⟨g, 0, rfl, hlo g (by simp [blkS]), (h.1.lt g rfl).2, fun i hi => ?_⟩
    rw [List.length_map] at hi
    have h1' := h.1
    rw [h1] at h1'
    obtain ⟨-, c0, c1, c2, c3⟩ := ownQ_cells h1' i (by rw [List.length_map]; exact hi)
    rw [map_nthQ hi] at c0 c1 c2 c3
    rw [map_nthM hi, Nat.zero_add]
    exact ⟨ms[i].s, ⟨c0, c1, c2, c3⟩, (h.2 _ (List.getElem_mem hi)).sl fun g' hg' => hlo g' (List.mem_append_right _ (List.mem_flatMap.2 ⟨_, List.getElem_mem hi, hg'⟩))⟩
theorem HX.xs {w : World} {s : SlQ} {l : List Dx} {lo : Nat} (h : HX w s l) (hlo : ∀ g ∈ blkS s ++ fpX l, lo ≤ g) : IsXs lo w s (l.map Dx.bx) := by
  obtain ⟨a, n, cap⟩ := s
  obtain ⟨⟨a', n', c'⟩, e, h1, h2, h3, h4⟩ := row_form h.1
  cases e
  dsimp only at h1 h2 h3 h4
  refine ⟨by rw [List.length_map]; exact h1.symm, by rw [h1]; exact h2, h3, ?_⟩
  rcases h4 with ⟨-, h0⟩ | ⟨g, rfl⟩
  · exact .inl (by rw [List.length_eq_zero_iff.1 h0]; rfl)
  · refine .inr ⟨g, 0, rfl, hlo g (by simp [blkS]), (h.1.lt g rfl).2, fun i hi => ?_⟩
    rw [List.length_map] at hi
    have h1' := h.1
    rw [h1] at h1'
    obtain ⟨-, c0, c1, c2, c3⟩ := ownQ_cells h1' i (by rw [List.length_map]; exact hi)
    rw [map_nthQ hi] at c0 c1 c2 c3
    rw [map_nthX hi, Nat.zero_add]
    exact ⟨l[i].s, ⟨c0, c1, c2, c3⟩, (h.2 _ (List.getElem_mem hi)).ms fun g' hg' => hlo g' (List.mem_append_right _ (List.mem_flatMap.2 ⟨_, List.getElem_mem hi, hg'⟩))⟩
theorem HX.upd {w w' : World} {s : SlQ} {l : List Dx} (h : HX w s l) (i : Nat) (d' : Dx) (hrow : w'.ownsRow 0 128 4 (slW s) l.length (qc ((l.map Dx.q).set i d'.q))) (hd : HM w' d'.s d'.ms)
    (hoth : ∀ (j : Nat) (hj : j < l.length), j ≠ i → ∀ g ∈ fpD l[j], w'.heap[g]? = w.heap[g]?) : HX w' s (l.set i d') := by
  refine ⟨by rw [List.length_set, List.map_set]; exact hrow, fun d hm => ?_⟩
  obtain ⟨j, hj, e⟩ := List.getElem_of_mem hm
  rw [List.length_set] at hj
  rw [List.getElem_set] at e
  split at e
  · rw [← e]; exact hd
  · rw [← e]; exact (h.2 _ (List.getElem_mem hj)).keep (hoth j hj (by omega))
theorem HM.upd {w w' : World} {s : SlQ} {ms : List Dm} (h : HM w s ms) (i : Nat) (d' : Dm) (hrow : w'.ownsRow 0 136 4 (slW s) ms.length (qc ((ms.map Dm.q).set i d'.q))) (hd : OwB w' d'.s d'.m.b)
    (hoth : ∀ (j : Nat) (hj : j < ms.length), j ≠ i → ∀ g ∈ blkS ms[j].s, w'.heap[g]? = w.heap[g]?) : HM w' s (ms.set i d') := by
  refine ⟨by rw [List.length_set, List.map_set]; exact hrow, fun d hm => ?_⟩
  obtain ⟨j, hj, e⟩ := List.getElem_of_mem hm
  rw [List.length_set] at hj
  rw [List.getElem_set] at e
  split at e
  · rw [← e]; exact hd
  · rw [← e]; exact (h.2 _ (List.getElem_mem hj)).keep (hoth j hj (by omega))
theorem qc_set0 : ∀ (l : List Qd) (k : Nat) (u : Value), k < l.length → (qc l).set (k * 4) u = qc (l.set k (u, (nthQ l k).2.1, (nthQ l k).2.2.1, (nthQ l k).2.2.2))
  | [], _, _, h => by simp at h
  | q :: l, 0, u, _ => rfl
  | q :: l, k + 1, u, h => by
    have := qc_set0 l k u (by simpa using h)
    rw [qc_cons, show (k + 1) * 4 = k * 4 + 1 + 1 + 1 + 1 by omega]
    simp only [List.set_cons_succ, qc_cons]
    rw [this]; rfl
theorem qc_set1 : ∀ (l : List Qd) (k : Nat) (u : Value), k < l.length → (qc l).set (k * 4 + 1) u = qc (l.set k ((nthQ l k).1, u, (nthQ l k).2.2.1, (nthQ l k).2.2.2))
  | [], _, _, h => by simp at h
  | q :: l, 0, u, _ => rfl
  | q :: l, k + 1, u, h => by
    have := qc_set1 l k u (by simpa using h)
    rw [qc_cons, show (k + 1) * 4 + 1 = k * 4 + 1 + 1 + 1 + 1 + 1 by omega]
    simp only [List.set_cons_succ, qc_cons]
    rw [this]; rfl
theorem qc_set2 : ∀ (l : List Qd) (k : Nat) (u : Value), k < l.length → (qc l).set (k * 4 + 2) u = qc (l.set k ((nthQ l k).1, (nthQ l k).2.1, u, (nthQ l k).2.2.2))
  | [], _, _, h => by simp at h
  | q :: l, 0, u, _ => rfl
  | q :: l, k + 1, u, h => by
    have := qc_set2 l k u (by simpa using h)
    rw [qc_cons, show (k + 1) * 4 + 2 = k * 4 + 2 + 1 + 1 + 1 + 1 by omega]
    simp only [List.set_cons_succ, qc_cons]
    rw [this]; rfl
theorem qc_set3 : ∀ (l : List Qd) (k : Nat) (u : Value), k < l.length → (qc l).set (k * 4 + 3) u = qc (l.set k ((nthQ l k).1, (nthQ l k).2.1, (nthQ l k).2.2.1, u))
  | [], _, _, h => by simp at h
  | q :: l, 0, u, _ => rfl
  | q :: l, k + 1, u, h => by
    have := qc_set3 l k u (by simpa using h)
    rw [qc_cons, show (k + 1) * 4 + 3 = k * 4 + 3 + 1 + 1 + 1 + 1 by omega]
    simp only [List.set_cons_succ, qc_cons]
    rw [this]; rfl
theorem nd_app {A B : List Nat} (hA : A.Nodup) (hB : B.Nodup) (h : ∀ g ∈ A, g ∉ B) : (A ++ B).Nodup := List.nodup_append.2 ⟨hA, hB, fun a ha b hb e => h a ha (e ▸ hb)⟩
theorem nd_left {A B : List Nat} (h : (A ++ B).Nodup) : A.Nodup := (List.nodup_append.1 h).1
theorem nd_right {A B : List Nat} (h : (A ++ B).Nodup) : B.Nodup := (List.nodup_append.1 h).2.1
theorem nd_off {A B : List Nat} (h : (A ++ B).Nodup) {g : Nat} (hg : g ∈ A) : g ∉ B := fun hb => (List.nodup_append.1 h).2.2 g hg g hb rfl
theorem flat_split {α : Type} (f : α → List Nat) (l : List α) (i : Nat) (h : i < l.length) : l.flatMap f = (l.take i).flatMap f ++ (f l[i] ++ (l.drop (i + 1)).flatMap f) := by
  have e : l = l.take i ++ l[i] :: l.drop (i + 1) := by rw [List.getElem_cons_drop, List.take_append_drop]
  conv => lhs; rw [e]
  rw [List.flatMap_append, List.flatMap_cons]
theorem flat_set {α : Type} (f : α → List Nat) (l : List α) (i : Nat) (d : α) (h : i < l.length) : (l.set i d).flatMap f = (l.take i).flatMap f ++ (f d ++ (l.drop (i + 1)).flatMap f) := by
  have e : l.set i d = l.take i ++ d :: l.drop (i + 1) := List.set_eq_take_append_cons_drop.trans (if_pos h)
  rw [e, List.flatMap_append, List.flatMap_cons]
theorem flat_mem_set {α : Type} {f : α → List Nat} {l : List α} {i : Nat} {d : α} {g : Nat} (h : i < l.length) (hg : g ∈ (l.set i d).flatMap f) : g ∈ l.flatMap f ∨ g ∈ f d := by
  rw [flat_set f l i d h] at hg
  rw [flat_split f l i h]
  simp only [List.mem_append] at hg ⊢
  rcases hg with hg | hg | hg
  · exact .inl (.inl hg)
  · exact .inr hg
  · exact .inl (.inr (.inr hg))
theorem nd_set {α : Type} {f : α → List Nat} {l : List α} {i N : Nat} {d : α} {A : List Nat} (hi : i < l.length) (h : (A ++ l.flatMap f).Nodup) (hlt : ∀ g ∈ A ++ l.flatMap f, g < N) (hd : (f d).Nodup) (hf : ∀ g ∈ f d, g ∈ f l[i] ∨ N ≤ g) : (A ++ (l.set i d).flatMap f).Nodup := by
  rw [flat_set f l i d hi]
  rw [flat_split f l i hi] at h hlt
  have hA := nd_left h
  have hR := nd_right h
  have h1 := nd_left hR
  have h2 := nd_right hR
  have h3 := nd_right h2
  refine nd_app hA (nd_app h1 (nd_app hd h3 ?_) ?_) ?_
  · intro g hg hc
    rcases hf g hg with hg' | hg'
    · exact nd_off h2 hg' hc
    · have := hlt g (by simp [hc]); omega
  · intro g hg hc
    rcases List.mem_append.1 hc with hc | hc
    · rcases hf g hc with hg' | hg'
      · exact nd_off hR hg (List.mem_append_left _ hg')
      · have := hlt g (by simp [hg]); omega
    · exact nd_off hR hg (List.mem_append_right _ hc)
  · intro g hg hc
    rcases List.mem_append.1 hc with hc | hc
    · exact nd_off h hg (List.mem_append_left _ hc)
    · rcases List.mem_append.1 hc with hc | hc
      · rcases hf g hc with hg' | hg'
        · exact nd_off h hg (List.mem_append_right _ (List.mem_append_left _ hg'))
        · have := hlt g (by simp [hg]); omega
      · exact nd_off h hg (List.mem_append_right _ (List.mem_append_right _ hc))
theorem nd_other {α : Type} {f : α → List Nat} {l : List α} {i j : Nat} (h : (l.flatMap f).Nodup) (hi : i < l.length) (hj : j < l.length) (hne : j ≠ i) {g : Nat} (hg : g ∈ f l[j]) : g ∉ f l[i] := by
  intro hc
  rcases Nat.lt_or_gt_of_ne hne with hlt | hlt
  · rw [flat_split f l i hi] at h
    refine nd_off h (List.mem_flatMap.2 ⟨l[j], ?_, hg⟩) (List.mem_append_left _ hc)
    rw [List.mem_take_iff_getElem]
    exact ⟨j, by omega, rfl⟩
  · rw [flat_split f l j hj] at h
    refine nd_off h (List.mem_flatMap.2 ⟨l[i], ?_, hc⟩) (List.mem_append_left _ hg)
    rw [List.mem_take_iff_getElem]
    exact ⟨i, by omega, rfl⟩
theorem flat_sub {α : Type} {f : α → List Nat} {l l' : List α} (h : l'.Sublist l) : (l'.flatMap f).Sublist (l.flatMap f) := by
  induction h with
  | slnil => exact List.Sublist.refl _
  | cons a _ ih => rw [List.flatMap_cons]; exact ih.trans (List.sublist_append_right _ _)
  | cons_cons a _ ih => rw [List.flatMap_cons, List.flatMap_cons]; exact List.Sublist.append (List.Sublist.refl _) ih
theorem nd_sub {A B : List Nat} (h : B.Sublist A) (hA : A.Nodup) : B.Nodup := hA.sublist h
theorem flat_snoc {α : Type} (f : α → List Nat) (l : List α) (d : α) : (l ++ [d]).flatMap f = l.flatMap f ++ f d := by simp [List.flatMap_append]
theorem mem_flat_get {α : Type} {f : α → List Nat} {l : List α} {i : Nat} (hi : i < l.length) {g : Nat} (hg : g ∈ f l[i]) : g ∈ l.flatMap f := List.mem_flatMap.2 ⟨_, List.getElem_mem hi, hg⟩
end Go.Proofs.YtejbbnpgghpgaaaGreatDoor
namespace Go.Proofs.YtejbbnpgghpgaaaGreatDoor
open Go.RowKit
set_option maxHeartbeats 800000 in
set_option maxRecDepth 100000 in
theorem toByteS_any (a : Option Addr) (n cap : Nat) (l : List Nat) (w : World) (hl : l.length = n) (hr : Rd w a l) (hn : n ≤ 1048576) :
    Calls Tryz.prog 61 #[.slice a n cap] w fun e w' =>
      e = .returned (.slice (some ⟨w.heap.size, 0, none⟩) n n) ∧ w'.ownsRow w.heap.size 5 1 (.slice (some ⟨w.heap.size, 0, none⟩) n n) n (bc l) ∧ Below w.heap.size w w' := by
  obtain ⟨i0, hi, hz0, hz1, hz2⟩ := info_parts infoB
  go_enter Tryz.func61, Tryz.ntmps61
  go_wp2_with (at_make; refine wpList_make_full _ rfl _ _ 26 rfl w.heap.size 5 i0 (.int .u8 0) 1 Tryz.underlying26 hi hz0 hz1 .i64 .i64 _ _ n rfl rfl rfl rfl (by rw [hz2]; omega) (by unfold maxLen; omega) (Nat.le_refl _) ?_; intro w0 hown0 hgrow0)
  rw [made_bytes, ← hl, ← half_zero l, hl] at hown0
  have hbel0 : Below w.heap.size w w0 := (Below.refl _ _).grown hgrow0 (Nat.le_refl _) (by intro k hk; cases hk)
  clear hgrow0
  go_loopw [4] (fun i wr => ∃ k : Nat, k ≤ n ∧ i = .int .i64 k ∧ wr.ownsRow w.heap.size 5 1 (.slice (some ⟨w.heap.size, 0, none⟩) n n) n (bc (half l k)) ∧ Below w.heap.size w wr)
    (fun i _ => n - (intOf i).toNat)
  case atStart => exact ⟨0, Nat.zero_le _, rfl, hown0, hbel0⟩
  case round =>
    obtain ⟨k, hk, rfl, hown, hbel⟩ := hrel
    clear hown0 hbel0
    by_cases hkn : k < n
    · obtain ⟨b, off, rfl, hblt, hcell⟩ := hr.at_ (by omega)
      have hc : wr.cell? ⟨b, off + k, none⟩ = some (.int .u8 (nth l k : Int)) := (hbel.cell (p := ⟨b, off + k, none⟩) hblt).trans (hcell k (by omega))
      have hk' : k < (half l k).length := by rw [half_len l k (by omega)]; omega
      have hg : wr.cell? ⟨w.heap.size, k, none⟩ = some (.int .u8 (nth (half l k) k : Int)) := by rw [hown.cellAt k (by omega)]; exact bc_get hk'
      have hf := hown.frozenAt k
      obtain ⟨hst, hgr⟩ := hown.stored k (.int .u8 (nth l k : Int))
      rw [half_set l k (by omega)] at hst
      have hbel' : Below w.heap.size w (wr.setCell ⟨w.heap.size, k, none⟩ (.int .u8 (nth l k : Int))) := hbel.grown hgr hbel.size (by intro j hj; simp at hj; omega)
      clear hgr hcell hown
      go_wp2
      go_roundw
      case rel => exact ⟨k + 1, by omega, by go_num, hst, hbel'⟩
      case measure => simp [intOf]; omega
    · have hkk : k = n := by omega
      subst hkk
      rw [← hl, half_all, hl] at hown
      go_wp2
      go_ret
      exact ⟨rfl, hown, hbel⟩
set_option maxHeartbeats 800000 in
set_option maxRecDepth 100000 in
theorem eqByteS_same (a c : Option Addr) (n cap cap' : Nat) (l : List Nat) (w : World) (hl : l.length = n) (hr : Rd w a l) (hs : Rd w c l) (hn : n ≤ 1048576) :
    Calls Tryz.prog 68 #[.slice a n cap, .slice c n cap'] w fun e w' => e = .returned (.bool true) ∧ Below w.heap.size w w' := by
  go_enter Tryz.func68, Tryz.ntmps68
  go_wp2
  go_loopw [5] (fun i wr => ∃ k : Nat, k ≤ n ∧ i = .int .i64 k ∧ Below w.heap.size w wr) (fun i _ => n - (intOf i).toNat)
  case atStart => exact ⟨0, Nat.zero_le _, rfl, Below.refl _ _⟩
  case round =>
    obtain ⟨k, hk, rfl, hbel⟩ := hrel
    by_cases hkn : k < n
    · obtain ⟨b, off, rfl, hblt, hcell⟩ := hr.at_ (by omega)
      obtain ⟨d, off', rfl, hdlt, hdell⟩ := hs.at_ (by omega)
      have hc : wr.cell? ⟨b, off + k, none⟩ = some (.int .u8 (nth l k : Int)) := (hbel.cell (p := ⟨b, off + k, none⟩) hblt).trans (hcell k (by omega))
      have hd : wr.cell? ⟨d, off' + k, none⟩ = some (.int .u8 (nth l k : Int)) := (hbel.cell (p := ⟨d, off' + k, none⟩) hdlt).trans (hdell k (by omega))
      have hki : (k : Int) < (n : Int) := by omega
      clear hcell hdell hr hs
      go_wp2
      go_quiet (fail)
      go_wp2
      go_roundw
      case rel => exact ⟨k + 1, by omega, by go_num, below_drewN hbel _⟩
      case measure => simp [intOf]; omega
    · go_wp2
      go_ret
      exact ⟨rfl, hbel⟩
end Go.Proofs.YtejbbnpgghpgaaaGreatDoor
namespace Go.Proofs.YtejbbnpgghpgaaaGreatDoor
open Go.RowKit
def bt (c a b : Int) : Bool := decide (a ≤ c ∧ c ≤ b)
theorem l1In_bt (c a b : Int) (w : World) : Calls Tryz.prog 94 #[.int .i64 c, .int .i64 a, .int .i64 b] w fun e w' => e = .returned (.bool (bt c a b)) ∧ w = w' := by
  by_cases h1 : a ≤ c
  · by_cases h2 : c ≤ b
    · have H : Hid (bt c a b = true) := by show bt c a b = true; simp [bt, h1, h2]
      go_enter Tryz.func94, Tryz.ntmps94
      go_wp2
      go_ret
      exact ⟨by rw [H.out]; rfl, rfl⟩
    · have H : Hid (bt c a b = false) := by show bt c a b = false; simp [bt, h2]
      go_enter Tryz.func94, Tryz.ntmps94
      go_wp2
      go_ret
      exact ⟨by rw [H.out]; rfl, rfl⟩
  · have H : Hid (bt c a b = false) := by show bt c a b = false; simp [bt, h1]
    go_enter Tryz.func94, Tryz.ntmps94
    go_wp2
    go_ret
    exact ⟨by rw [H.out]; rfl, rfl⟩
theorem isBetween_bt (c a b : Int) (w : World) : Calls Tryz.prog 120 #[.int .i64 c, .int .i64 a, .int .i64 b] w fun e w' => e = .returned (.bool (bt c a b)) ∧ w = w' := by
  by_cases h1 : a ≤ c
  · by_cases h2 : c ≤ b
    · have H : Hid (bt c a b = true) := by show bt c a b = true; simp [bt, h1, h2]
      go_enter Tryz.func120, Tryz.ntmps120
      go_wp2
      go_ret
      exact ⟨by rw [H.out]; rfl, rfl⟩
    · have H : Hid (bt c a b = false) := by show bt c a b = false; simp [bt, h2]
      go_enter Tryz.func120, Tryz.ntmps120
      go_wp2
      go_ret
      exact ⟨by rw [H.out]; rfl, rfl⟩
  · have H : Hid (bt c a b = false) := by show bt c a b = false; simp [bt, h1]
    go_enter Tryz.func120, Tryz.ntmps120
    go_wp2
    go_ret
    exact ⟨by rw [H.out]; rfl, rfl⟩
theorem areFlags_bt (c : Int) (w : World) : Calls Tryz.prog 189 #[.int .i64 c] w fun e w' => e = .returned (.bool (bt c 0 15)) ∧ w = w' := by
  have HC := isBetween_bt c 0 15
  generalize bt c 0 15 = r at *
  go_enter Tryz.func189, Tryz.ntmps189
  go_wp2_with (first | (go_at_call 120; refine (HC _).mono ?_; rintro e w' ⟨rfl, rfl⟩))
  go_ret
  exact ⟨rfl, rfl⟩
def mfV (m : Msg) : Int := if bt m.u 1 999 = true ∧ bt m.f 0 15 = true ∧ bt m.d 0 9999 = true then (if 400 < m.b.length then 2 else 0) else 3
set_option maxHeartbeats 1600000 in
set_option maxRecDepth 100000 in
theorem l7Message_any (m : Msg) (s : SlQ) (g o : Nat) {lo : Nat} (w : World) (hs : IsSl lo w s m.b)
    (c0 : w.cell? ⟨g, o, none⟩ = some (.int .i64 m.u)) (c1 : w.cell? ⟨g, o + 1, none⟩ = some (.int .i64 m.f)) (c2 : w.cell? ⟨g, o + 2, none⟩ = some (.int .i64 m.d)) (c3 : w.cell? ⟨g, o + 3, none⟩ = some (slW s)) :
    Calls Tryz.prog 148 #[.pointer (some ⟨g, o, none⟩)] w fun e w' => e = .returned (.int .i64 (mfV m)) ∧ Below w.heap.size w w' := by
  have hl := hs.1
  have HV : Hid (mfV m = if bt m.u 1 999 = true ∧ bt m.f 0 15 = true ∧ bt m.d 0 9999 = true then (if 400 < m.b.length then 2 else 0) else 3) := rfl
  obtain ⟨a, n, cap⟩ := s
  obtain ⟨u, f, d, b⟩ := m
  dsimp only at *
  generalize mfV ⟨u, f, d, b⟩ = r at *
  have hn : b.length ≤ maxLen := by have := hs.2.1; have := hs.2.2.1; dsimp only at *; omega
  unfold maxLen at hn
  rw [hl] at HV
  clear hs
  cases h0 : bt u 1 999 with
  | false =>
    have HM : Hid (r = 3) := HV.out.trans (by simp [h0])
    clear HV
    go_enter Tryz.func148, Tryz.ntmps148
    go_wp2_with (first | (go_at_call 94; refine (l1In_bt _ _ _ _).mono ?_; rintro e w' ⟨rfl, rfl⟩))
    go_ret
    exact ⟨by rw [HM.out]; rfl, by go_grown⟩
  | true =>
    cases h1 : bt f 0 15 with
    | false =>
      have HM : Hid (r = 3) := HV.out.trans (by simp [h0, h1])
      clear HV
      go_enter Tryz.func148, Tryz.ntmps148
      go_wp2_with (first | (go_at_call 94; refine (l1In_bt _ _ _ _).mono ?_; rintro e w' ⟨rfl, rfl⟩))
      go_ret
      exact ⟨by rw [HM.out]; rfl, by go_grown⟩
    | true =>
      cases h2 : bt d 0 9999 with
      | false =>
        have HM : Hid (r = 3) := HV.out.trans (by simp [h0, h1, h2])
        clear HV
        go_enter Tryz.func148, Tryz.ntmps148
        go_wp2_with (first | (go_at_call 94; refine (l1In_bt _ _ _ _).mono ?_; rintro e w' ⟨rfl, rfl⟩))
        go_ret
        exact ⟨by rw [HM.out]; rfl, by go_grown⟩
      | true =>
        by_cases hb : 400 < n
        · have hbi : (400 : Int) < (n : Int) := by omega
          have HM : Hid (r = 2) := HV.out.trans (by simp [h0, h1, h2, hb])
          clear HV
          go_enter Tryz.func148, Tryz.ntmps148
          go_wp2_with (first | (go_at_call 94; refine (l1In_bt _ _ _ _).mono ?_; rintro e w' ⟨rfl, rfl⟩))
          go_ret
          exact ⟨by rw [HM.out]; rfl, by go_grown⟩
        · have hbi : ¬ (400 : Int) < (n : Int) := by omega
          have HM : Hid (r = 0) := HV.out.trans (by simp [h0, h1, h2, hb])
          clear HV
          go_enter Tryz.func148, Tryz.ntmps148
          go_wp2_with (first | (go_at_call 94; refine (l1In_bt _ _ _ _).mono ?_; rintro e w' ⟨rfl, rfl⟩))
          go_ret
          exact ⟨by rw [HM.out]; rfl, by go_grown⟩
set_option maxHeartbeats 1600000 in
set_option maxRecDepth 100000 in
theorem messageFault_any (m : Msg) (s : SlQ) {lo : Nat} (w : World) (hs : IsSl lo w s m.b) :
    Calls Tryz.prog 183 #[msX m s] w fun e w' => e = .returned (.int .i64 (mfV m)) ∧ Below w.heap.size w w' := by
  have hl := hs.1
  have HV : Hid (mfV m = if bt m.u 1 999 = true ∧ bt m.f 0 15 = true ∧ bt m.d 0 9999 = true then (if 400 < m.b.length then 2 else 0) else 3) := rfl
  obtain ⟨a, n, cap⟩ := s
  obtain ⟨u, f, d, b⟩ := m
  dsimp only at *
  generalize mfV ⟨u, f, d, b⟩ = r at *
  have hn : b.length ≤ maxLen := by have := hs.2.1; have := hs.2.2.1; dsimp only at *; omega
  unfold maxLen at hn
  rw [hl] at HV
  clear hs
  cases h0 : bt u 1 999 with
  | false =>
    have HM : Hid (r = 3) := HV.out.trans (by simp [h0])
    clear HV
    go_enter Tryz.func183, Tryz.ntmps183
    go_wp2_with (first | (go_at_call 120; refine (isBetween_bt _ _ _ _).mono ?_; rintro e w' ⟨rfl, rfl⟩) | (go_at_call 189; refine (areFlags_bt _ _).mono ?_; rintro e w' ⟨rfl, rfl⟩))
    go_ret
    exact ⟨by rw [HM.out]; rfl, by go_grown⟩
  | true =>
    cases h1 : bt f 0 15 with
    | false =>
      have HM : Hid (r = 3) := HV.out.trans (by simp [h0, h1])
      clear HV
      go_enter Tryz.func183, Tryz.ntmps183
      go_wp2_with (first | (go_at_call 120; refine (isBetween_bt _ _ _ _).mono ?_; rintro e w' ⟨rfl, rfl⟩) | (go_at_call 189; refine (areFlags_bt _ _).mono ?_; rintro e w' ⟨rfl, rfl⟩))
      go_ret
      exact ⟨by rw [HM.out]; rfl, by go_grown⟩
    | true =>
      cases h2 : bt d 0 9999 with
      | false =>
        have HM : Hid (r = 3) := HV.out.trans (by simp [h0, h1, h2])
        clear HV
        go_enter Tryz.func183, Tryz.ntmps183
        go_wp2_with (first | (go_at_call 120; refine (isBetween_bt _ _ _ _).mono ?_; rintro e w' ⟨rfl, rfl⟩) | (go_at_call 189; refine (areFlags_bt _ _).mono ?_; rintro e w' ⟨rfl, rfl⟩))
        go_ret
        exact ⟨by rw [HM.out]; rfl, by go_grown⟩
      | true =>
        by_cases hb : 400 < n
        · have hbi : (400 : Int) < (n : Int) := by omega
          have HM : Hid (r = 2) := HV.out.trans (by simp [h0, h1, h2, hb])
          clear HV
          go_enter Tryz.func183, Tryz.ntmps183
          go_wp2_with (first | (go_at_call 120; refine (isBetween_bt _ _ _ _).mono ?_; rintro e w' ⟨rfl, rfl⟩) | (go_at_call 189; refine (areFlags_bt _ _).mono ?_; rintro e w' ⟨rfl, rfl⟩))
          go_ret
          exact ⟨by rw [HM.out]; rfl, by go_grown⟩
        · have hbi : ¬ (400 : Int) < (n : Int) := by omega
          have HM : Hid (r = 0) := HV.out.trans (by simp [h0, h1, h2, hb])
          clear HV
          go_enter Tryz.func183, Tryz.ntmps183
          go_wp2_with (first | (go_at_call 120; refine (isBetween_bt _ _ _ _).mono ?_; rintro e w' ⟨rfl, rfl⟩) | (go_at_call 189; refine (areFlags_bt _ _).mono ?_; rintro e w' ⟨rfl, rfl⟩))
          go_ret
          exact ⟨by rw [HM.out]; rfl, by go_grown⟩
end Go.Proofs.YtejbbnpgghpgaaaGreatDoor
