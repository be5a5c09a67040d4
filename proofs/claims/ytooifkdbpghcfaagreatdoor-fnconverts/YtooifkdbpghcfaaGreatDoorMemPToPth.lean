/- Words on memory: where a slice of parts (seven numbers each) is read, what a row of the call's own holds, an append; no conditions beyond those that each fact names · ParseParts, the program's, at every slice of bytes: by a plain function · The laws' helpers that write marks into an answer's numbers, look for them again, and hold two answers with numbers against each other, do what their texts say; at most 1048576 numbers · The laws' helper that holds two answers with a text against each other says true of two that are alike; no conditions · The laws' marks in texts and fields: what is marked is found again · The laws' helpers over slices of parts: two that are alike are held to be the same; what is marked is found again; at most 1048576 parts · Parts by plain functions: where each lies, in which it is; its path. -/
import Derived.Test.YtooifkdbpghcfaaGreatDoorRdmToRdp0
import Derived.Test.YtooifkdbpghcfaaGreatDoorRdp
import Derived.Test.YtooifkdbpghcfaaGreatDoorMemIToSee
import Derived.Handy
import Derived.Test.YtooifkdbpghcfaaGreatDoorProg
import Derived.Test.YtooifkdbpghcfaaGreatDoorByeToHdr
import Derived.Test.YtooifkdbpghcfaaGreatDoorTyp5ToJmp
namespace Go.Proofs.YtooifkdbpghcfaaGreatDoor
open Go.RowKit

/-- A part as cells. -/
def pcl (x : PtP) : List Value := [.int .i64 x.1.1, .int .i64 x.1.2.1, .int .i64 x.1.2.2, .int .i64 x.2.1.1, .int .i64 x.2.1.2, .int .i64 x.2.2.1, .int .i64 x.2.2.2]
/-- Parts as cells. -/
def pc (l : List PtP) : List Value := l.flatMap pcl
theorem pc_cons (x : PtP) (l : List PtP) : pc (x :: l) = pcl x ++ pc l := rfl
theorem pc_len : ∀ l : List PtP, (pc l).length = l.length * 7
  | [] => rfl
  | x :: l => by rw [pc_cons, List.length_append, pc_len l, List.length_cons]; simp [pcl]; omega
theorem pc_app (a b : List PtP) : pc (a ++ b) = pc a ++ pc b := by simp [pc]
theorem pc_one (l : List PtP) : ∀ u ∈ pc l, u.oneCell' = true := by
  intro u hu
  simp only [pc, pcl, List.mem_flatMap, List.mem_cons, List.not_mem_nil, or_false] at hu
  obtain ⟨p, _, h⟩ := hu
  rcases h with rfl | rfl | rfl | rfl | rfl | rfl | rfl <;> rfl
def zeroP : Value := .agg #[.int .i64 0, .int .i64 0, .int .i64 0, .int .i64 0, .int .i64 0, .int .i64 0, .int .i64 0]
theorem infoP : (Tryz.prog.info? 44).map (fun i => (i.zero, i.size, i.bytes)) = some (some zeroP, 7, 56) := by kernel_rfl
/-- THE SLICE v IS THE CALL's OWN AND HOLDS THE PARTS l. -/
def OwnP (w : World) (B : Nat) (v : Value) (l : List PtP) : Prop := w.ownsRow B 44 7 v l.length (pc l)
theorem OwnP.nil (w : World) (B : Nat) : OwnP w B (.slice none 0 0) [] := World.ownsRow_nil _ _ _ _
theorem OwnP.alloc {w : World} {B : Nat} {v : Value} {l : List PtP} (h : OwnP w B v l) (o : Obj) : OwnP (w.alloc o) B v l := World.ownsRow.alloc h o
theorem OwnP.below {w w' : World} {B C : Nat} {v : Value} {l : List PtP} (h : OwnP w B v l) (hb : Below C w w') (hC : w.heap.size ≤ C) : OwnP w' B v l := by
  refine ⟨h.1, ?_⟩
  rcases h.2 with h' | ⟨g, cap, cur, h1, h2, h3, h4⟩
  · exact .inl h'
  · refine .inr ⟨g, cap, cur, h1, h2, ?_, h4⟩
    have hg : g < w.heap.size := (Array.getElem?_eq_some_iff.1 h3).1
    rw [hb.block g (by omega)]; exact h3
theorem OwnP.form {w : World} {B : Nat} {v : Value} {l : List PtP} (h : OwnP w B v l) : ∃ a cap, v = .slice a l.length cap ∧ l.length ≤ cap ∧ cap ≤ maxLen := by
  rcases h.2 with ⟨h', h0⟩ | ⟨g, cap, cur, h', _, _, h4, h5, _⟩
  · exact ⟨none, 0, by rw [h', h0], by omega, by decide⟩
  · exact ⟨_, cap, h', h4, h5⟩
theorem OwnP.low {w : World} {B C : Nat} {v : Value} {l : List PtP} (h : OwnP w B v l) (hC : C ≤ B) : OwnP w C v l := by
  refine ⟨h.1, ?_⟩
  rcases h.2 with h' | ⟨g, cap, cur, h1, h2, h3, h4⟩
  · exact .inl h'
  · exact .inr ⟨g, cap, cur, h1, by omega, h3, h4⟩
theorem OwnP.kept {w : World} {B : Nat} {v : Value} {l : List PtP} (h : OwnP w B v l) (p : Addr) (hp : p.block < B) (u : Value) : OwnP (w.setCell p u) B v l := ownsRow_setCell_below h hp u
/-- AN APPEND OF ONE PART THAT WAS LAID JUST AHEAD. -/
theorem wpList_appP {w : World} {ops : Array Oper} {rest : List Oper} {o : Oper} {a : Act} {Q : Exit → Act → World → Prop} (hgd : o.guard = none) (s x : Operand)
    (ho : o.op = .call { callee := .builtin .append, args := #[s, x], argTypes := #[39, 39] })
    (B : Nat) (v : Value) (l : List PtP) (hs : a.eval s = v) (hown : OwnP w B v l) (ad : Addr) (y : PtP) (hx : a.eval x = .slice (some ad) 1 1)
    (hnew : ∀ j u, (pcl y)[j]? = some u → w.cell? (ad.add j) = some u) (hsz : l.length + 1 ≤ 1048576) (hB : B ≤ w.heap.size)
    (h : ∀ v' w1, OwnP w1 B v' (l ++ [y]) → Below B w w1 → wpList Tryz.prog ops Q rest (a.put o.dst v') w1) : wpList Tryz.prog ops Q (o :: rest) a w := by
  obtain ⟨i0, hi, hz0, hz1, hz2⟩ := info_parts infoP
  refine wpList_append_own w hgd s x 39 ho B 44 i0 zeroP 7 56 Tryz.underlying39 hi hz0 hz1 hz2 rfl (by decide) v l.length (pc l) hs hown ad 1 1 (pc [y]) hx (by rw [pc_len]; rfl) ?_ (pc_one [y]) (by unfold maxLen; omega) (by omega) hB ?_
  · intro j u hj
    have e : pc [y] = pcl y := by simp [pc]
    rw [e] at hj
    exact hnew j u hj
  · intro v' w1 hown' hgr _
    refine h v' w1 ?_ ((Below.refl _ _).grown hgr hB (fun k hk => (hown.lt k hk).1))
    unfold OwnP
    rw [pc_app, List.length_append]
    exact hown'
theorem new_oneP {wr : World} {s : Nat} (e : wr.heap.size = s) (y : PtP) : ∀ j u, (pcl y)[j]? = some u → (wr.alloc (.cells #[.int .i64 y.1.1, .int .i64 y.1.2.1, .int .i64 y.1.2.2, .int .i64 y.2.1.1, .int .i64 y.2.1.2, .int .i64 y.2.2.1, .int .i64 y.2.2.2] 44)).cell? ((⟨s, 0, none⟩ : Addr).add j) = some u := by
  subst e
  intro j u hj
  have e : (⟨wr.heap.size, 0, none⟩ : Addr).add j = ⟨wr.heap.size, j, none⟩ := by rw [Go.WideShapes.add_plain, Nat.zero_add]
  rw [e, World.cell?_alloc_mark, ← Array.getElem?_toList]
  exact hj
end Go.Proofs.YtooifkdbpghcfaaGreatDoor

namespace Go.Proofs.YtooifkdbpghcfaaGreatDoor
open Go.RowKit

/-- The parts of a message, or why there are none. -/
def psV (d : List Nat) : Int × List PtP := if 400 < d.length then (2, []) else (0, adV d 2 0 d.length (-1) 0 [])
/-- How a reading of all parts ends. -/
def PsEnd (r : Int × List PtP) (w : World) (e : Ending) (w' : World) : Prop := ∃ v, e = .returned (.agg #[.int .i64 r.1, v]) ∧ OwnP w' w.heap.size v r.2 ∧ Below w.heap.size w w'

set_option maxHeartbeats 3200000 in
set_option maxRecDepth 100000 in
theorem parseParts_any {cp : Nat} (b m : Nat) (d : List Nat) (w : World) (hr : Rd w (some ⟨b, 0, none⟩) d) (hT : TabC w) (hB : IsB d) (hl : d.length = m) (hcp : m ≤ cp := by omega) :
    Calls Tryz.prog 21 #[.slice (some ⟨b, 0, none⟩) m cp] w (PsEnd (psV d) w) := by
  by_cases h4 : 400 < m
  · have h4' : (400 : Int) < (m : Int) := by omega
    have HM : Hid (psV d = (2, [])) := if_pos (by omega)
    go_enter Tryz.func21, Tryz.ntmps21
    go_wp2
    go_returns
    rw [HM.out]
    exact ⟨_, rfl, OwnP.nil _ _, by go_grown⟩
  · have h4' : ¬ (400 : Int) < (m : Int) := by omega
    have HM : Hid (psV d = (0, adV d 2 0 m (-1) 0 [])) := by show _ = _; unfold psV; rw [if_neg (by omega), hl]
    generalize psV d = r at *
    have hm : m ≤ 400 := by omega
    have HRd := read_any (cp := cp) b m d w hr hT hB hl hm 2 (Nat.le_refl _)
    go_enter Tryz.func21, Tryz.ntmps21
    have HRH : Hid (∀ (R P fr tt : Nat) (u nu : Int) (v : Value) (l : List (Nat × PtP)) (w1 : World), fr ≤ tt → tt ≤ m → RSt w w1 R b m cp v l → l.length ≤ 8 → w.heap.size ≤ P → PtAt w1 P 0 0 0 0 0 u nu → (∀ p ∈ l, p.1 ≠ P) → Calls Tryz.prog 53 #[.pointer (some ⟨R, 0, none⟩), .agg #[.int .i64 (fr : Int), .int .i64 (tt : Int)], .pointer (some ⟨P, 0, none⟩), .int .i64 (3 - ((2 : Nat) : Int))] w1 (RdEnd w R b m cp P (adV d 2 fr tt u nu (l.map (·.2))) w1)) := HRd
    clear HRd
    go_wp2_with fail
    have hX : Below w.heap.size w (((w.alloc (.cells #[.int .i64 0, .slice none 0 0] 41)).alloc (.cells #[.slice (some ⟨b, 0, none⟩) m cp, .slice none 0 0] 82)).alloc (.cells #[.int .i64 0, .int .i64 0, .int .i64 0, .int .i64 0, .int .i64 0, .int .i64 (-1), .int .i64 0] 44)) := (((Below.refl _ w).alloc (Nat.le_refl _) _).alloc (by simp) _).alloc (by simp; omega) _
    have hA : (((w.alloc (.cells #[.int .i64 0, .slice none 0 0] 41)).alloc (.cells #[.slice (some ⟨b, 0, none⟩) m cp, .slice none 0 0] 82)).alloc (.cells #[.int .i64 0, .int .i64 0, .int .i64 0, .int .i64 0, .int .i64 0, .int .i64 (-1), .int .i64 0] 44)).heap[w.heap.size]? = some (.cells #[.int .i64 0, .slice none 0 0] 41 (0, 0)) := (Below.heap_alloc _ _ _ (by simp; omega)).trans ((Below.heap_alloc _ _ _ (by simp)).trans (heap_alloc_new w _))
    have hR0 : RdrAt (((w.alloc (.cells #[.int .i64 0, .slice none 0 0] 41)).alloc (.cells #[.slice (some ⟨b, 0, none⟩) m cp, .slice none 0 0] 82)).alloc (.cells #[.int .i64 0, .int .i64 0, .int .i64 0, .int .i64 0, .int .i64 0, .int .i64 (-1), .int .i64 0] 44)) (w.heap.size + 1) b m cp (.slice none 0 0) := by
      have h := heap_alloc_new (w.alloc (.cells #[.int .i64 0, .slice none 0 0] 41)) (.cells #[.slice (some ⟨b, 0, none⟩) m cp, .slice none 0 0] 82)
      rw [World.size_alloc] at h
      exact (Below.heap_alloc _ _ _ (by simp)).trans h
    have hp0 : PtAt (((w.alloc (.cells #[.int .i64 0, .slice none 0 0] 41)).alloc (.cells #[.slice (some ⟨b, 0, none⟩) m cp, .slice none 0 0] 82)).alloc (.cells #[.int .i64 0, .int .i64 0, .int .i64 0, .int .i64 0, .int .i64 0, .int .i64 (-1), .int .i64 0] 44)) (w.heap.size + 1 + 1) 0 0 0 0 0 (-1) 0 := by
      have h := heap_alloc_new ((w.alloc (.cells #[.int .i64 0, .slice none 0 0] 41)).alloc (.cells #[.slice (some ⟨b, 0, none⟩) m cp, .slice none 0 0] 82)) (.cells #[.int .i64 0, .int .i64 0, .int .i64 0, .int .i64 0, .int .i64 0, .int .i64 (-1), .int .i64 0] 44)
      rw [World.size_alloc, World.size_alloc] at h
      exact h
    have hXz : (((w.alloc (.cells #[.int .i64 0, .slice none 0 0] 41)).alloc (.cells #[.slice (some ⟨b, 0, none⟩) m cp, .slice none 0 0] 82)).alloc (.cells #[.int .i64 0, .int .i64 0, .int .i64 0, .int .i64 0, .int .i64 0, .int .i64 (-1), .int .i64 0] 44)).heap.size = w.heap.size + 1 + 1 + 1 := by simp
    generalize (((w.alloc (.cells #[.int .i64 0, .slice none 0 0] 41)).alloc (.cells #[.slice (some ⟨b, 0, none⟩) m cp, .slice none 0 0] 82)).alloc (.cells #[.int .i64 0, .int .i64 0, .int .i64 0, .int .i64 0, .int .i64 0, .int .i64 (-1), .int .i64 0] 44)) = X at *
    have HC := HRH.out (w.heap.size + 1) (w.heap.size + 1 + 1) 0 m (-1) 0 (.slice none 0 0) [] X (Nat.zero_le _) (Nat.le_refl _) ⟨hX, by omega, hR0, World.ownsRow_nil _ _ _ _, fun p hp => by cases hp⟩ (by simp) (by omega) hp0 (fun p hp => by cases hp)
    rw [show (3 : Int) - ((2 : Nat) : Int) = 1 from rfl] at HC
    refine HC.mono ?_
    rintro e w1 ⟨v1, l1, rfl, S1, hm1, hfr1⟩
    have hA1 : w1.heap[w.heap.size]? = some (.cells #[.int .i64 0, .slice none 0 0] 41 (0, 0)) := (hfr1.2 w.heap.size (by omega) (by omega) (by omega) (fun c fz e => by rw [hA] at e; simp at e)).trans hA
    have hl1 : l1.length ≤ 8 := by
      have h := adV_le d 2 0 m (-1) 0 [] (by simp)
      simp only [List.map_nil] at hm1
      rw [← hm1] at h
      simpa using h
    simp only [List.map_nil] at hm1
    have HM1 : Hid (r = (0, l1.map (·.2))) := by show _ = _; rw [HM.out, hm1]
    clear HM hm1 HC HRH hR0 hp0 hA hfr1 hX hXz
    obtain ⟨a1, c1, hv1, -, -⟩ := OwnQ.form S1.2.2.2.1
    have hlm : (l1.map (·.1)).length = l1.length := by simp
    rw [hlm] at hv1
    subst hv1
    obtain ⟨q0, q1⟩ := S1.2.2.1.cells
    have hrd1 := S1.2.2.2.1.rd.2
    have hbw1 := S1.1
    have hwz : w.heap.size < w1.heap.size := (Array.getElem?_eq_some_iff.1 hA1).1
    have HPt : Hid (∀ p ∈ l1, PtV w1 p.1 p.2) := fun p hp => (S1.2.2.2.2 p hp).2
    clear S1
    go_wp2
    go_loopw [4, 22] (fun v c wr => ∃ k : Nat, k ≤ l1.length ∧ c = .int .i64 k ∧ OwnP wr w1.heap.size v ((l1.take k).map (·.2)) ∧ Below w1.heap.size w1 wr) (fun _ c _ => l1.length - (intOf c).toNat)
    case atStart => exact ⟨0, Nat.zero_le _, rfl, OwnP.nil _ _, Below.refl _ _⟩
    case round =>
      obtain ⟨k, hk, rfl, hown, hbel⟩ := hrel
      obtain ⟨av, cv, hv, -, -⟩ := hown.form
      have hlk : ((l1.take k).map (·.2)).length = k := by rw [List.length_map, List.length_take]; omega
      rw [hlk] at hv
      subst hv
      have hz := hbel.size
      by_cases hkn : k < l1.length
      · have hki : (k : Int) < (l1.length : Int) := by omega
        have hk8 : (k : Int) < 8 := by omega
        obtain ⟨g, off, rfl, hglt, hcell⟩ := hrd1.at_ (by rw [hlm]; omega)
        have hn : nthZq (l1.map (·.1)) k = (l1[k]).1 := by rw [nthZq_get (by rw [hlm]; exact hkn)]; simp
        have hcp : wr.cell? ⟨g, off + k, none⟩ = some (.pointer (some ⟨(l1[k]).1, 0, none⟩)) := by
          rw [hbel.cell (p := ⟨g, off + k, none⟩) hglt, hcell k (by rw [hlm]; exact hkn), hn]
        have hpt := HPt.out l1[k] (List.getElem_mem _)
        have htk : (l1.take (k + 1)).map (·.2) = (l1.take k).map (·.2) ++ [(l1[k]).2] := by rw [List.take_succ_eq_append_getElem hkn, List.map_append]; rfl
        generalize l1[k] = pk at *
        obtain ⟨P, y⟩ := pk
        dsimp only at hcp hpt htk
        have hpr : PtV wr P y := PtAt.kept hpt (hbel.block P hpt.lt)
        obtain ⟨c0, c1, c2, c3, c4, c5, c6⟩ := PtAt.cells hpr
        have HT2 : Hid (_) := htk
        clear hpt hpr htk hn hcell
        go_wp2_with (at_builtin; refine wpList_appP rfl _ _ rfl w1.heap.size _ _ rfl (hown.alloc _) ⟨wr.heap.size, 0, none⟩ y rfl (new_oneP rfl y) (by rw [hlk]; omega) (by simp; omega) ?_; intro v' w2 hown' hb')
        go_roundw
        case rel => exact ⟨k + 1, by omega, by go_num, by rw [HT2.out]; exact hown', hbel.trans (((Below.refl _ _).alloc hz _).trans hb')⟩
        case measure => simp [intOf]; omega
      · have hki : ¬ (k : Int) < (l1.length : Int) := by omega
        have hke : l1.take k = l1 := List.take_of_length_le (by omega)
        rw [hke] at hown
        have hAr : wr.heap[w.heap.size]? = some (.cells #[.int .i64 0, .slice none 0 0] 41 (0, 0)) := (hbel.block w.heap.size hwz).trans hA1
        have a0 : wr.cell? ⟨w.heap.size, 0, none⟩ = some (.int .i64 0) := by simp [World.cell?, hAr]
        have a1' : wr.cell? ⟨w.heap.size, 1, none⟩ = some (.slice none 0 0) := by simp [World.cell?, hAr]
        have b0 : wr.frozen? ⟨w.heap.size, 0, none⟩ = false := by simp [World.frozen?, hAr]
        have b1 : wr.frozen? ⟨w.heap.size, 1, none⟩ = false := by simp [World.frozen?, hAr]
        obtain ⟨k0, k1⟩ := res_cells a0 a1' (.int .i64 0) (.slice av k cv)
        go_wp2
        refine bodyPost_ret (v := .agg #[.int .i64 0, .slice av k cv]) (by simp [results, Tryz.results21, go_sem, k0, k1]) rfl ?_
        rw [HM1.out]
        refine ⟨_, rfl, ((hown.kept _ (by simp; omega) _).kept _ (by simp; omega) _).low (by omega), ?_⟩
        exact ((hbw1.trans (hbel.mono (by omega))).setCell (p := ⟨w.heap.size, 0, none⟩) (Nat.le_refl _) _).setCell (p := ⟨w.heap.size, 1, none⟩) (Nat.le_refl _) _
end Go.Proofs.YtooifkdbpghcfaaGreatDoor

namespace Go.Proofs.YtooifkdbpghcfaaGreatDoor
open Go.RowKit

end Go.Proofs.YtooifkdbpghcfaaGreatDoor

namespace Go.Proofs.YtooifkdbpghcfaaGreatDoor
open Go.RowKit

end Go.Proofs.YtooifkdbpghcfaaGreatDoor

namespace Go.Proofs.YtooifkdbpghcfaaGreatDoor
open Go.RowKit

end Go.Proofs.YtooifkdbpghcfaaGreatDoor

namespace Go.Proofs.YtooifkdbpghcfaaGreatDoor
open Go.RowKit

def nthP (l : List PtP) (i : Nat) : PtP := l.getD i ((0, 0, 0), (0, 0), (0, 0))
theorem nthP_get {l : List PtP} {i : Nat} (h : i < l.length) : nthP l i = l[i] := by
  simp [nthP, List.getD_eq_getElem?_getD, List.getElem?_eq_getElem h]
theorem pc_get : ∀ (l : List PtP) (i : Nat), i < l.length → (pc l)[i * 7]? = some (.int .i64 (nthP l i).1.1) ∧ (pc l)[i * 7 + 1]? = some (.int .i64 (nthP l i).1.2.1) ∧ (pc l)[i * 7 + 2]? = some (.int .i64 (nthP l i).1.2.2) ∧ (pc l)[i * 7 + 3]? = some (.int .i64 (nthP l i).2.1.1) ∧ (pc l)[i * 7 + 4]? = some (.int .i64 (nthP l i).2.1.2) ∧ (pc l)[i * 7 + 5]? = some (.int .i64 (nthP l i).2.2.1) ∧ (pc l)[i * 7 + 6]? = some (.int .i64 (nthP l i).2.2.2)
  | x :: l, 0, _ => ⟨rfl, rfl, rfl, rfl, rfl, rfl, rfl⟩
  | x :: l, i + 1, h => by
    have hi := pc_get l i (by simpa using h)
    have e : ∀ k, (pc (x :: l))[(i + 1) * 7 + k]? = (pc l)[i * 7 + k]? := fun k => by
      rw [pc_cons, List.getElem?_append_right (by simp [pcl]; omega)]
      have hp : (pcl x).length = 7 := rfl
      rw [hp]; congr 1; omega
    have e0 : nthP (x :: l) (i + 1) = nthP l i := by simp [nthP]
    rw [e0]
    exact ⟨(e 0).trans hi.1, (e 1).trans hi.2.1, (e 2).trans hi.2.2.1, (e 3).trans hi.2.2.2.1, (e 4).trans hi.2.2.2.2.1, (e 5).trans hi.2.2.2.2.2.1, (e 6).trans hi.2.2.2.2.2.2⟩
/-- THE PARTS l STAND AT a. -/
def RdP (w : World) (a : Option Addr) (l : List PtP) : Prop := l = [] ∨ ∃ b, a = some ⟨b, 0, none⟩ ∧ b < w.heap.size ∧ ∀ i, i < l.length * 7 → w.cell? ⟨b, i, none⟩ = (pc l)[i]?
theorem RdP.below {w w' : World} {a : Option Addr} {l : List PtP} (h : RdP w a l) (hb : Below w.heap.size w w') : RdP w' a l := by
  rcases h with h | ⟨b, h1, h2, h3⟩
  · exact .inl h
  · exact .inr ⟨b, h1, Nat.lt_of_lt_of_le h2 hb.size, fun i hi => (hb.cell (p := ⟨b, i, none⟩) h2).trans (h3 i hi)⟩
theorem RdP.at_ {w : World} {a : Option Addr} {l : List PtP} (h : RdP w a l) (hp : 0 < l.length) : ∃ b, a = some ⟨b, 0, none⟩ ∧ b < w.heap.size ∧ ∀ k, k < l.length → w.cell? ⟨b, k * 7, none⟩ = some (.int .i64 (nthP l k).1.1) ∧ w.cell? ⟨b, k * 7 + 1, none⟩ = some (.int .i64 (nthP l k).1.2.1) ∧ w.cell? ⟨b, k * 7 + 2, none⟩ = some (.int .i64 (nthP l k).1.2.2) ∧ w.cell? ⟨b, k * 7 + 3, none⟩ = some (.int .i64 (nthP l k).2.1.1) ∧ w.cell? ⟨b, k * 7 + 4, none⟩ = some (.int .i64 (nthP l k).2.1.2) ∧ w.cell? ⟨b, k * 7 + 5, none⟩ = some (.int .i64 (nthP l k).2.2.1) ∧ w.cell? ⟨b, k * 7 + 6, none⟩ = some (.int .i64 (nthP l k).2.2.2) := by
  rcases h with h | ⟨b, h1, h2, h3⟩
  · subst h; simp at hp
  · refine ⟨b, h1, h2, fun k hk => ?_⟩
    obtain ⟨g0, g1, g2, g3, g4, g5, g6⟩ := pc_get l k hk
    exact ⟨(h3 _ (by omega)).trans g0, (h3 _ (by omega)).trans g1, (h3 _ (by omega)).trans g2, (h3 _ (by omega)).trans g3, (h3 _ (by omega)).trans g4, (h3 _ (by omega)).trans g5, (h3 _ (by omega)).trans g6⟩
theorem OwnP.rd {w : World} {B n cap : Nat} {a : Option Addr} {l : List PtP} (h : OwnP w B (.slice a n cap) l) : l.length = n ∧ RdP w a l := by
  have hf : l.length = n := by
    obtain ⟨a', c', e, _⟩ := h.form
    simp at e; omega
  refine ⟨hf, ?_⟩
  rcases l with _ | ⟨x, l⟩
  · exact .inl rfl
  · have h0 := h
    rcases h.2 with ⟨_, h1⟩ | ⟨g, cap', cur, h1, h2, h3, h4⟩
    · simp at h1
    · obtain ⟨rfl⟩ : a = some ⟨g, 0, none⟩ := by simp at h1; exact h1.1
      refine .inr ⟨g, rfl, (Array.getElem?_eq_some_iff.1 h3).1, fun i hi => ?_⟩
      unfold OwnP at h0
      rw [hf] at h0
      exact h0.cellAt i (by omega)
theorem OwnP.lt {w : World} {B : Nat} {v : Value} {l : List PtP} (h : OwnP w B v l) (g : Nat) (hg : v.ownBlock = some g) : B ≤ g ∧ g < w.heap.size := World.ownsRow.lt h g hg
theorem OwnP.far {w w' : World} {B : Nat} {v : Value} {l : List PtP} {row : Option Nat} (h : OwnP w B v l) (hg : w.grownBy w' row) (hne : ∀ b, v.ownBlock = some b → some b ≠ row) : OwnP w' B v l := by
  refine ⟨h.1, ?_⟩
  rcases h.2 with h' | ⟨g, cap, cur, h1, h2, h3, h4⟩
  · exact .inl h'
  · refine .inr ⟨g, cap, cur, h1, h2, ?_, h4⟩
    have hlt : g < w.heap.size := (Array.getElem?_eq_some_iff.1 h3).1
    rw [hg.block g hlt (hne g (by rw [h1]; rfl))]; exact h3

end Go.Proofs.YtooifkdbpghcfaaGreatDoor

namespace Go.Proofs.YtooifkdbpghcfaaGreatDoor
open Go.RowKit

/-- Each part lies within the bytes, and in one ahead of it (the first in none). -/
def OkP (d : List Nat) (l : List PtP) : Prop := ∀ i, i < l.length → (∃ f t : Nat, (nthP l i).2.1 = ((f : Int), (t : Int)) ∧ f ≤ t ∧ t ≤ d.length) ∧ ((nthP l i).2.2.1 = -1 ∧ i = 0 ∨ ∃ u : Nat, (nthP l i).2.2.1 = (u : Int) ∧ u < i)
theorem nthP_left {a b : List PtP} {i : Nat} (h : i < a.length) : nthP (a ++ b) i = nthP a i := by
  unfold nthP
  rw [List.getD_eq_getElem?_getD, List.getD_eq_getElem?_getD, List.getElem?_append_left h]
theorem nthP_last (a : List PtP) (x : PtP) : nthP (a ++ [x]) a.length = x := by
  unfold nthP
  rw [List.getD_eq_getElem?_getD, List.getElem?_append_right (Nat.le_refl _), Nat.sub_self]; rfl
theorem OkP.snoc {d : List Nat} {l : List PtP} {p : PtP} (h : OkP d l) (h1 : ∃ f t : Nat, p.2.1 = ((f : Int), (t : Int)) ∧ f ≤ t ∧ t ≤ d.length) (h2 : p.2.2.1 = -1 ∧ l = [] ∨ ∃ u : Nat, p.2.2.1 = (u : Int) ∧ u < l.length) : OkP d (l ++ [p]) := by
  intro i hi
  rw [List.length_append, List.length_singleton] at hi
  rcases Nat.lt_or_ge i l.length with hlt | hge
  · rw [nthP_left hlt]; exact h i hlt
  · have e : i = l.length := by omega
    subst e
    rw [nthP_last]
    refine ⟨h1, ?_⟩
    rcases h2 with ⟨a, b⟩ | ⟨u, a, b⟩
    · exact .inl ⟨a, by rw [b]; rfl⟩
    · exact .inr ⟨u, a, b⟩
theorem OkP.nil (d : List Nat) : OkP d [] := fun i hi => by simp at hi
theorem ptN_in {d : List Nat} {fr tt : Nat} {u nu : Int} (h1 : fr ≤ tt) (h2 : tt ≤ d.length) : ∃ f t : Nat, (ptN d fr tt u nu).2.1 = ((f : Int), (t : Int)) ∧ f ≤ t ∧ t ≤ d.length := by
  have hcl : (cutN d fr tt).length = tt - fr := by unfold cutN; rw [List.length_drop, List.length_take]; omega
  have hat : (oneV (cutN d fr tt)).2.1 ≤ tt - fr := hcl ▸ oneV_at (cutN d fr tt)
  exact ⟨_, tt, rfl, by omega, h2⟩
theorem adL_ok {d : List Nat} {F : Nat → Nat → Int → Int → List PtP → List PtP} {b L n : Nat} (hL : L + b ≤ d.length)
    (hF : ∀ (x y : Nat) (u nu : Int) (acc : List PtP), x ≤ y → y ≤ d.length → OkP d acc → (∃ q : Nat, u = (q : Int) ∧ q < acc.length) → OkP d (F x y u nu acc) ∧ acc.length ≤ (F x y u nu acc).length) :
    ∀ (l : List RngP) (i : Nat) (acc : List PtP), (∀ s ∈ l, InL L s) → OkP d acc → n < acc.length → OkP d (adL F b (n : Int) l i acc) ∧ acc.length ≤ (adL F b (n : Int) l i acc).length
  | [], _, acc, _, h, _ => ⟨h, Nat.le_refl _⟩
  | s :: r, i, acc, hs, h, hn => by
    obtain ⟨x, y, e, h1, h2⟩ := hs s List.mem_cons_self
    subst e
    obtain ⟨k1, k2⟩ := hF (((x : Int)).toNat + b) (((y : Int)).toNat + b) (n : Int) ((i + 1 : Nat) : Int) acc (by omega) (by omega) h ⟨n, rfl, hn⟩
    obtain ⟨k3, k4⟩ := adL_ok hL hF r (i + 1) _ (fun s h => hs s (List.mem_cons_of_mem _ h)) k1 (Nat.lt_of_lt_of_le hn k2)
    exact ⟨k3, Nat.le_trans k2 k4⟩
theorem adV_ok (d : List Nat) (hd : d.length ≤ 1048576) : ∀ (D fr tt : Nat) (u nu : Int) (acc : List PtP), fr ≤ tt → tt ≤ d.length → OkP d acc → (u = -1 ∧ acc = [] ∨ ∃ q : Nat, u = (q : Int) ∧ q < acc.length) → OkP d (adV d D fr tt u nu acc) ∧ acc.length ≤ (adV d D fr tt u nu acc).length
  | D, fr, tt, u, nu, acc, h1, h2, h3, h4 => by
    by_cases h8 : acc.length = 8
    · rw [adV_full h8]; exact ⟨h3, Nat.le_refl _⟩
    · have hs : OkP d (acc ++ [ptN d fr tt u nu]) := h3.snoc (ptN_in h1 h2) h4
      by_cases hm : (oneV (cutN d fr tt)).2.2 = []
      · rw [adV_leaf h8 hm]
        exact ⟨hs, by simp⟩
      · cases D with
        | zero => rw [adV_zero h8]; exact ⟨hs, by simp⟩
        | succ D =>
          have hcl : (cutN d fr tt).length = tt - fr := by unfold cutN; rw [List.length_drop, List.length_take]; omega
          have hat : (oneV (cutN d fr tt)).2.1 ≤ tt - fr := hcl ▸ oneV_at (cutN d fr tt)
          rw [adV_in h8 hm]
          generalize (oneV (cutN d fr tt)).2.1 = at0 at *
          have hcl2 : (cutN d (fr + at0) tt).length = tt - (fr + at0) := by unfold cutN; rw [List.length_drop, List.length_take]; omega
          obtain ⟨k1, k2⟩ := adL_ok (F := adV d D) (b := fr + at0) (L := (cutN d (fr + at0) tt).length) (n := acc.length) (by omega) (fun x y u nu acc a b c e => adV_ok d hd D x y u nu acc a b c (.inr e)) _ 0 (acc ++ [ptN d fr tt u nu]) (spL_in _ _ _ (by omega)) hs (by simp)
          refine ⟨k1, ?_⟩
          rw [List.length_append, List.length_singleton] at k2
          omega
/-- All parts of a message are so; there is one at least. -/
theorem parts_ok (d : List Nat) (hd : d.length ≤ 400) : OkP d (adV d 2 0 d.length (-1) 0 []) := (adV_ok d (by omega) 2 0 d.length (-1) 0 [] (Nat.zero_le _) (Nat.le_refl _) (OkP.nil d) (.inl ⟨rfl, rfl⟩)).1
theorem parts_le (d : List Nat) : (adV d 2 0 d.length (-1) 0 []).length ≤ 8 := adV_le d 2 0 d.length (-1) 0 [] (by simp)

end Go.Proofs.YtooifkdbpghcfaaGreatDoor
