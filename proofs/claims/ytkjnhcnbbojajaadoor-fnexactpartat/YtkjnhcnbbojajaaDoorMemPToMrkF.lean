/- Words on memory: where a slice of parts (seven numbers each) is read, what a row of the call's own holds, an append; no conditions beyond those that each fact names · ParseParts, the program's, at every slice of bytes: by a plain function · The laws' helper that holds two answers with a text against each other says true of two that are alike; no conditions · The laws' marks in texts and fields: what is marked is found again. -/
import Derived.Test.YtkjnhcnbbojajaaDoorRdmToRdp0
import Derived.Test.YtkjnhcnbbojajaaDoorRdp
import Derived.Test.YtkjnhcnbbojajaaDoorChecked
import Derived.Handy
import Derived.Test.YtkjnhcnbbojajaaDoorFldSToHdr
namespace Go.Proofs.YtkjnhcnbbojajaaDoor
open Go.RowKit

/-- A part as cells. -/
def pcl (x : PtP) : List Value := [.int .i64 x.1.1, .int .i64 x.1.2.1, .int .i64 x.1.2.2, .int .i64 x.2.1.1, .int .i64 x.2.1.2, .int .i64 x.2.2.1, .int .i64 x.2.2.2]
/-- Parts as cells. -/
def pc (l : List PtP) : List Value := l.flatMap pcl
theorem pc_cons (x : PtP) (l : List PtP) : pc (x :: l) = pcl x ++ pc l := rfl
theorem pc_len : ∀ l : List PtP, (pc l).length = l.length * 7
  | [] => rfl
  | x :: l => by rw [pc_cons, List.length_append, pc_len l, List.length_cons]; simp [pcl]; omega
theorem pc_app (a b : List PtP) : pc (a ++ b) = pc a ++ pc b := by simp [pc]
theorem pc_one (l : List PtP) : ∀ u ∈ pc l, u.oneCell' = true := by
  intro u hu
  simp only [pc, pcl, List.mem_flatMap, List.mem_cons, List.not_mem_nil, or_false] at hu
  obtain ⟨p, _, h⟩ := hu
  rcases h with rfl | rfl | rfl | rfl | rfl | rfl | rfl <;> rfl
def zeroP : Value := .agg #[.int .i64 0, .int .i64 0, .int .i64 0, .int .i64 0, .int .i64 0, .int .i64 0, .int .i64 0]
theorem infoP : (Tryd.prog.info? 35).map (fun i => (i.zero, i.size, i.bytes)) = some (some zeroP, 7, 56) := by kernel_rfl
/-- THE SLICE v IS THE CALL's OWN AND HOLDS THE PARTS l. -/
def OwnP (w : World) (B : Nat) (v : Value) (l : List PtP) : Prop := w.ownsRow B 35 7 v l.length (pc l)
theorem OwnP.nil (w : World) (B : Nat) : OwnP w B (.slice none 0 0) [] := World.ownsRow_nil _ _ _ _
theorem OwnP.alloc {w : World} {B : Nat} {v : Value} {l : List PtP} (h : OwnP w B v l) (o : Obj) : OwnP (w.alloc o) B v l := World.ownsRow.alloc h o
theorem OwnP.below {w w' : World} {B C : Nat} {v : Value} {l : List PtP} (h : OwnP w B v l) (hb : Below C w w') (hC : w.heap.size ≤ C) : OwnP w' B v l := by
  refine ⟨h.1, ?_⟩
  rcases h.2 with h' | ⟨g, cap, cur, h1, h2, h3, h4⟩
  · exact .inl h'
  · refine .inr ⟨g, cap, cur, h1, h2, ?_, h4⟩
    have hg : g < w.heap.size := (Array.getElem?_eq_some_iff.1 h3).1
    rw [hb.block g (by omega)]; exact h3
theorem OwnP.form {w : World} {B : Nat} {v : Value} {l : List PtP} (h : OwnP w B v l) : ∃ a cap, v = .slice a l.length cap ∧ l.length ≤ cap ∧ cap ≤ maxLen := by
  rcases h.2 with ⟨h', h0⟩ | ⟨g, cap, cur, h', _, _, h4, h5, _⟩
  · exact ⟨none, 0, by rw [h', h0], by omega, by decide⟩
  · exact ⟨_, cap, h', h4, h5⟩
theorem OwnP.low {w : World} {B C : Nat} {v : Value} {l : List PtP} (h : OwnP w B v l) (hC : C ≤ B) : OwnP w C v l := by
  refine ⟨h.1, ?_⟩
  rcases h.2 with h' | ⟨g, cap, cur, h1, h2, h3, h4⟩
  · exact .inl h'
  · exact .inr ⟨g, cap, cur, h1, by omega, h3, h4⟩
theorem OwnP.kept {w : World} {B : Nat} {v : Value} {l : List PtP} (h : OwnP w B v l) (p : Addr) (hp : p.block < B) (u : Value) : OwnP (w.setCell p u) B v l := ownsRow_setCell_below h hp u
/-- AN APPEND OF ONE PART THAT WAS LAID JUST AHEAD. -/
theorem wpList_appP {w : World} {ops : Array Oper} {rest : List Oper} {o : Oper} {a : Act} {Q : Exit → Act → World → Prop} (hgd : o.guard = none) (s x : Operand)
    (ho : o.op = .call { callee := .builtin .append, args := #[s, x], argTypes := #[30, 30] })
    (B : Nat) (v : Value) (l : List PtP) (hs : a.eval s = v) (hown : OwnP w B v l) (ad : Addr) (y : PtP) (hx : a.eval x = .slice (some ad) 1 1)
    (hnew : ∀ j u, (pcl y)[j]? = some u → w.cell? (ad.add j) = some u) (hsz : l.length + 1 ≤ 1048576) (hB : B ≤ w.heap.size)
    (h : ∀ v' w1, OwnP w1 B v' (l ++ [y]) → Below B w w1 → wpList Tryd.prog ops Q rest (a.put o.dst v') w1) : wpList Tryd.prog ops Q (o :: rest) a w := by
  obtain ⟨i0, hi, hz0, hz1, hz2⟩ := info_parts infoP
  refine wpList_append_own w hgd s x 30 ho B 35 i0 zeroP 7 56 Tryd.underlying30 hi hz0 hz1 hz2 rfl (by decide) v l.length (pc l) hs hown ad 1 1 (pc [y]) hx (by rw [pc_len]; rfl) ?_ (pc_one [y]) (by unfold maxLen; omega) (by omega) hB ?_
  · intro j u hj
    have e : pc [y] = pcl y := by simp [pc]
    rw [e] at hj
    exact hnew j u hj
  · intro v' w1 hown' hgr _
    refine h v' w1 ?_ ((Below.refl _ _).grown hgr hB (fun k hk => (hown.lt k hk).1))
    unfold OwnP
    rw [pc_app, List.length_append]
    exact hown'
theorem new_oneP {wr : World} {s : Nat} (e : wr.heap.size = s) (y : PtP) : ∀ j u, (pcl y)[j]? = some u → (wr.alloc (.cells #[.int .i64 y.1.1, .int .i64 y.1.2.1, .int .i64 y.1.2.2, .int .i64 y.2.1.1, .int .i64 y.2.1.2, .int .i64 y.2.2.1, .int .i64 y.2.2.2] 35)).cell? ((⟨s, 0, none⟩ : Addr).add j) = some u := by
  subst e
  intro j u hj
  have e : (⟨wr.heap.size, 0, none⟩ : Addr).add j = ⟨wr.heap.size, j, none⟩ := by rw [Go.WideShapes.add_plain, Nat.zero_add]
  rw [e, World.cell?_alloc_mark, ← Array.getElem?_toList]
  exact hj
end Go.Proofs.YtkjnhcnbbojajaaDoor

namespace Go.Proofs.YtkjnhcnbbojajaaDoor
open Go.RowKit

/-- The parts of a message, or why there are none. -/
def psV (d : List Nat) : Int × List PtP := if 400 < d.length then (2, []) else (0, adV d 2 0 d.length (-1) 0 [])
/-- How a reading of all parts ends. -/
def PsEnd (r : Int × List PtP) (w : World) (e : Ending) (w' : World) : Prop := ∃ v, e = .returned (.agg #[.int .i64 r.1, v]) ∧ OwnP w' w.heap.size v r.2 ∧ Below w.heap.size w w'

set_option maxHeartbeats 3200000 in
set_option maxRecDepth 100000 in
theorem parseParts_any (b m : Nat) (d : List Nat) (w : World) (hr : Rd w (some ⟨b, 0, none⟩) d) (hT : TabC w) (hB : IsB d) (hl : d.length = m) :
    Calls Tryd.prog 10 #[.slice (some ⟨b, 0, none⟩) m m] w (PsEnd (psV d) w) := by
  by_cases h4 : 400 < m
  · have h4' : (400 : Int) < (m : Int) := by omega
    have HM : Hid (psV d = (2, [])) := if_pos (by omega)
    go_enter Tryd.func10, Tryd.ntmps10
    go_wp2
    go_returns
    rw [HM.out]
    exact ⟨_, rfl, OwnP.nil _ _, by go_grown⟩
  · have h4' : ¬ (400 : Int) < (m : Int) := by omega
    have HM : Hid (psV d = (0, adV d 2 0 m (-1) 0 [])) := by show _ = _; unfold psV; rw [if_neg (by omega), hl]
    generalize psV d = r at *
    have hm : m ≤ 400 := by omega
    have HRd := read_any b m d w hr hT hB hl hm 2 (Nat.le_refl _)
    go_enter Tryd.func10, Tryd.ntmps10
    have HRH : Hid (∀ (R P fr tt : Nat) (u nu : Int) (v : Value) (l : List (Nat × PtP)) (w1 : World), fr ≤ tt → tt ≤ m → RSt w w1 R b m v l → l.length ≤ 8 → w.heap.size ≤ P → PtAt w1 P 0 0 0 0 0 u nu → (∀ p ∈ l, p.1 ≠ P) → Calls Tryd.prog 36 #[.pointer (some ⟨R, 0, none⟩), .agg #[.int .i64 (fr : Int), .int .i64 (tt : Int)], .pointer (some ⟨P, 0, none⟩), .int .i64 (3 - ((2 : Nat) : Int))] w1 (RdEnd w R b m P (adV d 2 fr tt u nu (l.map (·.2))) w1)) := HRd
    clear HRd
    go_wp2_with fail
    have hX : Below w.heap.size w (((w.alloc (.cells #[.int .i64 0, .slice none 0 0] 32)).alloc (.cells #[.slice (some ⟨b, 0, none⟩) m m, .slice none 0 0] 63)).alloc (.cells #[.int .i64 0, .int .i64 0, .int .i64 0, .int .i64 0, .int .i64 0, .int .i64 (-1), .int .i64 0] 35)) := (((Below.refl _ w).alloc (Nat.le_refl _) _).alloc (by simp) _).alloc (by simp; omega) _
    have hA : (((w.alloc (.cells #[.int .i64 0, .slice none 0 0] 32)).alloc (.cells #[.slice (some ⟨b, 0, none⟩) m m, .slice none 0 0] 63)).alloc (.cells #[.int .i64 0, .int .i64 0, .int .i64 0, .int .i64 0, .int .i64 0, .int .i64 (-1), .int .i64 0] 35)).heap[w.heap.size]? = some (.cells #[.int .i64 0, .slice none 0 0] 32 (0, 0)) := (Below.heap_alloc _ _ _ (by simp; omega)).trans ((Below.heap_alloc _ _ _ (by simp)).trans (heap_alloc_new w _))
    have hR0 : RdrAt (((w.alloc (.cells #[.int .i64 0, .slice none 0 0] 32)).alloc (.cells #[.slice (some ⟨b, 0, none⟩) m m, .slice none 0 0] 63)).alloc (.cells #[.int .i64 0, .int .i64 0, .int .i64 0, .int .i64 0, .int .i64 0, .int .i64 (-1), .int .i64 0] 35)) (w.heap.size + 1) b m (.slice none 0 0) := by
      have h := heap_alloc_new (w.alloc (.cells #[.int .i64 0, .slice none 0 0] 32)) (.cells #[.slice (some ⟨b, 0, none⟩) m m, .slice none 0 0] 63)
      rw [World.size_alloc] at h
      exact (Below.heap_alloc _ _ _ (by simp)).trans h
    have hp0 : PtAt (((w.alloc (.cells #[.int .i64 0, .slice none 0 0] 32)).alloc (.cells #[.slice (some ⟨b, 0, none⟩) m m, .slice none 0 0] 63)).alloc (.cells #[.int .i64 0, .int .i64 0, .int .i64 0, .int .i64 0, .int .i64 0, .int .i64 (-1), .int .i64 0] 35)) (w.heap.size + 1 + 1) 0 0 0 0 0 (-1) 0 := by
      have h := heap_alloc_new ((w.alloc (.cells #[.int .i64 0, .slice none 0 0] 32)).alloc (.cells #[.slice (some ⟨b, 0, none⟩) m m, .slice none 0 0] 63)) (.cells #[.int .i64 0, .int .i64 0, .int .i64 0, .int .i64 0, .int .i64 0, .int .i64 (-1), .int .i64 0] 35)
      rw [World.size_alloc, World.size_alloc] at h
      exact h
    have hXz : (((w.alloc (.cells #[.int .i64 0, .slice none 0 0] 32)).alloc (.cells #[.slice (some ⟨b, 0, none⟩) m m, .slice none 0 0] 63)).alloc (.cells #[.int .i64 0, .int .i64 0, .int .i64 0, .int .i64 0, .int .i64 0, .int .i64 (-1), .int .i64 0] 35)).heap.size = w.heap.size + 1 + 1 + 1 := by simp
    generalize (((w.alloc (.cells #[.int .i64 0, .slice none 0 0] 32)).alloc (.cells #[.slice (some ⟨b, 0, none⟩) m m, .slice none 0 0] 63)).alloc (.cells #[.int .i64 0, .int .i64 0, .int .i64 0, .int .i64 0, .int .i64 0, .int .i64 (-1), .int .i64 0] 35)) = X at *
    have HC := HRH.out (w.heap.size + 1) (w.heap.size + 1 + 1) 0 m (-1) 0 (.slice none 0 0) [] X (Nat.zero_le _) (Nat.le_refl _) ⟨hX, by omega, hR0, World.ownsRow_nil _ _ _ _, fun p hp => by cases hp⟩ (by simp) (by omega) hp0 (fun p hp => by cases hp)
    rw [show (3 : Int) - ((2 : Nat) : Int) = 1 from rfl] at HC
    refine HC.mono ?_
    rintro e w1 ⟨v1, l1, rfl, S1, hm1, hfr1⟩
    have hA1 : w1.heap[w.heap.size]? = some (.cells #[.int .i64 0, .slice none 0 0] 32 (0, 0)) := (hfr1.2 w.heap.size (by omega) (by omega) (by omega) (fun c fz e => by rw [hA] at e; simp at e)).trans hA
    have hl1 : l1.length ≤ 8 := by
      have h := adV_le d 2 0 m (-1) 0 [] (by simp)
      simp only [List.map_nil] at hm1
      rw [← hm1] at h
      simpa using h
    simp only [List.map_nil] at hm1
    have HM1 : Hid (r = (0, l1.map (·.2))) := by show _ = _; rw [HM.out, hm1]
    clear HM hm1 HC HRH hR0 hp0 hA hfr1 hX hXz
    obtain ⟨a1, c1, hv1, -, -⟩ := OwnQ.form S1.2.2.2.1
    have hlm : (l1.map (·.1)).length = l1.length := by simp
    rw [hlm] at hv1
    subst hv1
    obtain ⟨q0, q1⟩ := S1.2.2.1.cells
    have hrd1 := S1.2.2.2.1.rd.2
    have hbw1 := S1.1
    have hwz : w.heap.size < w1.heap.size := (Array.getElem?_eq_some_iff.1 hA1).1
    have HPt : Hid (∀ p ∈ l1, PtV w1 p.1 p.2) := fun p hp => (S1.2.2.2.2 p hp).2
    clear S1
    go_wp2
    go_loopw [4, 22] (fun v c wr => ∃ k : Nat, k ≤ l1.length ∧ c = .int .i64 k ∧ OwnP wr w1.heap.size v ((l1.take k).map (·.2)) ∧ Below w1.heap.size w1 wr) (fun _ c _ => l1.length - (intOf c).toNat)
    case atStart => exact ⟨0, Nat.zero_le _, rfl, OwnP.nil _ _, Below.refl _ _⟩
    case round =>
      obtain ⟨k, hk, rfl, hown, hbel⟩ := hrel
      obtain ⟨av, cv, hv, -, -⟩ := hown.form
      have hlk : ((l1.take k).map (·.2)).length = k := by rw [List.length_map, List.length_take]; omega
      rw [hlk] at hv
      subst hv
      have hz := hbel.size
      by_cases hkn : k < l1.length
      · have hki : (k : Int) < (l1.length : Int) := by omega
        have hk8 : (k : Int) < 8 := by omega
        obtain ⟨g, off, rfl, hglt, hcell⟩ := hrd1.at_ (by rw [hlm]; omega)
        have hn : nthQ (l1.map (·.1)) k = (l1[k]).1 := by rw [nthQ_get (by rw [hlm]; exact hkn)]; simp
        have hcp : wr.cell? ⟨g, off + k, none⟩ = some (.pointer (some ⟨(l1[k]).1, 0, none⟩)) := by
          rw [hbel.cell (p := ⟨g, off + k, none⟩) hglt, hcell k (by rw [hlm]; exact hkn), hn]
        have hpt := HPt.out l1[k] (List.getElem_mem _)
        have htk : (l1.take (k + 1)).map (·.2) = (l1.take k).map (·.2) ++ [(l1[k]).2] := by rw [List.take_succ_eq_append_getElem hkn, List.map_append]; rfl
        generalize l1[k] = pk at *
        obtain ⟨P, y⟩ := pk
        dsimp only at hcp hpt htk
        have hpr : PtV wr P y := PtAt.kept hpt (hbel.block P hpt.lt)
        obtain ⟨c0, c1, c2, c3, c4, c5, c6⟩ := PtAt.cells hpr
        have HT2 : Hid (_) := htk
        clear hpt hpr htk hn hcell
        go_wp2_with (at_builtin; refine wpList_appP rfl _ _ rfl w1.heap.size _ _ rfl (hown.alloc _) ⟨wr.heap.size, 0, none⟩ y rfl (new_oneP rfl y) (by rw [hlk]; omega) (by simp; omega) ?_; intro v' w2 hown' hb')
        go_roundw
        case rel => exact ⟨k + 1, by omega, by go_num, by rw [HT2.out]; exact hown', hbel.trans (((Below.refl _ _).alloc hz _).trans hb')⟩
        case measure => simp [intOf]; omega
      · have hki : ¬ (k : Int) < (l1.length : Int) := by omega
        have hke : l1.take k = l1 := List.take_of_length_le (by omega)
        rw [hke] at hown
        have hAr : wr.heap[w.heap.size]? = some (.cells #[.int .i64 0, .slice none 0 0] 32 (0, 0)) := (hbel.block w.heap.size hwz).trans hA1
        have a0 : wr.cell? ⟨w.heap.size, 0, none⟩ = some (.int .i64 0) := by simp [World.cell?, hAr]
        have a1' : wr.cell? ⟨w.heap.size, 1, none⟩ = some (.slice none 0 0) := by simp [World.cell?, hAr]
        have b0 : wr.frozen? ⟨w.heap.size, 0, none⟩ = false := by simp [World.frozen?, hAr]
        have b1 : wr.frozen? ⟨w.heap.size, 1, none⟩ = false := by simp [World.frozen?, hAr]
        obtain ⟨k0, k1⟩ := res_cells a0 a1' (.int .i64 0) (.slice av k cv)
        go_wp2
        refine bodyPost_ret (v := .agg #[.int .i64 0, .slice av k cv]) (by simp [results, Tryd.results10, go_sem, k0, k1]) rfl ?_
        rw [HM1.out]
        refine ⟨_, rfl, ((hown.kept _ (by simp; omega) _).kept _ (by simp; omega) _).low (by omega), ?_⟩
        exact ((hbw1.trans (hbel.mono (by omega))).setCell (p := ⟨w.heap.size, 0, none⟩) (Nat.le_refl _) _).setCell (p := ⟨w.heap.size, 1, none⟩) (Nat.le_refl _) _
end Go.Proofs.YtkjnhcnbbojajaaDoor

namespace Go.Proofs.YtkjnhcnbbojajaaDoor
open Go.RowKit

end Go.Proofs.YtkjnhcnbbojajaaDoor

namespace Go.Proofs.YtkjnhcnbbojajaaDoor
open Go.RowKit

/-- The digits of a number ahead of a text. -/
def dgt (k : Nat) (out : List Nat) : List Nat := if _h : k = 0 then out else dgt (k / 10) ((48 + k % 10) :: out)
termination_by k
decreasing_by omega
theorem dgt_zero (out : List Nat) : dgt 0 out = out := by rw [dgt, dif_pos rfl]
theorem dgt_step {k : Nat} (h : k ≠ 0) (out : List Nat) : dgt k out = dgt (k / 10) ((48 + k % 10) :: out) := by rw [dgt, dif_neg h]
/-- The mark of a number from 1 on. -/
def mtx (k : Nat) : ByteArray := str (109 :: dgt k [])

theorem str_plus (a b : List Nat) : str a ++ str b = str (a ++ b) := by
  apply ByteArray.ext
  rw [ByteArray.data_append]
  simp [str]

theorem ownRow_below {w w' : World} {B C e size n : Nat} {v : Value} {xs : List Value} (h : w.ownsRow B e size v n xs) (hb : Below C w w') (hC : w.heap.size ≤ C) : w'.ownsRow B e size v n xs := by
  refine ⟨h.1, ?_⟩
  rcases h.2 with h' | ⟨g, cap, cur, h1, h2, h3, h4⟩
  · exact .inl h'
  · refine .inr ⟨g, cap, cur, h1, h2, ?_, h4⟩
    have hg : g < w.heap.size := by
      rcases Nat.lt_or_ge g w.heap.size with hlt | hge
      · exact hlt
      · simp [Array.getElem?_eq_none hge] at h3
    rw [hb.block g (by omega)]; exact h3
theorem grow_below {w w1 w2 : World} {row : Option Nat} (h : w.grownBy w1 row) (k : Below w1.heap.size w1 w2) : w.grownBy w2 row :=
  ⟨k.os.trans h.os, k.tape.trans h.tape, k.output.trans h.output, Nat.le_trans h.size k.size, fun g hg hne => (k.block g (Nat.lt_of_lt_of_le hg h.size)).trans (h.block g hg hne)⟩
theorem grow_then {w w1 w2 : World} {row : Option Nat} (h : w.grownBy w1 row) (k : w1.grownBy w2 row) : w.grownBy w2 row :=
  ⟨k.os.trans h.os, k.tape.trans h.tape, k.output.trans h.output, Nat.le_trans h.size k.size, fun g hg hne => (k.block g (Nat.lt_of_lt_of_le hg h.size) hne).trans (h.block g hg hne)⟩

/-- The marks: two for each of n fields, from k on. -/
def marksF (n k : Nat) : List FldP := (List.range n).map fun i => (mtx (k + 2 * i), mtx (k + 2 * i + 1))
theorem marksF_len (n k : Nat) : (marksF n k).length = n := by simp [marksF]
theorem marksF_nth {n k i : Nat} (h : i < n) : nthF (marksF n k) i = (mtx (k + 2 * i), mtx (k + 2 * i + 1)) := by
  rw [nthF_get (by rw [marksF_len]; exact h)]; simp [marksF]
def mhalfF (l : List FldP) (k i : Nat) : List FldP := marksF i k ++ l.drop i
theorem mhalfF_zero (l : List FldP) (k : Nat) : mhalfF l k 0 = l := by simp [mhalfF, marksF]
theorem mhalfF_all (l : List FldP) (k : Nat) : mhalfF l k l.length = marksF l.length k := by simp [mhalfF]
theorem mhalfF_len (l : List FldP) (k i : Nat) (h : i ≤ l.length) : (mhalfF l k i).length = l.length := by simp [mhalfF, marksF_len]; omega
theorem mhalfF_set (l : List FldP) (k i : Nat) (h : i < l.length) : (mhalfF l k i).set i (mtx (k + 2 * i), mtx (k + 2 * i + 1)) = mhalfF l k (i + 1) := by
  have e : marksF (i + 1) k = marksF i k ++ [(mtx (k + 2 * i), mtx (k + 2 * i + 1))] := by simp [marksF, List.range_succ]
  unfold mhalfF
  rw [e, List.set_append, marksF_len, if_neg (Nat.lt_irrefl i), Nat.sub_self, drop_consF l i h]
  simp

end Go.Proofs.YtkjnhcnbbojajaaDoor
