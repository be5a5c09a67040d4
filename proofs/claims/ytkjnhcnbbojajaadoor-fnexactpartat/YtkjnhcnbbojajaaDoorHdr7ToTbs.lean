/- A header read, the model's: by a plain function · A header read, the model's: the walk · ParseHeader, the model's, at every slice of bytes: by a plain function · The lines of a header, the program's: the line at a place, what kind it is, the field that it tells · Tables of texts at package level: what a row lists of one gives its cells; no program in it. -/
import Derived.Test.YtkjnhcnbbojajaaDoorHdr6
import Derived.Test.YtkjnhcnbbojajaaDoorFdpToHdr2
import Derived.Test.YtkjnhcnbbojajaaDoorShf
import Derived.Test.YtkjnhcnbbojajaaDoorMemToMrk0
import Derived.Lib.LaidTab
import Derived.LaidMore
namespace Go.Proofs.YtkjnhcnbbojajaaDoor
open Go.RowKit

theorem l4Line_any (b off n cap : Nat) (l : List FldP) (t : List Nat) (w : World) (hl : l.length = n) (hr : RdF w (some ⟨b, off, none⟩) l) (hn : n ≤ 1048000) (hB : IsB t) (ht0 : 0 < t.length) (ht : t.length ≤ 1048576) (hfit : Fit l) :
    Calls Tryd.prog 103 #[.slice (some ⟨b, off, none⟩) n cap, .string (str t)] w fun e w' => LnEnd (lnV l t) w e w' := by
  by_cases hx : nth t 0 = 32 ∨ nth t 0 = 9
  · cases n with
    | zero =>
      rw [lnV_first hx hl]
      exact l4Line_first _ cap t w hB ht0 hx
    | succ n =>
      rw [lnV_on hx (by omega)]
      exact l4Line_on b off n cap l t w hl hr (by omega) hB ht0 ht hfit hx
  · have h := l4Line_new b off n cap l t w hl hr hn hB ht0 ht hx
    unfold lnV
    rw [if_neg hx]
    exact h

/-- The lines of a header, from a place on: the fields, and the place behind. -/
def prH (d : List Nat) : Nat → Nat → List FldP → Option (List FldP × Nat)
  | 0, k, fs => some (fs, k)
  | f + 1, k, fs => if k < d.length then (if eoL d k = k then some (fs, k + 1) else match lnV fs ((d.take (eoL d k)).drop k) with
    | none => none
    | some fs' => prH d f (if eoL d k < d.length then eoL d k + 1 else eoL d k) fs') else some (fs, k)
theorem prH_end {d : List Nat} {f k : Nat} {fs : List FldP} (h : ¬ k < d.length) : prH d f k fs = some (fs, k) := by
  cases f with
  | zero => rfl
  | succ f => unfold prH; rw [if_neg h]
theorem prH_stop {d : List Nat} {f k : Nat} {fs : List FldP} (h : k < d.length) (he : eoL d k = k) : prH d (f + 1) k fs = some (fs, k + 1) := by
  unfold prH; rw [if_pos h, if_pos he]
theorem prH_bad {d : List Nat} {f k : Nat} {fs : List FldP} (h : k < d.length) (he : eoL d k ≠ k) (hv : lnV fs ((d.take (eoL d k)).drop k) = none) : prH d (f + 1) k fs = none := by
  unfold prH; rw [if_pos h, if_neg he, hv]
theorem prH_on {d : List Nat} {f k : Nat} {fs fs' : List FldP} (h : k < d.length) (he : eoL d k ≠ k) (hv : lnV fs ((d.take (eoL d k)).drop k) = some fs') :
    prH d (f + 1) k fs = prH d f (if eoL d k < d.length then eoL d k + 1 else eoL d k) fs' := by
  conv => lhs; unfold prH
  rw [if_pos h, if_neg he, hv]
/-- Fields that are no longer than the bytes read. -/
def FitK (k : Nat) (l : List FldP) : Prop := l.length ≤ k ∧ ∀ p ∈ l, p.1.size ≤ k ∧ p.2.size ≤ k
theorem lnV_fit {fs fs' : List FldP} {t : List Nat} {k : Nat} (ht : 0 < t.length) (h : FitK k fs) (hv : lnV fs t = some fs') : FitK (k + t.length) fs' ∧ 0 < fs'.length := by
  obtain ⟨h1, h2⟩ := h
  unfold lnV at hv
  split at hv
  · split at hv
    · cases hv
    · rename_i h0
      cases hv
      unfold goOn
      refine ⟨⟨by rw [List.length_set]; omega, fun p hp => ?_⟩, by rw [List.length_set]; omega⟩
      rcases List.mem_or_eq_of_mem_set hp with hm | rfl
      · have := h2 p hm; omega
      · have hm := h2 (nthF fs (fs.length - 1)) (by rw [nthF_get (by omega)]; exact List.getElem_mem _)
        refine ⟨by have := hm.1; simp only; omega, ?_⟩
        simp only [str_size, List.length_append, bts_len]
        omega
  · split at hv
    · rename_i hc
      cases hv
      refine ⟨⟨by rw [List.length_append, List.length_cons, List.length_nil]; omega, fun p hp => ?_⟩, by rw [List.length_append, List.length_cons]; omega⟩
      rcases List.mem_append.1 hp with hm | hm
      · have := h2 p hm; omega
      · rw [List.mem_singleton.1 hm]
        simp only [fdL, str_size, List.length_take]
        have ho : (oneOff (t.drop (clN t + 1))).length ≤ t.length := by
          unfold oneOff
          split
          · rw [List.length_drop, List.length_drop]; omega
          · rw [List.length_drop]; omega
        omega
    · cases hv
end Go.Proofs.YtkjnhcnbbojajaaDoor

namespace Go.Proofs.YtkjnhcnbbojajaaDoor
open Go.RowKit

/-- How a header's answer lies. -/
def PrEnd (o : Option (List FldP × Nat)) (w : World) (e : Ending) (w' : World) : Prop := Below w.heap.size w w' ∧
  match o with
  | some (fs, k) => ∃ v, e = .returned (.tuple #[v, .int .i64 (k : Int), .bool (fdF fs == 0)]) ∧ OwnF w' w.heap.size v fs
  | none => e = .returned (.tuple #[.slice none 0 0, .int .i64 0, .bool false])
theorem FitK.fit {k : Nat} {l : List FldP} (h : FitK k l) (hk : k ≤ 1048576) : Fit l := fun p hp => by have := h.2 p hp; omega
theorem FitK.mono {k m : Nat} {l : List FldP} (h : FitK k l) (hk : k ≤ m) : FitK m l := ⟨Nat.le_trans h.1 hk, fun p hp => by have := h.2 p hp; omega⟩
theorem rd_takeH {w : World} {a : Option Addr} {l : List Nat} (h : Rd w a l) (k : Nat) : Rd w a (l.take k) := by
  rcases h with h | ⟨b, off, e, hlt, hc⟩
  · subst h; exact .inl (by simp)
  · refine .inr ⟨b, off, e, hlt, fun i hi => ?_⟩
    rw [List.length_take] at hi
    rw [hc i (by omega), nth_get (by omega), nth_get (by rw [List.length_take]; omega), List.getElem_take]

set_option maxHeartbeats 3200000 in
set_option maxRecDepth 100000 in
theorem l4Parse_any (a : Option Addr) (n cap : Nat) (d : List Nat) (w : World) (hl : d.length = n) (hr : Rd w a d) (hB : IsB d) (hn : n ≤ 1048000) (hcap : n ≤ cap) :
    Calls Tryd.prog 84 #[.slice a n cap] w fun e w' => PrEnd (prH d (n + 1) 0 []) w e w' := by
  have HL : Hid (d.length = n) := hl
  have hb0 : Below w.heap.size w (w.alloc (.cells #[] 129)) := (Below.refl _ _).alloc (Nat.le_refl _) _
  have ho0 := OwnF.lit0 w w.heap.size (Nat.le_refl _)
  clear hl
  go_enter Tryd.func84, Tryd.ntmps84
  go_wp2
  go_loopw [5, 6] (fun v i wr => ∃ (k f g c : Nat) (fs : List FldP), k ≤ n ∧ i = .int .i64 k ∧ n + 1 ≤ f + k ∧ v = .slice (some ⟨g, 0, none⟩) fs.length c ∧ OwnF wr w.heap.size v fs ∧ FitK k fs ∧ Hid (prH d (n + 1) 0 [] = prH d f k fs) ∧ Below w.heap.size w wr) (fun _ i _ => n - (intOf i).toNat)
  case atStart => exact ⟨0, n + 1, w.heap.size, 0, [], Nat.zero_le _, rfl, by omega, rfl, ho0, ⟨Nat.le_refl _, fun p hp => by cases hp⟩, rfl, hb0⟩
  case round =>
    obtain ⟨k, f, g, c, fs, hk, rfl, hf, rfl, hown, hfit, HP, hbel⟩ := hrel
    have hrF := hown.rd.2
    by_cases hkn : k < n
    · have hki : (k : Int) < (n : Int) := by omega
      have hkd : k < d.length := by have := HL.out; omega
      obtain ⟨f, rfl⟩ : ∃ f', f = f' + 1 := ⟨f - 1, by omega⟩
      have hge := eoL_ge d k
      have hle := eoL_le (l := d) (i := k) (by omega)
      rw [HL.out] at hle
      have HE := fun wx (hbx : Below w.heap.size w wx) => l4End_any a n cap d k wx HL.out (hr.below hbx) hB (by omega) hk
      by_cases he : eoL d k = k
      · have HQ : Hid (prH d (n + 1) 0 [] = some (fs, k + 1)) := HP.out.trans (prH_stop hkd he)
        have HF := fun wx (hbx : RdF wx (some ⟨g, 0, none⟩) fs) => l4Fault_any (some ⟨g, 0, none⟩) fs.length c fs wx rfl hbx (by have := hfit.1; omega) (hfit.fit (by omega))
        go_wp2_with fail
        refine (HE _ hbel).mono ?_
        rintro e w1 ⟨rfl, rfl⟩
        rw [he]
        go_wp2_with fail
        refine (HF _ hrF).mono ?_
        rintro e w1 ⟨rfl, hb1⟩
        have hown1 := hown.below hb1 (Nat.le_refl _)
        have hbel1 := hbel.trans (hb1.mono hbel.size)
        clear HF hb1
        go_wp2
        refine bodyPost_ret (v := .tuple #[.slice (some ⟨g, 0, none⟩) fs.length c, .int .i64 ((k : Int) + 1), .bool (fdF fs == 0)]) (by simp [results, Tryd.results84, go_sem]) rfl ?_
        rw [HQ.out]
        exact ⟨hbel1, _, rfl, hown1⟩
      · have hlt : k < eoL d k := by omega
        have htl : ((d.take (eoL d k)).drop k).length = eoL d k - k := by rw [List.length_drop, List.length_take]; have := HL.out; omega
        have hBt : IsB ((d.take (eoL d k)).drop k) := isB_drop (isB_take hB _) _
        obtain ⟨b, off, rfl, hblt, hcell⟩ := hr.at_ (by omega)
        have hst := fun c' => run_str (cap := c') (n := eoL d k - k) htl ((rd_takeH (hr.below hbel) (eoL d k)).drop k)
        have HV := fun wx (hx : RdF wx (some ⟨g, 0, none⟩) fs) => l4Line_any g 0 fs.length c fs ((d.take (eoL d k)).drop k) wx rfl hx (by have := hfit.1; omega) hBt (by omega) (by omega) (hfit.fit (by omega))
        have HN : Hid (lnV fs ((d.take (eoL d k)).drop k) = none → prH d (n + 1) 0 [] = none) := fun h => HP.out.trans (prH_bad hkd he h)
        have HS : Hid (∀ fs', lnV fs ((d.take (eoL d k)).drop k) = some fs' → prH d (n + 1) 0 [] = prH d f (if eoL d k < d.length then eoL d k + 1 else eoL d k) fs') := fun fs' h => HP.out.trans (prH_on hkd he h)
        have HK : Hid (∀ fs', lnV fs ((d.take (eoL d k)).drop k) = some fs' → FitK (eoL d k) fs' ∧ 0 < fs'.length) := fun fs' h => by
          have := lnV_fit (by omega) hfit h
          rw [htl, show k + (eoL d k - k) = eoL d k by omega] at this
          exact this
        generalize (d.take (eoL d k)).drop k = t at *
        rw [HL.out] at HS
        generalize eoL d k = q at *
        have q0 : (k : Int) ≤ (q : Int) := by omega
        have q1 : (q : Int) ≤ (cap : Int) := by omega
        have q2 : ((q : Int) == (k : Int)) = false := by simp; omega
        clear hcell HP
        go_wp2_with fail
        refine (HE _ hbel).mono ?_
        rintro e w1 ⟨rfl, rfl⟩
        go_wp2_with fail
        refine (HV _ hrF).mono ?_
        intro e w1 hend
        cases ho : lnV fs t with
        | none =>
          rw [ho] at hend
          obtain ⟨hb1, rfl⟩ := hend
          have HQ : Hid (_) := HN.out ho
          have hbel1 := hbel.trans (hb1.mono hbel.size)
          clear HN HS HK HV HE hb1
          go_wp2
          refine bodyPost_ret (v := .tuple #[.slice none 0 0, .int .i64 0, .bool false]) (by simp [results, Tryd.results84, go_sem]) rfl ?_
          rw [HQ.out]
          exact ⟨hbel1, rfl⟩
        | some fs' =>
          rw [ho] at hend
          obtain ⟨hb1, v, rfl, hown1⟩ := hend
          have HQ : Hid (_) := HS.out fs' ho
          obtain ⟨hfit1, hpos⟩ := HK.out fs' ho
          have hbel1 := hbel.trans (hb1.mono hbel.size)
          obtain ⟨g', c', rfl, -⟩ := hown1.at_ hpos
          have hown2 := hown1.low hbel.size
          clear HN HS HK HV HE hb1 hst
          by_cases hq : q < n
          · have hq' : (q : Int) < (n : Int) := by omega
            have HM : Hid (prH d (n + 1) 0 [] = prH d f (q + 1) fs') := by
              have h := HQ.out
              rw [if_pos hq] at h
              exact h
            clear HQ
            go_wp2
            go_roundw
            case rel => exact ⟨q + 1, f, g', c', fs', by omega, by go_num, by omega, rfl, hown2, hfit1.mono (by omega), HM, hbel1⟩
            case measure => simp [intOf]; omega
          · have hq' : ¬ (q : Int) < (n : Int) := by omega
            have HM : Hid (prH d (n + 1) 0 [] = prH d f q fs') := by
              have h := HQ.out
              rw [if_neg hq] at h
              exact h
            clear HQ
            go_wp2
            go_roundw
            case rel => exact ⟨q, f, g', c', fs', by omega, rfl, by omega, rfl, hown2, hfit1, HM, hbel1⟩
            case measure => simp [intOf]; omega
    · have hki : ¬ (k : Int) < (n : Int) := by omega
      have HQ : Hid (prH d (n + 1) 0 [] = some (fs, k)) := HP.out.trans (prH_end (by have := HL.out; omega))
      have HF := fun wx (hbx : RdF wx (some ⟨g, 0, none⟩) fs) => l4Fault_any (some ⟨g, 0, none⟩) fs.length c fs wx rfl hbx (by have := hfit.1; omega) (hfit.fit (by omega))
      go_wp2_with fail
      refine (HF _ hrF).mono ?_
      rintro e w1 ⟨rfl, hb1⟩
      have hown1 := hown.below hb1 (Nat.le_refl _)
      have hbel1 := hbel.trans (hb1.mono hbel.size)
      clear HF hb1
      go_wp2
      refine bodyPost_ret (v := .tuple #[.slice (some ⟨g, 0, none⟩) fs.length c, .int .i64 (k : Int), .bool (fdF fs == 0)]) (by simp [results, Tryd.results84, go_sem]) rfl ?_
      rw [HQ.out]
      exact ⟨hbel1, _, rfl, hown1⟩
end Go.Proofs.YtkjnhcnbbojajaaDoor

namespace Go.Proofs.YtkjnhcnbbojajaaDoor
open Go.RowKit

/-- What ParseHeader answers. -/
def phV (d : List Nat) : Int × Nat × List FldP := if 400 < d.length then (2, 0, []) else match prH d (d.length + 1) 0 [] with
  | none => (1, 0, [])
  | some (fs, k) => if fdF fs = 0 then (0, k, fs) else (1, 0, [])
theorem phV_many {d : List Nat} (h : 400 < d.length) : phV d = (2, 0, []) := if_pos h
theorem phV_none {d : List Nat} (h : ¬ 400 < d.length) (h1 : prH d (d.length + 1) 0 [] = none) : phV d = (1, 0, []) := by unfold phV; rw [if_neg h, h1]
theorem phV_bad {d : List Nat} {fs : List FldP} {k : Nat} (h : ¬ 400 < d.length) (h1 : prH d (d.length + 1) 0 [] = some (fs, k)) (h2 : fdF fs ≠ 0) : phV d = (1, 0, []) := by
  unfold phV; rw [if_neg h, h1]; exact if_neg h2
theorem phV_ok {d : List Nat} {fs : List FldP} {k : Nat} (h : ¬ 400 < d.length) (h1 : prH d (d.length + 1) 0 [] = some (fs, k)) (h2 : fdF fs = 0) : phV d = (0, k, fs) := by
  unfold phV; rw [if_neg h, h1]; exact if_pos h2
/-- An answer with fields. -/
def HdrEnd (r : Int × Nat × List FldP) (w : World) (e : Ending) (w' : World) : Prop := ∃ v, e = .returned (.agg #[.int .i64 r.1, .int .i64 (r.2.1 : Int), v]) ∧ OwnF w' w.heap.size v r.2.2 ∧ Below w.heap.size w w'
/-- The block of a result of three cells that a function lays first, far on. -/
theorem res_block3 {w W wr : World} {c0 c1 c2 : Value} {t : TypeId} (hW : w.alloc (.cells #[c0, c1, c2] t) = W) (hb : Below (w.heap.size + 1) W wr) :
    (wr.cell? ⟨w.heap.size, 0, none⟩ = some c0 ∧ wr.cell? ⟨w.heap.size, 1, none⟩ = some c1 ∧ wr.cell? ⟨w.heap.size, 2, none⟩ = some c2) ∧ wr.frozen? ⟨w.heap.size, 0, none⟩ = false ∧ wr.frozen? ⟨w.heap.size, 1, none⟩ = false ∧ wr.frozen? ⟨w.heap.size, 2, none⟩ = false := by
  subst hW
  refine ⟨⟨?_, ?_, ?_⟩, ?_, ?_, ?_⟩
  · rw [hb.cell (p := ⟨w.heap.size, 0, none⟩) (by simp)]; simp
  · rw [hb.cell (p := ⟨w.heap.size, 1, none⟩) (by simp)]; simp
  · rw [hb.cell (p := ⟨w.heap.size, 2, none⟩) (by simp)]; simp
  · rw [hb.frozen (p := ⟨w.heap.size, 0, none⟩) (by simp)]; simp
  · rw [hb.frozen (p := ⟨w.heap.size, 1, none⟩) (by simp)]; simp
  · rw [hb.frozen (p := ⟨w.heap.size, 2, none⟩) (by simp)]; simp
theorem res_cells3 {wr : World} {sz : Nat} {x0 x1 x2 : Value} (h : wr.cell? ⟨sz, 0, none⟩ = some x0 ∧ wr.cell? ⟨sz, 1, none⟩ = some x1 ∧ wr.cell? ⟨sz, 2, none⟩ = some x2) (c t u : Value) :
    (wr.setCell ⟨sz, 0, none⟩ c).cell? ⟨sz, 0, none⟩ = some c ∧ ((wr.setCell ⟨sz, 0, none⟩ c).setCell ⟨sz, 1, none⟩ t).cell? ⟨sz, 1, none⟩ = some t ∧
    (((wr.setCell ⟨sz, 0, none⟩ c).setCell ⟨sz, 1, none⟩ t).setCell ⟨sz, 2, none⟩ u).cell? ⟨sz, 2, none⟩ = some u := by
  obtain ⟨h0, h1, h2⟩ := h
  have h1' : (wr.setCell ⟨sz, 0, none⟩ c).cell? ⟨sz, 1, none⟩ = some x1 := by simp [go_sem, h1]
  have h2' : ((wr.setCell ⟨sz, 0, none⟩ c).setCell ⟨sz, 1, none⟩ t).cell? ⟨sz, 2, none⟩ = some x2 := by simp [go_sem, h2]
  exact ⟨World.cell?_setCell_same _ _ _ h0, World.cell?_setCell_same _ _ _ h1', World.cell?_setCell_same _ _ _ h2'⟩
theorem HdrEnd.put {c : Int} {k : Nat} {w w1 : World} {v : Value} {l : List FldP} (hbel : Below w.heap.size w w1) (hown : OwnF w1 (w.heap.size + 1) v l) (x y z : Value) :
    HdrEnd (c, k, l) w (.returned (.agg #[.int .i64 c, .int .i64 (k : Int), v])) (((w1.setCell ⟨w.heap.size, 0, none⟩ x).setCell ⟨w.heap.size, 1, none⟩ y).setCell ⟨w.heap.size, 2, none⟩ z) :=
  ⟨_, rfl, (((hown.kept _ (by simp) _).kept _ (by simp) _).kept _ (by simp) _).low (by omega), (((hbel.setCell (by simp) _).setCell (by simp) _).setCell (by simp) _)⟩

end Go.Proofs.YtkjnhcnbbojajaaDoor

namespace Go.Proofs.YtkjnhcnbbojajaaDoor
open Go.RowKit

theorem u8_ne {b c : Nat} (hb : b < 256) (hc : c < 256) (h : b ≠ c) : (UInt8.ofNat b == UInt8.ofNat c) = false := by
  rw [beq_eq_false_iff_ne]
  intro e
  have := congrArg UInt8.toNat e
  rw [UInt8.toNat_ofNat', UInt8.toNat_ofNat'] at this
  omega
/-- The place of a byte. -/
theorem idx_nat {c : Nat} (hc : c < 256) {p : Nat → Bool} (hp : ∀ b, p b = decide (b ≠ c)) : ∀ l : List Nat, IsB l → Lib.indexByte (l.map UInt8.ofNat) (UInt8.ofNat c) = if (l.takeWhile p).length < l.length then ((l.takeWhile p).length : Int) else -1
  | [], _ => rfl
  | b :: l, h => by
    have hb := h b (by simp)
    have ih := idx_nat hc hp l (fun x hx => h x (by simp [hx]))
    rw [List.map_cons, Lib.indexByte, List.takeWhile_cons, hp b]
    by_cases e : b = c
    · subst e
      simp
    · rw [u8_ne hb hc e, decide_eq_true e]
      simp only [if_true, List.length_cons, Bool.false_eq_true, if_false]
      by_cases hl : (l.takeWhile p).length < l.length
      · have ih' := ih.trans (if_pos hl)
        rw [ih', if_pos (show (l.takeWhile p).length + 1 < l.length + 1 by omega), if_neg (by simp)]
        omega
      · have ih' := ih.trans (if_neg hl)
        rw [ih', if_neg (show ¬ (l.takeWhile p).length + 1 < l.length + 1 by omega), if_pos (by simp)]
theorem str_list (l : List Nat) : (str l).data.toList = l.map UInt8.ofNat := by simp [str]
theorem bytesOf_nat (l : List Nat) : Lib.bytesOf (l.map fun (b : Nat) => (b : Int)) = l.map UInt8.ofNat := by
  unfold Lib.bytesOf
  rw [List.map_map]
  rfl
/-- Where the line feed stands, from a place on. -/
theorem lf_at {d : List Nat} (hB : IsB d) (k : Nat) (hk : k ≤ d.length) : Lib.indexByte (Lib.bytesOf ((d.drop k).map fun (b : Nat) => (b : Int))) 10 = if eoL d k < d.length then ((eoL d k : Nat) : Int) - (k : Int) else -1 := by
  rw [bytesOf_nat]
  have h := idx_nat (c := 10) (by omega) (p := noLf) (fun b => rfl) (d.drop k) (isB_drop hB k)
  have e : (UInt8.ofNat 10) = (10 : UInt8) := rfl
  rw [e] at h
  rw [h, List.length_drop]
  unfold eoL
  by_cases hl : ((d.drop k).takeWhile noLf).length < d.length - k
  · rw [if_pos hl, if_pos (by omega)]; omega
  · rw [if_neg hl, if_neg (by omega)]

/-- Bytes of a slice as numbers. -/
theorem cells_int {w : World} {b off : Nat} {l : List Nat} (hr : Rd w (some ⟨b, off, none⟩) l) (n : Nat) (hn : n ≤ l.length) : ∀ i, i < n → w.cell? ((⟨b, off, none⟩ : Addr).add i) = some (.int .u8 ((l.map fun (x : Nat) => (x : Int)).getD i 0)) := by
  intro i hi
  obtain ⟨b', off', e, -, hc⟩ := hr.at_ (by omega)
  cases e
  rw [Go.WideShapes.add_plain, hc i (by omega), nth, List.getD_eq_getElem?_getD, List.getD_eq_getElem?_getD, List.getElem?_map]
  cases l[i]? <;> rfl
/-- What the search for a line feed answers. -/
theorem lf_call (b off m c k : Nat) (d : List Nat) (w : World) (hB : IsB d) (hk : k ≤ d.length) (hm : d.length - k = m) (hr : Rd w (some ⟨b, off, none⟩) (d.drop k)) :
    Calls Tryd.prog 77 #[.slice (some ⟨b, off, none⟩) m c, .int .u8 10] w fun e w' => e = .returned (.int .i64 (if eoL d k < d.length then ((eoL d k : Nat) : Int) - (k : Int) else -1)) ∧ w' = w := by
  have h := Tryd.bytes_IndexByte_at ⟨b, off, none⟩ m c ((d.drop k).map fun (x : Nat) => (x : Int)) 10 w (by rw [List.length_map, List.length_drop]; exact hm) (cells_int hr m (by rw [List.length_drop]; omega))
  have e : (10 : Int).toNat.toUInt8 = (10 : UInt8) := rfl
  rw [e, lf_at hB k hk] at h
  exact h
theorem take_drop_all {d : List Nat} {k : Nat} (h : eoL d k = d.length) : (d.take (eoL d k)).drop k = d.drop k := by rw [h, List.take_length]

set_option maxHeartbeats 1600000 in
set_option maxRecDepth 100000 in
theorem lineAt_some (b off n cap k : Nat) (d : List Nat) (w : World) (hl : d.length = n) (hr : Rd w (some ⟨b, off, none⟩) d) (hB : IsB d) (hn : n ≤ 1048000) (hcap : n ≤ cap) (hk : k ≤ n) :
    Calls Tryd.prog 67 #[.slice (some ⟨b, off, none⟩) n cap, .int .i64 (k : Int)] w fun e w' => e = .returned (.tuple #[.string (str ((d.take (eoL d k)).drop k)), .int .i64 ((if eoL d k < n then eoL d k + 1 else eoL d k : Nat) : Int)]) ∧ w = w' := by
  have hge := eoL_ge d k
  have hle := eoL_le (l := d) (i := k) (by omega)
  rw [hl] at hle
  have hk1 : (k : Int) ≤ (n : Int) := by omega
  have hk2 : (k : Int) ≤ (cap : Int) := by omega
  by_cases hq : eoL d k < n
  · have hck : ¬ cap = k := by omega
    have HC := lf_call b (off + k) (n - k) (cap - k) k d w hB (by omega) (by omega) (hr.drop k)
    rw [hl, if_pos hq] at HC
    have htl : ((d.take (eoL d k)).drop k).length = eoL d k - k := by rw [List.length_drop, List.length_take]; omega
    have hst := fun c' => run_str (cap := c') (n := eoL d k - k) htl ((rd_takeH hr (eoL d k)).drop k)
    have HI : Hid ((if eoL d k < n then eoL d k + 1 else eoL d k : Nat) = eoL d k + 1) := if_pos hq
    generalize (d.take (eoL d k)).drop k = t at *
    generalize hqq : eoL d k = q at *
    rw [HI.out]
    clear hqq htl HI
    obtain ⟨j, rfl⟩ : ∃ j, q = k + j := ⟨q - k, by omega⟩
    have e1 : ((k + j : Nat) : Int) - (k : Int) = (j : Int) := by omega
    have e2 : k + j - k = j := by omega
    rw [e1] at HC
    rw [e2] at hst
    have q0 : ¬ (j : Int) < 0 := by omega
    have q1 : (k : Int) ≤ (k : Int) + (j : Int) := by omega
    have q2 : (k : Int) + (j : Int) ≤ (cap : Int) := by omega
    rw [show ((k + j + 1 : Nat) : Int) = (k : Int) + (j : Int) + 1 by omega]
    clear e1 e2
    go_enter Tryd.func67, Tryd.ntmps67
    go_wp2_with fail
    refine HC.mono ?_
    rintro e w' ⟨rfl, rfl⟩
    go_wp2
    go_ret2
    exact ⟨rfl, rfl⟩
  · have hqe : eoL d k = n := by omega
    have HI : Hid ((if eoL d k < n then eoL d k + 1 else eoL d k : Nat) = n) := (if_neg hq).trans hqe
    have HT : Hid ((d.take (eoL d k)).drop k = d.drop k) := take_drop_all (by omega)
    have hdl : (d.drop k).length = n - k := by rw [List.length_drop, hl]
    rw [HI.out, HT.out]
    clear HI HT
    by_cases hck : cap = k
    · obtain rfl : n = k := by omega
      subst hck
      have hz : d.drop cap = [] := List.length_eq_zero_iff.1 (by omega)
      have HC := lf_call b off 0 0 cap d w hB (by omega) (by omega) (by rw [hz]; exact .inl rfl)
      rw [if_neg (by omega)] at HC
      have hst := fun c' => run_str (cap := c') (n := 0) (a := some ⟨b, off, none⟩) (w := w) (l := []) rfl (.inl rfl)
      rw [hz]
      clear hz hdl
      go_enter Tryd.func67, Tryd.ntmps67
      go_wp2_with fail
      refine HC.mono ?_
      rintro e w' ⟨rfl, rfl⟩
      go_wp2
      go_ret2
      exact ⟨rfl, rfl⟩
    · have HC := lf_call b (off + k) (n - k) (cap - k) k d w hB (by omega) (by omega) (hr.drop k)
      rw [hl, if_neg hq] at HC
      have hst := fun c' => run_str (cap := c') (n := n - k) hdl (hr.drop k)
      generalize d.drop k = t at *
      clear hdl
      go_enter Tryd.func67, Tryd.ntmps67
      go_wp2_with fail
      refine HC.mono ?_
      rintro e w' ⟨rfl, rfl⟩
      go_wp2
      go_ret2
      exact ⟨rfl, rfl⟩
set_option maxHeartbeats 800000 in
set_option maxRecDepth 100000 in
theorem lineAt_nil (w : World) : Calls Tryd.prog 67 #[.slice none 0 0, .int .i64 0] w fun e w' => e = .returned (.tuple #[.string (str []), .int .i64 0]) ∧ w = w' := by
  have hst := fun c' => run_str (cap := c') (n := 0) (a := none) (w := w) (l := []) rfl (.inl rfl)
  go_enter Tryd.func67, Tryd.ntmps67
  go_wp2_with fail
  refine (Tryd.bytes_IndexByte_nil _ _).mono ?_
  rintro e w' ⟨rfl, rfl⟩
  go_wp2
  go_ret2
  exact ⟨rfl, rfl⟩

/-- A blank or a tab. -/
def btB (c : Nat) : Bool := decide (c = 32 ∨ c = 9)
theorem isBlankOrTab_any (c : Nat) (w : World) (hc : c < 256) : Calls Tryd.prog 109 #[.int .u8 (c : Int)] w fun e w' => e = .returned (.bool (btB c)) ∧ w = w' := by
  go_enter Tryd.func109, Tryd.ntmps109
  go_wp2
  all_goals (go_ret; refine ret_bool ?_; rw [Bool.eq_iff_iff]; unfold btB; simp; try omega)
/-- What kind of line it is. -/
def kdL (t : List Nat) : Int := if t.length = 0 then 1 else if nth t 0 = 32 ∨ nth t 0 = 9 then 2 else if clN t < t.length then 3 else 0
theorem colon_in (t : List Nat) (hB : IsB t) : decide (0 ≤ Lib.indexByte (str t).data.toList 58) = decide (clN t < t.length) := by
  rw [str_list]
  have h := idx_nat (c := 58) (by omega) (p := noCl) (fun b => rfl) t hB
  have e : (UInt8.ofNat 58) = (58 : UInt8) := rfl
  rw [e] at h
  rw [h]
  unfold clN
  by_cases hl : (t.takeWhile noCl).length < t.length
  · rw [if_pos hl, decide_eq_true hl]; exact decide_eq_true (by omega)
  · rw [if_neg hl, decide_eq_false hl]; rfl
theorem colon_at {t : List Nat} (hB : IsB t) (h : clN t < t.length) : Lib.indexByte (str t).data.toList 58 = (clN t : Int) := by
  rw [str_list]
  have h' := idx_nat (c := 58) (by omega) (p := noCl) (fun b => rfl) t hB
  have e : (UInt8.ofNat 58) = (58 : UInt8) := rfl
  rw [e] at h'
  rw [h']
  exact if_pos h
theorem str_ne_nil {t : List Nat} (h : 0 < t.length) : str t ≠ ⟨#[]⟩ := fun e => by
  have := congrArg ByteArray.size e
  rw [str_size] at this
  have h0 : (⟨#[]⟩ : ByteArray).size = 0 := rfl
  omega

theorem str_full {t : List Nat} (h : 0 < t.length) : (str t).toList.isEmpty = false := by
  rw [ByteArray.toList_eq, str_list]
  match t, h with
  | c :: t, _ => rfl

set_option maxHeartbeats 1600000 in
set_option maxRecDepth 100000 in
theorem kindOfLine_any (t : List Nat) (n : Nat) (w : World) (hl : t.length = n) (hB : IsB t) (hn : n ≤ 1048576) : Calls Tryd.prog 95 #[.string (str t)] w fun e w' => e = .returned (.int .i64 (kdL t)) ∧ w = w' := by
  by_cases h0 : n = 0
  · subst h0
    obtain rfl : t = [] := List.length_eq_zero_iff.1 hl
    go_enter Tryd.func95, Tryd.ntmps95
    rw [show str [] = ⟨#[]⟩ from rfl]
    go_wp2
    go_ret
    exact ⟨rfl, rfl⟩
  · have hsz : (str t).size = n := by rw [str_size, hl]
    have hsp : 0 < (str t).size := by omega
    have g0 := str_get hB (i := 0) hsp
    have hx := nth_lt hB 0
    have e0 : (str t).toList.isEmpty = false := str_full (by omega)
    have HC := Tryd.strings_Contains_one (str t) 58 w
    rw [colon_in t hB] at HC
    have HK : Hid (kdL t = if nth t 0 = 32 ∨ nth t 0 = 9 then 2 else if clN t < t.length then 3 else 0) := if_neg (by omega)
    have HB := isBlankOrTab_any (nth t 0) w hx
    generalize nth t 0 = x at *
    by_cases hb : x = 32 ∨ x = 9
    · have hb' : btB x = true := decide_eq_true hb
      rw [hb'] at HB
      have HM : Hid (kdL t = 2) := HK.out.trans (if_pos hb)
      clear HK hb hb' HC
      go_enter Tryd.func95, Tryd.ntmps95
      go_wp2_with fail
      refine HB.mono ?_
      rintro e w' ⟨rfl, rfl⟩
      go_wp2
      go_ret
      exact ⟨by rw [HM.out]; rfl, rfl⟩
    · have hb' : btB x = false := decide_eq_false hb
      rw [hb'] at HB
      by_cases hc : clN t < t.length
      · have HM : Hid (kdL t = 3) := (HK.out.trans (if_neg hb)).trans (if_pos hc)
        rw [decide_eq_true hc] at HC
        clear HK hb hb' hc
        go_enter Tryd.func95, Tryd.ntmps95
        go_wp2_with fail
        refine HB.mono ?_
        rintro e w' ⟨rfl, rfl⟩
        go_wp2_with fail
        refine HC.mono ?_
        rintro e w' ⟨rfl, rfl⟩
        go_wp2
        go_ret
        exact ⟨by rw [HM.out]; rfl, rfl⟩
      · have HM : Hid (kdL t = 0) := (HK.out.trans (if_neg hb)).trans (if_neg hc)
        rw [decide_eq_false hc] at HC
        clear HK hb hb' hc
        go_enter Tryd.func95, Tryd.ntmps95
        go_wp2_with fail
        refine HB.mono ?_
        rintro e w' ⟨rfl, rfl⟩
        go_wp2_with fail
        refine HC.mono ?_
        rintro e w' ⟨rfl, rfl⟩
        go_wp2
        go_ret
        exact ⟨by rw [HM.out]; rfl, rfl⟩

theorem str_cut (t : List Nat) (a b : Nat) : (str t).extract a b = str ((t.drop a).take (b - a)) := by
  rw [Lib.extract_eq, str_list, ← List.map_drop, ← List.map_take]
  rfl
theorem trim_one (u : List Nat) (hB : IsB u) : (⟨(Lib.trimPrefix (str u).data.toList [32]).toArray⟩ : ByteArray) = str (oneOff u) := by
  rw [str_list]
  match u, hB with
  | [], _ => rfl
  | c :: u, hB =>
    have hc := hB c (by simp)
    unfold oneOff Lib.trimPrefix Lib.hasPrefix
    by_cases e : c = 32
    · subst e
      rw [if_pos (by rfl), if_pos (by rfl)]
      rfl
    · have h1 : (UInt8.ofNat 32 == UInt8.ofNat c) = false := u8_ne (by omega) hc (fun h => e h.symm)
      have hA : ([(32 : UInt8)].isPrefixOf ((c :: u).map UInt8.ofNat)) = false := by
        rw [List.map_cons, List.isPrefixOf_cons_cons, List.isPrefixOf_nil_left, Bool.and_true]; exact h1
      rw [hA, if_neg (show ¬ nth (c :: u) 0 = 32 from e)]
      rfl

set_option maxHeartbeats 1600000 in
set_option maxRecDepth 100000 in
theorem cut_any (t : List Nat) (n : Nat) (w : World) (hl : t.length = n) (hB : IsB t) (hn : n ≤ 1048576) (hc : clN t < n) :
    Calls Tryd.prog 111 #[.string (str t), .string ⟨#[58]⟩] w fun e w' => e = .returned (.tuple #[.string (str (t.take (clN t))), .string (str (t.drop (clN t + 1))), .bool true]) ∧ Below w.heap.size w w' := by
  have hsz : (str t).size = n := by rw [str_size, hl]
  have HC := fun w => Tryd.stringslite_Index_one (str t) 58 w
  rw [colon_at hB (by omega)] at HC
  have e1 : (str t).extract 0 (clN t) = str (t.take (clN t)) := by rw [str_cut, List.drop_zero, Nat.sub_zero]
  have e2 : (str t).extract (clN t + 1) n = str (t.drop (clN t + 1)) := by rw [str_cut, List.take_of_length_le (by rw [List.length_drop]; omega)]
  generalize clN t = i at *
  generalize t.take i = t1 at *
  generalize t.drop (i + 1) = t2 at *
  have c1 : (0 : Int) ≤ (i : Int) := by omega
  have c2 : (i : Int) ≤ (n : Int) := by omega
  have c3 : (0 : Int) ≤ (i : Int) + 1 := by omega
  have c4 : (i : Int) + 1 ≤ (n : Int) := by omega
  have mixed : Tryd.prog.follows Departure.mixedOrders = true := by kernel_rfl
  have hcut : Calls Tryd.prog 126 #[.string (str t), .string ⟨#[58]⟩] w fun e w' => e = .returned (.tuple #[.string (str t1), .string (str t2), .bool true]) ∧ Below w.heap.size w w' := by
    go_enter Tryd.func126, Tryd.ntmps126
    go_wp2_with fail
    refine (HC _).mono ?_
    rintro e w' ⟨rfl, rfl⟩
    go_wp2
    go_region_o
    go_wp2
    go_ret3
    exact ⟨rfl, (Below.refl _ _).drew⟩
  go_enter Tryd.func111, Tryd.ntmps111
  go_wp2_with fail
  refine hcut.mono ?_
  rintro e w' ⟨rfl, hb⟩
  go_wp2
  go_ret3
  exact ⟨rfl, hb⟩

set_option maxHeartbeats 1600000 in
set_option maxRecDepth 100000 in
theorem fieldOfLine_any (t : List Nat) (n : Nat) (w : World) (hl : t.length = n) (hB : IsB t) (hn : n ≤ 1048576) (hc : clN t < n) :
    Calls Tryd.prog 96 #[.string (str t)] w fun e w' => e = .returned (.agg #[.string (fdL t).1, .string (fdL t).2]) ∧ Below w.heap.size w w' := by
  have HC := fun w => cut_any t n w hl hB hn hc
  have HT := fun w => Tryd.strings_TrimPrefix (str (t.drop (clN t + 1))) ⟨#[32]⟩ w
  rw [show (⟨#[32]⟩ : ByteArray).data.toList = [32] from rfl, trim_one _ (isB_drop hB _)] at HT
  have e1 : (fdL t).1 = str (t.take (clN t)) := rfl
  have e2 : (fdL t).2 = str (oneOff (t.drop (clN t + 1))) := rfl
  rw [e1, e2]
  clear e1 e2
  have hb0 : Below w.heap.size w (w.alloc (.cells #[.string ⟨#[]⟩, .string ⟨#[]⟩] 129)) := (Below.refl _ _).alloc (Nat.le_refl _) _
  generalize t.take (clN t) = t1 at *
  generalize str (oneOff (t.drop (clN t + 1))) = s2 at *
  generalize t.drop (clN t + 1) = t2 at *
  go_enter Tryd.func96, Tryd.ntmps96
  go_wp2_with fail
  refine (HC _).mono ?_
  rintro e w1 ⟨rfl, hb1⟩
  have hbl : Below (w.heap.size + 1) (w.alloc (.cells #[.string ⟨#[]⟩, .string ⟨#[]⟩] 129)) w1 := hb1.mono (by simp)
  generalize hW : w.alloc (.cells #[.string ⟨#[]⟩, .string ⟨#[]⟩] 129) = W at *
  have hbw := hb0.trans (hbl.mono (by omega))
  obtain ⟨hcw, hcw1, hfw, hfw1⟩ := res_block hW hbl
  obtain ⟨hk0, hk1⟩ := res_cells hcw hcw1 (.string (str t1)) (.string s2)
  go_wp2_with fail
  refine (HT _).mono ?_
  rintro e w2 ⟨rfl, rfl⟩
  go_wp2
  refine bodyPost_ret (v := .agg #[.string (str t1), .string s2]) (by simp [results, Tryd.results96, go_sem, hk0, hk1]) rfl ?_
  exact ⟨rfl, (hbw.setCell (by simp) _).setCell (by simp) _⟩
end Go.Proofs.YtkjnhcnbbojajaaDoor

namespace Go.Proofs.YtkjnhcnbbojajaaDoor
open Go.RowKit

/-- A table of texts as a row lists it. -/
def strData {H : Type} (zs : List (List UInt8)) : DataW H := .agg (zs.map fun z => .lit (.string z))
/-- A text of bytes. -/
def txt (z : List UInt8) : ByteArray := ⟨z.toArray⟩
theorem cells_of_strs {H : Type} {enc : TypeId × Value → H} {P : Program} {w : World} {base : Nat} {sp : Nat → Bool} {held : Bool} {fuel : Nat} {t e : TypeId} {n : Nat} {cs : List Value} {zs : List (List UInt8)} {p : List MemPlace}
    (ht : P.underlying t = some (.array n e)) (he : P.underlying e = some .string) (hce : P.cellsOf e = 1) (hct : P.cellsOf t = n)
    (h : DataW.trod enc P w base sp held fuel t cs = some (strData zs, p)) : cs = zs.map fun z => Value.string (txt z) := by
  cases fuel with
  | zero => simp [DataW.trod] at h
  | succ fuel =>
    simp only [DataW.trod, ht, hce, hct, Nat.mul_one] at h
    split at h
    · rename_i hl
      obtain ⟨xs, hm, hx⟩ := Option.map_eq_some_iff.1 h
      have hxs : xs.map (·.1) = zs.map fun z => (DataW.lit (.string z) : DataW H) := by
        have := congrArg Prod.fst hx
        simpa [strData] using this
      have hxl : xs.length = n := by simpa using Lib.mapM_length hm
      have hzl : zs.length = n := by
        have := congrArg List.length hxs
        simp at this
        omega
      apply List.ext_getElem?
      intro i
      by_cases hi : i < n
      · obtain ⟨b, hb, hf⟩ := Lib.mapM_at hm i i (by simp [hi])
        obtain ⟨s, hc, rfl, _⟩ := DataW.trod_string he hf
        have h1 : cs[i]? = some (.string s) := by
          have := congrArg (·[0]?) hc
          simpa [List.getElem?_take, List.getElem?_drop] using this
        have h2 : (xs.map (·.1))[i]? = some (DataW.lit (.string s.data.toList) : DataW H) := by simp [hb]
        rw [hxs] at h2
        simp only [List.getElem?_map, Option.map_eq_some_iff, DataW.lit.injEq, Lit.string.injEq] at h2
        obtain ⟨z', hz', e'⟩ := h2
        simp [h1, hz', e', txt]
      · rw [List.getElem?_eq_none (by omega), List.getElem?_eq_none (by simp; omega)]
    · cases h

/-- The variable holds just these texts. -/
def StrsAre (P : Program) (w : World) (name : String) (zs : List (List UInt8)) : Prop := w.var? P name = some (zs.map fun z => Value.string (txt z)).toArray
theorem strsAre_of_head {P : Program} {W : World} {name : String} {zs : List (List UInt8)} {rest : List (String × DataW Unit)} {g : Nat} {t e : TypeId} {n : Nat}
    (hg : P.globalNamed name = some g) (hty : (P.globals[g]?).map (·.type) = some t) (ht : P.underlying t = some (.array n e)) (he : P.underlying e = some .string) (hce : P.cellsOf e = 1) (hct : P.cellsOf t = n)
    (h : laidMet P ((name, strData zs) :: rest) W) : StrsAre P W name zs := by
  obtain ⟨ps, ⟨g', t', cs, fuel, p, q, hg', ht', hvar, hd, _, _⟩, _⟩ := h
  obtain rfl := Option.some.inj (hg.symm.trans hg')
  obtain rfl := Option.some.inj (hty.symm.trans ht')
  unfold StrsAre
  rw [hvar, ← cells_of_strs ht he hce hct hd]
theorem StrsAre.cell {P : Program} {W : World} {name : String} {zs : List (List UInt8)} {g : Nat} (h : StrsAre P W name zs) (hg : P.globalNamed name = some g) (i : Nat) (hi : i < zs.length) :
    W.cell? ⟨g, i, none⟩ = some (.string (txt (zs.getD i []))) := by
  have := World.var?_cell hg h i
  simpa [List.getD, hi] using this
end Go.Proofs.YtkjnhcnbbojajaaDoor
