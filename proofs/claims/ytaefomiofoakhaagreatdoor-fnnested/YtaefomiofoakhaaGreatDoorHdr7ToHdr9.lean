/- A header read, the model's: by a plain function · A header read, the model's: the walk · ParseHeader, the model's, at every slice of bytes: by a plain function. -/
import Derived.Test.YtaefomiofoakhaaGreatDoorHdr6
namespace Go.Proofs.YtaefomiofoakhaaGreatDoor
open Go.RowKit

theorem l4Line_any (b off n cap : Nat) (l : List FldP) (t : List Nat) (w : World) (hl : l.length = n) (hr : RdF w (some ⟨b, off, none⟩) l) (hn : n ≤ 1048000) (hB : IsB t) (ht0 : 0 < t.length) (ht : t.length ≤ 1048576) (hfit : Fit l) :
    Calls Tryz.prog 95 #[.slice (some ⟨b, off, none⟩) n cap, .string (str t)] w fun e w' => LnEnd (lnV l t) w e w' := by
  by_cases hx : nth t 0 = 32 ∨ nth t 0 = 9
  · cases n with
    | zero =>
      rw [lnV_first hx hl]
      exact l4Line_first _ cap t w hB ht0 hx
    | succ n =>
      rw [lnV_on hx (by omega)]
      exact l4Line_on b off n cap l t w hl hr (by omega) hB ht0 ht hfit hx
  · have h := l4Line_new b off n cap l t w hl hr hn hB ht0 ht hx
    unfold lnV
    rw [if_neg hx]
    exact h

/-- The lines of a header, from a place on: the fields, and the place behind. -/
def prH (d : List Nat) : Nat → Nat → List FldP → Option (List FldP × Nat)
  | 0, k, fs => some (fs, k)
  | f + 1, k, fs => if k < d.length then (if eoL d k = k then some (fs, k + 1) else match lnV fs ((d.take (eoL d k)).drop k) with
    | none => none
    | some fs' => prH d f (if eoL d k < d.length then eoL d k + 1 else eoL d k) fs') else some (fs, k)
theorem prH_end {d : List Nat} {f k : Nat} {fs : List FldP} (h : ¬ k < d.length) : prH d f k fs = some (fs, k) := by
  cases f with
  | zero => rfl
  | succ f => unfold prH; rw [if_neg h]
theorem prH_stop {d : List Nat} {f k : Nat} {fs : List FldP} (h : k < d.length) (he : eoL d k = k) : prH d (f + 1) k fs = some (fs, k + 1) := by
  unfold prH; rw [if_pos h, if_pos he]
theorem prH_bad {d : List Nat} {f k : Nat} {fs : List FldP} (h : k < d.length) (he : eoL d k ≠ k) (hv : lnV fs ((d.take (eoL d k)).drop k) = none) : prH d (f + 1) k fs = none := by
  unfold prH; rw [if_pos h, if_neg he, hv]
theorem prH_on {d : List Nat} {f k : Nat} {fs fs' : List FldP} (h : k < d.length) (he : eoL d k ≠ k) (hv : lnV fs ((d.take (eoL d k)).drop k) = some fs') :
    prH d (f + 1) k fs = prH d f (if eoL d k < d.length then eoL d k + 1 else eoL d k) fs' := by
  conv => lhs; unfold prH
  rw [if_pos h, if_neg he, hv]
/-- Fields that are no longer than the bytes read. -/
def FitK (k : Nat) (l : List FldP) : Prop := l.length ≤ k ∧ ∀ p ∈ l, p.1.size ≤ k ∧ p.2.size ≤ k
theorem lnV_fit {fs fs' : List FldP} {t : List Nat} {k : Nat} (ht : 0 < t.length) (h : FitK k fs) (hv : lnV fs t = some fs') : FitK (k + t.length) fs' ∧ 0 < fs'.length := by
  obtain ⟨h1, h2⟩ := h
  unfold lnV at hv
  split at hv
  · split at hv
    · cases hv
    · rename_i h0
      cases hv
      unfold goOn
      refine ⟨⟨by rw [List.length_set]; omega, fun p hp => ?_⟩, by rw [List.length_set]; omega⟩
      rcases List.mem_or_eq_of_mem_set hp with hm | rfl
      · have := h2 p hm; omega
      · have hm := h2 (nthF fs (fs.length - 1)) (by rw [nthF_get (by omega)]; exact List.getElem_mem _)
        refine ⟨by have := hm.1; simp only; omega, ?_⟩
        simp only [str_size, List.length_append, bts_len]
        omega
  · split at hv
    · rename_i hc
      cases hv
      refine ⟨⟨by rw [List.length_append, List.length_cons, List.length_nil]; omega, fun p hp => ?_⟩, by rw [List.length_append, List.length_cons]; omega⟩
      rcases List.mem_append.1 hp with hm | hm
      · have := h2 p hm; omega
      · rw [List.mem_singleton.1 hm]
        simp only [fdL, str_size, List.length_take]
        have ho : (oneOff (t.drop (clN t + 1))).length ≤ t.length := by
          unfold oneOff
          split
          · rw [List.length_drop, List.length_drop]; omega
          · rw [List.length_drop]; omega
        omega
    · cases hv
end Go.Proofs.YtaefomiofoakhaaGreatDoor

namespace Go.Proofs.YtaefomiofoakhaaGreatDoor
open Go.RowKit

/-- How a header's answer lies. -/
def PrEnd (o : Option (List FldP × Nat)) (w : World) (e : Ending) (w' : World) : Prop := Below w.heap.size w w' ∧
  match o with
  | some (fs, k) => ∃ v, e = .returned (.tuple #[v, .int .i64 (k : Int), .bool (fdF fs == 0)]) ∧ OwnF w' w.heap.size v fs
  | none => e = .returned (.tuple #[.slice none 0 0, .int .i64 0, .bool false])
theorem FitK.fit {k : Nat} {l : List FldP} (h : FitK k l) (hk : k ≤ 1048576) : Fit l := fun p hp => by have := h.2 p hp; omega
theorem FitK.mono {k m : Nat} {l : List FldP} (h : FitK k l) (hk : k ≤ m) : FitK m l := ⟨Nat.le_trans h.1 hk, fun p hp => by have := h.2 p hp; omega⟩
theorem rd_takeH {w : World} {a : Option Addr} {l : List Nat} (h : Rd w a l) (k : Nat) : Rd w a (l.take k) := by
  rcases h with h | ⟨b, off, e, hlt, hc⟩
  · subst h; exact .inl (by simp)
  · refine .inr ⟨b, off, e, hlt, fun i hi => ?_⟩
    rw [List.length_take] at hi
    rw [hc i (by omega), nth_get (by omega), nth_get (by rw [List.length_take]; omega), List.getElem_take]

set_option maxHeartbeats 3200000 in
set_option maxRecDepth 100000 in
theorem l4Parse_any (a : Option Addr) (n cap : Nat) (d : List Nat) (w : World) (hl : d.length = n) (hr : Rd w a d) (hB : IsB d) (hn : n ≤ 1048000) (hcap : n ≤ cap) :
    Calls Tryz.prog 74 #[.slice a n cap] w fun e w' => PrEnd (prH d (n + 1) 0 []) w e w' := by
  have HL : Hid (d.length = n) := hl
  have hb0 : Below w.heap.size w (w.alloc (.cells #[] 122)) := (Below.refl _ _).alloc (Nat.le_refl _) _
  have ho0 := OwnF.lit0 w w.heap.size (Nat.le_refl _)
  clear hl
  go_enter Tryz.func74, Tryz.ntmps74
  go_wp2
  go_loopw [5, 6] (fun v i wr => ∃ (k f g c : Nat) (fs : List FldP), k ≤ n ∧ i = .int .i64 k ∧ n + 1 ≤ f + k ∧ v = .slice (some ⟨g, 0, none⟩) fs.length c ∧ OwnF wr w.heap.size v fs ∧ FitK k fs ∧ Hid (prH d (n + 1) 0 [] = prH d f k fs) ∧ Below w.heap.size w wr) (fun _ i _ => n - (intOf i).toNat)
  case atStart => exact ⟨0, n + 1, w.heap.size, 0, [], Nat.zero_le _, rfl, by omega, rfl, ho0, ⟨Nat.le_refl _, fun p hp => by cases hp⟩, rfl, hb0⟩
  case round =>
    obtain ⟨k, f, g, c, fs, hk, rfl, hf, rfl, hown, hfit, HP, hbel⟩ := hrel
    have hrF := hown.rd.2
    by_cases hkn : k < n
    · have hki : (k : Int) < (n : Int) := by omega
      have hkd : k < d.length := by have := HL.out; omega
      obtain ⟨f, rfl⟩ : ∃ f', f = f' + 1 := ⟨f - 1, by omega⟩
      have hge := eoL_ge d k
      have hle := eoL_le (l := d) (i := k) (by omega)
      rw [HL.out] at hle
      have HE := fun wx (hbx : Below w.heap.size w wx) => l4End_any a n cap d k wx HL.out (hr.below hbx) hB (by omega) hk
      by_cases he : eoL d k = k
      · have HQ : Hid (prH d (n + 1) 0 [] = some (fs, k + 1)) := HP.out.trans (prH_stop hkd he)
        have HF := fun wx (hbx : RdF wx (some ⟨g, 0, none⟩) fs) => l4Fault_any (some ⟨g, 0, none⟩) fs.length c fs wx rfl hbx (by have := hfit.1; omega) (hfit.fit (by omega))
        go_wp2_with fail
        refine (HE _ hbel).mono ?_
        rintro e w1 ⟨rfl, rfl⟩
        rw [he]
        go_wp2_with fail
        refine (HF _ hrF).mono ?_
        rintro e w1 ⟨rfl, hb1⟩
        have hown1 := hown.below hb1 (Nat.le_refl _)
        have hbel1 := hbel.trans (hb1.mono hbel.size)
        clear HF hb1
        go_wp2
        refine bodyPost_ret (v := .tuple #[.slice (some ⟨g, 0, none⟩) fs.length c, .int .i64 ((k : Int) + 1), .bool (fdF fs == 0)]) (by simp [results, Tryz.results74, go_sem]) rfl ?_
        rw [HQ.out]
        exact ⟨hbel1, _, rfl, hown1⟩
      · have hlt : k < eoL d k := by omega
        have htl : ((d.take (eoL d k)).drop k).length = eoL d k - k := by rw [List.length_drop, List.length_take]; have := HL.out; omega
        have hBt : IsB ((d.take (eoL d k)).drop k) := isB_drop (isB_take hB _) _
        obtain ⟨b, off, rfl, hblt, hcell⟩ := hr.at_ (by omega)
        have hst := fun c' => run_str (cap := c') (n := eoL d k - k) htl ((rd_takeH (hr.below hbel) (eoL d k)).drop k)
        have HV := fun wx (hx : RdF wx (some ⟨g, 0, none⟩) fs) => l4Line_any g 0 fs.length c fs ((d.take (eoL d k)).drop k) wx rfl hx (by have := hfit.1; omega) hBt (by omega) (by omega) (hfit.fit (by omega))
        have HN : Hid (lnV fs ((d.take (eoL d k)).drop k) = none → prH d (n + 1) 0 [] = none) := fun h => HP.out.trans (prH_bad hkd he h)
        have HS : Hid (∀ fs', lnV fs ((d.take (eoL d k)).drop k) = some fs' → prH d (n + 1) 0 [] = prH d f (if eoL d k < d.length then eoL d k + 1 else eoL d k) fs') := fun fs' h => HP.out.trans (prH_on hkd he h)
        have HK : Hid (∀ fs', lnV fs ((d.take (eoL d k)).drop k) = some fs' → FitK (eoL d k) fs' ∧ 0 < fs'.length) := fun fs' h => by
          have := lnV_fit (by omega) hfit h
          rw [htl, show k + (eoL d k - k) = eoL d k by omega] at this
          exact this
        generalize (d.take (eoL d k)).drop k = t at *
        rw [HL.out] at HS
        generalize eoL d k = q at *
        have q0 : (k : Int) ≤ (q : Int) := by omega
        have q1 : (q : Int) ≤ (cap : Int) := by omega
        have q2 : ((q : Int) == (k : Int)) = false := by simp; omega
        clear hcell HP
        go_wp2_with fail
        refine (HE _ hbel).mono ?_
        rintro e w1 ⟨rfl, rfl⟩
        go_wp2_with fail
        refine (HV _ hrF).mono ?_
        intro e w1 hend
        cases ho : lnV fs t with
        | none =>
          rw [ho] at hend
          obtain ⟨hb1, rfl⟩ := hend
          have HQ : Hid (_) := HN.out ho
          have hbel1 := hbel.trans (hb1.mono hbel.size)
          clear HN HS HK HV HE hb1
          go_wp2
          refine bodyPost_ret (v := .tuple #[.slice none 0 0, .int .i64 0, .bool false]) (by simp [results, Tryz.results74, go_sem]) rfl ?_
          rw [HQ.out]
          exact ⟨hbel1, rfl⟩
        | some fs' =>
          rw [ho] at hend
          obtain ⟨hb1, v, rfl, hown1⟩ := hend
          have HQ : Hid (_) := HS.out fs' ho
          obtain ⟨hfit1, hpos⟩ := HK.out fs' ho
          have hbel1 := hbel.trans (hb1.mono hbel.size)
          obtain ⟨g', c', rfl, -⟩ := hown1.at_ hpos
          have hown2 := hown1.low hbel.size
          clear HN HS HK HV HE hb1 hst
          by_cases hq : q < n
          · have hq' : (q : Int) < (n : Int) := by omega
            have HM : Hid (prH d (n + 1) 0 [] = prH d f (q + 1) fs') := by
              have h := HQ.out
              rw [if_pos hq] at h
              exact h
            clear HQ
            go_wp2
            go_roundw
            case rel => exact ⟨q + 1, f, g', c', fs', by omega, by go_num, by omega, rfl, hown2, hfit1.mono (by omega), HM, hbel1⟩
            case measure => simp [intOf]; omega
          · have hq' : ¬ (q : Int) < (n : Int) := by omega
            have HM : Hid (prH d (n + 1) 0 [] = prH d f q fs') := by
              have h := HQ.out
              rw [if_neg hq] at h
              exact h
            clear HQ
            go_wp2
            go_roundw
            case rel => exact ⟨q, f, g', c', fs', by omega, rfl, by omega, rfl, hown2, hfit1, HM, hbel1⟩
            case measure => simp [intOf]; omega
    · have hki : ¬ (k : Int) < (n : Int) := by omega
      have HQ : Hid (prH d (n + 1) 0 [] = some (fs, k)) := HP.out.trans (prH_end (by have := HL.out; omega))
      have HF := fun wx (hbx : RdF wx (some ⟨g, 0, none⟩) fs) => l4Fault_any (some ⟨g, 0, none⟩) fs.length c fs wx rfl hbx (by have := hfit.1; omega) (hfit.fit (by omega))
      go_wp2_with fail
      refine (HF _ hrF).mono ?_
      rintro e w1 ⟨rfl, hb1⟩
      have hown1 := hown.below hb1 (Nat.le_refl _)
      have hbel1 := hbel.trans (hb1.mono hbel.size)
      clear HF hb1
      go_wp2
      refine bodyPost_ret (v := .tuple #[.slice (some ⟨g, 0, none⟩) fs.length c, .int .i64 (k : Int), .bool (fdF fs == 0)]) (by simp [results, Tryz.results74, go_sem]) rfl ?_
      rw [HQ.out]
      exact ⟨hbel1, _, rfl, hown1⟩
end Go.Proofs.YtaefomiofoakhaaGreatDoor

namespace Go.Proofs.YtaefomiofoakhaaGreatDoor
open Go.RowKit

/-- What ParseHeader answers. -/
def phV (d : List Nat) : Int × Nat × List FldP := if 400 < d.length then (2, 0, []) else match prH d (d.length + 1) 0 [] with
  | none => (1, 0, [])
  | some (fs, k) => if fdF fs = 0 then (0, k, fs) else (1, 0, [])
theorem phV_many {d : List Nat} (h : 400 < d.length) : phV d = (2, 0, []) := if_pos h
theorem phV_none {d : List Nat} (h : ¬ 400 < d.length) (h1 : prH d (d.length + 1) 0 [] = none) : phV d = (1, 0, []) := by unfold phV; rw [if_neg h, h1]
theorem phV_bad {d : List Nat} {fs : List FldP} {k : Nat} (h : ¬ 400 < d.length) (h1 : prH d (d.length + 1) 0 [] = some (fs, k)) (h2 : fdF fs ≠ 0) : phV d = (1, 0, []) := by
  unfold phV; rw [if_neg h, h1]; exact if_neg h2
theorem phV_ok {d : List Nat} {fs : List FldP} {k : Nat} (h : ¬ 400 < d.length) (h1 : prH d (d.length + 1) 0 [] = some (fs, k)) (h2 : fdF fs = 0) : phV d = (0, k, fs) := by
  unfold phV; rw [if_neg h, h1]; exact if_pos h2
/-- An answer with fields. -/
def HdrEnd (r : Int × Nat × List FldP) (w : World) (e : Ending) (w' : World) : Prop := ∃ v, e = .returned (.agg #[.int .i64 r.1, .int .i64 (r.2.1 : Int), v]) ∧ OwnF w' w.heap.size v r.2.2 ∧ Below w.heap.size w w'
/-- The block of a result of three cells that a function lays first, far on. -/
theorem res_block3 {w W wr : World} {c0 c1 c2 : Value} {t : TypeId} (hW : w.alloc (.cells #[c0, c1, c2] t) = W) (hb : Below (w.heap.size + 1) W wr) :
    (wr.cell? ⟨w.heap.size, 0, none⟩ = some c0 ∧ wr.cell? ⟨w.heap.size, 1, none⟩ = some c1 ∧ wr.cell? ⟨w.heap.size, 2, none⟩ = some c2) ∧ wr.frozen? ⟨w.heap.size, 0, none⟩ = false ∧ wr.frozen? ⟨w.heap.size, 1, none⟩ = false ∧ wr.frozen? ⟨w.heap.size, 2, none⟩ = false := by
  subst hW
  refine ⟨⟨?_, ?_, ?_⟩, ?_, ?_, ?_⟩
  · rw [hb.cell (p := ⟨w.heap.size, 0, none⟩) (by simp)]; simp
  · rw [hb.cell (p := ⟨w.heap.size, 1, none⟩) (by simp)]; simp
  · rw [hb.cell (p := ⟨w.heap.size, 2, none⟩) (by simp)]; simp
  · rw [hb.frozen (p := ⟨w.heap.size, 0, none⟩) (by simp)]; simp
  · rw [hb.frozen (p := ⟨w.heap.size, 1, none⟩) (by simp)]; simp
  · rw [hb.frozen (p := ⟨w.heap.size, 2, none⟩) (by simp)]; simp
theorem res_cells3 {wr : World} {sz : Nat} {x0 x1 x2 : Value} (h : wr.cell? ⟨sz, 0, none⟩ = some x0 ∧ wr.cell? ⟨sz, 1, none⟩ = some x1 ∧ wr.cell? ⟨sz, 2, none⟩ = some x2) (c t u : Value) :
    (wr.setCell ⟨sz, 0, none⟩ c).cell? ⟨sz, 0, none⟩ = some c ∧ ((wr.setCell ⟨sz, 0, none⟩ c).setCell ⟨sz, 1, none⟩ t).cell? ⟨sz, 1, none⟩ = some t ∧
    (((wr.setCell ⟨sz, 0, none⟩ c).setCell ⟨sz, 1, none⟩ t).setCell ⟨sz, 2, none⟩ u).cell? ⟨sz, 2, none⟩ = some u := by
  obtain ⟨h0, h1, h2⟩ := h
  have h1' : (wr.setCell ⟨sz, 0, none⟩ c).cell? ⟨sz, 1, none⟩ = some x1 := by simp [go_sem, h1]
  have h2' : ((wr.setCell ⟨sz, 0, none⟩ c).setCell ⟨sz, 1, none⟩ t).cell? ⟨sz, 2, none⟩ = some x2 := by simp [go_sem, h2]
  exact ⟨World.cell?_setCell_same _ _ _ h0, World.cell?_setCell_same _ _ _ h1', World.cell?_setCell_same _ _ _ h2'⟩
theorem HdrEnd.put {c : Int} {k : Nat} {w w1 : World} {v : Value} {l : List FldP} (hbel : Below w.heap.size w w1) (hown : OwnF w1 (w.heap.size + 1) v l) (x y z : Value) :
    HdrEnd (c, k, l) w (.returned (.agg #[.int .i64 c, .int .i64 (k : Int), v])) (((w1.setCell ⟨w.heap.size, 0, none⟩ x).setCell ⟨w.heap.size, 1, none⟩ y).setCell ⟨w.heap.size, 2, none⟩ z) :=
  ⟨_, rfl, (((hown.kept _ (by simp) _).kept _ (by simp) _).kept _ (by simp) _).low (by omega), (((hbel.setCell (by simp) _).setCell (by simp) _).setCell (by simp) _)⟩

end Go.Proofs.YtaefomiofoakhaaGreatDoor
