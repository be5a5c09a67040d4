/- A header read, the model's: by a plain function · A header read, the model's: the walk · ParseHeader, the model's, at every slice of bytes: by a plain function · Contracts of the library, laid over this program: each is one application of a theorem of the library; no conditions beyond those that each names. -/
import Derived.Test.YtooifkdbpghcfaaGreatDoorHdr6
import Derived.Shelf.Strings.Builder1
import Derived.Shelf.Strings.Builder2
import Derived.Shelf.Strings.Trim
import Derived.Shelf.Small.Utf8
import Derived.Shelf.Small.Strs
import Derived.Shelf.Utf8.RuneCount
import Derived.Shelf.Strings.Search1
import Derived.Shelf.Strings.Search2
import Derived.Shelf.Strings.Search3
import Derived.Shelf.Strings.Cut
import Derived.Shelf.Strings.Count
import Derived.Shelf.LaysM
import Derived.Shelf.Strings.Shaped
import Derived.Shelf.Strings.Prefix
import Derived.Shelf.Strings.Split
import Derived.Shelf.Strings.Replace
import Derived.Shelf.Strings.SplitShaped
import Derived.Shelf.Unicode.Decode
import Derived.Shelf.Strings.Runes
import Derived.Shelf.Strings.RuneCount
import Derived.Shelf.Strings.AsciiSet
import Derived.Shelf.Unicode.DecodeSlow
import Derived.Shelf.Unicode.DecodeAny
import Derived.Shelf.Unicode.DecodeLast
import Derived.Shelf.Strings.FieldsFuncAny
import Derived.Shelf.Bytes.SlIndexAt
import Derived.Shelf.Bytes.Small
import Derived.Shelf.Bytes.IndexByte
import Derived.Test.YtooifkdbpghcfaaGreatDoorProg
namespace Go.Proofs.YtooifkdbpghcfaaGreatDoor
open Go.RowKit

theorem l4Line_any (b off n cap : Nat) (l : List FldP) (t : List Nat) (w : World) (hl : l.length = n) (hr : RdF w (some ⟨b, off, none⟩) l) (hn : n ≤ 1048000) (hB : IsB t) (ht0 : 0 < t.length) (ht : t.length ≤ 1048576) (hfit : Fit l) :
    Calls Tryz.prog 140 #[.slice (some ⟨b, off, none⟩) n cap, .string (str t)] w fun e w' => LnEnd (lnV l t) w e w' := by
  by_cases hx : nth t 0 = 32 ∨ nth t 0 = 9
  · cases n with
    | zero =>
      rw [lnV_first hx hl]
      exact l4Line_first _ cap t w hB ht0 hx
    | succ n =>
      rw [lnV_on hx (by omega)]
      exact l4Line_on b off n cap l t w hl hr (by omega) hB ht0 ht hfit hx
  · have h := l4Line_new b off n cap l t w hl hr hn hB ht0 ht hx
    unfold lnV
    rw [if_neg hx]
    exact h

/-- The lines of a header, from a place on: the fields, and the place behind. -/
def prH (d : List Nat) : Nat → Nat → List FldP → Option (List FldP × Nat)
  | 0, k, fs => some (fs, k)
  | f + 1, k, fs => if k < d.length then (if eoL d k = k then some (fs, k + 1) else match lnV fs ((d.take (eoL d k)).drop k) with
    | none => none
    | some fs' => prH d f (if eoL d k < d.length then eoL d k + 1 else eoL d k) fs') else some (fs, k)
theorem prH_end {d : List Nat} {f k : Nat} {fs : List FldP} (h : ¬ k < d.length) : prH d f k fs = some (fs, k) := by
  cases f with
  | zero => rfl
  | succ f => unfold prH; rw [if_neg h]
theorem prH_stop {d : List Nat} {f k : Nat} {fs : List FldP} (h : k < d.length) (he : eoL d k = k) : prH d (f + 1) k fs = some (fs, k + 1) := by
  unfold prH; rw [if_pos h, if_pos he]
theorem prH_bad {d : List Nat} {f k : Nat} {fs : List FldP} (h : k < d.length) (he : eoL d k ≠ k) (hv : lnV fs ((d.take (eoL d k)).drop k) = none) : prH d (f + 1) k fs = none := by
  unfold prH; rw [if_pos h, if_neg he, hv]
theorem prH_on {d : List Nat} {f k : Nat} {fs fs' : List FldP} (h : k < d.length) (he : eoL d k ≠ k) (hv : lnV fs ((d.take (eoL d k)).drop k) = some fs') :
    prH d (f + 1) k fs = prH d f (if eoL d k < d.length then eoL d k + 1 else eoL d k) fs' := by
  conv => lhs; unfold prH
  rw [if_pos h, if_neg he, hv]
/-- Fields that are no longer than the bytes read. -/
def FitK (k : Nat) (l : List FldP) : Prop := l.length ≤ k ∧ ∀ p ∈ l, p.1.size ≤ k ∧ p.2.size ≤ k
theorem lnV_fit {fs fs' : List FldP} {t : List Nat} {k : Nat} (ht : 0 < t.length) (h : FitK k fs) (hv : lnV fs t = some fs') : FitK (k + t.length) fs' ∧ 0 < fs'.length := by
  obtain ⟨h1, h2⟩ := h
  unfold lnV at hv
  split at hv
  · split at hv
    · cases hv
    · rename_i h0
      cases hv
      unfold goOn
      refine ⟨⟨by rw [List.length_set]; omega, fun p hp => ?_⟩, by rw [List.length_set]; omega⟩
      rcases List.mem_or_eq_of_mem_set hp with hm | rfl
      · have := h2 p hm; omega
      · have hm := h2 (nthF fs (fs.length - 1)) (by rw [nthF_get (by omega)]; exact List.getElem_mem _)
        refine ⟨by have := hm.1; simp only; omega, ?_⟩
        simp only [str_size, List.length_append, bts_len]
        omega
  · split at hv
    · rename_i hc
      cases hv
      refine ⟨⟨by rw [List.length_append, List.length_cons, List.length_nil]; omega, fun p hp => ?_⟩, by rw [List.length_append, List.length_cons]; omega⟩
      rcases List.mem_append.1 hp with hm | hm
      · have := h2 p hm; omega
      · rw [List.mem_singleton.1 hm]
        simp only [fdL, str_size, List.length_take]
        have ho : (oneOff (t.drop (clN t + 1))).length ≤ t.length := by
          unfold oneOff
          split
          · rw [List.length_drop, List.length_drop]; omega
          · rw [List.length_drop]; omega
        omega
    · cases hv
end Go.Proofs.YtooifkdbpghcfaaGreatDoor

namespace Go.Proofs.YtooifkdbpghcfaaGreatDoor
open Go.RowKit

/-- How a header's answer lies. -/
def PrEnd (o : Option (List FldP × Nat)) (w : World) (e : Ending) (w' : World) : Prop := Below w.heap.size w w' ∧
  match o with
  | some (fs, k) => ∃ v, e = .returned (.tuple #[v, .int .i64 (k : Int), .bool (fdF fs == 0)]) ∧ OwnF w' w.heap.size v fs
  | none => e = .returned (.tuple #[.slice none 0 0, .int .i64 0, .bool false])
theorem FitK.fit {k : Nat} {l : List FldP} (h : FitK k l) (hk : k ≤ 1048576) : Fit l := fun p hp => by have := h.2 p hp; omega
theorem FitK.mono {k m : Nat} {l : List FldP} (h : FitK k l) (hk : k ≤ m) : FitK m l := ⟨Nat.le_trans h.1 hk, fun p hp => by have := h.2 p hp; omega⟩
theorem rd_takeH {w : World} {a : Option Addr} {l : List Nat} (h : Rd w a l) (k : Nat) : Rd w a (l.take k) := by
  rcases h with h | ⟨b, off, e, hlt, hc⟩
  · subst h; exact .inl (by simp)
  · refine .inr ⟨b, off, e, hlt, fun i hi => ?_⟩
    rw [List.length_take] at hi
    rw [hc i (by omega), nth_get (by omega), nth_get (by rw [List.length_take]; omega), List.getElem_take]

set_option maxHeartbeats 3200000 in
set_option maxRecDepth 100000 in
theorem l4Parse_any (a : Option Addr) (n cap : Nat) (d : List Nat) (w : World) (hl : d.length = n) (hr : Rd w a d) (hB : IsB d) (hn : n ≤ 1048000) (hcap : n ≤ cap) :
    Calls Tryz.prog 110 #[.slice a n cap] w fun e w' => PrEnd (prH d (n + 1) 0 []) w e w' := by
  have HL : Hid (d.length = n) := hl
  have hb0 : Below w.heap.size w (w.alloc (.cells #[] 169)) := (Below.refl _ _).alloc (Nat.le_refl _) _
  have ho0 := OwnF.lit0 w w.heap.size (Nat.le_refl _)
  clear hl
  go_enter Tryz.func110, Tryz.ntmps110
  go_wp2
  go_loopw [5, 6] (fun v i wr => ∃ (k f g c : Nat) (fs : List FldP), k ≤ n ∧ i = .int .i64 k ∧ n + 1 ≤ f + k ∧ v = .slice (some ⟨g, 0, none⟩) fs.length c ∧ OwnF wr w.heap.size v fs ∧ FitK k fs ∧ Hid (prH d (n + 1) 0 [] = prH d f k fs) ∧ Below w.heap.size w wr) (fun _ i _ => n - (intOf i).toNat)
  case atStart => exact ⟨0, n + 1, w.heap.size, 0, [], Nat.zero_le _, rfl, by omega, rfl, ho0, ⟨Nat.le_refl _, fun p hp => by cases hp⟩, rfl, hb0⟩
  case round =>
    obtain ⟨k, f, g, c, fs, hk, rfl, hf, rfl, hown, hfit, HP, hbel⟩ := hrel
    have hrF := hown.rd.2
    by_cases hkn : k < n
    · have hki : (k : Int) < (n : Int) := by omega
      have hkd : k < d.length := by have := HL.out; omega
      obtain ⟨f, rfl⟩ : ∃ f', f = f' + 1 := ⟨f - 1, by omega⟩
      have hge := eoL_ge d k
      have hle := eoL_le (l := d) (i := k) (by omega)
      rw [HL.out] at hle
      have HE := fun wx (hbx : Below w.heap.size w wx) => l4End_any a n cap d k wx HL.out (hr.below hbx) hB (by omega) hk
      by_cases he : eoL d k = k
      · have HQ : Hid (prH d (n + 1) 0 [] = some (fs, k + 1)) := HP.out.trans (prH_stop hkd he)
        have HF := fun wx (hbx : RdF wx (some ⟨g, 0, none⟩) fs) => l4Fault_any (some ⟨g, 0, none⟩) fs.length c fs wx rfl hbx (by have := hfit.1; omega) (hfit.fit (by omega))
        go_wp2_with fail
        refine (HE _ hbel).mono ?_
        rintro e w1 ⟨rfl, rfl⟩
        rw [he]
        go_wp2_with fail
        refine (HF _ hrF).mono ?_
        rintro e w1 ⟨rfl, hb1⟩
        have hown1 := hown.below hb1 (Nat.le_refl _)
        have hbel1 := hbel.trans (hb1.mono hbel.size)
        clear HF hb1
        go_wp2
        refine bodyPost_ret (v := .tuple #[.slice (some ⟨g, 0, none⟩) fs.length c, .int .i64 ((k : Int) + 1), .bool (fdF fs == 0)]) (by simp [results, Tryz.results110, go_sem]) rfl ?_
        rw [HQ.out]
        exact ⟨hbel1, _, rfl, hown1⟩
      · have hlt : k < eoL d k := by omega
        have htl : ((d.take (eoL d k)).drop k).length = eoL d k - k := by rw [List.length_drop, List.length_take]; have := HL.out; omega
        have hBt : IsB ((d.take (eoL d k)).drop k) := isB_drop (isB_take hB _) _
        obtain ⟨b, off, rfl, hblt, hcell⟩ := hr.at_ (by omega)
        have hst := fun c' => run_str (cap := c') (n := eoL d k - k) htl ((rd_takeH (hr.below hbel) (eoL d k)).drop k)
        have HV := fun wx (hx : RdF wx (some ⟨g, 0, none⟩) fs) => l4Line_any g 0 fs.length c fs ((d.take (eoL d k)).drop k) wx rfl hx (by have := hfit.1; omega) hBt (by omega) (by omega) (hfit.fit (by omega))
        have HN : Hid (lnV fs ((d.take (eoL d k)).drop k) = none → prH d (n + 1) 0 [] = none) := fun h => HP.out.trans (prH_bad hkd he h)
        have HS : Hid (∀ fs', lnV fs ((d.take (eoL d k)).drop k) = some fs' → prH d (n + 1) 0 [] = prH d f (if eoL d k < d.length then eoL d k + 1 else eoL d k) fs') := fun fs' h => HP.out.trans (prH_on hkd he h)
        have HK : Hid (∀ fs', lnV fs ((d.take (eoL d k)).drop k) = some fs' → FitK (eoL d k) fs' ∧ 0 < fs'.length) := fun fs' h => by
          have := lnV_fit (by omega) hfit h
          rw [htl, show k + (eoL d k - k) = eoL d k by omega] at this
          exact this
        generalize (d.take (eoL d k)).drop k = t at *
        rw [HL.out] at HS
        generalize eoL d k = q at *
        have q0 : (k : Int) ≤ (q : Int) := by omega
        have q1 : (q : Int) ≤ (cap : Int) := by omega
        have q2 : ((q : Int) == (k : Int)) = false := by simp; omega
        clear hcell HP
        go_wp2_with fail
        refine (HE _ hbel).mono ?_
        rintro e w1 ⟨rfl, rfl⟩
        go_wp2_with fail
        refine (HV _ hrF).mono ?_
        intro e w1 hend
        cases ho : lnV fs t with
        | none =>
          rw [ho] at hend
          obtain ⟨hb1, rfl⟩ := hend
          have HQ : Hid (_) := HN.out ho
          have hbel1 := hbel.trans (hb1.mono hbel.size)
          clear HN HS HK HV HE hb1
          go_wp2
          refine bodyPost_ret (v := .tuple #[.slice none 0 0, .int .i64 0, .bool false]) (by simp [results, Tryz.results110, go_sem]) rfl ?_
          rw [HQ.out]
          exact ⟨hbel1, rfl⟩
        | some fs' =>
          rw [ho] at hend
          obtain ⟨hb1, v, rfl, hown1⟩ := hend
          have HQ : Hid (_) := HS.out fs' ho
          obtain ⟨hfit1, hpos⟩ := HK.out fs' ho
          have hbel1 := hbel.trans (hb1.mono hbel.size)
          obtain ⟨g', c', rfl, -⟩ := hown1.at_ hpos
          have hown2 := hown1.low hbel.size
          clear HN HS HK HV HE hb1 hst
          by_cases hq : q < n
          · have hq' : (q : Int) < (n : Int) := by omega
            have HM : Hid (prH d (n + 1) 0 [] = prH d f (q + 1) fs') := by
              have h := HQ.out
              rw [if_pos hq] at h
              exact h
            clear HQ
            go_wp2
            go_roundw
            case rel => exact ⟨q + 1, f, g', c', fs', by omega, by go_num, by omega, rfl, hown2, hfit1.mono (by omega), HM, hbel1⟩
            case measure => simp [intOf]; omega
          · have hq' : ¬ (q : Int) < (n : Int) := by omega
            have HM : Hid (prH d (n + 1) 0 [] = prH d f q fs') := by
              have h := HQ.out
              rw [if_neg hq] at h
              exact h
            clear HQ
            go_wp2
            go_roundw
            case rel => exact ⟨q, f, g', c', fs', by omega, rfl, by omega, rfl, hown2, hfit1, HM, hbel1⟩
            case measure => simp [intOf]; omega
    · have hki : ¬ (k : Int) < (n : Int) := by omega
      have HQ : Hid (prH d (n + 1) 0 [] = some (fs, k)) := HP.out.trans (prH_end (by have := HL.out; omega))
      have HF := fun wx (hbx : RdF wx (some ⟨g, 0, none⟩) fs) => l4Fault_any (some ⟨g, 0, none⟩) fs.length c fs wx rfl hbx (by have := hfit.1; omega) (hfit.fit (by omega))
      go_wp2_with fail
      refine (HF _ hrF).mono ?_
      rintro e w1 ⟨rfl, hb1⟩
      have hown1 := hown.below hb1 (Nat.le_refl _)
      have hbel1 := hbel.trans (hb1.mono hbel.size)
      clear HF hb1
      go_wp2
      refine bodyPost_ret (v := .tuple #[.slice (some ⟨g, 0, none⟩) fs.length c, .int .i64 (k : Int), .bool (fdF fs == 0)]) (by simp [results, Tryz.results110, go_sem]) rfl ?_
      rw [HQ.out]
      exact ⟨hbel1, _, rfl, hown1⟩
end Go.Proofs.YtooifkdbpghcfaaGreatDoor

namespace Go.Proofs.YtooifkdbpghcfaaGreatDoor
open Go.RowKit

/-- What ParseHeader answers. -/
def phV (d : List Nat) : Int × Nat × List FldP := if 400 < d.length then (2, 0, []) else match prH d (d.length + 1) 0 [] with
  | none => (1, 0, [])
  | some (fs, k) => if fdF fs = 0 then (0, k, fs) else (1, 0, [])
theorem phV_many {d : List Nat} (h : 400 < d.length) : phV d = (2, 0, []) := if_pos h
theorem phV_none {d : List Nat} (h : ¬ 400 < d.length) (h1 : prH d (d.length + 1) 0 [] = none) : phV d = (1, 0, []) := by unfold phV; rw [if_neg h, h1]
theorem phV_bad {d : List Nat} {fs : List FldP} {k : Nat} (h : ¬ 400 < d.length) (h1 : prH d (d.length + 1) 0 [] = some (fs, k)) (h2 : fdF fs ≠ 0) : phV d = (1, 0, []) := by
  unfold phV; rw [if_neg h, h1]; exact if_neg h2
theorem phV_ok {d : List Nat} {fs : List FldP} {k : Nat} (h : ¬ 400 < d.length) (h1 : prH d (d.length + 1) 0 [] = some (fs, k)) (h2 : fdF fs = 0) : phV d = (0, k, fs) := by
  unfold phV; rw [if_neg h, h1]; exact if_pos h2
/-- An answer with fields. -/
def HdrEnd (r : Int × Nat × List FldP) (w : World) (e : Ending) (w' : World) : Prop := ∃ v, e = .returned (.agg #[.int .i64 r.1, .int .i64 (r.2.1 : Int), v]) ∧ OwnF w' w.heap.size v r.2.2 ∧ Below w.heap.size w w'
/-- The block of a result of three cells that a function lays first, far on. -/
theorem res_block3 {w W wr : World} {c0 c1 c2 : Value} {t : TypeId} (hW : w.alloc (.cells #[c0, c1, c2] t) = W) (hb : Below (w.heap.size + 1) W wr) :
    (wr.cell? ⟨w.heap.size, 0, none⟩ = some c0 ∧ wr.cell? ⟨w.heap.size, 1, none⟩ = some c1 ∧ wr.cell? ⟨w.heap.size, 2, none⟩ = some c2) ∧ wr.frozen? ⟨w.heap.size, 0, none⟩ = false ∧ wr.frozen? ⟨w.heap.size, 1, none⟩ = false ∧ wr.frozen? ⟨w.heap.size, 2, none⟩ = false := by
  subst hW
  refine ⟨⟨?_, ?_, ?_⟩, ?_, ?_, ?_⟩
  · rw [hb.cell (p := ⟨w.heap.size, 0, none⟩) (by simp)]; simp
  · rw [hb.cell (p := ⟨w.heap.size, 1, none⟩) (by simp)]; simp
  · rw [hb.cell (p := ⟨w.heap.size, 2, none⟩) (by simp)]; simp
  · rw [hb.frozen (p := ⟨w.heap.size, 0, none⟩) (by simp)]; simp
  · rw [hb.frozen (p := ⟨w.heap.size, 1, none⟩) (by simp)]; simp
  · rw [hb.frozen (p := ⟨w.heap.size, 2, none⟩) (by simp)]; simp
theorem res_cells3 {wr : World} {sz : Nat} {x0 x1 x2 : Value} (h : wr.cell? ⟨sz, 0, none⟩ = some x0 ∧ wr.cell? ⟨sz, 1, none⟩ = some x1 ∧ wr.cell? ⟨sz, 2, none⟩ = some x2) (c t u : Value) :
    (wr.setCell ⟨sz, 0, none⟩ c).cell? ⟨sz, 0, none⟩ = some c ∧ ((wr.setCell ⟨sz, 0, none⟩ c).setCell ⟨sz, 1, none⟩ t).cell? ⟨sz, 1, none⟩ = some t ∧
    (((wr.setCell ⟨sz, 0, none⟩ c).setCell ⟨sz, 1, none⟩ t).setCell ⟨sz, 2, none⟩ u).cell? ⟨sz, 2, none⟩ = some u := by
  obtain ⟨h0, h1, h2⟩ := h
  have h1' : (wr.setCell ⟨sz, 0, none⟩ c).cell? ⟨sz, 1, none⟩ = some x1 := by simp [go_sem, h1]
  have h2' : ((wr.setCell ⟨sz, 0, none⟩ c).setCell ⟨sz, 1, none⟩ t).cell? ⟨sz, 2, none⟩ = some x2 := by simp [go_sem, h2]
  exact ⟨World.cell?_setCell_same _ _ _ h0, World.cell?_setCell_same _ _ _ h1', World.cell?_setCell_same _ _ _ h2'⟩
theorem HdrEnd.put {c : Int} {k : Nat} {w w1 : World} {v : Value} {l : List FldP} (hbel : Below w.heap.size w w1) (hown : OwnF w1 (w.heap.size + 1) v l) (x y z : Value) :
    HdrEnd (c, k, l) w (.returned (.agg #[.int .i64 c, .int .i64 (k : Int), v])) (((w1.setCell ⟨w.heap.size, 0, none⟩ x).setCell ⟨w.heap.size, 1, none⟩ y).setCell ⟨w.heap.size, 2, none⟩ z) :=
  ⟨_, rfl, (((hown.kept _ (by simp) _).kept _ (by simp) _).kept _ (by simp) _).low (by omega), (((hbel.setCell (by simp) _).setCell (by simp) _).setCell (by simp) _)⟩

end Go.Proofs.YtooifkdbpghcfaaGreatDoor

namespace Go.Proofs
open Go.Shelf
def Tryz.lays160_ren : Go.Shelf.Ren := ⟨fun | 160 => 156 | 232 => 177 | 231 => 176 | 227 => 178 | 234 => 180 | 233 => 179 | 236 => 182 | 235 => 181 | 228 => 193 | 271 => 195 | 151 => 194 | 197 => 164 | 120 => 203 | 152 => 202 | 260 => 189 | 137 => 206 | 119 => 207 | 224 => 200 | 225 => 199 | 217 => 198 | 266 => 204 | n => n, fun | 9 => 9 | 4 => 4 | 3 => 3 | 5 => 5 | 117 => 224 | 116 => 223 | 0 => 0 | 124 => 227 | 21 => 21 | 105 => 209 | 46 => 175 | 119 => 236 | 139 => 239 | 138 => 238 | n => n, fun | 3 => 4 | 4 => 5 | n => n⟩
theorem Tryz.lays160 : Go.Proofs.Lays.n160 Tryz.prog Tryz.lays160_ren := {
  mixed := by kernel_rfl
  f119 := Tryz.func207.trans (congrArg some (by kernel_rfl))
  f120 := Tryz.func203.trans (congrArg some (by kernel_rfl))
  f137 := Tryz.func206.trans (congrArg some (by kernel_rfl))
  f151 := Tryz.func194.trans (congrArg some (by kernel_rfl))
  f152 := Tryz.func202.trans (congrArg some (by kernel_rfl))
  f160 := Tryz.func156.trans (congrArg some (by kernel_rfl))
  f197 := Tryz.func164.trans (congrArg some (by kernel_rfl))
  f217 := Tryz.func198.trans (congrArg some (by kernel_rfl))
  f224 := Tryz.func200.trans (congrArg some (by kernel_rfl))
  f225 := Tryz.func199.trans (congrArg some (by kernel_rfl))
  f227 := Tryz.func178.trans (congrArg some (by kernel_rfl))
  f228 := Tryz.func193.trans (congrArg some (by kernel_rfl))
  f231 := Tryz.func176.trans (congrArg some (by kernel_rfl))
  f232 := Tryz.func177.trans (congrArg some (by kernel_rfl))
  f233 := Tryz.func179.trans (congrArg some (by kernel_rfl))
  f234 := Tryz.func180.trans (congrArg some (by kernel_rfl))
  f235 := Tryz.func181.trans (congrArg some (by kernel_rfl))
  f236 := Tryz.func182.trans (congrArg some (by kernel_rfl))
  f260 := Tryz.func189.trans (congrArg some (by kernel_rfl))
  f266 := Tryz.func204.trans (congrArg some (by kernel_rfl))
  f271 := Tryz.func195.trans (congrArg some (by kernel_rfl))
  t0 := Tryz.underlying0
  a0 := Tryz.isAgg0
  z0 := Tryz.sizeOf0
  v0 := Tryz.zeroValue0
  t3 := Tryz.underlying3
  a3 := Tryz.isAgg3
  z3 := Tryz.sizeOf3
  v3 := Tryz.zeroValue3
  t4 := Tryz.underlying4
  a4 := Tryz.isAgg4
  z4 := Tryz.sizeOf4
  v4 := Tryz.zeroValue4
  t5 := Tryz.underlying5
  a5 := Tryz.isAgg5
  z5 := Tryz.sizeOf5
  v5 := Tryz.zeroValue5
  t9 := Tryz.underlying9
  a9 := Tryz.isAgg9
  z9 := Tryz.sizeOf9
  v9 := Tryz.zeroValue9
  t21 := Tryz.underlying21
  a21 := Tryz.isAgg21
  z21 := Tryz.sizeOf21
  v21 := Tryz.zeroValue21
  t46 := Tryz.underlying175
  a46 := Tryz.isAgg175
  z46 := Tryz.sizeOf175
  v46 := Tryz.zeroValue175
  t105 := Tryz.underlying209
  a105 := Tryz.isAgg209
  z105 := Tryz.sizeOf209
  v105 := Tryz.zeroValue209
  t116 := Tryz.underlying223
  a116 := Tryz.isAgg223
  z116 := Tryz.sizeOf223
  t117 := Tryz.underlying224
  a117 := Tryz.isAgg224
  z117 := Tryz.sizeOf224
  v117 := Tryz.zeroValue224
  t119 := Tryz.underlying236
  a119 := Tryz.isAgg236
  z119 := Tryz.sizeOf236
  t124 := Tryz.underlying227
  a124 := Tryz.isAgg227
  z124 := Tryz.sizeOf227
  v124 := Tryz.zeroValue227
  t138 := Tryz.underlying238
  a138 := Tryz.isAgg238
  z138 := Tryz.sizeOf238
  v138 := Tryz.zeroValue238
  t139 := Tryz.underlying239
  a139 := Tryz.isAgg239
  z139 := Tryz.sizeOf239
  v139 := Tryz.zeroValue239
  g3 := by kernel_rfl
  g4 := by kernel_rfl }
def Tryz.lays219_ren : Go.Shelf.Ren := ⟨fun | 219 => 188 | 217 => 198 | 225 => 199 | 224 => 200 | 267 => 201 | 266 => 204 | 314 => 205 | n => n, fun | 9 => 9 | 3 => 3 | 4 => 4 | 5 => 5 | 46 => 175 | 146 => 241 | 51 => 145 | n => n, fun | 1 => 3 | n => n⟩
theorem Tryz.lays219 : Go.Proofs.Lays.n219 Tryz.prog Tryz.lays219_ren := {
  mixed := by kernel_rfl
  f217 := Tryz.func198.trans (congrArg some (by kernel_rfl))
  f219 := Tryz.func188.trans (congrArg some (by kernel_rfl))
  f224 := Tryz.func200.trans (congrArg some (by kernel_rfl))
  f225 := Tryz.func199.trans (congrArg some (by kernel_rfl))
  f266 := Tryz.func204.trans (congrArg some (by kernel_rfl))
  f267 := Tryz.func201.trans (congrArg some (by kernel_rfl))
  f314 := Tryz.func205.trans (congrArg some (by kernel_rfl))
  t3 := Tryz.underlying3
  a3 := Tryz.isAgg3
  z3 := Tryz.sizeOf3
  v3 := Tryz.zeroValue3
  t4 := Tryz.underlying4
  a4 := Tryz.isAgg4
  z4 := Tryz.sizeOf4
  v4 := Tryz.zeroValue4
  t5 := Tryz.underlying5
  a5 := Tryz.isAgg5
  z5 := Tryz.sizeOf5
  v5 := Tryz.zeroValue5
  t9 := Tryz.underlying9
  a9 := Tryz.isAgg9
  z9 := Tryz.sizeOf9
  v9 := Tryz.zeroValue9
  t46 := Tryz.underlying175
  a46 := Tryz.isAgg175
  z46 := Tryz.sizeOf175
  v46 := Tryz.zeroValue175
  t51 := Tryz.underlying145
  a51 := Tryz.isAgg145
  z51 := Tryz.sizeOf145
  v51 := Tryz.zeroValue145
  t146 := Tryz.underlying241
  a146 := Tryz.isAgg241
  z146 := Tryz.sizeOf241
  v146 := Tryz.zeroValue241
  g1 := by kernel_rfl }
open Go.RowKit Go.Lib in
theorem Tryz.stringslite_Index_one (s : ByteArray) (c : UInt8) (w : World) :
    Calls Tryz.prog 188 #[.string s, .string ⟨#[c]⟩] w fun e w' => e = .returned (.int .i64 (Lib.indexByte s.data.toList c)) ∧ w' = w := Any.stringslite_Index_one Tryz.lays219 s c w
def Tryz.lays144_ren : Go.Shelf.Ren := ⟨fun | 144 => 170 | 143 => 162 | 219 => 188 | 217 => 198 | 225 => 199 | 224 => 200 | 267 => 201 | 266 => 204 | 314 => 205 | n => n, fun | 9 => 9 | 4 => 4 | 3 => 3 | 5 => 5 | 46 => 175 | 146 => 241 | 51 => 145 | n => n, fun | 1 => 3 | n => n⟩
theorem Tryz.lays144 : Go.Proofs.Lays.n144 Tryz.prog Tryz.lays144_ren := {
  mixed := by kernel_rfl
  f143 := Tryz.func162.trans (congrArg some (by kernel_rfl))
  f144 := Tryz.func170.trans (congrArg some (by kernel_rfl))
  f217 := Tryz.func198.trans (congrArg some (by kernel_rfl))
  f219 := Tryz.func188.trans (congrArg some (by kernel_rfl))
  f224 := Tryz.func200.trans (congrArg some (by kernel_rfl))
  f225 := Tryz.func199.trans (congrArg some (by kernel_rfl))
  f266 := Tryz.func204.trans (congrArg some (by kernel_rfl))
  f267 := Tryz.func201.trans (congrArg some (by kernel_rfl))
  f314 := Tryz.func205.trans (congrArg some (by kernel_rfl))
  t3 := Tryz.underlying3
  a3 := Tryz.isAgg3
  z3 := Tryz.sizeOf3
  v3 := Tryz.zeroValue3
  t4 := Tryz.underlying4
  a4 := Tryz.isAgg4
  z4 := Tryz.sizeOf4
  v4 := Tryz.zeroValue4
  t5 := Tryz.underlying5
  a5 := Tryz.isAgg5
  z5 := Tryz.sizeOf5
  v5 := Tryz.zeroValue5
  t9 := Tryz.underlying9
  a9 := Tryz.isAgg9
  z9 := Tryz.sizeOf9
  v9 := Tryz.zeroValue9
  t46 := Tryz.underlying175
  a46 := Tryz.isAgg175
  z46 := Tryz.sizeOf175
  v46 := Tryz.zeroValue175
  t51 := Tryz.underlying145
  a51 := Tryz.isAgg145
  z51 := Tryz.sizeOf145
  v51 := Tryz.zeroValue145
  t146 := Tryz.underlying241
  a146 := Tryz.isAgg241
  z146 := Tryz.sizeOf241
  v146 := Tryz.zeroValue241
  g1 := by kernel_rfl }
open Go.RowKit Go.Lib in
theorem Tryz.strings_Contains_one (s : ByteArray) (c : UInt8) (w : World) :
    Calls Tryz.prog 170 #[.string s, .string ⟨#[c]⟩] w fun e w' => e = .returned (.bool (decide (0 ≤ Lib.indexByte s.data.toList c))) ∧ w' = w := Any.strings_Contains_one Tryz.lays144 s c w
def Tryz.lays99_ren : Go.Shelf.Ren := ⟨fun | 99 => 128 | 206 => 157 | n => n, fun | 9 => 9 | 4 => 4 | 3 => 3 | n => n, fun | n => n⟩
theorem Tryz.lays99 : Go.Proofs.Lays.n99 Tryz.prog Tryz.lays99_ren := {
  mixed := by kernel_rfl
  f99 := Tryz.func128.trans (congrArg some (by kernel_rfl))
  f206 := Tryz.func157.trans (congrArg some (by kernel_rfl))
  t3 := Tryz.underlying3
  a3 := Tryz.isAgg3
  z3 := Tryz.sizeOf3
  v3 := Tryz.zeroValue3
  t4 := Tryz.underlying4
  a4 := Tryz.isAgg4
  z4 := Tryz.sizeOf4
  v4 := Tryz.zeroValue4
  t9 := Tryz.underlying9
  a9 := Tryz.isAgg9
  z9 := Tryz.sizeOf9
  v9 := Tryz.zeroValue9 }
open Go.RowKit Go.Lib in
theorem Tryz.strings_HasPrefix (s p : ByteArray) (w : World) :
    Calls Tryz.prog 128 #[.string s, .string p] w fun e w' => e = .returned (.bool (Lib.hasPrefix s.data.toList p.data.toList)) ∧ w' = w := Any.strings_HasPrefix Tryz.lays99 s p w
def Tryz.lays101_ren : Go.Shelf.Ren := ⟨fun | 101 => 172 | 208 => 192 | 206 => 157 | n => n, fun | 9 => 9 | 4 => 4 | 3 => 3 | n => n, fun | n => n⟩
theorem Tryz.lays101 : Go.Proofs.Lays.n101 Tryz.prog Tryz.lays101_ren := {
  mixed := by kernel_rfl
  f101 := Tryz.func172.trans (congrArg some (by kernel_rfl))
  f206 := Tryz.func157.trans (congrArg some (by kernel_rfl))
  f208 := Tryz.func192.trans (congrArg some (by kernel_rfl))
  t3 := Tryz.underlying3
  a3 := Tryz.isAgg3
  z3 := Tryz.sizeOf3
  v3 := Tryz.zeroValue3
  t4 := Tryz.underlying4
  a4 := Tryz.isAgg4
  z4 := Tryz.sizeOf4
  v4 := Tryz.zeroValue4
  t9 := Tryz.underlying9
  a9 := Tryz.isAgg9
  z9 := Tryz.sizeOf9
  v9 := Tryz.zeroValue9 }
open Go.RowKit Go.Lib in
theorem Tryz.strings_TrimPrefix (s p : ByteArray) (w : World) :
    Calls Tryz.prog 172 #[.string s, .string p] w fun e w' => e = .returned (.string ⟨(Lib.trimPrefix s.data.toList p.data.toList).toArray⟩) ∧ w' = w := Any.strings_TrimPrefix Tryz.lays101 s p w
def Tryz.lays155_ren : Go.Shelf.Ren := ⟨fun | 155 => 102 | 154 => 135 | 138 => 160 | 165 => 161 | 143 => 162 | 166 => 163 | 197 => 164 | 169 => 165 | 195 => 184 | 218 => 185 | 240 => 186 | 241 => 187 | 219 => 188 | 260 => 189 | 276 => 196 | 277 => 197 | 217 => 198 | 225 => 199 | 224 => 200 | 267 => 201 | 266 => 204 | 314 => 205 | n => n, fun | 9 => 9 | 3 => 3 | 4 => 4 | 72 => 203 | 0 => 0 | 76 => 207 | 105 => 209 | 21 => 21 | 5 => 5 | 70 => 201 | 20 => 20 | 37 => 22 | 75 => 206 | 127 => 230 | 164 => 232 | 46 => 175 | 119 => 236 | 139 => 239 | 138 => 238 | 146 => 241 | 51 => 145 | 80 => 211 | n => n, fun | 1 => 3 | 3 => 4 | 4 => 5 | n => n⟩
theorem Tryz.lays155 : Go.Proofs.Lays.n155 Tryz.prog Tryz.lays155_ren := {
  mixed := by kernel_rfl
  f138 := Tryz.func160.trans (congrArg some (by kernel_rfl))
  f143 := Tryz.func162.trans (congrArg some (by kernel_rfl))
  f154 := Tryz.func135.trans (congrArg some (by kernel_rfl))
  f155 := Tryz.func102.trans (congrArg some (by kernel_rfl))
  f165 := Tryz.func161.trans (congrArg some (by kernel_rfl))
  f166 := Tryz.func163.trans (congrArg some (by kernel_rfl))
  f169 := Tryz.func165.trans (congrArg some (by kernel_rfl))
  f195 := Tryz.func184.trans (congrArg some (by kernel_rfl))
  f197 := Tryz.func164.trans (congrArg some (by kernel_rfl))
  f217 := Tryz.func198.trans (congrArg some (by kernel_rfl))
  f218 := Tryz.func185.trans (congrArg some (by kernel_rfl))
  f219 := Tryz.func188.trans (congrArg some (by kernel_rfl))
  f224 := Tryz.func200.trans (congrArg some (by kernel_rfl))
  f225 := Tryz.func199.trans (congrArg some (by kernel_rfl))
  f240 := Tryz.func186.trans (congrArg some (by kernel_rfl))
  f241 := Tryz.func187.trans (congrArg some (by kernel_rfl))
  f260 := Tryz.func189.trans (congrArg some (by kernel_rfl))
  f266 := Tryz.func204.trans (congrArg some (by kernel_rfl))
  f267 := Tryz.func201.trans (congrArg some (by kernel_rfl))
  f276 := Tryz.func196.trans (congrArg some (by kernel_rfl))
  f277 := Tryz.func197.trans (congrArg some (by kernel_rfl))
  f314 := Tryz.func205.trans (congrArg some (by kernel_rfl))
  t0 := Tryz.underlying0
  a0 := Tryz.isAgg0
  z0 := Tryz.sizeOf0
  v0 := Tryz.zeroValue0
  t3 := Tryz.underlying3
  a3 := Tryz.isAgg3
  z3 := Tryz.sizeOf3
  v3 := Tryz.zeroValue3
  t4 := Tryz.underlying4
  a4 := Tryz.isAgg4
  z4 := Tryz.sizeOf4
  v4 := Tryz.zeroValue4
  t5 := Tryz.underlying5
  a5 := Tryz.isAgg5
  z5 := Tryz.sizeOf5
  v5 := Tryz.zeroValue5
  t9 := Tryz.underlying9
  a9 := Tryz.isAgg9
  z9 := Tryz.sizeOf9
  v9 := Tryz.zeroValue9
  t20 := Tryz.underlying20
  a20 := Tryz.isAgg20
  z20 := Tryz.sizeOf20
  v20 := Tryz.zeroValue20
  t21 := Tryz.underlying21
  a21 := Tryz.isAgg21
  z21 := Tryz.sizeOf21
  v21 := Tryz.zeroValue21
  t37 := Tryz.underlying22
  a37 := Tryz.isAgg22
  z37 := Tryz.sizeOf22
  v37 := Tryz.zeroValue22
  t46 := Tryz.underlying175
  a46 := Tryz.isAgg175
  z46 := Tryz.sizeOf175
  v46 := Tryz.zeroValue175
  t51 := Tryz.underlying145
  a51 := Tryz.isAgg145
  z51 := Tryz.sizeOf145
  v51 := Tryz.zeroValue145
  t70 := Tryz.underlying201
  a70 := Tryz.isAgg201
  z70 := Tryz.sizeOf201
  v70 := Tryz.zeroValue201
  t72 := Tryz.underlying203
  a72 := Tryz.isAgg203
  z72 := Tryz.sizeOf203
  v72 := Tryz.zeroValue203
  t75 := Tryz.underlying206
  a75 := Tryz.isAgg206
  z75 := Tryz.sizeOf206
  v75 := Tryz.zeroValue206
  t76 := Tryz.underlying207
  a76 := Tryz.isAgg207
  z76 := Tryz.sizeOf207
  v76 := Tryz.zeroValue207
  t105 := Tryz.underlying209
  a105 := Tryz.isAgg209
  z105 := Tryz.sizeOf209
  v105 := Tryz.zeroValue209
  t119 := Tryz.underlying236
  a119 := Tryz.isAgg236
  z119 := Tryz.sizeOf236
  t127 := Tryz.underlying230
  a127 := Tryz.isAgg230
  z127 := Tryz.sizeOf230
  v127 := Tryz.zeroValue230
  t138 := Tryz.underlying238
  a138 := Tryz.isAgg238
  z138 := Tryz.sizeOf238
  v138 := Tryz.zeroValue238
  t139 := Tryz.underlying239
  a139 := Tryz.isAgg239
  z139 := Tryz.sizeOf239
  v139 := Tryz.zeroValue239
  t146 := Tryz.underlying241
  a146 := Tryz.isAgg241
  z146 := Tryz.sizeOf241
  v146 := Tryz.zeroValue241
  t164 := Tryz.underlying232
  a164 := Tryz.isAgg232
  z164 := Tryz.sizeOf232
  v164 := Tryz.zeroValue232
  g1 := by kernel_rfl
  g3 := by kernel_rfl
  g4 := by kernel_rfl }
theorem Tryz.Builder_Extra_155 : Builder.Extra Tryz.prog Tryz.lays155_ren := {
  sizeBuilder := by kernel_rfl
  liesBuilder := by kernel_rfl
  t5 := Tryz.underlying5
  a5 := Tryz.isAgg5
  z5 := Tryz.sizeOf5
  v5 := Tryz.zeroValue5
  infoByte := by kernel_rfl
  cellsByte := by kernel_rfl
  sizeByte := by kernel_rfl
  neB5 := by decide }
open Go.RowKit Go.Lib in
theorem Tryz.strings_ReplaceAll (s old new : ByteArray) (m : Int) (w : World) (hs : s.size < 4294967281) (hm : w.cell? ⟨3, 0, none⟩ = some (.int .i64 m)) (h1 : 1 ≤ old.size) (hlen : s.size + Lib.countB s old * new.size ≤ 140737488355328) :
    Calls Tryz.prog 102 #[.string s, .string old, .string new] w fun e w' =>
      e = .returned (.string ⟨(Lib.replaceAll s.data.toList old.data.toList new.data.toList).toArray⟩) ∧ Below w.heap.size w w' := Any.strings_ReplaceAll Tryz.lays155 Tryz.Builder_Extra_155 s old new m w hs hm h1 hlen
def Tryz.lays229_ren : Go.Shelf.Ren := ⟨fun | 229 => 154 | n => n, fun | 9 => 9 | 40 => 193 | 31 => 160 | 152 => 218 | 3 => 3 | 0 => 0 | 4 => 4 | 21 => 21 | 154 => 220 | n => n, fun | n => n⟩
theorem Tryz.lays229 : Go.Proofs.Lays.n229 Tryz.prog Tryz.lays229_ren := {
  mixed := by kernel_rfl
  f229 := Tryz.func154.trans (congrArg some (by kernel_rfl))
  t0 := Tryz.underlying0
  a0 := Tryz.isAgg0
  z0 := Tryz.sizeOf0
  v0 := Tryz.zeroValue0
  t3 := Tryz.underlying3
  a3 := Tryz.isAgg3
  z3 := Tryz.sizeOf3
  v3 := Tryz.zeroValue3
  t4 := Tryz.underlying4
  a4 := Tryz.isAgg4
  z4 := Tryz.sizeOf4
  v4 := Tryz.zeroValue4
  t9 := Tryz.underlying9
  a9 := Tryz.isAgg9
  z9 := Tryz.sizeOf9
  v9 := Tryz.zeroValue9
  t21 := Tryz.underlying21
  a21 := Tryz.isAgg21
  z21 := Tryz.sizeOf21
  v21 := Tryz.zeroValue21
  t31 := Tryz.underlying160
  a31 := Tryz.isAgg160
  z31 := Tryz.sizeOf160
  v31 := Tryz.zeroValue160
  t40 := Tryz.underlying193
  a40 := Tryz.isAgg193
  z40 := Tryz.sizeOf193
  v40 := Tryz.zeroValue193
  t152 := Tryz.underlying218
  a152 := Tryz.isAgg218
  z152 := Tryz.sizeOf218
  v152 := Tryz.zeroValue218
  t154 := Tryz.underlying220
  a154 := Tryz.isAgg220
  z154 := Tryz.sizeOf220
  v154 := Tryz.zeroValue220 }
open Go.RowKit Go.Lib in
theorem Tryz.strings_FieldsFunc (g : Nat) (lb : Array Value) (eg : ∀ args w, (callFunc g args).run Tryz.prog w = .ok (.enter g args) w) (p : Nat → Bool) (s : ByteArray) (w : World) (hs : s.size ≤ 4294967296) (hp : PredAt Tryz.prog g lb encR p w) :
    Calls Tryz.prog 154 #[.string s, .func (.func g) #[] lb] w fun e w' => ∃ A, e = .returned (.slice (some ⟨A, 0, none⟩) (Lib.goFieldsP p s).length (Lib.goFieldsP p s).length) ∧ w.heap.size ≤ A ∧
      w'.ownsRow w.heap.size 9 1 (.slice (some ⟨A, 0, none⟩) (Lib.goFieldsP p s).length (Lib.goFieldsP p s).length) (Lib.goFieldsP p s).length ((Lib.goFieldsP p s).map Value.string) ∧ Below w.heap.size w w' := Any.strings_FieldsFunc Tryz.lays229 g lb eg p s w hs hp (by kernel_rfl) (by kernel_rfl)
def Tryz.lays187_ren : Go.Shelf.Ren := ⟨fun | 187 => 159 | 255 => 183 | n => n, fun | 37 => 22 | 5 => 5 | 3 => 3 | n => n, fun | n => n⟩
theorem Tryz.lays187 : Go.Proofs.Lays.n187 Tryz.prog Tryz.lays187_ren := {
  mixed := by kernel_rfl
  f187 := Tryz.func159.trans (congrArg some (by kernel_rfl))
  f255 := Tryz.func183.trans (congrArg some (by kernel_rfl))
  t3 := Tryz.underlying3
  a3 := Tryz.isAgg3
  z3 := Tryz.sizeOf3
  v3 := Tryz.zeroValue3
  t5 := Tryz.underlying5
  a5 := Tryz.isAgg5
  z5 := Tryz.sizeOf5
  v5 := Tryz.zeroValue5
  t37 := Tryz.underlying22
  a37 := Tryz.isAgg22
  z37 := Tryz.sizeOf22
  v37 := Tryz.zeroValue22 }
open Go.RowKit Go.Lib in
theorem Tryz.bytes_IndexByte_at (a : Addr) (n c : Nat) (xs : List Int) (cv : Int) (w : World) (hx : xs.length = n) (hc : ∀ i, i < n → w.cell? (a.add i) = some (.int .u8 (xs.getD i 0))) :
    Calls Tryz.prog 159 #[.slice (some a) n c, .int .u8 cv] w fun e w' => e = .returned (.int .i64 (Lib.indexByte (Lib.bytesOf xs) cv.toNat.toUInt8)) ∧ w' = w := Any.bytes_IndexByte_at Tryz.lays187 a n c xs cv w hx hc
theorem Tryz.bytes_IndexByte_nil (cv : Int) (w : World) :
    Calls Tryz.prog 159 #[.slice none 0 0, .int .u8 cv] w fun e w' => e = .returned (.int .i64 (-1)) ∧ w' = w := Any.bytes_IndexByte_nil Tryz.lays187 cv w
end Go.Proofs
