/- All parts of a message, the model's: l5Parse, ParseParts · Each helper of the laws over slices of bytes does what its text says: it copies one, and holds two against each other; slices of at most 1048576 bytes. -/
import Derived.Test.YtkjnhcnbbojajaaDoorAdn
import Derived.Test.YtkjnhcnbbojajaaDoorPsp
import Derived.Test.YtkjnhcnbbojajaaDoorPth
import Derived.Test.YtkjnhcnbbojajaaDoorMemToInf
namespace Go.Proofs.YtkjnhcnbbojajaaDoor
open Go.RowKit

set_option maxHeartbeats 800000 in
set_option maxRecDepth 100000 in
theorem l5Parse_any (b m : Nat) (d : List Nat) (w : World) (hr : Rd w (some ⟨b, 0, none⟩) d) (hb : b < w.heap.size) (hB : IsB d) (hl : d.length = m) (hm : m ≤ 400) :
    Calls Tryd.prog 40 #[.slice (some ⟨b, 0, none⟩) m m] w fun e w' => ∃ v, e = .returned v ∧ OwnP w' w.heap.size v (adV d 2 0 d.length (-1) 0 []) ∧ Below w.heap.size w w' := by
  have HA := l5Add_any b m w.heap.size d hb hB hl hm 2 (Nat.le_refl _) 0 m (-1) 0 (.slice none 0 0) [] w (Nat.zero_le _) (Nat.le_refl _) hr (Nat.le_refl _) (OwnP.nil _ _) (by simp)
  rw [show (3 : Int) - ((2 : Nat) : Int) = 1 from rfl] at HA
  rw [hl]
  generalize adV d 2 0 m (-1) 0 [] = r at *
  go_enter Tryd.func40, Tryd.ntmps40
  go_wp2_with fail
  refine HA.mono ?_
  rintro e w1 ⟨v, rfl, ho, hb1, -⟩
  obtain ⟨a, cp, hv, -, -⟩ := ho.form
  subst hv
  go_wp2
  go_ret
  exact ⟨_, rfl, ho, hb1⟩

set_option maxHeartbeats 800000 in
set_option maxRecDepth 100000 in
theorem specParseParts_any (b m : Nat) (d : List Nat) (w : World) (hr : Rd w (some ⟨b, 0, none⟩) d) (hb : b < w.heap.size) (hB : IsB d) (hl : d.length = m) :
    Calls Tryd.prog 14 #[.slice (some ⟨b, 0, none⟩) m m] w (PsEnd (psV d) w) := by
  have hb0 : Below w.heap.size w (w.alloc (.cells #[.int .i64 0, .slice none 0 0] 32)) := (Below.refl _ _).alloc (Nat.le_refl _) _
  by_cases h4 : 400 < m
  · have h4' : (400 : Int) < (m : Int) := by omega
    have HM : Hid (psV d = (2, [])) := if_pos (by omega)
    go_enter Tryd.func14, Tryd.ntmps14
    go_wp2
    go_returns
    rw [HM.out]
    exact ⟨_, rfl, OwnP.nil _ _, by go_grown⟩
  · have h4' : ¬ (400 : Int) < (m : Int) := by omega
    have HM : Hid (psV d = (0, adV d 2 0 d.length (-1) 0 [])) := if_neg (by omega)
    have HA := l5Parse_any b m d _ (hr.below hb0) (Nat.lt_of_lt_of_le hb hb0.size) hB hl (by omega)
    generalize adV d 2 0 d.length (-1) 0 [] = l at *
    go_enter Tryd.func14, Tryd.ntmps14
    go_wp2_with fail
    refine HA.mono ?_
    rintro e w1 ⟨v, rfl, ho, hb1⟩
    obtain ⟨a, cp, hv, -, -⟩ := ho.form
    subst hv
    have hbl : Below (w.heap.size + 1) (w.alloc (.cells #[.int .i64 0, .slice none 0 0] 32)) w1 := hb1.mono (by simp)
    have hbw := hb0.trans (hbl.mono (by omega))
    have ho1 : OwnP w1 (w.heap.size + 1) (.slice a l.length cp) l := ho.low (by simp)
    obtain ⟨a0, a1, z0, z1⟩ := res_block rfl hbl
    obtain ⟨q0, q1⟩ := res_cells a0 a1 (.int .i64 0) (.slice a l.length cp)
    clear HA hb1 ho
    go_wp2
    refine bodyPost_ret (v := .agg #[.int .i64 0, .slice a l.length cp]) (by simp [results, Tryd.results14, go_sem, q0, q1]) rfl ?_
    rw [HM.out]
    exact ⟨_, rfl, ((ho1.kept _ (by simp) _).kept _ (by simp) _).low (by omega), (hbw.setCell (p := ⟨w.heap.size, 0, none⟩) (Nat.le_refl _) _).setCell (p := ⟨w.heap.size, 1, none⟩) (Nat.le_refl _) _⟩

/-- ParseParts, both sides. -/
theorem bothParts (w : World) (hT : TabC w) (n : Nat) (s : List Nat) (hl : s.length = n) (hB : IsB s) (_hn : n ≤ 1048576) : ∃ (c : Int) (l : List PtP), l.length ≤ 8 ∧
    (∀ (b : Nat) (wx : World), Below w.heap.size w wx → b < wx.heap.size → Rd wx (some ⟨b, 0, none⟩) s → Calls Tryd.prog 14 #[.slice (some ⟨b, 0, none⟩) n n] wx fun e w' => ∃ v, e = .returned (.agg #[.int .i64 c, v]) ∧ OwnP w' wx.heap.size v l ∧ Below wx.heap.size wx w') ∧
    (∀ (b : Nat) (wx : World), Below w.heap.size w wx → b < wx.heap.size → Rd wx (some ⟨b, 0, none⟩) s → Calls Tryd.prog 10 #[.slice (some ⟨b, 0, none⟩) n n] wx fun e w' => ∃ v, e = .returned (.agg #[.int .i64 c, v]) ∧ OwnP w' wx.heap.size v l ∧ Below wx.heap.size wx w') := by
  refine ⟨(psV s).1, (psV s).2, ?_, fun b wx hb hlt hr => specParseParts_any b n s wx hr hlt hB hl, fun b wx hb hlt hr => parseParts_any b n s wx hr (hT.below hb) hB hl⟩
  unfold psV
  split
  · simp
  · exact parts_le s
end Go.Proofs.YtkjnhcnbbojajaaDoor

namespace Go.Proofs.YtkjnhcnbbojajaaDoor
open Go.RowKit

set_option maxHeartbeats 800000 in
set_option maxRecDepth 100000 in
theorem toByteS_any (a : Option Addr) (n cap : Nat) (l : List Nat) (w : World) (hl : l.length = n) (hr : Rd w a l) (hn : n ≤ 1048576) :
    Calls Tryd.prog 15 #[.slice a n cap] w fun e w' =>
      e = .returned (.slice (some ⟨w.heap.size, 0, none⟩) n n) ∧ w'.ownsRow w.heap.size 5 1 (.slice (some ⟨w.heap.size, 0, none⟩) n n) n (bc l) ∧ Below w.heap.size w w' := by
  obtain ⟨i0, hi, hz0, hz1, hz2⟩ := info_parts infoB
  go_enter Tryd.func15, Tryd.ntmps15
  go_wp2_with (at_make; refine wpList_make_full _ rfl _ _ 22 rfl w.heap.size 5 i0 (.int .u8 0) 1 Tryd.underlying22 hi hz0 hz1 .i64 .i64 _ _ n rfl rfl rfl rfl (by rw [hz2]; omega) (by unfold maxLen; omega) (Nat.le_refl _) ?_; intro w0 hown0 hgrow0)
  rw [made_bytes, ← hl, ← half_zero l, hl] at hown0
  have hbel0 : Below w.heap.size w w0 := (Below.refl _ _).grown hgrow0 (Nat.le_refl _) (by intro k hk; cases hk)
  clear hgrow0
  go_loopw [4] (fun i wr => ∃ k : Nat, k ≤ n ∧ i = .int .i64 k ∧ wr.ownsRow w.heap.size 5 1 (.slice (some ⟨w.heap.size, 0, none⟩) n n) n (bc (half l k)) ∧ Below w.heap.size w wr)
    (fun i _ => n - (intOf i).toNat)
  case atStart => exact ⟨0, Nat.zero_le _, rfl, hown0, hbel0⟩
  case round =>
    obtain ⟨k, hk, rfl, hown, hbel⟩ := hrel
    clear hown0 hbel0
    by_cases hkn : k < n
    · obtain ⟨b, off, rfl, hblt, hcell⟩ := hr.at_ (by omega)
      have hc : wr.cell? ⟨b, off + k, none⟩ = some (.int .u8 (nth l k : Int)) := (hbel.cell (p := ⟨b, off + k, none⟩) hblt).trans (hcell k (by omega))
      have hk' : k < (half l k).length := by rw [half_len l k (by omega)]; omega
      have hg : wr.cell? ⟨w.heap.size, k, none⟩ = some (.int .u8 (nth (half l k) k : Int)) := by rw [hown.cellAt k (by omega)]; exact bc_get hk'
      have hf := hown.frozenAt k
      obtain ⟨hst, hgr⟩ := hown.stored k (.int .u8 (nth l k : Int))
      rw [half_set l k (by omega)] at hst
      have hbel' : Below w.heap.size w (wr.setCell ⟨w.heap.size, k, none⟩ (.int .u8 (nth l k : Int))) := hbel.grown hgr hbel.size (by intro j hj; simp at hj; omega)
      clear hgr hcell hown
      go_wp2
      go_roundw
      case rel => exact ⟨k + 1, by omega, by go_num, hst, hbel'⟩
      case measure => simp [intOf]; omega
    · have hkk : k = n := by omega
      subst hkk
      rw [← hl, half_all, hl] at hown
      go_wp2
      go_ret
      exact ⟨rfl, hown, hbel⟩

theorem toByteS_ex (a : Option Addr) (n cap : Nat) (l : List Nat) (w : World) (hl : l.length = n) (hr : Rd w a l) (hn : n ≤ 1048576) :
    Calls Tryd.prog 15 #[.slice a n cap] w fun e w' => ∃ g, e = .returned (.slice (some ⟨g, 0, none⟩) n n) ∧ Rd w' (some ⟨g, 0, none⟩) l ∧ Below w.heap.size w w' :=
  (toByteS_any a n cap l w hl hr hn).mono fun _ _ ⟨he, ho, hb⟩ => ⟨_, he, Rd.own ho, hb⟩

set_option maxHeartbeats 800000 in
set_option maxRecDepth 100000 in
theorem eqByteS_same (a c : Option Addr) (n cap cap' : Nat) (l : List Nat) (w : World) (hl : l.length = n) (hr : Rd w a l) (hs : Rd w c l) (hn : n ≤ 1048576) :
    Calls Tryd.prog 17 #[.slice a n cap, .slice c n cap'] w fun e w' => e = .returned (.bool true) ∧ Below w.heap.size w w' := by
  go_enter Tryd.func17, Tryd.ntmps17
  go_wp2
  go_loopw [5] (fun i wr => ∃ k : Nat, k ≤ n ∧ i = .int .i64 k ∧ Below w.heap.size w wr) (fun i _ => n - (intOf i).toNat)
  case atStart => exact ⟨0, Nat.zero_le _, rfl, Below.refl _ _⟩
  case round =>
    obtain ⟨k, hk, rfl, hbel⟩ := hrel
    by_cases hkn : k < n
    · obtain ⟨b, off, rfl, hblt, hcell⟩ := hr.at_ (by omega)
      obtain ⟨d, off', rfl, hdlt, hdell⟩ := hs.at_ (by omega)
      have hc : wr.cell? ⟨b, off + k, none⟩ = some (.int .u8 (nth l k : Int)) := (hbel.cell (p := ⟨b, off + k, none⟩) hblt).trans (hcell k (by omega))
      have hd : wr.cell? ⟨d, off' + k, none⟩ = some (.int .u8 (nth l k : Int)) := (hbel.cell (p := ⟨d, off' + k, none⟩) hdlt).trans (hdell k (by omega))
      have hki : (k : Int) < (n : Int) := by omega
      clear hcell hdell hr hs
      go_wp2
      go_quiet (fail)
      go_wp2
      go_roundw
      case rel => exact ⟨k + 1, by omega, by go_num, below_drewN hbel _⟩
      case measure => simp [intOf]; omega
    · go_wp2
      go_ret
      exact ⟨rfl, hbel⟩
end Go.Proofs.YtkjnhcnbbojajaaDoor
