/- A line of a header, the model's: by a plain function. -/
import Derived.Test.YtknbndebfickpaaHdr4
import Derived.Test.YtknbndebfickpaaSetF
namespace Go.Proofs.Ytknbndebfickpaa
open Go.RowKit

/-- No colon. -/
def noCl (c : Nat) : Bool := decide (c ≠ 58)
/-- Where the first colon stands. -/
def clN (t : List Nat) : Nat := (t.takeWhile noCl).length
/-- Without one blank. -/
def oneOff (t : List Nat) : List Nat := if nth t 0 = 32 then t.drop 1 else t
/-- The last field, its value going on. -/
def goOn (l : List FldP) (t : List Nat) : List FldP := l.set (l.length - 1) ((nthF l (l.length - 1)).1, str (bts (nthF l (l.length - 1)).2 ++ t))
/-- The field that a line tells. -/
def fdL (t : List Nat) : FldP := (str (t.take (clN t)), str (oneOff (t.drop (clN t + 1))))
/-- What a line makes of the fields ahead. -/
def lnV (l : List FldP) (t : List Nat) : Option (List FldP) :=
  if nth t 0 = 32 ∨ nth t 0 = 9 then (if l.length = 0 then none else some (goOn l t)) else if clN t < t.length then some (l ++ [fdL t]) else none
theorem lnV_first {l : List FldP} {t : List Nat} (h : nth t 0 = 32 ∨ nth t 0 = 9) (h1 : l.length = 0) : lnV l t = none := by unfold lnV; rw [if_pos h, if_pos h1]
theorem lnV_on {l : List FldP} {t : List Nat} (h : nth t 0 = 32 ∨ nth t 0 = 9) (h1 : l.length ≠ 0) : lnV l t = some (goOn l t) := by unfold lnV; rw [if_pos h, if_neg h1]
theorem lnV_new {l : List FldP} {t : List Nat} (h : ¬ (nth t 0 = 32 ∨ nth t 0 = 9)) (h1 : clN t < t.length) : lnV l t = some (l ++ [fdL t]) := by unfold lnV; rw [if_neg h, if_pos h1]
theorem lnV_none {l : List FldP} {t : List Nat} (h : ¬ (nth t 0 = 32 ∨ nth t 0 = 9)) (h1 : ¬ clN t < t.length) : lnV l t = none := by unfold lnV; rw [if_neg h, if_neg h1]
/-- How a line's answer lies. -/
def LnEnd (o : Option (List FldP)) (w : World) (e : Ending) (w' : World) : Prop := Below w.heap.size w w' ∧
  match o with
  | some l' => ∃ v, e = .returned (.tuple #[v, .bool true]) ∧ OwnF w' w.heap.size v l'
  | none => e = .returned (.tuple #[.slice none 0 0, .bool false])
theorem OwnF.lit0 (w : World) (B : Nat) (hB : B ≤ w.heap.size) : OwnF (w.alloc (.cells #[] 35)) B (.slice (some ⟨w.heap.size, 0, none⟩) 0 0) [] := by
  have := World.ownsRow_lit (base := B) (e := 35) (size := 2) w #[] 0 hB (by decide) rfl
  exact this
theorem add_fields (x : ByteArray) (t : List Nat) (hx : x.size ≤ 1048576) (ht : t.length ≤ 1048576) : ∀ w, (Op.stringOp .add x (str t)).run Try.prog w = .ok (.string (str (bts x ++ t))) w := by
  intro w
  rw [str_app, str_bts]
  exact run_string_add_sum w _ _ (by rw [str_size]; omega)

set_option maxHeartbeats 1600000 in
set_option maxRecDepth 100000 in
theorem l4Line_on (b off n cap : Nat) (l : List FldP) (t : List Nat) (w : World) (hl : l.length = n + 1) (hr : RdF w (some ⟨b, off, none⟩) l) (hn : n ≤ 1048000) (hB : IsB t) (ht0 : 0 < t.length) (ht : t.length ≤ 1048576) (hfit : Fit l) (hx : nth t 0 = 32 ∨ nth t 0 = 9) :
    Calls Try.prog 59 #[.slice (some ⟨b, off, none⟩) (n + 1 : Nat) cap, .string (str t)] w fun e w' => LnEnd (some (goOn l t)) w e w' := by
  have hsz : (str t).size = t.length := str_size t
  have hsp : 0 < (str t).size := by omega
  have g0 := str_get hB (i := 0) hsp
  have HL : Hid (l.length = n + 1) := hl
  obtain ⟨b', off', e, hblt, hcell⟩ := hr.at_ (by omega)
  cases e
  have hf := hfit (nthF l n) (by rw [nthF_get (by omega)]; exact List.getElem_mem _)
  have hadd := add_fields (nthF l n).2 t hf.2 ht
  have HG : Hid (goOn l t = l.set n ((nthF l n).1, str (bts (nthF l n).2 ++ t))) := by
    show _ = _
    unfold goOn; rw [hl]; rfl
  have hnew : ∀ wx, Below w.heap.size w wx → ∀ j, j < n + 1 → wx.cell? ((⟨b, off, none⟩ : Addr).add (j * 2)) = some (.string (nthF l j).1) ∧ wx.cell? ((⟨b, off, none⟩ : Addr).add (j * 2 + 1)) = some (.string (nthF l j).2) := by
    intro wx hbx j hj
    rw [Go.WideShapes.add_plain, Go.WideShapes.add_plain]
    exact ⟨(hbx.cell (p := ⟨b, off + j * 2, none⟩) hblt).trans (hcell j (by omega)).1, (hbx.cell (p := ⟨b, off + (j * 2 + 1), none⟩) hblt).trans (hcell j (by omega)).2⟩
  have hb0 : Below w.heap.size w (w.alloc (.cells #[] 35)) := (Below.refl _ _).alloc (Nat.le_refl _) _
  have ho0 := OwnF.lit0 w w.heap.size (Nat.le_refl _)
  clear hcell hf hl
  rcases hx with hx | hx
  all_goals
    rw [hx] at g0
    clear hx
    go_enter Try.func59, Try.ntmps59
    go_wp2_with (at_builtin; refine wpList_appF rfl _ _ rfl w.heap.size _ [] rfl ho0 ⟨b, off, none⟩ (n + 1) cap l rfl HL.out (hnew _ hb0) (by simp; omega) (by simp) ?_; intro v' w2 hown' hb'; rw [List.nil_append] at hown'; obtain ⟨g, gc, ev, hg1, hg2, hgc, hset⟩ := hown'.at_ (by have := HL.out; omega); rw [HL.out] at ev; subst ev; obtain ⟨hc0, hc1, hc2⟩ := hgc n (by have := HL.out; omega))
    have hs2 := hset n (by have := HL.out; omega) (str (bts (nthF l n).2 ++ t))
    rw [← HG.out] at hs2
    go_ret2
    exact ⟨(hb0.trans hb').setCell hg1 _, _, rfl, hs2⟩

set_option maxHeartbeats 1600000 in
set_option maxRecDepth 100000 in
theorem l4Line_first (a : Option Addr) (cap : Nat) (t : List Nat) (w : World) (hB : IsB t) (ht0 : 0 < t.length) (hx : nth t 0 = 32 ∨ nth t 0 = 9) :
    Calls Try.prog 59 #[.slice a 0 cap, .string (str t)] w fun e w' => LnEnd none w e w' := by
  have hsz : (str t).size = t.length := str_size t
  have hsp : 0 < (str t).size := by omega
  have g0 := str_get hB (i := 0) hsp
  rcases hx with hx | hx
  all_goals
    rw [hx] at g0
    clear hx
    go_enter Try.func59, Try.ntmps59
    go_wp2
    go_ret2
    exact ⟨Below.refl _ _, rfl⟩
end Go.Proofs.Ytknbndebfickpaa
