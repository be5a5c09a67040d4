/- The draw of an op that is packed · What is packed is read back; with one byte another one, or without its last byte, it is no op; no program in it · The laws' helpers over slices of ops: their size, a copy, whether two are the same; no conditions beyond those that each fact names. -/
import Derived.Test.YtdcgihcjiiemdaaDoorDob
import Derived.Test.YtdcgihcjiiemdaaDoorJpl
import Derived.Test.YtdcgihcjiiemdaaDoorDotToOsb
namespace Go.Proofs.YtdcgihcjiiemdaaDoor
open Go.RowKit

/-- How the draw of an op of the law ends. -/
def OpDr (w : World) (e : Ending) (w' : World) : Prop := ∃ (o : OpR) (p : SlO), e = .returned (opX o p) ∧ IsOp (w.heap.size + 1) w' p o ∧ o.x.size ≤ 100 ∧ o.t.size ≤ 100 ∧ o.u.length ≤ 7 ∧ o.b.length ≤ 600 ∧ Below w.heap.size w w'
theorem slot8_below (W : World) (S : Nat) (q : Oc) : Below S W (slot8 W S q) := ((((((((Below.refl _ _).setCell (by simp) _).setCell (by simp) _).setCell (by simp) _).setCell (by simp) _).setCell (by simp) _).setCell (by simp) _).setCell (by simp) _).setCell (by simp) _
theorem slot8_near (W : World) (S : Nat) (q : Oc) : Near (S + 1) W (slot8 W S q) := by
  unfold slot8
  refine ⟨by simp, fun a ha _ => ?_⟩
  have hne : ∀ j, (⟨S, j, none⟩ : Addr) ≠ a := fun j e => by subst e; simp at ha; omega
  simp only [World.cell?_setCell_other _ _ _ _ (hne _)]
theorem slot8_q {W : World} {S : Nat} {q q' : Oc} (h : Qo W S q) : Qo (slot8 W S q') S q' := (((((((h.put0 _).put1 _).put2 _).put3 _).put4 _).put5 _).put6 _).put7 _
set_option maxHeartbeats 1600000 in
set_option maxRecDepth 100000 in
theorem drawPackOp_any (a : Option Addr) (n cap : Nat) (l : List Nat) (w : World) (hl : l.length = n) (hr : Rd w a l) (hB0 : IsB l) (hn : n ≤ 1048576) :
    Calls Tryd.prog 11 #[.slice a n cap] w fun e w' => OpDr w e w' := by
  have hbA : Below w.heap.size w (w.alloc (.cells #[.int .i64 0, .string ⟨#[]⟩, .string ⟨#[]⟩, .slice none 0 0, .int .i64 0, .int .i64 0, .int .i64 0, .slice none 0 0] 27)) := (Below.refl _ _).alloc (Nat.le_refl _) _
  have hQ0 : Qo (w.alloc (.cells #[.int .i64 0, .string ⟨#[]⟩, .string ⟨#[]⟩, .slice none 0 0, .int .i64 0, .int .i64 0, .int .i64 0, .slice none 0 0] 27)) w.heap.size opZc := Qo.new _ _ _ _ _ _ _ _ _ _
  have hF0 : Fo (w.alloc (.cells #[.int .i64 0, .string ⟨#[]⟩, .string ⟨#[]⟩, .slice none 0 0, .int .i64 0, .int .i64 0, .int .i64 0, .slice none 0 0] 27)) w.heap.size := Fo.new _ _ _ _ _ _ _ _ _ _
  have hsz : (w.alloc (.cells #[.int .i64 0, .string ⟨#[]⟩, .string ⟨#[]⟩, .slice none 0 0, .int .i64 0, .int .i64 0, .int .i64 0, .slice none 0 0] 27)).heap.size = w.heap.size + 1 := by simp
  have hr0 : Rd (w.alloc (.cells #[.int .i64 0, .string ⟨#[]⟩, .string ⟨#[]⟩, .slice none 0 0, .int .i64 0, .int .i64 0, .int .i64 0, .slice none 0 0] 27)) a l := hr.below hbA
  go_enter Tryd.func11, Tryd.ntmps11
  go_wp2_with fail
  generalize w.alloc (.cells #[.int .i64 0, .string ⟨#[]⟩, .string ⟨#[]⟩, .slice none 0 0, .int .i64 0, .int .i64 0, .int .i64 0, .slice none 0 0] 27) = W0 at *
  refine (l1Source_any a n cap l W0 hl hr0 hB0 hn).mono ?_
  rintro e w1 ⟨rfl, hs1, hb1⟩
  have hbw : W0.heap.size < w1.heap.size := hs1.2.1
  have HS : Hid (W0.heap.size = w.heap.size + 1) := hsz
  clear hsz
  go_wp2_with fail
  refine (l8Bent_any W0.heap.size W0.heap.size 0 w1 hs1 (by omega)).mono ?_
  rintro e w2 ⟨⟨ok, ox, ot, ou, om, of0, od, ob⟩, ⟨⟨pa, pn, pc⟩, qa, qn, qc⟩, rfl, hI, hx, ht, hu, hd, hs2, hk⟩
  have hB2 : Below W0.heap.size W0 w2 := hb1.trans (gbelow hk hbw)
  have hSlt : w.heap.size < W0.heap.size := by rw [HS.out]; omega
  have hQ2 := hQ0.below hB2 hSlt
  have hF2 := hF0.below hB2 hSlt
  have HF : Hid (Qo (slot8 w2 w.heap.size (opQ ⟨ok, ox, ot, ou, om, of0, od, ob⟩ ((pa, pn, pc), (qa, qn, qc)))) w.heap.size (opQ ⟨ok, ox, ot, ou, om, of0, od, ob⟩ ((pa, pn, pc), (qa, qn, qc))) ∧ OpDr w (.returned (opX ⟨ok, ox, ot, ou, om, of0, od, ob⟩ ((pa, pn, pc), (qa, qn, qc)))) (slot8 w2 w.heap.size (opQ ⟨ok, ox, ot, ou, om, of0, od, ob⟩ ((pa, pn, pc), (qa, qn, qc))))) :=
    ⟨slot8_q hQ2, ⟨ok, ox, ot, ou, om, of0, od, ob⟩, ((pa, pn, pc), (qa, qn, qc)), rfl, (hI.low (by omega)).near (slot8_near _ _ _), hx, ht, hu, hd, hbA.trans ((hB2.mono (by omega)).trans ((slot8_below w2 w.heap.size _)))⟩
  obtain ⟨z0, z1, z2, z3, z4, z5, z6, z7⟩ := hQ2
  obtain ⟨g0, g1, g2, g3, g4, g5, g6, g7⟩ := hF2
  dsimp only [opZc, opX, slW] at z0 z1 z2 z3 z4 z5 z6 z7 ⊢
  clear hs1 hb1 hI hs2 hk hQ0 hF0 hB2 hr0 hbA
  go_wp2
  obtain ⟨⟨d0, d1, d2, d3, d4, d5, d6, d7⟩, HE⟩ := HF.out
  unfold slot8 at d0 d1 d2 d3 d4 d5 d6 d7 HE
  dsimp only [opQ, opX, slW] at d0 d1 d2 d3 d4 d5 d6 d7 HE
  refine bodyPost_ret (v := .agg #[.int .i64 ok, .string ox, .string ot, .slice pa pn pc, .int .i64 om, .int .i64 of0, .int .i64 od, .slice qa qn qc]) (by simp [results, Tryd.results11, go_sem, d0, d1, d2, d3, d4, d5, d6, d7]) rfl ?_
  exact HE
end Go.Proofs.YtdcgihcjiiemdaaDoor

namespace Go.Proofs.YtdcgihcjiiemdaaDoor
open Go.RowKit

theorem rpV_app {o : OpR} (h : ofV o = 0) (r : List Nat) : rpV (pkO o ++ r) = (0, (pkO o).length, o) := by
  unfold rpV
  rw [rdP_pk (okJ h), if_pos ⟨h, r, rfl⟩]
theorem rpV_no {d : List Nat} (h : ∀ o, ofV o = 0 → pkO o <+: d → False) : rpV d = (5, 0, opZ) := by
  unfold rpV
  rw [if_neg (fun h' => h _ h'.1 h'.2)]
/-- What rpV tells of any bytes. -/
theorem rpV_or (d : List Nat) : rpV d = (5, 0, opZ) ∨ (rpV d = (0, (pkO (rdP d)).length, rdP d) ∧ ofV (rdP d) = 0 ∧ pkO (rdP d) <+: d) := by
  unfold rpV
  by_cases h : ofV (rdP d) = 0 ∧ pkO (rdP d) <+: d
  · rw [if_pos h]; exact .inr ⟨rfl, h⟩
  · rw [if_neg h]; exact .inl rfl
theorem pre_self {o o' : OpR} (h : ofV o = 0) (h' : ofV o' = 0) (hp : pkO o' <+: pkO o) : o' = o := by
  obtain ⟨r, hr⟩ := hp
  have e1 := rdP_pk (okJ h') r
  have e2 := rdP_pk (okJ h) []
  rw [List.append_nil] at e2
  rw [hr] at e1
  exact e1.symm.trans e2
/-- WITHOUT ITS LAST BYTES IT IS NO OP. -/
theorem rpV_cut {o : OpR} (h : ofV o = 0) {k : Nat} (hk : k < (pkO o).length) : rpV ((pkO o).take k) = (5, 0, opZ) := by
  refine rpV_no fun o' h' hp => ?_
  have e := pre_self h h' (hp.trans (List.take_prefix _ _))
  subst e
  have := hp.length_le
  rw [List.length_take] at this
  omega

theorem stJ_lt (s b : Nat) : (s * 31 + b) % 65521 < 65521 := Nat.mod_lt _ (by decide)
theorem stJ_inj {s s' b : Nat} (h : s < 65521) (h' : s' < 65521) (e : (s * 31 + b) % 65521 = (s' * 31 + b) % 65521) : s = s' := by omega
theorem stJ_byte {s b b' : Nat} (h : b < 256) (h' : b' < 256) (e : (s * 31 + b) % 65521 = (s * 31 + b') % 65521) : b = b' := by omega
theorem smQ_lt : ∀ (l : List Nat) (s : Nat), s < 65521 → smJ s l < 65521
  | [], _, h => h
  | b :: l, s, _ => smQ_lt l _ (stJ_lt s b)
theorem smQ_inj : ∀ (l : List Nat) (s s' : Nat), s < 65521 → s' < 65521 → smJ s l = smJ s' l → s = s'
  | [], _, _, _, _, e => e
  | b :: l, s, s', h, h', e => stJ_inj h h' (smQ_inj l _ _ (stJ_lt s b) (stJ_lt s' b) e)
/-- One byte another one: another sum. -/
theorem smQ_set : ∀ (l : List Nat) (s i y : Nat), i < l.length → (∀ b ∈ l, b < 256) → y < 256 → smJ s (l.set i y) = smJ s l → nth l i = y
  | [], _, i, _, hi, _, _, _ => absurd hi (Nat.not_lt_zero _)
  | b :: l, s, 0, y, _, hb, hy, e => by
    have := smQ_inj l _ _ (stJ_lt s y) (stJ_lt s b) e
    exact (stJ_byte hy (hb b (by simp)) this).symm
  | b :: l, s, i + 1, y, hi, hb, hy, e => by
    have := smQ_set l ((s * 31 + b) % 65521) i y (by simpa using hi) (fun x hx => hb x (by simp [hx])) hy e
    simpa [nth] using this
theorem twoB_inj {n m : Nat} (hn : n < 65536) (hm : m < 65536) (h : twoB n = twoB m) : n = m := by
  simp only [twoB, List.cons.injEq, and_true] at h
  omega
/-- WITH ONE BYTE BEHIND THE FIRST TWO ANOTHER ONE IT IS NO OP. -/
theorem rpV_set {o : OpR} (h : ofV o = 0) (hB : ∀ b ∈ pkO o, b < 256) {i y : Nat} (hi : 2 ≤ i) (hi' : i < (pkO o).length) (hy : y < 256) (hne : nth (pkO o) i ≠ y) : rpV ((pkO o).set i y) = (5, 0, opZ) := by
  refine rpV_no fun o' h' hp => ?_
  have hl : lnM ((pkO o).set i y) = (pkO o).length := by
    have e := lnM_pk (okJ h) []
    rw [List.append_nil] at e
    rw [← e]
    unfold lnM
    have e2 : ∀ j, j < 2 → nth ((pkO o).set i y) j = nth (pkO o) j := fun j hj => by
      unfold nth
      rw [List.getD_eq_getElem?_getD, List.getD_eq_getElem?_getD, List.getElem?_set, if_neg (by omega)]
    rw [e2 0 (by omega), e2 1 (by omega)]
  obtain ⟨r, hr⟩ := hp
  have hl' := lnM_pk (okJ h') r
  rw [hr, hl] at hl'
  have hlen : (pkO o ).length = (pkO o').length + r.length := by
    have := congrArg List.length hr
    rw [List.length_append, List.length_set] at this
    omega
  obtain rfl : r = [] := List.length_eq_zero_iff.1 (by omega)
  rw [List.append_nil] at hr
  -- the two texts as head and sum
  have hhl : (hdB o').length = (hdB o).length := by
    have h1 := pkO_len o; have h2 := pkO_len o'; have h3 := hdB_len o; have h4 := hdB_len o'
    omega
  have hh2 : (pkO o).length = (hdB o).length + 2 := by
    unfold pkO; rw [List.length_append]; simp [twoB]
  by_cases hih : i < (hdB o).length
  · have e : pkO o = hdB o ++ twoB (smJ 1 (hdB o)) := rfl
    have e' : pkO o' = hdB o' ++ twoB (smJ 1 (hdB o')) := rfl
    rw [e, List.set_append_left i y hih, e'] at hr
    obtain ⟨ea, eb⟩ := List.append_inj hr (by rw [List.length_set, hhl])
    have es := twoB_inj (Nat.lt_trans (smQ_lt _ 1 (by decide)) (by decide)) (Nat.lt_trans (smQ_lt _ 1 (by decide)) (by decide)) eb
    rw [ea] at es
    have hn := smQ_set (hdB o) 1 i y hih (fun b hb => hB b (by rw [e]; exact List.mem_append_left _ hb)) hy es
    apply hne
    rw [e, ← hn]
    unfold nth
    rw [List.getD_eq_getElem?_getD, List.getD_eq_getElem?_getD, List.getElem?_append_left hih]
  · have e : pkO o = hdB o ++ twoB (smJ 1 (hdB o)) := rfl
    have e' : pkO o' = hdB o' ++ twoB (smJ 1 (hdB o')) := rfl
    rw [e, List.set_append_right i y (by omega), e'] at hr
    obtain ⟨ea, eb⟩ := List.append_inj hr hhl
    rw [ea] at eb
    -- the sum's bytes are the same, so nothing was changed
    apply hne
    rw [e]
    unfold nth
    rw [List.getD_eq_getElem?_getD, List.getElem?_append_right (by omega)]
    have hj : i - (hdB o).length < (twoB (smJ 1 (hdB o))).length := by simp [twoB]; omega
    have := congrArg (fun l => l[i - (hdB o).length]?) eb
    rw [List.getElem?_set_self hj] at this
    rw [this]; rfl
end Go.Proofs.YtdcgihcjiiemdaaDoor

namespace Go.Proofs.YtdcgihcjiiemdaaDoor
open Go.RowKit

end Go.Proofs.YtdcgihcjiiemdaaDoor
