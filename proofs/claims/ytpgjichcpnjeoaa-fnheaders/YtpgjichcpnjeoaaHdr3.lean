/- PackHeader, the model's, at every slice of fields: by a plain function. -/
import Derived.Test.YtpgjichcpnjeoaaHdr2ToBye
import Derived.Deep.RegionHeld3
namespace Go.Proofs.Ytpgjichcpnjeoaa
open Go.RowKit

/-- A line of a header. -/
def lnF (p : FldP) : List Nat := bts p.1 ++ [58, 32] ++ bts p.2 ++ [10]
/-- The lines of a header. -/
def pkH (l : List FldP) : List Nat := l.flatMap lnF
theorem pkH_snoc (l : List FldP) (k : Nat) (h : k < l.length) : pkH (l.take (k + 1)) = pkH (l.take k) ++ lnF (nthF l k) := by
  rw [take_snocF l k h]; simp [pkH]
theorem lnF_isB (p : FldP) : IsB (lnF p) := by
  intro b hb
  simp only [lnF, List.mem_append, List.mem_cons, List.not_mem_nil, or_false] at hb
  rcases hb with ((h | h) | h) | h
  · exact bts_isB _ b h
  · omega
  · exact bts_isB _ b h
  · omega
theorem str_app (a b : List Nat) : str (a ++ b) = str a ++ str b := by
  apply ByteArray.ext
  simp [str, ByteArray.data_append]
/-- The texts of a line, one by one. -/
theorem lnF_str (x y : ByteArray) (h : (lnF (x, y)).length ≤ 1048576) : ∃ u1 u2 : ByteArray, (∀ w, (Op.stringOp .add x ⟨#[58, 32]⟩).run Try.prog w = .ok (.string u1) w) ∧
    (∀ w, (Op.stringOp .add u1 y).run Try.prog w = .ok (.string u2) w) ∧ ∀ w, (Op.stringOp .add u2 ⟨#[10]⟩).run Try.prog w = .ok (.string (str (lnF (x, y)))) w := by
  have hx := bts_len x
  have hy := bts_len y
  have e0 : (⟨#[58, 32]⟩ : ByteArray) = str [58, 32] := rfl
  have e1 : (⟨#[10]⟩ : ByteArray) = str [10] := rfl
  have h' : (bts x).length + 2 + (bts y).length + 1 ≤ 1048576 := by
    simp [lnF] at h; omega
  refine ⟨str (bts x ++ [58, 32]), str (bts x ++ [58, 32] ++ bts y), fun w => ?_, fun w => ?_, fun w => ?_⟩
  · rw [str_app, str_bts, e0]
    exact run_string_add_sum w _ _ (by simp only [str_size, List.length_cons, List.length_nil]; omega)
  · rw [str_app (bts x ++ [58, 32]), str_bts y]
    exact run_string_add_sum w _ _ (by simp only [str_size, List.length_append, List.length_cons, List.length_nil]; omega)
  · unfold lnF
    rw [str_app (bts x ++ [58, 32] ++ bts y), e1]
    exact run_string_add_sum w _ _ (by simp only [str_size, List.length_append, List.length_cons, List.length_nil]; omega)

theorem pkH_le (l : List FldP) (k : Nat) : (pkH (l.take k)).length ≤ (pkH l).length := by
  have h : pkH l = pkH (l.take k) ++ pkH (l.drop k) := by
    unfold pkH; rw [← List.flatMap_append, List.take_append_drop]
  rw [h, List.length_append]; omega

set_option maxHeartbeats 1600000 in
set_option maxRecDepth 100000 in
theorem l4Pack_any (a : Option Addr) (n cap : Nat) (l : List FldP) (w : World) (hl : l.length = n) (hr : RdF w a l) (hn : n ≤ 1048576) (hfit : (pkH l).length ≤ 1048576) :
    Calls Try.prog 26 #[.slice a n cap] w fun e w' => ∃ v, e = .returned v ∧ Own w' w.heap.size v (pkH l ++ [10]) ∧ Below w.heap.size w w' := by
  have HL : Hid (l.length = n) := hl
  clear hl
  go_enter Try.func26, Try.ntmps26
  go_wp2
  go_loopw [3, 4] (fun v i wr => ∃ k : Nat, k ≤ n ∧ i = .int .i64 k ∧ Own wr w.heap.size v (pkH (l.take k)) ∧ Below w.heap.size w wr) (fun _ i _ => n - (intOf i).toNat)
  case atStart => exact ⟨0, Nat.zero_le _, rfl, Own.lit w _ (Nat.le_refl _) #[] [] rfl (by decide), (Below.refl _ _).alloc (Nat.le_refl _) _⟩
  case round =>
    obtain ⟨k, hk, rfl, hown, hbel⟩ := hrel
    by_cases hkn : k < n
    · obtain ⟨b, off, rfl, hblt, hcell⟩ := hr.at_ (by have := HL.out; omega)
      have hc0 : wr.cell? ⟨b, off + k * 2, none⟩ = some (.string (nthF l k).1) := (hbel.cell (p := ⟨b, off + k * 2, none⟩) hblt).trans (hcell k (by have := HL.out; omega)).1
      have hc1 : wr.cell? ⟨b, off + k * 2 + 1, none⟩ = some (.string (nthF l k).2) := (hbel.cell (p := ⟨b, off + k * 2 + 1, none⟩) hblt).trans (hcell k (by have := HL.out; omega)).2
      have hki : (k : Int) < (n : Int) := by omega
      have HS : Hid (pkH (l.take (k + 1)) = pkH (l.take k) ++ lnF (nthF l k)) := pkH_snoc l k (by have := HL.out; omega)
      have hle : (pkH (l.take k)).length + (lnF (nthF l k)).length ≤ 1048576 := by
        rw [← List.length_append, ← HS.out]
        exact Nat.le_trans (pkH_le l (k + 1)) hfit
      have hB := lnF_isB (nthF l k)
      have hpos : 0 < (lnF (nthF l k)).length := by simp [lnF]; omega
      clear hcell
      generalize hp : nthF l k = p at *
      clear hp
      obtain ⟨x, y⟩ := p
      simp only at hc0 hc1
      obtain ⟨u1, u2, hs1, hs2, hs3⟩ := lnF_str x y (by omega)
      generalize pkH (l.take k) = out at *
      generalize lnF (x, y) = t at *
      have hsz : (str t).size = t.length := str_size t
      have hcv := fun wx => run_bytes_of_string (P := Try.prog) wx 9 22 5 (str t) Try.underlying9 Try.underlying22 Try.underlying5
      rw [hsz] at hcv
      have hz := hbel.size
      have hnew : ∀ cp fr, ∀ j, j < t.length → (wr.alloc (.cells (bytesRow (str t) cp) 5 fr)).drew.drew.cell? ((⟨wr.heap.size, 0, none⟩ : Addr).add j) = some (.int .u8 (nth t j : Int)) := by
        intro cp fr j hj
        obtain ⟨d, off, e, -, hc⟩ := (bytesRow_rd wr t hB cp fr).at_ hpos
        cases e
        rw [Go.WideShapes.add_plain]
        exact hc j hj
      have hbW : ∀ cp fr, Below w.heap.size wr (wr.alloc (.cells (bytesRow (str t) cp) 5 fr)).drew.drew := fun cp fr => (((Below.refl _ _).alloc hz _).drew).drew
      go_wp2_with fail
      refine wp_region_held_drew (S := fun w' => w'.cell? ⟨b, off + k * 2, none⟩ = some (.string x) ∧ w'.cell? ⟨b, off + k * 2 + 1, none⟩ = some (.string y)) (by kernel_rfl) ?hS1 (fun hHeld => ?_)
      case hS1 => exact ⟨hc0, hc1⟩
      refine wpAnyH_take (i := 0) (v := ?_) rfl (by kernel_rfl) (by kernel_rfl) (by kernel_rfl) (fun _ _ _ h => h) (Or.inl ⟨by rfl, ?hy2⟩) (by assumption) ?ty2
      case hy2 => (intro w hSw; (try dsimp only at hSw); go_simp; all_goals with_reducible rfl)
      simp only [Act.put, List.getElem_toArray, List.getElem_cons_zero, List.setIfInBounds_toArray, List.set_cons_zero, List.set_cons_succ]
      refine wpAnyH_take (i := 1) (v := ?_) rfl (by kernel_rfl) (by kernel_rfl) (by kernel_rfl) (fun _ _ _ h => h) (Or.inl ⟨by rfl, ?hy3⟩) (by assumption) ?ty3
      case hy3 => (intro w hSw; (try dsimp only at hSw); go_simp; all_goals with_reducible rfl)
      simp only [Act.put, List.getElem_toArray, List.getElem_cons_zero, List.getElem_cons_succ, List.setIfInBounds_toArray, List.set_cons_zero, List.set_cons_succ]
      refine wpAnyH_take (i := 2) (v := ?_) rfl (by kernel_rfl) (by kernel_rfl) (by kernel_rfl) (fun _ _ _ h => h) (Or.inl ⟨by rfl, ?hy4⟩) (by assumption) ?ty4
      case hy4 => (intro w hSw; (try dsimp only at hSw); go_simp; all_goals with_reducible rfl)
      simp only [Act.put, List.getElem_toArray, List.getElem_cons_zero, List.getElem_cons_succ, List.setIfInBounds_toArray, List.set_cons_zero, List.set_cons_succ]
      refine wpAnyH_take (i := 3) (v := ?_) rfl (by kernel_rfl) (by kernel_rfl) (by kernel_rfl) (fun _ _ _ h => h) (Or.inl ⟨by rfl, ?hy5⟩) (by assumption) ?ty5
      case hy5 => (intro w hSw; (try dsimp only at hSw); go_simp; all_goals with_reducible rfl)
      simp only [Act.put, List.getElem_toArray, List.getElem_cons_zero, List.getElem_cons_succ, List.setIfInBounds_toArray, List.set_cons_zero, List.set_cons_succ]
      refine wpAnyH_take (i := 4) (v := ?_) rfl (by kernel_rfl) (by kernel_rfl) (by kernel_rfl) (fun _ _ _ h => h) (Or.inl ⟨by rfl, ?hy6⟩) (by assumption) ?ty6
      case hy6 => (intro w hSw; (try dsimp only at hSw); go_simp; all_goals with_reducible rfl)
      simp only [Act.put, List.getElem_toArray, List.getElem_cons_zero, List.getElem_cons_succ, List.setIfInBounds_toArray, List.set_cons_zero, List.set_cons_succ]
      refine wpAnyH_take (i := 5) (v := ?_) rfl (by kernel_rfl) (by kernel_rfl) (by kernel_rfl) (fun _ _ _ h => h) (Or.inl ⟨by rfl, ?hy7⟩) (by assumption) ?ty7
      case hy7 => (intro w hSw; (try dsimp only at hSw); go_simp; all_goals with_reducible rfl)
      simp only [Act.put, List.getElem_toArray, List.getElem_cons_zero, List.getElem_cons_succ, List.setIfInBounds_toArray, List.set_cons_zero, List.set_cons_succ]
      refine wpAnyH_take (i := 6) (v := ?_) rfl (by kernel_rfl) (by kernel_rfl) (by kernel_rfl) (fun _ _ _ h => h) (Or.inl ⟨by rfl, ?hy8⟩) (by assumption) ?ty8
      case hy8 => (intro w hSw; (try dsimp only at hSw); go_simp; all_goals with_reducible rfl)
      simp only [Act.put, List.getElem_toArray, List.getElem_cons_zero, List.getElem_cons_succ, List.setIfInBounds_toArray, List.set_cons_zero, List.set_cons_succ]
      refine wpAnyH_take (i := 7) (v := ?_) rfl (by kernel_rfl) (by kernel_rfl) (by kernel_rfl) (fun _ _ _ h => h) (Or.inl ⟨by rfl, ?hy9⟩) (by assumption) ?ty9
      case hy9 => (intro w hSw; (try dsimp only at hSw); go_simp; all_goals with_reducible rfl)
      simp only [Act.put, List.getElem_toArray, List.getElem_cons_zero, List.getElem_cons_succ, List.setIfInBounds_toArray, List.set_cons_zero, List.set_cons_succ]
      refine wpAnyH_take (i := 8) (v := ?_) rfl (by kernel_rfl) (by kernel_rfl) (by kernel_rfl) (fun _ _ _ h => h) (Or.inl ⟨by rfl, ?hy10⟩) (by assumption) ?ty10
      case hy10 => (intro w hSw; (try dsimp only at hSw); go_simp; all_goals with_reducible rfl)
      simp only [Act.put, List.getElem_toArray, List.getElem_cons_zero, List.getElem_cons_succ, List.setIfInBounds_toArray, List.set_cons_zero, List.set_cons_succ]
      refine wpAnyH_take (i := 9) (v := ?_) rfl (by kernel_rfl) (by kernel_rfl) (by kernel_rfl) (fun _ _ _ h => h) (Or.inl ⟨by rfl, ?hy11⟩) (by assumption) ?ty11
      case hy11 => (intro w hSw; (try dsimp only at hSw); go_simp; all_goals with_reducible rfl)
      simp only [Act.put, List.getElem_toArray, List.getElem_cons_zero, List.getElem_cons_succ, List.setIfInBounds_toArray, List.set_cons_zero, List.set_cons_succ]
      refine wpAnyH_take (i := 10) (v := ?_) rfl (by kernel_rfl) (by kernel_rfl) (by kernel_rfl) (fun _ _ _ h => h) (Or.inl ⟨by rfl, ?hy12⟩) (by assumption) ?ty12
      case hy12 => (intro w hSw; (try dsimp only at hSw); go_simp; all_goals with_reducible rfl)
      simp only [Act.put, List.getElem_toArray, List.getElem_cons_zero, List.getElem_cons_succ, List.setIfInBounds_toArray, List.set_cons_zero, List.set_cons_succ]
      refine wpAnyH_take (i := 11) (v := ?_) rfl (by kernel_rfl) (by kernel_rfl) (by kernel_rfl) (fun _ _ _ h => h) (Or.inl ⟨by rfl, ?hy13⟩) (by assumption) ?ty13
      case hy13 => (intro w hSw; (try dsimp only at hSw); go_simp; all_goals with_reducible rfl)
      simp only [Act.put, List.getElem_toArray, List.getElem_cons_zero, List.getElem_cons_succ, List.setIfInBounds_toArray, List.set_cons_zero, List.set_cons_succ]
      refine wpAnyH_take (i := 12) (v := ?_) rfl (by kernel_rfl) (by kernel_rfl) (by kernel_rfl) (fun _ _ _ h => h) (Or.inl ⟨by rfl, ?hy14⟩) (by assumption) ?ty14
      case hy14 => (intro w hSw; (try dsimp only at hSw); go_simp; all_goals with_reducible rfl)
      simp only [Act.put, List.getElem_toArray, List.getElem_cons_zero, List.getElem_cons_succ, List.setIfInBounds_toArray, List.set_cons_zero, List.set_cons_succ]
      refine wpAnyH_take (i := 13) (v := ?_) rfl (by kernel_rfl) (by kernel_rfl) (by kernel_rfl) (fun _ _ _ h => h) (Or.inl ⟨by rfl, ?hy15⟩) (by assumption) ?ty15
      case hy15 => (intro w hSw; (try dsimp only at hSw); go_simp; all_goals with_reducible rfl)
      simp only [Act.put, List.getElem_toArray, List.getElem_cons_zero, List.getElem_cons_succ, List.setIfInBounds_toArray, List.set_cons_zero, List.set_cons_succ]
      refine wpAnyH_ready (rs := [14]) (by kernel_rfl) (by simp) ?_
      refine AllReadyH.cons rfl (fun K hK => ?_) AllReadyH.nil
      go_simp
      refine hK.out _ _ ⟨((hbW _ _).cell (p := ⟨b, off + k * 2, none⟩) hblt).trans hc0, ((hbW _ _).cell (p := ⟨b, off + k * 2 + 1, none⟩) hblt).trans hc1⟩ (fun hHeld => ?_)
      clear hK K
      refine wpAnyH_ready (rs := [15]) (by kernel_rfl) (by simp) ?_
      refine AllReadyH.cons rfl (fun K hK => ?_) AllReadyH.nil
      refine step_app (by rfl) _ _ (by rfl) w.heap.size u3 out (by rfl) ((hown.alloc _).drew.drew) ⟨wr.heap.size, 0, none⟩ t.length _ t (by rfl) (by rfl) (hnew _ _) (by omega) (by simp; omega) ?_
      intro v' w2 hown' hb'
      have hb2 := (hbW _ _).trans hb'
      refine hK.out _ _ ⟨(hb2.cell (p := ⟨b, off + k * 2, none⟩) hblt).trans hc0, (hb2.cell (p := ⟨b, off + k * 2 + 1, none⟩) hblt).trans hc1⟩ (fun hHeld => ?_)
      clear hK K
      refine wpAnyH_take (i := 16) (v := ?_) rfl (by kernel_rfl) (by kernel_rfl) (by kernel_rfl) (fun _ _ _ h => h) (Or.inl ⟨by rfl, ?hy16⟩) (by assumption) ?ty16
      case hy16 => (intro w hSw; (try dsimp only at hSw); go_simp; all_goals with_reducible rfl)
      simp only [Act.put, List.getElem_toArray, List.getElem_cons_zero, List.getElem_cons_succ, List.setIfInBounds_toArray, List.set_cons_zero, List.set_cons_succ]
      refine wpAnyH_done (by kernel_rfl) ?_ _
      go_wp2
      go_roundw
      case rel => exact ⟨k + 1, by omega, by go_num, by rw [HS.out]; exact hown', hbel.trans hb2⟩
      case measure => simp [intOf]; omega
    · have hki : ¬ (k : Int) < (n : Int) := by omega
      have HM : Hid (pkH (l.take k) = pkH l) := by
        show _ = _
        rw [show k = l.length by have := HL.out; omega, List.take_length]
      rw [HM.out] at hown
      have hz := hbel.size
      go_wp2_with (at_builtin; refine wpList_app_new rfl _ _ rfl w.heap.size _ _ rfl hown 1 1 [10] rfl rfl rfl (by omega) hz ?_; intro v' w2 hown' hb')
      go_wp2
      go_ret
      exact ⟨_, rfl, hown', hbel.trans hb'⟩

theorem lnF_len (p : FldP) (h : fdOk p = true) : (lnF p).length ≤ 153 := by
  simp only [fdOk, nmOk, vlOk, Bool.and_eq_true, decide_eq_true_eq] at h
  obtain ⟨⟨_, h1⟩, _, h2⟩ := h
  simp only [lnF, List.length_append, List.length_cons, List.length_nil]
  omega
theorem pkH_len : ∀ l : List FldP, l.all fdOk = true → (pkH l).length ≤ l.length * 153
  | [], _ => by simp [pkH]
  | p :: l, h => by
    simp only [List.all_cons, Bool.and_eq_true] at h
    have h1 := lnF_len p h.1
    have h2 := pkH_len l h.2
    have e : pkH (p :: l) = lnF p ++ pkH l := rfl
    rw [e, List.length_append, List.length_cons]
    omega
theorem fdF_zero {l : List FldP} (h : fdF l = 0) : l.length ≤ 8 ∧ l.all fdOk = true := by
  unfold fdF at h
  by_cases h8 : 8 < l.length
  · rw [if_pos h8] at h; cases h
  · rw [if_neg h8] at h
    refine ⟨by omega, ?_⟩
    cases ha : l.all fdOk with
    | true => rfl
    | false => rw [ha] at h; simp at h
theorem pkH_fit {l : List FldP} (h : fdF l = 0) : (pkH l).length ≤ 1224 := by
  have h1 := fdF_zero h
  have h2 := pkH_len l h1.2
  omega
/-- What PackHeader answers. -/
def pkV (l : List FldP) : Int × List Nat := if fdF l = 0 then (if 400 < (pkH l ++ [10]).length then (2, []) else (0, pkH l ++ [10])) else (fdF l, [])
theorem pkV_bad {l : List FldP} (h : fdF l ≠ 0) : pkV l = (fdF l, []) := if_neg h
theorem pkV_many {l : List FldP} (h : fdF l = 0) (h1 : 400 < (pkH l ++ [10]).length) : pkV l = (2, []) := by unfold pkV; rw [if_pos h, if_pos h1]
theorem pkV_ok {l : List FldP} (h : fdF l = 0) (h1 : ¬ 400 < (pkH l ++ [10]).length) : pkV l = (0, pkH l ++ [10]) := by unfold pkV; rw [if_pos h, if_neg h1]

set_option maxHeartbeats 1600000 in
set_option maxRecDepth 100000 in
theorem specPackHeader_any (a : Option Addr) (n cap : Nat) (l : List FldP) (w : World) (hl : l.length = n) (hr : RdF w a l) (hn : n ≤ 1048576) (hfit : Fit l) :
    Calls Try.prog 12 #[.slice a n cap] w fun e w' => BytEnd (pkV l) w e w' := by
  have hb0 : Below w.heap.size w (w.alloc (.cells #[.int .i64 0, .slice none 0 0] 32)) := (Below.refl _ _).alloc (Nat.le_refl _) _
  have HF := l4Fault_any a n cap l _ hl (hr.below hb0) hn hfit
  have HO : Hid (fdF l = 0 → ∀ w', Below w.heap.size w w' → Calls Try.prog 26 #[.slice a n cap] w' fun e w'' => ∃ v, e = .returned v ∧ Own w'' w'.heap.size v (pkH l ++ [10]) ∧ Below w'.heap.size w' w'') :=
    fun h w' hb => l4Pack_any a n cap l w' hl (hr.below hb) hn (by have := pkH_fit h; omega)
  have HB : Hid (fdF l ≠ 0 → pkV l = (fdF l, [])) := pkV_bad
  have HN : Hid (fdF l = 0 → 400 < (pkH l ++ [10]).length → pkV l = (2, [])) := pkV_many
  have HS : Hid (fdF l = 0 → ¬ 400 < (pkH l ++ [10]).length → pkV l = (0, pkH l ++ [10])) := pkV_ok
  clear hr hfit hl
  generalize fdF l = c at *
  generalize pkH l ++ [10] = o at *
  generalize pkV l = r at *
  go_enter Try.func12, Try.ntmps12
  go_wp2_with fail
  refine HF.mono ?_
  rintro e w1 ⟨rfl, hb1⟩
  have hbl : Below (w.heap.size + 1) (w.alloc (.cells #[.int .i64 0, .slice none 0 0] 32)) w1 := hb1.mono (by simp)
  clear HF hb1
  generalize hW : w.alloc (.cells #[.int .i64 0, .slice none 0 0] 32) = W at *
  have hbw := hb0.trans (hbl.mono (by omega))
  by_cases hc : c = 0
  · subst hc
    have hz1 : w.heap.size + 1 ≤ w1.heap.size := by have := hbl.size; rw [← hW] at this; simpa using this
    go_wp2_with fail
    refine (HO.out trivial _ hbw).mono ?_
    rintro e w2 ⟨v, rfl, hown, hb2⟩
    have hbl2 := hbl.trans (hb2.mono hz1)
    have hbw2 := hb0.trans (hbl2.mono (by omega))
    have hown2 := hown.lower hz1
    obtain ⟨hcw, hcw1, hfw, hfw1⟩ := res_block hW hbl2
    obtain ⟨ao, oc, rfl, ho1, ho2⟩ := hown.form
    clear hb2 HO hown
    by_cases h4 : 400 < o.length
    · have h4' : (400 : Int) < (o.length : Int) := by omega
      have HM : Hid (_) := HN.out trivial h4
      clear HN HS HB
      obtain ⟨hk0, hk1⟩ := res_cells hcw hcw1 (.int .i64 2) (.slice none 0 0)
      go_wp2
      refine bodyPost_ret (v := .agg #[.int .i64 2, .slice none 0 0]) (by simp [results, Try.results12, go_sem, hk0, hk1]) rfl ?_
      rw [HM.out]
      exact BytEnd.code hbw2 _ _
    · have h4' : ¬ (400 : Int) < (o.length : Int) := by omega
      have HM : Hid (_) := HS.out trivial h4
      clear HN HS HB
      obtain ⟨hk0, hk1⟩ := res_cells hcw hcw1 (.int .i64 0) (.slice ao o.length oc)
      go_wp2
      refine bodyPost_ret (v := .agg #[.int .i64 0, .slice ao o.length oc]) (by simp [results, Try.results12, go_sem, hk0, hk1]) rfl ?_
      rw [HM.out]
      exact BytEnd.some hbw2 hown2 _ _
  · have HM : Hid (_) := HB.out hc
    clear HN HS HB HO
    obtain ⟨hcw, hcw1, hfw, hfw1⟩ := res_block hW hbl
    obtain ⟨hk0, hk1⟩ := res_cells hcw hcw1 (.int .i64 c) (.slice none 0 0)
    have hc' : (c == 0) = false := by simp [hc]
    go_wp2
    refine bodyPost_ret (v := .agg #[.int .i64 c, .slice none 0 0]) (by simp [results, Try.results12, go_sem, hk0, hk1]) rfl ?_
    rw [HM.out]
    exact BytEnd.code hbw _ _
end Go.Proofs.Ytpgjichcpnjeoaa
