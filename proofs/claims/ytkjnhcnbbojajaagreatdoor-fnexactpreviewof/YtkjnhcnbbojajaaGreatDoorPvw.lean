/- PreviewOf, both sides. -/
import Derived.Test.YtkjnhcnbbojajaaGreatDoorPcf
import Derived.Test.YtkjnhcnbbojajaaGreatDoorShm
namespace Go.Proofs.YtkjnhcnbbojajaaGreatDoor
open Go.RowKit

/-- What is seen of the first part that can be seen. -/
def pvF (d : List Nat) : List PtP → Int × List Int
  | [] => (4, [])
  | p :: r => if (pcP d p).1 = 0 then (0, shV (pcP d p).2) else pvF d r
/-- What PreviewOf answers. -/
def pvV (d : List Nat) : Int × List Int := if (psV d).1 = 0 then pvF d (psV d).2 else ((psV d).1, [])
theorem pvF_zero {d : List Nat} : ∀ {l : List PtP}, (pvF d l).1 ≠ 0 → (pvF d l).2 = []
  | [], _ => rfl
  | p :: r, h => by
    unfold pvF at h ⊢
    split
    · rename_i h1; rw [if_pos h1] at h; exact absurd rfl h
    · rename_i h1; rw [if_neg h1] at h; exact pvF_zero h
theorem pvF_len (d : List Nat) : ∀ l : List PtP, (pvF d l).2.length ≤ 20
  | [] => by simp [pvF]
  | p :: r => by
    unfold pvF
    split
    · exact shV_len _
    · exact pvF_len d r
theorem pvV_zero {d : List Nat} (h : (pvV d).1 ≠ 0) : (pvV d).2 = [] := by
  unfold pvV at h ⊢
  split
  · rename_i h1; rw [if_pos h1] at h; exact pvF_zero h
  · rfl
theorem pvV_len (d : List Nat) : (pvV d).2.length ≤ 20 := by
  unfold pvV
  split
  · exact pvF_len d _
  · simp
theorem drop_consP (l : List PtP) (k : Nat) (h : k < l.length) : l.drop k = nthP l k :: l.drop (k + 1) := by
  rw [List.drop_eq_getElem_cons h, nthP_get h]
theorem pvF_step {d : List Nat} {l : List PtP} {k : Nat} (h : k < l.length) : pvF d (l.drop k) = if (pcP d (nthP l k)).1 = 0 then (0, shV (pcP d (nthP l k)).2) else pvF d (l.drop (k + 1)) := by
  rw [drop_consP l k h]; rfl
theorem pqV_at {d : List Nat} {n : Nat} (h : (psV d).1 = 0) (hn : n < (psV d).2.length) : pqV d (n : Int) = pcP d (nthP (psV d).2 n) := by
  have e : pwV d (n : Int) = psV d := by
    unfold pwV
    rw [if_neg (fun hh => by rcases hh.2 with h' | h' <;> omega)]
  unfold pqV ppV
  rw [e, if_pos h, if_pos h, Int.toNat_natCast]

set_option maxHeartbeats 3200000 in
set_option maxRecDepth 100000 in
theorem previewIn_any (b m : Nat) (d : List Nat) (w : World) (hr : Rd w (some ⟨b, 0, none⟩) d) (hT : TabC w) (hTB : TabB w) (hTH : TabH w) (hMI : MaxI w) (hB : IsB d) (hl : d.length = m) :
    Calls Tryz.prog 118 #[.slice (some ⟨b, 0, none⟩) m m] w (SeeI (pvV d) w) := by
  have HP := parseParts_any b m d w hr hT hB hl
  have HZ : Hid ((psV d).1 ≠ 0 → pvV d = ((psV d).1, [])) := fun h => if_neg h
  have HV : Hid ((psV d).1 = 0 → pvV d = pvF d (psV d).2) := fun h => if_pos h
  have HC : Hid (∀ (n : Nat) (w' : World), Below w.heap.size w w' → (psV d).1 = 0 → n < (psV d).2.length → Calls Tryz.prog 48 #[.slice (some ⟨b, 0, none⟩) m m, .int .i64 (n : Int)] w' (CodEnd (pcP d (nthP (psV d).2 n)) w')) := fun n w' hb h hn => by
    rw [← pqV_at h hn]
    exact partCodes_any b m d n w' (hr.below hb) (hT.below hb) (hTB.below hb) (hTH.below hb) (hMI.below hb) hB hl
  have hle := psV_le d
  generalize pvV d = r at *
  generalize psV d = ps at *
  obtain ⟨c, l⟩ := ps
  obtain ⟨N, hN⟩ : ∃ N, l.length = N := ⟨_, rfl⟩
  dsimp only at HZ HV HC hle
  go_enter Tryz.func118, Tryz.ntmps118
  go_wp2_with fail
  refine HP.mono ?_
  rintro e w1 ⟨v, rfl, ho, hb1⟩
  dsimp only at ho
  obtain ⟨a, cp, hv, -, -⟩ := ho.form
  rw [hN] at hv
  subst hv
  clear HP ho
  by_cases hc : c = 0
  · subst hc
    go_wp2_with fail
    refine (mustSee_ok _).mono ?_
    rintro e w2 ⟨rfl, hw2⟩
    have hbA : Below w1.heap.size w1 w2 := hw2 ▸ (Below.refl _ _).alloc (Nat.le_refl _) _
    have h27 : w2.heap[w1.heap.size]? = some (.cells #[.int .i64 0, .slice a N cp] 27 (0, 0)) := hw2 ▸ heap_alloc_new w1 _
    have q1 : w2.cell? ⟨w1.heap.size, 1, none⟩ = some (.slice a N cp) := by simp [World.cell?, h27]
    have hbw := hb1.trans (hbA.mono hb1.size)
    have HVr : Hid (r = pvF d l) := HV.out (by trivial)
    clear h27 hw2 hbA HZ HV
    go_wp2
    go_loopw [14] (fun i wr => ∃ k : Nat, k ≤ N ∧ i = .int .i64 k ∧ Hid (pvF d l = pvF d (l.drop k)) ∧ Below w.heap.size w wr) (fun i _ => N - (intOf i).toNat)
    case atStart => exact ⟨0, Nat.zero_le _, rfl, rfl, hbw⟩
    case round =>
      obtain ⟨k, hk, rfl, HF, hbel⟩ := hrel
      by_cases hkn : k < N
      · have hki : (k : Int) < (N : Int) := by omega
        have HF2 : Hid (pvF d l = if (pcP d (nthP l k)).1 = 0 then (0, shV (pcP d (nthP l k)).2) else pvF d (l.drop (k + 1))) := HF.out.trans (pvF_step (by omega))
        have HK := HC.out k wr hbel (by trivial) (by omega)
        have hpl := pcP_len d (nthP l k)
        clear HF
        generalize pcP d (nthP l k) = q at *
        obtain ⟨qc, ql⟩ := q
        dsimp only at HF2 hpl
        go_wp2_with fail
        refine HK.mono ?_
        rintro e w3 ⟨v3, rfl, ho3, hb3⟩
        dsimp only at ho3
        obtain ⟨Q, hQ⟩ : ∃ Q, ql.length = Q := ⟨_, rfl⟩
        obtain ⟨a3, c3, hv3, -, -⟩ := ho3.form
        rw [hQ] at hv3
        subst hv3
        have hbel3 := hbel.trans (hb3.mono hbel.size)
        have hbB : Below w3.heap.size w3 (w3.alloc (.cells #[.int .i64 qc, .slice a3 Q c3] 59)) := (Below.refl _ _).alloc (Nat.le_refl _) _
        have hbelB := hbel3.trans (hbB.mono hbel3.size)
        clear HK
        by_cases hq : qc = 0
        · subst hq
          have HM : Hid (r = (0, shV ql)) := by show _ = _; rw [HVr.out, HF2.out, if_pos rfl]
          have HD := firstOf_any a3 Q c3 ql _ hQ ((OwnI.rd ho3).2.below hbB) (by omega)
          clear HF2 HVr HC
          go_wp2_with fail
          refine HD.mono ?_
          rintro e w4 ⟨v4, rfl, ho4, hb4⟩
          have hbel4 := hbelB.trans (hb4.mono hbelB.size)
          have ho5 : OwnI w4 w.heap.size v4 (shV ql) := row_low ho4 hbelB.size
          obtain ⟨a4, c4, hv4, -, -⟩ := ho5.form
          subst hv4
          clear HD ho3 ho4
          go_wp2
          go_ret
          refine ⟨.inl ⟨by rw [HM.out], _, rfl, by rw [HM.out]; exact ho5⟩, hbel4⟩
        · have hq' : (qc == 0) = false := by simpa using hq
          have HM : Hid (pvF d l = pvF d (l.drop (k + 1))) := by show _ = _; rw [HF2.out, if_neg hq]
          clear HF2 ho3
          go_wp2
          go_roundw
          case rel => exact ⟨k + 1, by omega, by go_num, HM.out, hbelB⟩
          case measure => simp [intOf]; omega
      · have hki : ¬ (k : Int) < (N : Int) := by omega
        have HM : Hid (r = (4, [])) := by show _ = _; rw [HVr.out, HF.out, List.drop_of_length_le (by omega)]; rfl
        clear HF HVr HC
        go_wp2
        refine ⟨rfl, ?_⟩
        rw [HM.out]
        exact ⟨.inr ⟨by simp, rfl⟩, hbel⟩
  · go_wp2_with fail
    refine (mustSee_bad c hc _).mono ?_
    rintro e w2 ⟨rfl, hw2⟩
    subst hw2
    refine ⟨rfl, ?_⟩
    rw [HZ.out hc]
    exact ⟨.inr ⟨hc, rfl⟩, hb1.alloc hb1.size _⟩

set_option maxHeartbeats 800000 in
set_option maxRecDepth 100000 in
theorem previewOf1_any (b m B0 : Nat) (d : List Nat) (w : World) (hr : Rd w (some ⟨b, 0, none⟩) d) (hT : TabC w) (hTB : TabB w) (hTH : TabH w) (hMI : MaxI w) (hB : IsB d) (hl : d.length = m)
    (h0 : w.cell? ⟨B0, 0, none⟩ = some (.slice (some ⟨b, 0, none⟩) m m)) :
    Calls Tryz.prog 117 #[.pointer (some ⟨B0, 0, none⟩)] w (SeeI (pvV d) w) := by
  have HP := previewIn_any b m d w hr hT hTB hTH hMI hB hl
  generalize pvV d = r at *
  go_enter Tryz.func117, Tryz.ntmps117
  go_wp2_with fail
  refine HP.mono ?_
  rintro e w1 ⟨⟨h3, v, rfl, ho⟩ | ⟨h3, rfl⟩, hb⟩
  · obtain ⟨a, cp, hv, -, -⟩ := ho.form
    subst hv
    go_wp2
    go_ret
    exact ⟨.inl ⟨h3, _, rfl, ho⟩, hb⟩
  · exact ⟨rfl, .inr ⟨h3, rfl⟩, hb⟩

set_option maxHeartbeats 1600000 in
set_option maxRecDepth 100000 in
theorem previewOf_any (b m : Nat) (d : List Nat) (w : World) (hr : Rd w (some ⟨b, 0, none⟩) d) (hT : TabC w) (hTB : TabB w) (hTH : TabH w) (hMI : MaxI w) (hB : IsB d) (hl : d.length = m) :
    Calls Tryz.prog 57 #[.slice (some ⟨b, 0, none⟩) m m] w (CodEnd (pvV d) w) := by
  have hmf : ∀ (fn : Fn) (first cap : Array Value) (w : World), (Instr.makeFunc fn first cap).run Tryz.prog w = .ok (.func fn first cap) w := fun _ _ _ _ => rfl
  have hG : ∀ (args : Array Value) (w : World), (callFunc 117 args).run Tryz.prog w = .ok (.enter 117 args) w := fun _ _ => by kernel_rfl
  have hb0 : Below w.heap.size w ((w.alloc (.cells #[.slice (some ⟨b, 0, none⟩) m m] 22)).alloc (.cells #[.int .i64 0, .slice none 0 0] 59)) := ((Below.refl _ _).alloc (Nat.le_refl _) _).alloc (by simp) _
  have HS : Hid (∀ W : World, Below w.heap.size w W → W.cell? ⟨w.heap.size, 0, none⟩ = some (.slice (some ⟨b, 0, none⟩) m m) → Calls Tryz.prog 109 #[.func (.func 117) #[] #[.pointer (some ⟨w.heap.size, 0, none⟩)]] W fun e w' => ∃ v, e = .returned (.tuple #[v, .int .i64 (pvV d).1]) ∧ OwnI w' W.heap.size v (pvV d).2 ∧ Below W.heap.size W w') := fun W hW c0 => by
    have hbC := hW.alloc hW.size (.cells #[.int .i64 0] 2)
    exact seeI_of _ _ (pvV d) W hG (fun h => pvV_zero h) (previewOf1_any b m _ d _ (hr.below hbC) (hT.below hbC) (hTB.below hbC) (hTH.below hbC) (hMI.below hbC) hB hl (cellB c0))
  generalize pvV d = r at *
  obtain ⟨rc, rl⟩ := r
  dsimp only at HS
  have x0 : ((w.alloc (.cells #[.slice (some ⟨b, 0, none⟩) m m] 22)).alloc (.cells #[.int .i64 0, .slice none 0 0] 59)).cell? ⟨w.heap.size, 0, none⟩ = some (.slice (some ⟨b, 0, none⟩) m m) := cellB (by simp)
  have hsz : ((w.alloc (.cells #[.slice (some ⟨b, 0, none⟩) m m] 22)).alloc (.cells #[.int .i64 0, .slice none 0 0] 59)).heap.size = w.heap.size + 1 + 1 := by simp
  have HRB := fun (wx : World) (hx : Below (w.heap.size + 1 + 1) ((w.alloc (.cells #[.slice (some ⟨b, 0, none⟩) m m] 22)).alloc (.cells #[.int .i64 0, .slice none 0 0] 59)) wx) => res_block (w := (w.alloc (.cells #[.slice (some ⟨b, 0, none⟩) m m] 22))) (wr := wx) rfl (by simpa using hx)
  have hs3 : (w.alloc (.cells #[.slice (some ⟨b, 0, none⟩) m m] 22)).heap.size = w.heap.size + 1 := by simp
  rw [hs3] at HRB
  go_enter Tryz.func57, Tryz.ntmps57
  go_wp2_with fail
  refine (HS.out _ hb0 x0).mono ?_
  rintro e w1 ⟨v, rfl, ho, hb1⟩
  rw [hsz] at ho hb1
  obtain ⟨a0, a1, z0, z1⟩ := HRB w1 hb1
  have hbw := hb0.trans (hb1.mono (by omega))
  obtain ⟨a, cp, hv, -, -⟩ := ho.form
  subst hv
  obtain ⟨k0, k1⟩ := res_at a0 a1 (.int .i64 rc) (.slice a rl.length cp)
  have HE : Hid (_) := CodEnd.at_ (c := rc) hbw (R := w.heap.size + 1) (by omega) ho (.int .i64 rc) (.slice a rl.length cp)
  clear HRB x0 HS hb0 hsz hs3 hb1 ho
  go_wp2
  refine bodyPost_ret (v := .agg #[.int .i64 rc, .slice a rl.length cp]) (by simp [results, Tryz.results57, go_sem, k0, k1]) rfl ?_
  exact HE.out

set_option maxHeartbeats 3200000 in
set_option maxRecDepth 100000 in
theorem specPreviewOf_any (b m : Nat) (d : List Nat) (w : World) (hr : Rd w (some ⟨b, 0, none⟩) d) (hb : b < w.heap.size) (hB : IsB d) (hl : d.length = m) :
    Calls Tryz.prog 58 #[.slice (some ⟨b, 0, none⟩) m m] w (CodEnd (pvV d) w) := by
  have hb0 : Below w.heap.size w (w.alloc (.cells #[.int .i64 0, .slice none 0 0] 59)) := (Below.refl _ _).alloc (Nat.le_refl _) _
  by_cases h4 : 400 < m
  · have h4' : (400 : Int) < (m : Int) := by omega
    have HM : Hid (pvV d = (2, [])) := by
      have e : psV d = (2, []) := if_pos (by omega)
      show _ = _
      unfold pvV
      rw [e, if_neg (by decide)]
    go_enter Tryz.func58, Tryz.ntmps58
    go_wp2
    go_returns
    rw [HM.out]
    exact ⟨_, rfl, OwnI.nil _ _, by go_grown⟩
  · have h4' : ¬ (400 : Int) < (m : Int) := by omega
    have HA := l5Parse_any b m d _ (hr.below hb0) (Nat.lt_of_lt_of_le hb hb0.size) hB hl (by omega)
    have hps : psV d = (0, adV d 2 0 d.length (-1) 0 []) := if_neg (by omega)
    have HV : Hid (pvV d = pvF d (adV d 2 0 d.length (-1) 0 [])) := by show _ = _; unfold pvV; rw [hps, if_pos rfl]
    have hle := parts_le d
    have HOK := parts_ok d (by omega)
    have HCs : OkC (adV d 2 0 d.length (-1) 0 []) := adV_C d 2 0 d.length (-1) 0 [] (fun p hp => by cases hp)
    have HC : Hid (∀ (k P : Nat) (w' : World), Below w.heap.size w w' → k < (adV d 2 0 d.length (-1) 0 []).length → PtC w' P (k * 7) (nthP (adV d 2 0 d.length (-1) 0 []) k) → Calls Tryz.prog 112 #[.slice (some ⟨b, 0, none⟩) m m, .pointer (some ⟨P, k * 7, none⟩)] w' fun e w'' => ∃ v, e = .returned (.tuple #[v, .int .i64 (pcP d (nthP (adV d 2 0 d.length (-1) 0 []) k)).1]) ∧ OwnI w'' w'.heap.size v (pcP d (nthP (adV d 2 0 d.length (-1) 0 []) k)).2 ∧ Below w'.heap.size w' w'') := fun k P w' hbx hk hP => by
      obtain ⟨f, t, h1, h2, h3⟩ := (HOK k hk).1
      exact l6Codes_any b m P (k * 7) d _ f t w' (hr.below hbx) hB hl (by omega) h1 h2 (by omega) (HCs _ (nthP_mem hk)) hP
    generalize pvV d = r at *
    generalize adV d 2 0 d.length (-1) 0 [] = l at *
    obtain ⟨N, hN⟩ : ∃ N, l.length = N := ⟨_, rfl⟩
    clear HOK HCs hps
    go_enter Tryz.func58, Tryz.ntmps58
    go_wp2_with fail
    refine HA.mono ?_
    rintro e w1 ⟨v, rfl, ho, hb1⟩
    obtain ⟨a, cp, hv, -, -⟩ := ho.form
    rw [hN] at hv
    subst hv
    have hbl : Below (w.heap.size + 1) (w.alloc (.cells #[.int .i64 0, .slice none 0 0] 59)) w1 := hb1.mono (by simp)
    have hz1 : w.heap.size + 1 ≤ w1.heap.size := by have hz := hbl.size; rw [World.size_alloc] at hz; exact hz
    have hrd := ho.rd.2
    clear HA hb1 ho
    go_wp2
    go_loopw [4] (fun i wr => ∃ k : Nat, k ≤ N ∧ i = .int .i64 k ∧ Hid (pvF d l = pvF d (l.drop k)) ∧ Below w1.heap.size w1 wr) (fun i _ => N - (intOf i).toNat)
    case atStart => exact ⟨0, Nat.zero_le _, rfl, rfl, Below.refl _ _⟩
    case round =>
      obtain ⟨k, hk, rfl, HF, hbel⟩ := hrel
      have hblr := hbl.trans (hbel.mono hz1)
      have hbwr := hb0.trans (hblr.mono (by omega))
      by_cases hkn : k < N
      · have hki : (k : Int) < (N : Int) := by omega
        obtain ⟨g, rfl, hglt, hcell⟩ := (hrd.below hbel).at_ (by omega)
        obtain ⟨x0, x1, x2, x3, x4, -, -⟩ := hcell k (by omega)
        have hP : PtC wr g (k * 7) (nthP l k) := ⟨hglt, x0, x1, x2, x3, x4⟩
        have HF2 : Hid (pvF d l = if (pcP d (nthP l k)).1 = 0 then (0, shV (pcP d (nthP l k)).2) else pvF d (l.drop (k + 1))) := HF.out.trans (pvF_step (by omega))
        have HK := HC.out k g wr hbwr (by omega) hP
        have hpl := pcP_len d (nthP l k)
        clear HF hP x0 x1 x2 x3 x4 hcell
        generalize pcP d (nthP l k) = q at *
        obtain ⟨qc, ql⟩ := q
        dsimp only at HF2 hpl HK
        obtain ⟨Q, hQ⟩ : ∃ Q, ql.length = Q := ⟨_, rfl⟩
        go_wp2_with fail
        refine HK.mono ?_
        rintro e w3 ⟨v3, rfl, ho3, hb3⟩
        obtain ⟨a3, c3, hv3, -, -⟩ := ho3.form
        rw [hQ] at hv3
        subst hv3
        have hbel3 := hbel.trans (hb3.mono hbel.size)
        clear HK
        by_cases hq : qc = 0
        · subst hq
          have HM : Hid (r = (0, shV ql)) := by show _ = _; rw [HV.out, HF2.out, if_pos rfl]
          have HD := l6Short_any a3 Q c3 ql w3 hQ (OwnI.rd ho3).2 (by omega)
          clear HF2 HV HC
          go_wp2_with fail
          refine HD.mono ?_
          rintro e w4 ⟨v4, rfl, ho4, hb4⟩
          have hbl4 := hblr.trans ((hb3.trans (hb4.mono hb3.size)).mono (by have := hbel.size; omega))
          have hbw4 := hb0.trans (hbl4.mono (by omega))
          have ho5 : OwnI w4 (w.heap.size + 1) v4 (shV ql) := row_low ho4 (by have := hbel3.size; omega)
          obtain ⟨a4, c4, hv4, -, -⟩ := ho5.form
          obtain ⟨S, hS⟩ : ∃ S, (shV ql).length = S := ⟨_, rfl⟩
          rw [hS] at hv4
          subst hv4
          obtain ⟨a0, a1, z0, z1⟩ := res_block rfl hbl4
          obtain ⟨k0, k1⟩ := res_at a0 a1 (.int .i64 0) (.slice a4 S c4)
          have HE : Hid (_) := CodEnd.at_ (c := 0) hbw4 (R := w.heap.size) (Nat.le_refl _) ho5 (.int .i64 0) (.slice a4 S c4)
          clear HD ho3 ho4 ho5 hb3 hb4 hS
          go_wp2
          refine bodyPost_ret (v := .agg #[.int .i64 0, .slice a4 S c4]) (by simp [results, Tryz.results58, go_sem, k0, k1]) rfl ?_
          rw [HM.out]
          exact HE.out
        · have hq' : (qc == 0) = false := by simpa using hq
          have HM : Hid (pvF d l = pvF d (l.drop (k + 1))) := by show _ = _; rw [HF2.out, if_neg hq]
          clear HF2 ho3
          go_wp2
          go_roundw
          case rel => exact ⟨k + 1, by omega, by go_num, HM.out, hbel3⟩
          case measure => simp [intOf]; omega
      · have hki : ¬ (k : Int) < (N : Int) := by omega
        have HM : Hid (r = (4, [])) := by show _ = _; rw [HV.out, HF.out, List.drop_of_length_le (by omega)]; rfl
        obtain ⟨a0, a1, z0, z1⟩ := res_block rfl hblr
        obtain ⟨k0, k1⟩ := res_at a0 a1 (.int .i64 4) (.slice none 0 0)
        have HE : Hid (_) := CodEnd.at_ (c := 4) (l := []) hbwr (R := w.heap.size) (Nat.le_refl _) (OwnI.nil _ _) (.int .i64 4) (.slice none 0 0)
        clear HF HV HC
        go_wp2
        refine bodyPost_ret (v := .agg #[.int .i64 4, .slice none 0 0]) (by simp [results, Tryz.results58, go_sem, k0, k1]) rfl ?_
        rw [HM.out]
        exact HE.out

/-- PreviewOf, both sides. -/
theorem bothPreview (w : World) (hT : TabC w) (hTB : TabB w) (hTH : TabH w) (hMI : MaxI w) (m : Nat) (s : List Nat) (hl : s.length = m) (hB : IsB s) (_hm : m ≤ 1048576) : ∃ (c : Int) (l : List Int), l.length ≤ 20 ∧
    (∀ (b : Nat) (wx : World), Below w.heap.size w wx → b < wx.heap.size → Rd wx (some ⟨b, 0, none⟩) s → Calls Tryz.prog 58 #[.slice (some ⟨b, 0, none⟩) m m] wx fun e w' => ∃ v, e = .returned (.agg #[.int .i64 c, v]) ∧ OwnI w' wx.heap.size v l ∧ Below wx.heap.size wx w') ∧
    (∀ (b : Nat) (wx : World), Below w.heap.size w wx → b < wx.heap.size → Rd wx (some ⟨b, 0, none⟩) s → Calls Tryz.prog 57 #[.slice (some ⟨b, 0, none⟩) m m] wx fun e w' => ∃ v, e = .returned (.agg #[.int .i64 c, v]) ∧ OwnI w' wx.heap.size v l ∧ Below wx.heap.size wx w') :=
  ⟨(pvV s).1, (pvV s).2, pvV_len s, fun b wx _ hlt hr => specPreviewOf_any b m s wx hr hlt hB hl, fun b wx hb _ hr => previewOf_any b m s wx hr (hT.below hb) (hTB.below hb) (hTH.below hb) (hMI.below hb) hB hl⟩
end Go.Proofs.YtkjnhcnbbojajaaGreatDoor
