/- PreviewOf, both sides · Slices of a message follow one another, and a preview begins with no blank: plain facts, no program in them · SliceOf, both sides. -/
import Derived.Test.YtooifkdbpghcfaaGreatDoorPcfToShm
import Derived.Test.YtooifkdbpghcfaaGreatDoorByeToFldS2
import Derived.Test.YtooifkdbpghcfaaGreatDoorDecQ4ToCso
namespace Go.Proofs.YtooifkdbpghcfaaGreatDoor
open Go.RowKit

/-- What is seen of the first part that can be seen. -/
def pvF (d : List Nat) : List PtP → Int × List Int
  | [] => (4, [])
  | p :: r => if (pcP d p).1 = 0 then (0, shV (pcP d p).2) else pvF d r
/-- What PreviewOf answers. -/
def pvV (d : List Nat) : Int × List Int := if (psV d).1 = 0 then pvF d (psV d).2 else ((psV d).1, [])
theorem pvF_zero {d : List Nat} : ∀ {l : List PtP}, (pvF d l).1 ≠ 0 → (pvF d l).2 = []
  | [], _ => rfl
  | p :: r, h => by
    unfold pvF at h ⊢
    split
    · rename_i h1; rw [if_pos h1] at h; exact absurd rfl h
    · rename_i h1; rw [if_neg h1] at h; exact pvF_zero h
theorem pvF_len (d : List Nat) : ∀ l : List PtP, (pvF d l).2.length ≤ 20
  | [] => by simp [pvF]
  | p :: r => by
    unfold pvF
    split
    · exact shV_len _
    · exact pvF_len d r
theorem pvV_zero {d : List Nat} (h : (pvV d).1 ≠ 0) : (pvV d).2 = [] := by
  unfold pvV at h ⊢
  split
  · rename_i h1; rw [if_pos h1] at h; exact pvF_zero h
  · rfl
theorem pvV_len (d : List Nat) : (pvV d).2.length ≤ 20 := by
  unfold pvV
  split
  · exact pvF_len d _
  · simp
theorem drop_consP (l : List PtP) (k : Nat) (h : k < l.length) : l.drop k = nthP l k :: l.drop (k + 1) := by
  rw [List.drop_eq_getElem_cons h, nthP_get h]
theorem pvF_step {d : List Nat} {l : List PtP} {k : Nat} (h : k < l.length) : pvF d (l.drop k) = if (pcP d (nthP l k)).1 = 0 then (0, shV (pcP d (nthP l k)).2) else pvF d (l.drop (k + 1)) := by
  rw [drop_consP l k h]; rfl
theorem pqV_at {d : List Nat} {n : Nat} (h : (psV d).1 = 0) (hn : n < (psV d).2.length) : pqV d (n : Int) = pcP d (nthP (psV d).2 n) := by
  have e : pwV d (n : Int) = psV d := by
    unfold pwV
    rw [if_neg (fun hh => by rcases hh.2 with h' | h' <;> omega)]
  unfold pqV ppV
  rw [e, if_pos h, if_pos h, Int.toNat_natCast]

set_option maxHeartbeats 3200000 in
set_option maxRecDepth 100000 in
theorem previewIn_any {cp : Nat} (b m : Nat) (d : List Nat) (w : World) (hr : Rd w (some ⟨b, 0, none⟩) d) (hT : TabC w) (hTB : TabB w) (hTH : TabH w) (hMI : MaxI w) (hB : IsB d) (hl : d.length = m) (hcp : m ≤ cp := by omega) :
    Calls Tryz.prog 36 #[.slice (some ⟨b, 0, none⟩) m cp] w (SeeI (pvV d) w) := by
  have HP := parseParts_any b m d w hr hT hB hl
  have HZ : Hid ((psV d).1 ≠ 0 → pvV d = ((psV d).1, [])) := fun h => if_neg h
  have HV : Hid ((psV d).1 = 0 → pvV d = pvF d (psV d).2) := fun h => if_pos h
  have HC : Hid (∀ (n : Nat) (w' : World), Below w.heap.size w w' → (psV d).1 = 0 → n < (psV d).2.length → Calls Tryz.prog 17 #[.slice (some ⟨b, 0, none⟩) m cp, .int .i64 (n : Int)] w' (CodEnd (pcP d (nthP (psV d).2 n)) w')) := fun n w' hb h hn => by
    rw [← pqV_at h hn]
    exact partCodes_any b m d n w' (hr.below hb) (hT.below hb) (hTB.below hb) (hTH.below hb) (hMI.below hb) hB hl
  have hle := psV_le d
  generalize pvV d = r at *
  generalize psV d = ps at *
  obtain ⟨c, l⟩ := ps
  obtain ⟨N, hN⟩ : ∃ N, l.length = N := ⟨_, rfl⟩
  dsimp only at HZ HV HC hle
  go_enter Tryz.func36, Tryz.ntmps36
  go_wp2_with fail
  refine HP.mono ?_
  rintro e w1 ⟨v, rfl, ho, hb1⟩
  dsimp only at ho
  obtain ⟨a, cp, hv, -, -⟩ := ho.form
  rw [hN] at hv
  subst hv
  clear HP ho
  by_cases hc : c = 0
  · subst hc
    go_wp2_with fail
    refine (mustSee_ok _).mono ?_
    rintro e w2 ⟨rfl, hw2⟩
    have hbA : Below w1.heap.size w1 w2 := hw2 ▸ (Below.refl _ _).alloc (Nat.le_refl _) _
    have h27 : w2.heap[w1.heap.size]? = some (.cells #[.int .i64 0, .slice a N cp] 41 (0, 0)) := hw2 ▸ heap_alloc_new w1 _
    have q1 : w2.cell? ⟨w1.heap.size, 1, none⟩ = some (.slice a N cp) := by simp [World.cell?, h27]
    have hbw := hb1.trans (hbA.mono hb1.size)
    have HVr : Hid (r = pvF d l) := HV.out (by trivial)
    clear h27 hw2 hbA HZ HV
    go_wp2
    go_loopw [14] (fun i wr => ∃ k : Nat, k ≤ N ∧ i = .int .i64 k ∧ Hid (pvF d l = pvF d (l.drop k)) ∧ Below w.heap.size w wr) (fun i _ => N - (intOf i).toNat)
    case atStart => exact ⟨0, Nat.zero_le _, rfl, rfl, hbw⟩
    case round =>
      obtain ⟨k, hk, rfl, HF, hbel⟩ := hrel
      by_cases hkn : k < N
      · have hki : (k : Int) < (N : Int) := by omega
        have HF2 : Hid (pvF d l = if (pcP d (nthP l k)).1 = 0 then (0, shV (pcP d (nthP l k)).2) else pvF d (l.drop (k + 1))) := HF.out.trans (pvF_step (by omega))
        have HK := HC.out k wr hbel (by trivial) (by omega)
        have hpl := pcP_len d (nthP l k)
        clear HF
        generalize pcP d (nthP l k) = q at *
        obtain ⟨qc, ql⟩ := q
        dsimp only at HF2 hpl
        go_wp2_with fail
        refine HK.mono ?_
        rintro e w3 ⟨v3, rfl, ho3, hb3⟩
        dsimp only at ho3
        obtain ⟨Q, hQ⟩ : ∃ Q, ql.length = Q := ⟨_, rfl⟩
        obtain ⟨a3, c3, hv3, -, -⟩ := ho3.form
        rw [hQ] at hv3
        subst hv3
        have hbel3 := hbel.trans (hb3.mono hbel.size)
        have hbB : Below w3.heap.size w3 (w3.alloc (.cells #[.int .i64 qc, .slice a3 Q c3] 33)) := (Below.refl _ _).alloc (Nat.le_refl _) _
        have hbelB := hbel3.trans (hbB.mono hbel3.size)
        clear HK
        by_cases hq : qc = 0
        · subst hq
          have HM : Hid (r = (0, shV ql)) := by show _ = _; rw [HVr.out, HF2.out, if_pos rfl]
          have HD := firstOf_any a3 Q c3 ql _ hQ ((OwnI.rd ho3).2.below hbB) (by omega)
          clear HF2 HVr HC
          go_wp2_with fail
          refine HD.mono ?_
          rintro e w4 ⟨v4, rfl, ho4, hb4⟩
          have hbel4 := hbelB.trans (hb4.mono hbelB.size)
          have ho5 : OwnI w4 w.heap.size v4 (shV ql) := row_low ho4 hbelB.size
          obtain ⟨a4, c4, hv4, -, -⟩ := ho5.form
          subst hv4
          clear HD ho3 ho4
          go_wp2
          go_ret
          refine ⟨.inl ⟨by rw [HM.out], _, rfl, by rw [HM.out]; exact ho5⟩, hbel4⟩
        · have hq' : (qc == 0) = false := by simpa using hq
          have HM : Hid (pvF d l = pvF d (l.drop (k + 1))) := by show _ = _; rw [HF2.out, if_neg hq]
          clear HF2 ho3
          go_wp2
          go_roundw
          case rel => exact ⟨k + 1, by omega, by go_num, HM.out, hbelB⟩
          case measure => simp [intOf]; omega
      · have hki : ¬ (k : Int) < (N : Int) := by omega
        have HM : Hid (r = (4, [])) := by show _ = _; rw [HVr.out, HF.out, List.drop_of_length_le (by omega)]; rfl
        clear HF HVr HC
        go_wp2
        refine ⟨rfl, ?_⟩
        rw [HM.out]
        exact ⟨.inr ⟨by simp, rfl⟩, hbel⟩
  · go_wp2_with fail
    refine (mustSee_bad c hc _).mono ?_
    rintro e w2 ⟨rfl, hw2⟩
    subst hw2
    refine ⟨rfl, ?_⟩
    rw [HZ.out hc]
    exact ⟨.inr ⟨hc, rfl⟩, hb1.alloc hb1.size _⟩

set_option maxHeartbeats 800000 in
set_option maxRecDepth 100000 in
theorem previewOf1_any {cp : Nat} (b m B0 : Nat) (d : List Nat) (w : World) (hr : Rd w (some ⟨b, 0, none⟩) d) (hT : TabC w) (hTB : TabB w) (hTH : TabH w) (hMI : MaxI w) (hB : IsB d) (hl : d.length = m)
    (h0 : w.cell? ⟨B0, 0, none⟩ = some (.slice (some ⟨b, 0, none⟩) m cp)) (hcp : m ≤ cp := by omega) :
    Calls Tryz.prog 35 #[.pointer (some ⟨B0, 0, none⟩)] w (SeeI (pvV d) w) := by
  have HP := previewIn_any b m d w hr hT hTB hTH hMI hB hl
  generalize pvV d = r at *
  go_enter Tryz.func35, Tryz.ntmps35
  go_wp2_with fail
  refine HP.mono ?_
  rintro e w1 ⟨⟨h3, v, rfl, ho⟩ | ⟨h3, rfl⟩, hb⟩
  · obtain ⟨a, cp, hv, -, -⟩ := ho.form
    subst hv
    go_wp2
    go_ret
    exact ⟨.inl ⟨h3, _, rfl, ho⟩, hb⟩
  · exact ⟨rfl, .inr ⟨h3, rfl⟩, hb⟩

set_option maxHeartbeats 1600000 in
set_option maxRecDepth 100000 in
theorem previewOf_any {cp : Nat} (b m : Nat) (d : List Nat) (w : World) (hr : Rd w (some ⟨b, 0, none⟩) d) (hT : TabC w) (hTB : TabB w) (hTH : TabH w) (hMI : MaxI w) (hB : IsB d) (hl : d.length = m) (hcp : m ≤ cp := by omega) :
    Calls Tryz.prog 11 #[.slice (some ⟨b, 0, none⟩) m cp] w (CodEnd (pvV d) w) := by
  have hmf : ∀ (fn : Fn) (first cap : Array Value) (w : World), (Instr.makeFunc fn first cap).run Tryz.prog w = .ok (.func fn first cap) w := fun _ _ _ _ => rfl
  have hG : ∀ (args : Array Value) (w : World), (callFunc 35 args).run Tryz.prog w = .ok (.enter 35 args) w := fun _ _ => by kernel_rfl
  have hb0 : Below w.heap.size w ((w.alloc (.cells #[.slice (some ⟨b, 0, none⟩) m cp] 22)).alloc (.cells #[.int .i64 0, .slice none 0 0] 33)) := ((Below.refl _ _).alloc (Nat.le_refl _) _).alloc (by simp) _
  have HS : Hid (∀ W : World, Below w.heap.size w W → W.cell? ⟨w.heap.size, 0, none⟩ = some (.slice (some ⟨b, 0, none⟩) m cp) → Calls Tryz.prog 34 #[.func (.func 35) #[] #[.pointer (some ⟨w.heap.size, 0, none⟩)]] W fun e w' => ∃ v, e = .returned (.tuple #[v, .int .i64 (pvV d).1]) ∧ OwnI w' W.heap.size v (pvV d).2 ∧ Below W.heap.size W w') := fun W hW c0 => by
    have hbC := hW.alloc hW.size (.cells #[.int .i64 0] 2)
    exact seeI_of _ _ (pvV d) W hG (fun h => pvV_zero h) (previewOf1_any b m _ d _ (hr.below hbC) (hT.below hbC) (hTB.below hbC) (hTH.below hbC) (hMI.below hbC) hB hl (cellB c0))
  generalize pvV d = r at *
  obtain ⟨rc, rl⟩ := r
  dsimp only at HS
  have x0 : ((w.alloc (.cells #[.slice (some ⟨b, 0, none⟩) m cp] 22)).alloc (.cells #[.int .i64 0, .slice none 0 0] 33)).cell? ⟨w.heap.size, 0, none⟩ = some (.slice (some ⟨b, 0, none⟩) m cp) := cellB (by simp)
  have hsz : ((w.alloc (.cells #[.slice (some ⟨b, 0, none⟩) m cp] 22)).alloc (.cells #[.int .i64 0, .slice none 0 0] 33)).heap.size = w.heap.size + 1 + 1 := by simp
  have HRB := fun (wx : World) (hx : Below (w.heap.size + 1 + 1) ((w.alloc (.cells #[.slice (some ⟨b, 0, none⟩) m cp] 22)).alloc (.cells #[.int .i64 0, .slice none 0 0] 33)) wx) => res_block (w := (w.alloc (.cells #[.slice (some ⟨b, 0, none⟩) m cp] 22))) (wr := wx) rfl (by simpa using hx)
  have hs3 : (w.alloc (.cells #[.slice (some ⟨b, 0, none⟩) m cp] 22)).heap.size = w.heap.size + 1 := by simp
  rw [hs3] at HRB
  go_enter Tryz.func11, Tryz.ntmps11
  go_wp2_with fail
  refine (HS.out _ hb0 x0).mono ?_
  rintro e w1 ⟨v, rfl, ho, hb1⟩
  rw [hsz] at ho hb1
  obtain ⟨a0, a1, z0, z1⟩ := HRB w1 hb1
  have hbw := hb0.trans (hb1.mono (by omega))
  obtain ⟨a, cp, hv, -, -⟩ := ho.form
  subst hv
  obtain ⟨k0, k1⟩ := res_at a0 a1 (.int .i64 rc) (.slice a rl.length cp)
  have HE : Hid (_) := CodEnd.at_ (c := rc) hbw (R := w.heap.size + 1) (by omega) ho (.int .i64 rc) (.slice a rl.length cp)
  clear HRB x0 HS hb0 hsz hs3 hb1 ho
  go_wp2
  refine bodyPost_ret (v := .agg #[.int .i64 rc, .slice a rl.length cp]) (by simp [results, Tryz.results11, go_sem, k0, k1]) rfl ?_
  exact HE.out

set_option maxHeartbeats 3200000 in
set_option maxRecDepth 100000 in
theorem specPreviewOf_any {cp : Nat} (b m : Nat) (d : List Nat) (w : World) (hr : Rd w (some ⟨b, 0, none⟩) d) (hb : b < w.heap.size) (hB : IsB d) (hl : d.length = m) (hcp : m ≤ cp := by omega) :
    Calls Tryz.prog 13 #[.slice (some ⟨b, 0, none⟩) m cp] w (CodEnd (pvV d) w) := by
  have hb0 : Below w.heap.size w (w.alloc (.cells #[.int .i64 0, .slice none 0 0] 33)) := (Below.refl _ _).alloc (Nat.le_refl _) _
  by_cases h4 : 400 < m
  · have h4' : (400 : Int) < (m : Int) := by omega
    have HM : Hid (pvV d = (2, [])) := by
      have e : psV d = (2, []) := if_pos (by omega)
      show _ = _
      unfold pvV
      rw [e, if_neg (by decide)]
    go_enter Tryz.func13, Tryz.ntmps13
    go_wp2
    go_returns
    rw [HM.out]
    exact ⟨_, rfl, OwnI.nil _ _, by go_grown⟩
  · have h4' : ¬ (400 : Int) < (m : Int) := by omega
    have HA := l5Parse_any b m d _ (hr.below hb0) (Nat.lt_of_lt_of_le hb hb0.size) hB hl (by omega)
    have hps : psV d = (0, adV d 2 0 d.length (-1) 0 []) := if_neg (by omega)
    have HV : Hid (pvV d = pvF d (adV d 2 0 d.length (-1) 0 [])) := by show _ = _; unfold pvV; rw [hps, if_pos rfl]
    have hle := parts_le d
    have HOK := parts_ok d (by omega)
    have HCs : OkC (adV d 2 0 d.length (-1) 0 []) := adV_C d 2 0 d.length (-1) 0 [] (fun p hp => by cases hp)
    have HC : Hid (∀ (k P : Nat) (w' : World), Below w.heap.size w w' → k < (adV d 2 0 d.length (-1) 0 []).length → PtC w' P (k * 7) (nthP (adV d 2 0 d.length (-1) 0 []) k) → Calls Tryz.prog 38 #[.slice (some ⟨b, 0, none⟩) m cp, .pointer (some ⟨P, k * 7, none⟩)] w' fun e w'' => ∃ v, e = .returned (.tuple #[v, .int .i64 (pcP d (nthP (adV d 2 0 d.length (-1) 0 []) k)).1]) ∧ OwnI w'' w'.heap.size v (pcP d (nthP (adV d 2 0 d.length (-1) 0 []) k)).2 ∧ Below w'.heap.size w' w'') := fun k P w' hbx hk hP => by
      obtain ⟨f, t, h1, h2, h3⟩ := (HOK k hk).1
      exact l6Codes_any b m P (k * 7) d _ f t w' (hr.below hbx) hB hl (by omega) h1 h2 (by omega) (HCs _ (nthP_mem hk)) hP
    generalize pvV d = r at *
    generalize adV d 2 0 d.length (-1) 0 [] = l at *
    obtain ⟨N, hN⟩ : ∃ N, l.length = N := ⟨_, rfl⟩
    clear HOK HCs hps
    go_enter Tryz.func13, Tryz.ntmps13
    go_wp2_with fail
    refine HA.mono ?_
    rintro e w1 ⟨v, rfl, ho, hb1⟩
    obtain ⟨a, cp, hv, -, -⟩ := ho.form
    rw [hN] at hv
    subst hv
    have hbl : Below (w.heap.size + 1) (w.alloc (.cells #[.int .i64 0, .slice none 0 0] 33)) w1 := hb1.mono (by simp)
    have hz1 : w.heap.size + 1 ≤ w1.heap.size := by have hz := hbl.size; rw [World.size_alloc] at hz; exact hz
    have hrd := ho.rd.2
    clear HA hb1 ho
    go_wp2
    go_loopw [4] (fun i wr => ∃ k : Nat, k ≤ N ∧ i = .int .i64 k ∧ Hid (pvF d l = pvF d (l.drop k)) ∧ Below w1.heap.size w1 wr) (fun i _ => N - (intOf i).toNat)
    case atStart => exact ⟨0, Nat.zero_le _, rfl, rfl, Below.refl _ _⟩
    case round =>
      obtain ⟨k, hk, rfl, HF, hbel⟩ := hrel
      have hblr := hbl.trans (hbel.mono hz1)
      have hbwr := hb0.trans (hblr.mono (by omega))
      by_cases hkn : k < N
      · have hki : (k : Int) < (N : Int) := by omega
        obtain ⟨g, rfl, hglt, hcell⟩ := (hrd.below hbel).at_ (by omega)
        obtain ⟨x0, x1, x2, x3, x4, -, -⟩ := hcell k (by omega)
        have hP : PtC wr g (k * 7) (nthP l k) := ⟨hglt, x0, x1, x2, x3, x4⟩
        have HF2 : Hid (pvF d l = if (pcP d (nthP l k)).1 = 0 then (0, shV (pcP d (nthP l k)).2) else pvF d (l.drop (k + 1))) := HF.out.trans (pvF_step (by omega))
        have HK := HC.out k g wr hbwr (by omega) hP
        have hpl := pcP_len d (nthP l k)
        clear HF hP x0 x1 x2 x3 x4 hcell
        generalize pcP d (nthP l k) = q at *
        obtain ⟨qc, ql⟩ := q
        dsimp only at HF2 hpl HK
        obtain ⟨Q, hQ⟩ : ∃ Q, ql.length = Q := ⟨_, rfl⟩
        go_wp2_with fail
        refine HK.mono ?_
        rintro e w3 ⟨v3, rfl, ho3, hb3⟩
        obtain ⟨a3, c3, hv3, -, -⟩ := ho3.form
        rw [hQ] at hv3
        subst hv3
        have hbel3 := hbel.trans (hb3.mono hbel.size)
        clear HK
        by_cases hq : qc = 0
        · subst hq
          have HM : Hid (r = (0, shV ql)) := by show _ = _; rw [HV.out, HF2.out, if_pos rfl]
          have HD := l6Short_any a3 Q c3 ql w3 hQ (OwnI.rd ho3).2 (by omega)
          clear HF2 HV HC
          go_wp2_with fail
          refine HD.mono ?_
          rintro e w4 ⟨v4, rfl, ho4, hb4⟩
          have hbl4 := hblr.trans ((hb3.trans (hb4.mono hb3.size)).mono (by have := hbel.size; omega))
          have hbw4 := hb0.trans (hbl4.mono (by omega))
          have ho5 : OwnI w4 (w.heap.size + 1) v4 (shV ql) := row_low ho4 (by have := hbel3.size; omega)
          obtain ⟨a4, c4, hv4, -, -⟩ := ho5.form
          obtain ⟨S, hS⟩ : ∃ S, (shV ql).length = S := ⟨_, rfl⟩
          rw [hS] at hv4
          subst hv4
          obtain ⟨a0, a1, z0, z1⟩ := res_block rfl hbl4
          obtain ⟨k0, k1⟩ := res_at a0 a1 (.int .i64 0) (.slice a4 S c4)
          have HE : Hid (_) := CodEnd.at_ (c := 0) hbw4 (R := w.heap.size) (Nat.le_refl _) ho5 (.int .i64 0) (.slice a4 S c4)
          clear HD ho3 ho4 ho5 hb3 hb4 hS
          go_wp2
          refine bodyPost_ret (v := .agg #[.int .i64 0, .slice a4 S c4]) (by simp [results, Tryz.results13, go_sem, k0, k1]) rfl ?_
          rw [HM.out]
          exact HE.out
        · have hq' : (qc == 0) = false := by simpa using hq
          have HM : Hid (pvF d l = pvF d (l.drop (k + 1))) := by show _ = _; rw [HF2.out, if_neg hq]
          clear HF2 ho3
          go_wp2
          go_roundw
          case rel => exact ⟨k + 1, by omega, by go_num, HM.out, hbel3⟩
          case measure => simp [intOf]; omega
      · have hki : ¬ (k : Int) < (N : Int) := by omega
        have HM : Hid (r = (4, [])) := by show _ = _; rw [HV.out, HF.out, List.drop_of_length_le (by omega)]; rfl
        obtain ⟨a0, a1, z0, z1⟩ := res_block rfl hblr
        obtain ⟨k0, k1⟩ := res_at a0 a1 (.int .i64 4) (.slice none 0 0)
        have HE : Hid (_) := CodEnd.at_ (c := 4) (l := []) hbwr (R := w.heap.size) (Nat.le_refl _) (OwnI.nil _ _) (.int .i64 4) (.slice none 0 0)
        clear HF HV HC
        go_wp2
        refine bodyPost_ret (v := .agg #[.int .i64 4, .slice none 0 0]) (by simp [results, Tryz.results13, go_sem, k0, k1]) rfl ?_
        rw [HM.out]
        exact HE.out

end Go.Proofs.YtooifkdbpghcfaaGreatDoor

namespace Go.Proofs.YtooifkdbpghcfaaGreatDoor
open Go.RowKit

theorem sceV_few {d : List Nat} {f n : Int} (h : (sceV d f n).1 = 0) : d.length ≤ 400 ∧ ((sceV d f n).2.length : Int) ≤ n := by
  unfold sceV at h ⊢
  split at h
  · simp at h
  · rename_i h1
    rw [if_neg h1]
    split at h
    · rename_i h2
      rw [if_pos h2]
      refine ⟨by omega, ?_⟩
      dsimp only
      rw [List.length_drop, List.length_take]
      omega
    · simp at h
theorem sceV_two {d : List Nat} (hd : d.length ≤ 400) {c : Nat} (hc : c ≤ d.length) : sceV d 0 (c : Int) = (0, d.take c) ∧ sceV d (c : Int) 400 = (0, d.drop c) := by
  constructor
  · unfold sceV
    rw [if_neg (by omega), if_pos ⟨⟨by omega, by omega⟩, by omega, by omega⟩]
    rw [show min ((0 : Int).toNat + (c : Int).toNat) d.length = c by omega, show min (0 : Int).toNat d.length = 0 by omega]
    rfl
  · unfold sceV
    rw [if_neg (by omega), if_pos ⟨⟨by omega, by omega⟩, by omega, by omega⟩]
    rw [show min ((c : Int).toNat + (400 : Int).toNat) d.length = d.length by omega, show min (c : Int).toNat d.length = c by omega, List.take_length]
theorem shP_head : ∀ (r acc : List Int) (b : Bool), (acc = [] → b = false) → (0 < acc.length → 32 < nthI acc 0) → 0 < (shP r acc b).length → 32 < nthI (shP r acc b) 0
  | [], acc, b, _, h2, h3 => h2 h3
  | c :: r, acc, b, h1, h2, h3 => by
    unfold shP at h3 ⊢
    by_cases h20 : acc.length = 20
    · rw [if_pos h20] at h3 ⊢
      exact h2 h3
    · rw [if_neg h20] at h3 ⊢
      have happ : ∀ x : Int, 0 < acc.length → nthI (acc ++ [x]) 0 = nthI acc 0 := fun x hx => by
        unfold nthI
        rw [List.getD_eq_getElem?_getD, List.getD_eq_getElem?_getD, List.getElem?_append_left hx]
      by_cases hc : 32 < c
      · rw [if_pos hc] at h3 ⊢
        refine shP_head r _ _ (fun h => by simp at h) (fun _ => ?_) h3
        by_cases ha : 0 < acc.length
        · rw [happ c ha]; exact h2 ha
        · have ha0 : acc = [] := List.length_eq_zero_iff.1 (by omega)
          rw [ha0]; exact hc
      · rw [if_neg hc] at h3 ⊢
        cases b with
        | true =>
          have ha : 0 < acc.length := by
            rcases Nat.eq_zero_or_pos acc.length with h | h
            · exact absurd (h1 (List.length_eq_zero_iff.1 h)) (by simp)
            · exact h
          refine shP_head r _ _ (fun _ => rfl) (fun _ => ?_) h3
          rw [if_pos rfl, happ 32 ha]; exact h2 ha
        | false =>
          rw [if_neg (by simp)] at h3 ⊢
          exact shP_head r acc false (fun _ => rfl) h2 h3
theorem pvV_head (d : List Nat) : 0 < (pvV d).2.length → 32 < nthI (pvV d).2 0 := by
  have hF : ∀ l : List PtP, 0 < (pvF d l).2.length → 32 < nthI (pvF d l).2 0 := by
    intro l
    induction l with
    | nil => intro h; simp [pvF] at h
    | cons p r ih =>
      unfold pvF
      split
      · exact shP_head _ [] false (fun _ => rfl) (fun h => by simp at h)
      · exact ih
  unfold pvV
  split
  · exact hF _
  · intro h; simp at h
end Go.Proofs.YtooifkdbpghcfaaGreatDoor

namespace Go.Proofs.YtooifkdbpghcfaaGreatDoor
open Go.RowKit

theorem sceV_zero {d : List Nat} {f n : Int} (h : (sceV d f n).1 ≠ 0) : (sceV d f n).2 = [] := by
  unfold sceV at h ⊢
  split
  · rfl
  · rename_i h1
    rw [if_neg h1] at h
    split
    · rename_i h2; rw [if_pos h2] at h; exact absurd rfl h
    · rfl
set_option maxHeartbeats 800000 in
set_option maxRecDepth 100000 in
theorem sliceOf1_any {cp : Nat} (b m B0 B1 B2 : Nat) (d : List Nat) (f n : Int) (w : World) (hr : Rd w (some ⟨b, 0, none⟩) d) (hl : d.length = m)
    (h0 : w.cell? ⟨B0, 0, none⟩ = some (.slice (some ⟨b, 0, none⟩) m cp)) (h1 : w.cell? ⟨B1, 0, none⟩ = some (.int .i64 f)) (h2 : w.cell? ⟨B2, 0, none⟩ = some (.int .i64 n)) (hcp : m ≤ cp := by omega) :
    Calls Tryz.prog 28 #[.pointer (some ⟨B0, 0, none⟩), .pointer (some ⟨B1, 0, none⟩), .pointer (some ⟨B2, 0, none⟩)] w (SeeB (sceV d f n) w) := by
  have HP := sliceIn_any b m d f n w hr hl
  generalize sceV d f n = r at *
  go_enter Tryz.func28, Tryz.ntmps28
  go_wp2_with fail
  refine HP.mono ?_
  rintro e w1 ⟨⟨h3, v, rfl, ho⟩ | ⟨h3, rfl⟩, hb⟩
  · obtain ⟨a, cp, hv, -, -⟩ := ho.form
    subst hv
    go_wp2
    go_ret
    exact ⟨.inl ⟨h3, _, rfl, ho⟩, hb⟩
  · exact ⟨rfl, .inr ⟨h3, rfl⟩, hb⟩

set_option maxHeartbeats 1600000 in
set_option maxRecDepth 100000 in
theorem sliceOf_any {cp : Nat} (b m : Nat) (d : List Nat) (f n : Int) (w : World) (hr : Rd w (some ⟨b, 0, none⟩) d) (hl : d.length = m) (hcp : m ≤ cp := by omega) :
    Calls Tryz.prog 7 #[.slice (some ⟨b, 0, none⟩) m cp, .int .i64 f, .int .i64 n] w (BytEnd (sceV d f n) w) := by
  have hmf : ∀ (fn : Fn) (first cap : Array Value) (w : World), (Instr.makeFunc fn first cap).run Tryz.prog w = .ok (.func fn first cap) w := fun _ _ _ _ => rfl
  have hG : ∀ (args : Array Value) (w : World), (callFunc 28 args).run Tryz.prog w = .ok (.enter 28 args) w := fun _ _ => by kernel_rfl
  have hb0 : Below w.heap.size w ((((w.alloc (.cells #[.slice (some ⟨b, 0, none⟩) m cp] 22)).alloc (.cells #[.int .i64 f] 2)).alloc (.cells #[.int .i64 n] 2)).alloc (.cells #[.int .i64 0, .slice none 0 0] 27)) := ((((Below.refl _ _).alloc (Nat.le_refl _) _).alloc (by simp) _).alloc (by simp; omega) _).alloc (by simp; omega) _
  have HS : Hid (∀ W : World, Below w.heap.size w W → W.cell? ⟨w.heap.size, 0, none⟩ = some (.slice (some ⟨b, 0, none⟩) m cp) → W.cell? ⟨w.heap.size + 1, 0, none⟩ = some (.int .i64 f) → W.cell? ⟨w.heap.size + 1 + 1, 0, none⟩ = some (.int .i64 n) → Calls Tryz.prog 27 #[.func (.func 28) #[] #[.pointer (some ⟨w.heap.size, 0, none⟩), .pointer (some ⟨w.heap.size + 1, 0, none⟩), .pointer (some ⟨w.heap.size + 1 + 1, 0, none⟩)]] W fun e w' => ∃ v, e = .returned (.tuple #[v, .int .i64 (sceV d f n).1]) ∧ Own w' W.heap.size v (sceV d f n).2 ∧ Below W.heap.size W w') := fun W hW c0 c1 c2 => by
    have hbC := hW.alloc hW.size (.cells #[.int .i64 0] 2)
    exact seeB_of _ _ (sceV d f n) W hG (fun h => sceV_zero h) (sliceOf1_any b m _ _ _ d f n _ (hr.below hbC) hl (cellB c0) (cellB c1) (cellB c2))
  generalize sceV d f n = r at *
  obtain ⟨rc, rl⟩ := r
  dsimp only at HS
  have x0 : ((((w.alloc (.cells #[.slice (some ⟨b, 0, none⟩) m cp] 22)).alloc (.cells #[.int .i64 f] 2)).alloc (.cells #[.int .i64 n] 2)).alloc (.cells #[.int .i64 0, .slice none 0 0] 27)).cell? ⟨w.heap.size, 0, none⟩ = some (.slice (some ⟨b, 0, none⟩) m cp) := cellB (cellB (cellB (by simp)))
  have x1 : ((((w.alloc (.cells #[.slice (some ⟨b, 0, none⟩) m cp] 22)).alloc (.cells #[.int .i64 f] 2)).alloc (.cells #[.int .i64 n] 2)).alloc (.cells #[.int .i64 0, .slice none 0 0] 27)).cell? ⟨w.heap.size + 1, 0, none⟩ = some (.int .i64 f) := cellB (cellB (new_cell1 (by simp) _ _))
  have x2 : ((((w.alloc (.cells #[.slice (some ⟨b, 0, none⟩) m cp] 22)).alloc (.cells #[.int .i64 f] 2)).alloc (.cells #[.int .i64 n] 2)).alloc (.cells #[.int .i64 0, .slice none 0 0] 27)).cell? ⟨w.heap.size + 1 + 1, 0, none⟩ = some (.int .i64 n) := cellB (new_cell1 (by simp) _ _)
  have hsz : ((((w.alloc (.cells #[.slice (some ⟨b, 0, none⟩) m cp] 22)).alloc (.cells #[.int .i64 f] 2)).alloc (.cells #[.int .i64 n] 2)).alloc (.cells #[.int .i64 0, .slice none 0 0] 27)).heap.size = w.heap.size + 1 + 1 + 1 + 1 := by simp
  have HRB := fun (wx : World) (hx : Below (w.heap.size + 1 + 1 + 1 + 1) ((((w.alloc (.cells #[.slice (some ⟨b, 0, none⟩) m cp] 22)).alloc (.cells #[.int .i64 f] 2)).alloc (.cells #[.int .i64 n] 2)).alloc (.cells #[.int .i64 0, .slice none 0 0] 27)) wx) => res_block (w := ((w.alloc (.cells #[.slice (some ⟨b, 0, none⟩) m cp] 22)).alloc (.cells #[.int .i64 f] 2)).alloc (.cells #[.int .i64 n] 2)) (wr := wx) rfl (by simpa using hx)
  have hs3 : (((w.alloc (.cells #[.slice (some ⟨b, 0, none⟩) m cp] 22)).alloc (.cells #[.int .i64 f] 2)).alloc (.cells #[.int .i64 n] 2)).heap.size = w.heap.size + 1 + 1 + 1 := by simp
  rw [hs3] at HRB
  go_enter Tryz.func7, Tryz.ntmps7
  go_wp2_with fail
  refine (HS.out _ hb0 x0 x1 x2).mono ?_
  rintro e w1 ⟨v, rfl, ho, hb1⟩
  rw [hsz] at ho hb1
  obtain ⟨a0, a1, z0, z1⟩ := HRB w1 hb1
  have hbw := hb0.trans (hb1.mono (by omega))
  obtain ⟨a, cp, hv, -, -⟩ := ho.form
  subst hv
  obtain ⟨k0, k1⟩ := res_at a0 a1 (.int .i64 rc) (.slice a rl.length cp)
  have HE : Hid (_) := BytEnd.at_ (c := rc) hbw (R := w.heap.size + 1 + 1 + 1) (by omega) ho (.int .i64 rc) (.slice a rl.length cp)
  clear HRB x0 x1 x2 HS hb0 hsz hs3 hb1 ho
  go_wp2
  refine bodyPost_ret (v := .agg #[.int .i64 rc, .slice a rl.length cp]) (by simp [results, Tryz.results7, go_sem, k0, k1]) rfl ?_
  exact HE.out

set_option maxHeartbeats 1600000 in
set_option maxRecDepth 100000 in
theorem specSliceOf_any {cp : Nat} (b m : Nat) (d : List Nat) (f n : Int) (w : World) (hr : Rd w (some ⟨b, 0, none⟩) d) (hl : d.length = m) (hcp : m ≤ cp := by omega) :
    Calls Tryz.prog 8 #[.slice (some ⟨b, 0, none⟩) m cp, .int .i64 f, .int .i64 n] w (BytEnd (sceV d f n) w) := by
  have hb0 : Below w.heap.size w (w.alloc (.cells #[.int .i64 0, .slice none 0 0] 27)) := (Below.refl _ _).alloc (Nat.le_refl _) _
  by_cases h4 : 400 < m
  · have h4' : (400 : Int) < (m : Int) := by omega
    have e : sceV d f n = (2, []) := if_pos (by omega)
    rw [e]
    go_enter Tryz.func8, Tryz.ntmps8
    go_wp2
    go_returns
    exact ⟨_, rfl, Own.nil _ _, by go_grown⟩
  · have h4' : ¬ (400 : Int) < (m : Int) := by omega
    by_cases hf : 0 ≤ f ∧ f ≤ 400
    · by_cases hn : 0 ≤ n ∧ n ≤ 400
      · obtain ⟨F, rfl⟩ : ∃ F : Nat, f = (F : Int) := ⟨f.toNat, by omega⟩
        obtain ⟨N, rfl⟩ : ∃ N : Nat, n = (N : Int) := ⟨n.toNat, by omega⟩
        have e : sceV d (F : Int) (N : Int) = (0, (d.take (min (F + N) m)).drop (min F m)) := by unfold sceV; rw [if_neg (by omega), if_pos ⟨hf, hn⟩, hl]; simp
        rw [e]
        obtain ⟨x, hx⟩ : ∃ x, x = min F m := ⟨_, rfl⟩
        obtain ⟨y, hy⟩ : ∃ y, y = min (F + N) m := ⟨_, rfl⟩
        have ex : (if (F : Int) < (m : Int) then (F : Int) else (m : Int)) = (x : Int) := by split <;> omega
        have ey : (if (m : Int) < (x : Int) + (N : Int) then (m : Int) else (x : Int) + (N : Int)) = (y : Int) := by split <;> omega
        have EX : Hid (_) := ex
        have EY : Hid (_) := ey
        have hxy : (x : Int) ≤ (y : Int) := by omega
        have hym : (y : Int) ≤ (m : Int) := by omega
        have hxN : (x : Int) ≤ 400 := by omega
        have hNi : (N : Int) ≤ 400 := by omega
        rw [← hx, ← hy]
        have hcl : ((d.take y).drop x).length = y - x := by rw [List.length_drop, List.length_take]; omega
        have HC1 := fun W (hW : Below w.heap.size w W) cq => l1Copy_any b x (y - x) cq ((d.take y).drop x) W hcl (by
          have h := (rd_takeS (hr.below hW) y).drop x
          rw [Nat.zero_add] at h; exact h) (by omega)
        have HC0 := fun (hmx : m = x) W cq => l1Copy_any b 0 (y - x) cq ((d.take y).drop x) W hcl (by
          rw [List.length_eq_zero_iff.1 (show ((d.take y).drop x).length = 0 by omega)]; exact .inl rfl) (by omega)
        have H1 : Hid (_) := HC1
        have H0 : Hid (_) := HC0
        clear e hx hy ex ey HC1 HC0
        go_enter Tryz.func8, Tryz.ntmps8
        go_wp2_with fail
        refine (l1In_any (F : Int) 0 400 _).mono ?_
        rintro e w1 ⟨rfl, rfl⟩
        rw [decide_eq_true hf]
        go_wp2_with fail
        refine (l1In_any (N : Int) 0 400 _).mono ?_
        rintro e w1 ⟨rfl, rfl⟩
        rw [decide_eq_true hn]
        clear hf hn
        go_wp2_with fail
        refine (l1Min_s _ _ _).mono ?_
        rintro e w1 ⟨rfl, rfl⟩
        rw [EX.out]
        go_wp2_with fail
        refine (l1Min_s _ _ _).mono ?_
        rintro e w1 ⟨rfl, rfl⟩
        rw [EY.out]
        clear EX EY
        go_wp2_with fail
        case inl =>
          refine (H0.out (by omega) _ _).mono ?_
          rintro e w1 ⟨v, rfl, ho, hb1⟩
          have hbl : Below (w.heap.size + 1) (w.alloc (.cells #[.int .i64 0, .slice none 0 0] 27)) w1 := hb1.mono (by simp)
          have hbw := hb0.trans (hbl.mono (by omega))
          have ho2 : Own w1 (w.heap.size + 1) v ((d.take y).drop x) := row_low ho (by simp)
          obtain ⟨a0, a1, z0, z1⟩ := res_block rfl hbl
          obtain ⟨a, cp, hv, -, -⟩ := ho2.form
          obtain ⟨K, hK⟩ : ∃ K, ((d.take y).drop x).length = K := ⟨_, rfl⟩
          rw [hK] at hv
          subst hv
          obtain ⟨k0, k1⟩ := res_at a0 a1 (.int .i64 0) (.slice a K cp)
          have HE : Hid (_) := BytEnd.at_ (c := 0) hbw (R := w.heap.size) (Nat.le_refl _) ho2 (.int .i64 0) (.slice a K cp)
          clear ho ho2 hb1 hcl hK H0 H1
          go_wp2
          refine bodyPost_ret (v := .agg #[.int .i64 0, .slice a K cp]) (by simp [results, Tryz.results8, go_sem, k0, k1]) rfl ?_
          exact HE.out
        case inr =>
          refine (H1.out _ hb0 _).mono ?_
          rintro e w1 ⟨v, rfl, ho, hb1⟩
          have hbl : Below (w.heap.size + 1) (w.alloc (.cells #[.int .i64 0, .slice none 0 0] 27)) w1 := hb1.mono (by simp)
          have hbw := hb0.trans (hbl.mono (by omega))
          have ho2 : Own w1 (w.heap.size + 1) v ((d.take y).drop x) := row_low ho (by simp)
          obtain ⟨a0, a1, z0, z1⟩ := res_block rfl hbl
          obtain ⟨a, cp, hv, -, -⟩ := ho2.form
          obtain ⟨K, hK⟩ : ∃ K, ((d.take y).drop x).length = K := ⟨_, rfl⟩
          rw [hK] at hv
          subst hv
          obtain ⟨k0, k1⟩ := res_at a0 a1 (.int .i64 0) (.slice a K cp)
          have HE : Hid (_) := BytEnd.at_ (c := 0) hbw (R := w.heap.size) (Nat.le_refl _) ho2 (.int .i64 0) (.slice a K cp)
          clear ho ho2 hb1 hcl hK H0 H1
          go_wp2
          refine bodyPost_ret (v := .agg #[.int .i64 0, .slice a K cp]) (by simp [results, Tryz.results8, go_sem, k0, k1]) rfl ?_
          exact HE.out
      · have e : sceV d f n = (3, []) := by unfold sceV; rw [if_neg (by omega), if_neg (fun h => hn h.2)]
        rw [e]
        go_enter Tryz.func8, Tryz.ntmps8
        go_wp2_with fail
        refine (l1In_any f 0 400 _).mono ?_
        rintro e w1 ⟨rfl, rfl⟩
        rw [decide_eq_true hf]
        go_wp2_with fail
        refine (l1In_any n 0 400 _).mono ?_
        rintro e w1 ⟨rfl, rfl⟩
        rw [decide_eq_false hn]
        go_wp2
        go_returns
        exact ⟨_, rfl, Own.nil _ _, by go_grown⟩
    · have e : sceV d f n = (3, []) := by unfold sceV; rw [if_neg (by omega), if_neg (fun h => hf h.1)]
      rw [e]
      go_enter Tryz.func8, Tryz.ntmps8
      go_wp2_with fail
      refine (l1In_any f 0 400 _).mono ?_
      rintro e w1 ⟨rfl, rfl⟩
      rw [decide_eq_false hf]
      go_wp2
      go_returns
      exact ⟨_, rfl, Own.nil _ _, by go_grown⟩

end Go.Proofs.YtooifkdbpghcfaaGreatDoor
