/- DrawParseHeader: some bytes; sources of at most 1048576 bytes. -/
import Derived.Test.YtpgjichcpnjeoaaDrf
import Derived.Test.YtpgjichcpnjeoaaHdr3
import Derived.Test.YtpgjichcpnjeoaaCv
import Derived.ArgAppend
namespace Go.Proofs.Ytpgjichcpnjeoaa
open Go.RowKit

theorem Own.full {w : World} {B : Nat} {v : Value} {l : List Nat} (h : Own w B v l) (hp : 0 < l.length) : ∃ g cap, v = .slice (some ⟨g, 0, none⟩) l.length cap ∧ l.length ≤ cap ∧ B ≤ g ∧ g < w.heap.size := by
  rcases h.2 with ⟨h', h0⟩ | ⟨g, cap, cur, h', hB, hg, h4, h5, _⟩
  · omega
  · refine ⟨g, cap, h', h4, hB, ?_⟩
    rcases Nat.lt_or_ge g w.heap.size with hlt | hge
    · exact hlt
    · simp [Array.getElem?_eq_none hge] at hg
/-- How a draw of some bytes ends. -/
def SomeEnd (B b M n : Nat) (w : World) (e : Ending) (w' : World) : Prop := ∃ (v : Value) (out : List Nat), e = .returned v ∧ (∃ g c, v = .slice (some ⟨g, 0, none⟩) out.length c) ∧ Own w' w.heap.size v out ∧ IsB out ∧ out.length = n ∧ Src w' B b (M + 2 * n) ∧ w.grownBy w' (some b)
set_option maxHeartbeats 3200000 in
set_option maxRecDepth 100000 in
theorem l1Next_wide (B b M : Nat) (k : Int) (w : World) (hs : Src w B b M) (hM : M ≤ 1000) (h0 : 0 ≤ k) (hk : k ≤ 4000) :
    Calls Try.prog 29 #[.pointer (some ⟨b, 0, none⟩), .int .i64 k] w fun e w' =>
      ∃ r : Int, e = .returned (.int .i64 r) ∧ 0 ≤ r ∧ (1 ≤ k → r < k) ∧ r ≤ 4000 ∧ Src w' B b (M + 1) ∧ w.grownBy w' (some b) := by
  obtain ⟨hBb, hbw, a, n, cap, at', l, c0, c1, f1, hl, hn, hB, ha, hd⟩ := hs
  have d1 : (w.setCell ⟨b, 1, none⟩ (.int .i64 ((at' : Int) + 1))).cell? ⟨b, 1, none⟩ = some (.int .i64 ((at' : Int) + 1)) := World.cell?_setCell_same _ _ _ c1
  have d0 : (w.setCell ⟨b, 1, none⟩ (.int .i64 ((at' : Int) + 1))).cell? ⟨b, 0, none⟩ = some (.slice a n cap) := by simp [go_sem, c0]
  have hgr : w.grownBy (w.setCell ⟨b, 1, none⟩ (.int .i64 ((at' : Int) + 1))) (some b) := ⟨rfl, rfl, rfl, by simp, fun j _ hj => Below.heap_setCell w ⟨b, 1, none⟩ _ j (fun e => hj (by simp [e]))⟩
  have hS : Src (w.setCell ⟨b, 1, none⟩ (.int .i64 ((at' : Int) + 1))) B b (M + 1) := by
    refine ⟨hBb, by simpa using hbw, a, n, cap, at' + 1, l, d0, by rw [d1]; rfl, (World.frozen?_setCell _ _ _ _).trans f1, hl, hn, hB, by omega, ?_⟩
    rcases hd with hd | ⟨d, off, e, hlt, hc⟩
    · exact .inl hd
    · exact .inr ⟨d, off, e, hlt, fun i hi => (hgr.cell_far ⟨d, off + i, none⟩ (by simp; omega) (by simp; omega)).trans (hc i hi)⟩
  have HS : Hid (_) := hS
  have HG : Hid (_) := hgr
  have hfin : ∀ j, Src ((w.setCell ⟨b, 1, none⟩ (.int .i64 ((at' : Int) + 1))).drewN j) B b (M + 1) := fun j => hS
  have hfin2 : ∀ j, w.grownBy ((w.setCell ⟨b, 1, none⟩ (.int .i64 ((at' : Int) + 1))).drewN j) (some b) := fun j => ⟨hgr.os, hgr.tape, hgr.output, hgr.size, hgr.block⟩
  by_cases hk1 : k < 1
  · clear hfin hfin2 hS hgr hd
    go_enter Try.func29, Try.ntmps29
    go_wp2
    go_ret
    exact ⟨0, rfl, by omega, by omega, by omega, HS.out, HG.out⟩
  · by_cases hn0 : n = 0
    · subst hn0
      clear hfin hfin2 hS hgr hd
      go_enter Try.func29, Try.ntmps29
      go_wp2
      go_ret
      have r1 := Int.emod_nonneg ((at' : Int) * 7) (show k ≠ 0 by omega)
      have r2 := Int.emod_lt_of_pos ((at' : Int) * 7) (show 0 < k by omega)
      exact ⟨_, rfl, r1, r2, by omega, HS.out, HG.out⟩
    · obtain ⟨q1, hq1⟩ : ∃ q, q = at' % n := ⟨_, rfl⟩
      obtain ⟨q2, hq2⟩ : ∃ q, q = (at' + 1) % n := ⟨_, rfl⟩
      obtain ⟨p, hp⟩ : ∃ p, p = at' / n := ⟨_, rfl⟩
      have q1n : q1 < n := by rw [hq1]; exact Nat.mod_lt _ (by omega)
      have q2n : q2 < n := by rw [hq2]; exact Nat.mod_lt _ (by omega)
      have hp' : p ≤ 1000 := by have := Nat.div_le_self at' n; omega
      rcases hd with hd | ⟨d, off, rfl, hdB, hc⟩
      · rw [hd] at hl; simp at hl; omega
      have x1 : (w.setCell ⟨b, 1, none⟩ (.int .i64 ((at' : Int) + 1))).cell? ⟨d, off + q1, none⟩ = some (.int .u8 (nth l q1 : Int)) := (hgr.cell_far ⟨d, off + q1, none⟩ (by simp; omega) (by simp; omega)).trans (hc q1 q1n)
      have x2 : (w.setCell ⟨b, 1, none⟩ (.int .i64 ((at' : Int) + 1))).cell? ⟨d, off + q2, none⟩ = some (.int .u8 (nth l q2 : Int)) := (hgr.cell_far ⟨d, off + q2, none⟩ (by simp; omega) (by simp; omega)).trans (hc q2 q2n)
      have b1 := nth_lt hB q1
      have b2 := nth_lt hB q2
      generalize nth l q1 = y1 at *
      generalize nth l q2 = y2 at *
      have e1 : (at' : Int) % (n : Int) = (q1 : Int) := by rw [hq1]; exact (Int.natCast_emod _ _).symm
      have e2 : ((at' : Int) + 1) % (n : Int) = (q2 : Int) := by rw [hq2, Int.natCast_emod]; rfl
      have e3 : (at' : Int) / (n : Int) = (p : Int) := by rw [hp]; exact (Int.natCast_ediv _ _).symm
      have i1 : (q1 : Int) < (n : Int) := by omega
      have i2 : (q2 : Int) < (n : Int) := by omega
      have n0 : ((n : Int) == 0) = false := beq_eq_false_iff_ne.2 (by omega)
      have HF : Hid (_) := hfin
      have HF2 : Hid (_) := hfin2
      clear hc hq1 hq2 hp hS hgr hfin hfin2
      by_cases hk2 : 200 < k
      · go_enter Try.func29, Try.ntmps29
        go_wp2
        go_quiet (fail)
        go_wp2
        go_quiet (fail)
        go_wp2
        go_ret
        have r1 := Int.emod_nonneg (((y1 : Int) + (p : Int) * 37) * 251 + (y2 : Int) * 13 + (at' : Int)) (show k ≠ 0 by omega)
        have r2 := Int.emod_lt_of_pos (((y1 : Int) + (p : Int) * 37) * 251 + (y2 : Int) * 13 + (at' : Int)) (show 0 < k by omega)
        exact ⟨_, rfl, r1, fun _ => r2, by omega, HF.out _, HF2.out _⟩
      · go_enter Try.func29, Try.ntmps29
        go_wp2
        go_quiet (fail)
        go_wp2
        go_ret
        have r1 := Int.emod_nonneg ((y1 : Int) + (p : Int) * 37) (show k ≠ 0 by omega)
        have r2 := Int.emod_lt_of_pos ((y1 : Int) + (p : Int) * 37) (show 0 < k by omega)
        exact ⟨_, rfl, r1, fun _ => r2, by omega, HF.out _, HF2.out _⟩

set_option maxHeartbeats 1600000 in
set_option maxRecDepth 100000 in
theorem l1Some_g (B b M n : Nat) (w : World) (hs : Src w B b M) (hM : M + 2 * n ≤ 900) (hn : n ≤ 100) :
    Calls Try.prog 28 #[.pointer (some ⟨b, 0, none⟩), .int .i64 (n : Int)] w fun e w' => SomeEnd B b M n w e w' := by
  obtain ⟨hBb, hbw, _⟩ := id hs
  go_enter Try.func28, Try.ntmps28
  go_wp2
  have hown0 : Own (w.alloc (.cells #[] 5)) w.heap.size (.slice (some ⟨w.heap.size, 0, none⟩) 0 0) [] := Own.lit w _ (by omega) #[] [] rfl (by decide)
  have hbel0 : w.grownBy (w.alloc (.cells #[] 5)) (some b) := World.grownBy_alloc _ _ _
  have hs0 : Src (w.alloc (.cells #[] 5)) B b M := hs.below ((Below.refl _ _).alloc (by omega) _)
  go_loopw [1, 5] (fun j v wr => ∃ (i : Nat) (out : List Nat), i ≤ n ∧ j = .int .i64 ((n - i : Nat) : Int) ∧ Hid (∃ g c, v = .slice (some ⟨g, 0, none⟩) out.length c) ∧ Own wr w.heap.size v out ∧ IsB out ∧ out.length = i ∧ Src wr B b (M + 2 * i) ∧ w.grownBy wr (some b))
    (fun j _ _ => (intOf j).toNat)
  case atStart => exact ⟨0, [], by omega, rfl, (show Hid _ from ⟨_, _, rfl⟩), hown0, fun x hx => by simp at hx, rfl, hs0, hbel0⟩
  case round =>
    obtain ⟨i, out, hi, rfl, HV, hown, hBo, hol, hsr, hbel⟩ := hrel
    clear hown0 hbel0 hs0 hs
    have hz := hbel.size
    by_cases hin : i < n
    · have hj : (0 : Int) < ((n - i : Nat) : Int) := by omega
      obtain ⟨_, hbr, _⟩ := id hsr
      go_wp2_with fail
      refine (l1Next_any B b (M + 2 * i) 256 _ hsr (by omega) (by omega) (by omega)).mono ?_
      rintro e w1 ⟨r, rfl, r0, r1, _, hs1, hg1⟩
      have ho1 := hown.keptG hg1 (by omega)
      have hb1 : w.grownBy w1 (some b) := gthen hbel hg1
      have hz1 := hg1.size
      have hs1' : Src (w1.alloc (.cells #[.int .i64 r, .int .i64 97, .int .i64 32, .int .i64 10, .int .i64 61, .int .i64 122] 2)) B b (M + 2 * i + 1) := hs1.below ((Below.refl _ _).alloc (by omega) _)
      have hr256 : r < 256 := r1 (by omega)
      go_wp2_with fail
      refine (l1Pick_any B b (M + 2 * i + 1) _ 6 6 [r, 97, 32, 10, 61, 122] _ hs1' (by omega) rfl (by omega) (by omega) (nums_new rfl) (by omega)).mono ?_
      rintro e w2 ⟨x, rfl, hx, hs2, hg2⟩
      have hx' : 0 ≤ x ∧ x < 256 := by
        simp only [List.mem_cons, List.not_mem_nil, or_false] at hx
        omega
      obtain ⟨y, rfl⟩ := Int.eq_ofNat_of_zero_le hx'.1
      have hy : y < 256 := by omega
      have ho2 := (ho1.alloc (.cells #[.int .i64 r, .int .i64 97, .int .i64 32, .int .i64 10, .int .i64 61, .int .i64 122] 2)).keptG hg2 (by omega)
      have hb2 : w.grownBy w2 (some b) := gthen (gnew hb1 _) hg2
      have hz2 : w1.heap.size + 1 ≤ w2.heap.size := by have := hg2.size; simpa using this
      have HS2 : Hid (Src w2 B b (M + 2 * i + 1 + 1)) := hs2
      clear hs1 hs1' hg1 hg2 ho1 hx hsr hown hs2 r1
      go_wp2_with (at_builtin; refine wpList_app_new rfl _ _ rfl w.heap.size _ out rfl ho2 1 1 [y] rfl rfl rfl (by omega) (by omega) ?_; intro v' w3 hown' hb')
      have hs3 : Hid (Src w3 B b (M + 2 * (i + 1))) := Src.below (w := w2) HS2.out (hb'.mono (by omega))
      go_wp2
      go_roundw
      case rel => exact ⟨i + 1, out ++ [y], by omega, by go_num, (by obtain ⟨g', c', e', _⟩ := Own.full hown' (by simp); exact ⟨g', c', e'⟩), hown', fun z hz => by rcases List.mem_append.1 hz with h | h; exact hBo z h; simp at h; omega, by simp; omega, hs3.out, glow hb2 hb'⟩
      case measure => simp [intOf]; omega
    · have hii : i = n := by omega
      have hj : ¬ (0 : Int) < ((n - i : Nat) : Int) := by omega
      subst hii
      go_wp2
      go_ret
      exact ⟨_, out, rfl, HV.out, hown, hBo, hol, hsr, hbel⟩

theorem Own.shape {w : World} {B : Nat} {v : Value} {l : List Nat} (h : Own w B v l) : ∃ a cap, v = .slice a l.length cap ∧ l.length ≤ cap ∧ (a = none ∧ cap = 0 ∨ ∃ b off, a = some ⟨b, off, none⟩) := by
  rcases h.2 with ⟨h', h0⟩ | ⟨g, cap, cur, h', _, _, h4, h5, _⟩
  · exact ⟨none, 0, by rw [h', h0], by omega, .inl ⟨rfl, rfl⟩⟩
  · exact ⟨_, cap, h', h4, .inr ⟨_, _, rfl⟩⟩
theorem Own.srcB {w w' : World} {C b : Nat} {v : Value} {l : List Nat} (h : Own w C v l) (hg : w.grownBy w' (some b)) (hb : b < C) : Own w' C v l := h.keptG hg hb
theorem Own.lowB {w : World} {B C : Nat} {v : Value} {l : List Nat} (h : Own w B v l) (hC : C ≤ B) : Own w C v l := by
  refine ⟨h.1, ?_⟩
  rcases h.2 with h' | ⟨g, cap, cur, h1, h2, h3⟩
  · exact .inl h'
  · exact .inr ⟨g, cap, cur, h1, Nat.le_trans hC h2, h3⟩
/-- Bytes that were drawn, ahead of a call. -/
def BytAns (w : World) (e : Ending) (w' : World) : Prop := ∃ (a : Option Addr) (n cap : Nat) (l : List Nat), e = .returned (.slice a n cap) ∧ l.length = n ∧ n ≤ cap ∧ n ≤ 4000 ∧ IsB l ∧ Rd w' a l ∧ (a = none ∧ cap = 0 ∨ ∃ b off, a = some ⟨b, off, none⟩) ∧ Below w.heap.size w w'
theorem rd_takeD {w : World} {a : Option Addr} {l : List Nat} (h : Rd w a l) (k : Nat) : Rd w a (l.take k) := by
  rcases h with h | ⟨b, off, e, hlt, hc⟩
  · left; simp [h]
  · refine .inr ⟨b, off, e, hlt, fun i hi => ?_⟩
    rw [List.length_take] at hi
    rw [hc i (by omega), nth_get (by omega), nth_get (by rw [List.length_take]; omega), List.getElem_take]
theorem pkH_isB : ∀ l : List FldP, IsB (pkH l)
  | [] => fun _ h => by simp [pkH] at h
  | p :: l => fun x hx => by
    have e : pkH (p :: l) = lnF p ++ pkH l := by simp [pkH]
    rw [e] at hx
    rcases List.mem_append.1 hx with hx | hx
    · exact lnF_isB p x hx
    · exact pkH_isB l x hx
theorem pkH_lenD : ∀ l : List FldP, FldD l → (pkH l).length ≤ l.length * 503
  | [], _ => by simp [pkH]
  | p :: l, h => by
    have e : pkH (p :: l) = lnF p ++ pkH l := by simp [pkH]
    have ih := pkH_lenD l (fun q hq => h q (by simp [hq]))
    obtain ⟨h1, h2⟩ := h p (by simp)
    have e2 : (lnF p).length = p.1.size + p.2.size + 3 := by simp [lnF, bts_len]; omega
    rw [e, List.length_append, List.length_cons, e2]
    omega
/-- AN APPEND onto a slice that was made of a text: where there is room, and where there is none; what is read there. -/
theorem wpList_app_cvR {w : World} {ops : Array Oper} {rest : List Oper} {o : Oper} {a : Act} {Q : Exit → Act → World → Prop} (hgd : o.guard = none) (s x : Operand)
    (ho : o.op = .call { callee := .builtin .append, args := #[s, x], argTypes := #[22, 22] })
    (g n cap : Nat) (l : List Nat) (hs : a.eval s = .slice (some ⟨g, 0, none⟩) n cap) (hcv : Cv w g n cap l) (ad : Addr) (m c : Nat) (new : List Nat) (hx : a.eval x = .slice (some ad) m c) (hm : new.length = m)
    (hnew : ∀ j, j < m → w.cell? (ad.add j) = some (.int .u8 (nth new j : Int))) (hsz : n + m ≤ 1073741824)
    (h : ∀ (ao : Option Addr) (N cap' : Nat) (w1 : World), (l ++ new).length = N → N ≤ cap' → Rd w1 ao (l ++ new) → (ao = none ∧ cap' = 0 ∨ ∃ b off, ao = some ⟨b, off, none⟩) → Below g w w1 → wpList Try.prog ops Q rest (a.put o.dst (.slice ao N cap')) w1) : wpList Try.prog ops Q (o :: rest) a w := by
  obtain ⟨i0, hi, hz0, hz1, hz2⟩ := info_parts infoB
  obtain ⟨hl, hn, hlt, hc, hf⟩ := hcv
  refine wpList_append_arg w hgd s x 22 ho 5 i0 (.int .u8 0) 1 1 Try.underlying22 hi hz0 hz1 hz2 rfl (by decide) g 0 n cap (bc l) hs (by rw [bc_len, hl]; omega) ?_ ad m c (bc new) hx (by rw [bc_len, hm]; omega) ?_ (bc_one new) ?_ (by unfold maxLen; omega) (by omega) ?_ ?_
  · intro j u hj
    have hjl : j < l.length := by
      rcases Nat.lt_or_ge j l.length with hlt | hge
      · exact hlt
      · rw [List.getElem?_eq_none (by rw [bc_len]; exact hge)] at hj; cases hj
    rw [bc_get hjl] at hj
    cases hj
    rw [Nat.zero_add]
    exact hc j (by omega)
  · intro j u hj
    have hjl : j < new.length := by
      rcases Nat.lt_or_ge j new.length with hlt | hge
      · exact hlt
      · rw [List.getElem?_eq_none (by rw [bc_len]; exact hge)] at hj; cases hj
    rw [bc_get hjl] at hj
    cases hj
    exact hnew j (by omega)
  · intro hr j hj
    rw [bc_len] at hj
    exact hf _ (by omega)
  · intro hr
    have hin := World.cell?_setCells_in g (bc new) (0 + n * 1) w (fun j hj => by rw [bc_len] at hj; exact (hf _ (by omega)).1)
    have hrd : Rd (w.setCells g (0 + n * 1) (bc new)) (some ⟨g, 0, none⟩) (l ++ new) := by
      refine .inr ⟨g, 0, rfl, Nat.lt_of_lt_of_le hlt (below_setCells g _ _ _).size, fun i hi => ?_⟩
      rw [List.length_append] at hi
      rw [show (⟨g, 0 + i, none⟩ : Addr) = ⟨g, i, none⟩ by rw [Nat.zero_add]]
      rcases Nat.lt_or_ge i n with h1 | h1
      · rw [World.cell?_setCells_out g (bc new) (0 + n * 1) w ⟨g, i, none⟩ (fun _ _ => .inl (by simp; omega)), hc i h1, nth_get (by omega), nth_get (by rw [List.length_append]; omega), List.getElem_append_left (by omega)]
      · have := hin (i - n) (by rw [bc_len]; omega)
        rw [show 0 + n * 1 + (i - n) = i by omega] at this
        rw [this, nth_get (by rw [List.length_append]; omega), List.getElem_append_right (by omega)]
        simp [bc, hl]
    exact h _ _ _ _ (by rw [List.length_append]; omega) (by omega) hrd (.inr ⟨g, 0, rfl⟩) (below_setCells g _ _ _)
  · intro _ v' w' hown hgr
    have ho' : Own w' w.heap.size v' (l ++ new) := by unfold Own; rw [bc_app, List.length_append, hl, hm]; exact hown
    obtain ⟨ao, cap', rfl, hcc, hsh⟩ := ho'.shape
    exact h ao _ cap' w' rfl hcc ho'.rd.2 hsh ((Below.refl _ _).grown hgr (by omega) (by intro k hk; cases hk))

set_option maxHeartbeats 3200000 in
set_option maxRecDepth 100000 in
theorem drawParseHeader_any (a : Option Addr) (n cap : Nat) (l : List Nat) (w : World) (hl : l.length = n) (hr : Rd w a l) (hB : IsB l) (hn : n ≤ 1048576) :
    Calls Try.prog 6 #[.slice a n cap] w fun e w' => BytAns w e w' := by
  go_enter Try.func6, Try.ntmps6
  go_wp2_with fail
  refine (l1Source_any a n cap l _ hl hr hB hn).mono ?_
  rintro e w1 ⟨rfl, hs1, hb⟩
  have hlt : w.heap.size < w1.heap.size := (id hs1).2.1
  clear hl hr hB hn
  generalize hbb : w.heap.size = b at *
  go_wp2_with fail
  refine (l4Right_any b b 0 _ hs1 (by omega)).mono ?_
  rintro e w2 ⟨v, fs, rfl, hof, hfk, hD, hs2, hg2⟩
  obtain ⟨af, cf, rfl, -, -⟩ := hof.form
  have hpl := pkH_lenD fs hD
  have hz2 := hg2.size
  have hb2 : Below b w w2 := hb.trans (gbelow hg2 hlt)
  clear hs1 hg2 hb
  go_wp2_with fail
  refine (l4Pack_any af fs.length cf fs _ rfl hof.rd.2 (by omega) (by omega)).mono ?_
  rintro e w3 ⟨v3, rfl, ho3, hb3⟩
  have hs3 := hs2.below (hb3.mono (by omega))
  have hz3 := hb3.size
  have hb3' : Below b w w3 := hb2.trans (hb3.mono (by omega))
  have hB3 : IsB (pkH fs ++ [10]) := fun x hx => by
    rcases List.mem_append.1 hx with hx | hx
    · exact pkH_isB fs x hx
    · simp at hx; omega
  have hl3 : 1 ≤ (pkH fs ++ [10]).length ∧ (pkH fs ++ [10]).length ≤ 1510 := by rw [List.length_append, List.length_cons, List.length_nil]; omega
  generalize pkH fs ++ [10] = ph at *
  have ho3 : Own w3 (b + 1) v3 ph := ho3.lowB (by omega)
  clear hof hD hs2 hpl hb3 hb2
  go_wp2_with fail
  refine (l1Next_any b b _ 6 _ hs3 (by omega) (by omega) (by omega)).mono ?_
  rintro e w4 ⟨r, rfl, r0, r1, -, hs4, hg4⟩
  obtain ⟨j, rfl⟩ := Int.eq_ofNat_of_zero_le r0
  have hj : j < 6 := by have := r1 (by omega); omega
  have ho4 := ho3.srcB hg4 (by omega)
  have hz4 := hg4.size
  have hb4 : Below b w w4 := hb3'.trans (gbelow hg4 (by omega))
  clear hs3 hg4 ho3 hb3' r1 r0
  go_wp2_with fail
  refine (l1Some_g b b _ j _ hs4 (by omega) (by omega)).mono ?_
  rintro e w5 ⟨v5, out, rfl, ⟨g5, c5, rfl⟩, ho5, hBo, hol, hs5, hg5⟩
  subst hol
  have hoA := ho4.srcB hg5 (by omega)
  have hz5 := hg5.size
  have hb5 : Below b w w5 := hb4.trans (gbelow hg5 (by omega))
  have hnw : ∀ q, q < out.length → w5.cell? ((⟨g5, 0, none⟩ : Addr).add q) = some (.int .u8 (nth out q : Int)) := fun q hq => by
    obtain ⟨b', off', e', -, hc'⟩ := ho5.rd.2.at_ (by omega)
    cases e'
    rw [Go.WideShapes.add_plain]
    exact hc' q hq
  clear hs4 hg5 ho4 hb4 ho5
  go_wp2_with (at_builtin; refine wpList_app rfl _ _ rfl (b + 1) _ ph rfl hoA ⟨g5, 0, none⟩ out.length c5 out rfl rfl hnw (by omega) (by omega) ?_; intro v6 w6 ho6 hb6)
  have hs6 := hs5.below hb6
  have hz6 := hb6.size
  have hb6' : Below b w w6 := hb5.trans (hb6.mono (by omega))
  have hB6 : IsB (ph ++ out) := fun x hx => (List.mem_append.1 hx).elim (hB3 x) (hBo x)
  have hl6 : 1 ≤ (ph ++ out).length ∧ (ph ++ out).length ≤ 1515 := by rw [List.length_append]; omega
  clear hs5 hoA hnw hb6 hb5 hB3 hBo hl3
  generalize ph ++ out = o6 at *
  obtain ⟨g6, c6, rfl, hc6, hg6, hg6'⟩ := ho6.full (by omega)
  have hrd6 := ho6.rd.2
  go_wp2_with fail
  refine (l1Next_any b b _ 6 _ hs6 (by omega) (by omega) (by omega)).mono ?_
  rintro e w7 ⟨q, rfl, q0, q1, -, hs7, hg7⟩
  have ho7 := ho6.srcB hg7 (by omega)
  have hz7 := hg7.size
  have hb7 : Below b w w7 := hb6'.trans (gbelow hg7 (by omega))
  clear hs6 hg7 ho6 hb6' hrd6
  by_cases h0 : q = 0
  · subst h0
    have HC : Hid (Own w7 (b + 1) (.slice (some ⟨g6, 0, none⟩) o6.length c6) o6) := ho7
    clear ho7
    go_wp2_with fail
    refine (l1Next_wide b b _ (o6.length : Int) _ hs7 (by omega) (by omega) (by omega)).mono ?_
    rintro e w8 ⟨r, rfl, r0, r1, -, hs8, hg8⟩
    obtain ⟨i, rfl⟩ := Int.eq_ofNat_of_zero_le r0
    have hi : i < o6.length := by have := r1 (by omega); omega
    have hi' : (i : Int) < (o6.length : Int) := by omega
    have ho8 := HC.out.srcB hg8 (by omega)
    have hz8 := hg8.size
    have hb8 : Below b w w8 := hb7.trans (gbelow hg8 (by omega))
    have hs8' : Src (w8.alloc (.cells #[.int .i64 10, .int .i64 58, .int .i64 32, .int .i64 127, .int .i64 97] 2)) b b _ := hs8.below ((Below.refl _ _).alloc (by omega) _)
    have ho8' := ho8.alloc (.cells #[.int .i64 10, .int .i64 58, .int .i64 32, .int .i64 127, .int .i64 97] 2)
    have hb8' := hb8.alloc (show b ≤ w8.heap.size by omega) (.cells #[.int .i64 10, .int .i64 58, .int .i64 32, .int .i64 127, .int .i64 97] 2)
    clear hs7 HC hg8 hb7 hs8 ho8 hb8 r0 r1
    go_wp2_with fail
    refine (l1Pick_any b b _ _ 5 5 [10, 58, 32, 127, 97] _ hs8' (by omega) rfl (by omega) (by omega) (nums_new rfl) (by omega)).mono ?_
    rintro e w9 ⟨x, rfl, hx, -, hg9⟩
    have hx' : 0 ≤ x ∧ x < 256 := by
      simp only [List.mem_cons, List.not_mem_nil, or_false] at hx
      omega
    obtain ⟨y, rfl⟩ := Int.eq_ofNat_of_zero_le hx'.1
    have hy : y < 256 := by omega
    have ho9 := ho8'.srcB hg9 (by omega)
    have hb9 : Below b w w9 := hb8'.trans (gbelow hg9 (by simp; omega))
    have hz9 := hg9.size
    clear hs8' ho8' hb8' hg9 hx
    have ho9' : w9.ownsRow (b + 1) 5 1 (.slice (some ⟨g6, 0, none⟩) o6.length c6) o6.length (bc o6) := by
      have := ho9; exact this
    have hcl : w9.cell? ⟨g6, i, none⟩ = some (.int .u8 (nth o6 i : Int)) := by rw [ho9'.cellAt i (by omega)]; exact bc_get (by omega)
    have hfz := ho9'.frozenAt i
    obtain ⟨hst, hgr⟩ := ho9'.stored i (.int .u8 (y : Int))
    have hset : (bc o6).set i (.int .u8 (y : Int)) = bc (o6.set i y) := by simp [bc]
    rw [hset] at hst
    have hb10 : Below b w (w9.setCell ⟨g6, i, none⟩ (.int .u8 (y : Int))) := hb9.setCell (p := ⟨g6, i, none⟩) (show b ≤ g6 by omega) _
    have HF : Hid (BytAns w (.returned (.slice (some ⟨g6, 0, none⟩) o6.length c6)) (w9.setCell ⟨g6, i, none⟩ (.int .u8 (y : Int)))) := by
      have hO : Own (w9.setCell ⟨g6, i, none⟩ (.int .u8 (y : Int))) (b + 1) (.slice (some ⟨g6, 0, none⟩) o6.length c6) (o6.set i y) := by unfold Own; rw [List.length_set]; exact hst
      refine ⟨_, o6.length, c6, o6.set i y, rfl, by rw [List.length_set], hc6, by omega, fun z hz => ?_, hO.rd.2, .inr ⟨_, _, rfl⟩, by rw [hbb]; exact hb10⟩
      rcases List.mem_or_eq_of_mem_set hz with h | rfl
      · exact hB6 z h
      · exact hy
    clear hst hgr hb10 hset ho9 ho9' hb9
    go_wp2
    go_ret
    exact HF.out
  · have e0 : (q == 0) = false := beq_eq_false_iff_ne.2 h0
    by_cases h1 : q = 1
    · subst h1
      go_wp2_with fail
      refine (l1Next_wide b b _ (o6.length : Int) _ hs7 (by omega) (by omega) (by omega)).mono ?_
      rintro e w8 ⟨r, rfl, r0, r1, -, -, hg8⟩
      obtain ⟨i, rfl⟩ := Int.eq_ofNat_of_zero_le r0
      have hi : i < o6.length := by have := r1 (by omega); omega
      have hi' : (i : Int) ≤ (c6 : Int) := by omega
      have ho8 := ho7.srcB hg8 (by omega)
      have hb8 : Below b w w8 := hb7.trans (gbelow hg8 (by omega))
      have HF : Hid (BytAns w (.returned (.slice (some ⟨g6, 0, none⟩) i c6)) w8) := ⟨_, i, c6, o6.take i, rfl, by rw [List.length_take]; omega, by omega, by omega, isB_take hB6 i, rd_takeD ho8.rd.2 i, .inr ⟨_, _, rfl⟩, by rw [hbb]; exact hb8⟩
      clear hs7 hg8 ho7 ho8 hb7 hb8 r1
      go_wp2
      go_ret
      exact HF.out
    · have e1 : (q == 1) = false := beq_eq_false_iff_ne.2 h1
      by_cases h2 : q = 2
      · subst h2
        have hs7' : Src (w7.alloc (.cells #[.string ⟨#[32, 120, 10]⟩, .string ⟨#[65, 58, 32, 98, 10, 32, 99, 10, 9, 100, 10]⟩, .string ⟨#[97, 98, 99, 10]⟩, .string ⟨#[10]⟩] 9)) b b _ := hs7.below ((Below.refl _ _).alloc (by omega) _)
        have ho7' := ho7.alloc (.cells #[.string ⟨#[32, 120, 10]⟩, .string ⟨#[65, 58, 32, 98, 10, 32, 99, 10, 9, 100, 10]⟩, .string ⟨#[97, 98, 99, 10]⟩, .string ⟨#[10]⟩] 9)
        have hrow : RowT (w7.alloc (.cells #[.string ⟨#[32, 120, 10]⟩, .string ⟨#[65, 58, 32, 98, 10, 32, 99, 10, 9, 100, 10]⟩, .string ⟨#[97, 98, 99, 10]⟩, .string ⟨#[10]⟩] 9)) w7.heap.size 4 := RowT.new w7 (cs := #[.string ⟨#[32, 120, 10]⟩, .string ⟨#[65, 58, 32, 98, 10, 32, 99, 10, 9, 100, 10]⟩, .string ⟨#[97, 98, 99, 10]⟩, .string ⟨#[10]⟩]) (ss := [⟨#[32, 120, 10]⟩, ⟨#[65, 58, 32, 98, 10, 32, 99, 10, 9, 100, 10]⟩, ⟨#[97, 98, 99, 10]⟩, ⟨#[10]⟩]) rfl (by intro s hs; simp only [List.mem_cons, List.not_mem_nil, or_false] at hs; rcases hs with rfl | rfl | rfl | rfl <;> decide)
        have hb7' := hb7.alloc (show b ≤ w7.heap.size by omega) (.cells #[.string ⟨#[32, 120, 10]⟩, .string ⟨#[65, 58, 32, 98, 10, 32, 99, 10, 9, 100, 10]⟩, .string ⟨#[97, 98, 99, 10]⟩, .string ⟨#[10]⟩] 9)
        have hsA : (w7.alloc (.cells #[.string ⟨#[32, 120, 10]⟩, .string ⟨#[65, 58, 32, 98, 10, 32, 99, 10, 9, 100, 10]⟩, .string ⟨#[97, 98, 99, 10]⟩, .string ⟨#[10]⟩] 9)).heap.size = w7.heap.size + 1 := by simp
        clear hs7 ho7 hb7
        go_wp2_with fail
        generalize w7.alloc (.cells #[.string ⟨#[32, 120, 10]⟩, .string ⟨#[65, 58, 32, 98, 10, 32, 99, 10, 9, 100, 10]⟩, .string ⟨#[97, 98, 99, 10]⟩, .string ⟨#[10]⟩] 9) = W7 at *
        refine (l1Next_any b b _ 4 _ hs7' (by omega) (by omega) (by omega)).mono ?_
        rintro e w8 ⟨r, rfl, r0, r1, -, -, hg8⟩
        obtain ⟨j, rfl⟩ := Int.eq_ofNat_of_zero_le r0
        have hj4 : j < 4 := by have := r1 (by omega); omega
        have hj' : (j : Int) < 4 := by omega
        obtain ⟨new, hcn, hBn, hnl⟩ := (hrow.far hg8 (by omega)).2 j hj4
        have ho8 := ho7'.srcB hg8 (by omega)
        have hb8 : Below b w w8 := hb7'.trans (gbelow hg8 (by omega))
        have hz8 := hg8.size
        have hsz : (str new).size = new.length := str_size new
        have hcvt := fun wx => run_bytes_of_string (P := Try.prog) wx 9 22 5 (str new) Try.underlying9 Try.underlying22 Try.underlying5
        rw [hsz] at hcvt
        clear hs7' ho7' hb7' hrow hg8 r1
        have hcp := grownCap_ge w8 new.length 0 5
        have hbW : Below w8.heap.size w8 (w8.alloc (.cells (bytesRow (str new) (grownCap w8 new.length 0 5)) 5 ((bytesRow (str new) (grownCap w8 new.length 0 5)).size, (bytesRow (str new) (grownCap w8 new.length 0 5)).size + 1))).drew := ((Below.refl _ _).alloc (Nat.le_refl _) _).drew
        have hcvW : Cv (w8.alloc (.cells (bytesRow (str new) (grownCap w8 new.length 0 5)) 5 ((bytesRow (str new) (grownCap w8 new.length 0 5)).size, (bytesRow (str new) (grownCap w8 new.length 0 5)).size + 1))).drew w8.heap.size new.length (grownCap w8 new.length 0 5) new := Cv.conv w8 new hBn _ (by omega)
        have hrdW : Rd (w8.alloc (.cells (bytesRow (str new) (grownCap w8 new.length 0 5)) 5 ((bytesRow (str new) (grownCap w8 new.length 0 5)).size, (bytesRow (str new) (grownCap w8 new.length 0 5)).size + 1))).drew (some ⟨g6, 0, none⟩) o6 := ho8.rd.2.below hbW
        clear ho8
        go_wp2_with (at_builtin; refine wpList_app_cvR rfl _ _ rfl w8.heap.size new.length _ new rfl hcvW ⟨g6, 0, none⟩ o6.length c6 o6 rfl rfl ?_ (by omega) ?_)
        · intro q hq
          obtain ⟨d, off, e, -, hc⟩ := hrdW.at_ (by omega)
          cases e
          rw [Go.WideShapes.add_plain]
          exact hc q hq
        · intro ao N cap' w9 hN hNc hrd9 hsh9 hb9
          have hb10 : Below b w w9 := hb8.trans ((hbW.mono (by omega)).trans (hb9.mono (by omega)))
          have HF : Hid (BytAns w (.returned (.slice ao N cap')) w9) := ⟨ao, N, cap', new ++ o6, rfl, (by rw [List.length_append]; exact hN), hNc, by omega, fun z hz => (List.mem_append.1 hz).elim (hBn z) (hB6 z), hrd9, hsh9, by rw [hbb]; exact hb10⟩
          clear hrdW hcvW hcvt hrd9 hN hNc hsh9
          go_wp2
          go_ret
          exact HF.out
      · have e2 : (q == 2) = false := beq_eq_false_iff_ne.2 h2
        have HF : Hid (BytAns w (.returned (.slice (some ⟨g6, 0, none⟩) o6.length c6)) w7) := ⟨_, _, c6, o6, rfl, rfl, hc6, by omega, hB6, ho7.rd.2, .inr ⟨_, _, rfl⟩, by rw [hbb]; exact hb7⟩
        clear hs7 ho7 hb7
        go_wp2
        go_ret
        exact HF.out
end Go.Proofs.Ytpgjichcpnjeoaa
