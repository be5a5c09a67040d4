/- DecodeBase, the program's, at every text: the bytes whose base text it is, or a code; texts of whatever length · The library's own bound · The bytes that a part tells, the program's: withoutLineFeeds, bytesOfPart. -/
import Derived.Test.YtooifkdbpghcfaaGreatDoorDecBToEncQ
import Derived.Test.YtooifkdbpghcfaaGreatDoorDecQToDecQ2
import Derived.WalkSpells
import Derived.Test.YtooifkdbpghcfaaGreatDoorMemToApp
import Derived.Below
import Derived.Test.YtooifkdbpghcfaaGreatDoorPwiToLfd
import Derived.Test.YtooifkdbpghcfaaGreatDoorHdr7ToShf
namespace Go.Proofs.YtooifkdbpghcfaaGreatDoor
open Go.RowKit

/-- What DecodeBase answers: a code and bytes. -/
def decB (t : List Nat) : Int × List Nat :=
  if 1600 < t.length then (2, []) else match Xf.dec t with
    | none => (7, [])
    | some b => if 400 < b.length then (2, []) else (0, b)
theorem decB_long {t : List Nat} (h : 1600 < t.length) : decB t = (2, []) := by unfold decB; rw [if_pos h]
theorem decB_none {t : List Nat} (h : ¬ 1600 < t.length) (hn : Xf.dec t = none) : decB t = (7, []) := by unfold decB; rw [if_neg h, hn]
theorem decB_many {t b : List Nat} (h : ¬ 1600 < t.length) (hn : Xf.dec t = some b) (hb : 400 < b.length) : decB t = (2, []) := by unfold decB; rw [if_neg h, hn]; simp only; rw [if_pos hb]
theorem decB_some {t b : List Nat} (h : ¬ 1600 < t.length) (hn : Xf.dec t = some b) (hb : ¬ 400 < b.length) : decB t = (0, b) := by unfold decB; rw [if_neg h, hn]; simp only; rw [if_neg hb]

/-- A group that is read. -/
theorem grp_facts {x0 x1 x2 x3 : Nat} {g : List Nat} (h : Xf.grp x0 x1 x2 x3 = some g) :
    2 ≤ Xf.cnt x0 x1 x2 x3 ∧ Xf.cnt x0 x1 x2 x3 ≤ 4 ∧ Xf.bitsOf (Xf.cnt x0 x1 x2 x3) x0 x1 x2 x3 < 16777216 ∧ g = Xf.bts (Xf.bitsOf (Xf.cnt x0 x1 x2 x3) x0 x1 x2 x3) (Xf.cnt x0 x1 x2 x3 - 1) := by
  obtain ⟨h4, _, _⟩ := Xf.cnt_spec x0 x1 x2 x3
  have hac := Xf.acc_four (Xf.cnt x0 x1 x2 x3) x0 x1 x2 x3
  have hgood := Xf.good_iff (Xf.cnt x0 x1 x2 x3) x0 x1 x2 x3
  unfold Xf.grp at h
  generalize Xf.cnt x0 x1 x2 x3 = n at *
  unfold Xf.grpN at h
  by_cases h2 : n < 2
  · rw [if_pos h2] at h; cases h
  · rw [if_neg h2] at h
    cases hg : Xf.good n x0 x1 x2 x3 with
    | false => rw [if_pos hg] at h; cases h
    | true =>
      rw [if_neg (by rw [hg]; simp)] at h
      have hb := Xf.acc_lt4 (by omega) (hgood.1 hg)
      rw [hac] at hb
      split at h
      · cases h
      · simp only [Option.some.injEq] at h
        exact ⟨by omega, h4, hb, by rw [Xf.bts_three _ _ hb (by omega), h]⟩

set_option maxHeartbeats 3200000 in
set_option maxRecDepth 100000 in
theorem implDecodeBase_any (t : List Nat) (n : Nat) (w : World) (hl : t.length = n) (hB : IsB t) (ht : TabB w) :
    Calls Tryz.prog 80 #[.string (str t)] w fun e w' => ∃ v, e = .returned (.agg #[.int .i64 (decB t).1, v]) ∧ Own w' w.heap.size v (decB t).2 ∧ Below w.heap.size w w' := by
  have hsz : (str t).size = n := by rw [str_size, hl]
  by_cases hbig : 1600 < n
  · have H : Hid (decB t = (2, [])) := decB_long (by omega)
    have hn' : (1600 : Int) < (n : Int) := by omega
    go_enter Tryz.func80, Tryz.ntmps80
    go_wp2
    go_returns
    exact ⟨.slice none 0 0, by rw [H.out], by rw [H.out]; exact Own.nil _ _, by go_grown⟩
  · have hn' : ¬ (1600 : Int) < (n : Int) := by omega
    by_cases hodd : n % 4 = 0
    · have e4 : (((n : Int) % 4) != 0) = false := by rw [bne_eq_false_iff_eq]; omega
      go_enter Tryz.func80, Tryz.ntmps80
      go_wp2
      have hb0 : Below w.heap.size w (w.alloc (.cells #[.int .i64 0, .slice none 0 0] 27)) := (Below.refl _ _).alloc (Nat.le_refl _) _
      have ht0 := ht.below hb0
      have hWs : (w.alloc (.cells #[.int .i64 0, .slice none 0 0] 27)).heap.size = w.heap.size + 1 := by simp
      generalize hW : w.alloc (.cells #[.int .i64 0, .slice none 0 0] 27) = W at *
      go_loopw [3, 4] (fun v i wr => ∃ (k j : Nat) (out : List Nat), 4 * k = j ∧ j ≤ n ∧ i = .int .i64 j ∧ Own wr (w.heap.size + 1) v out ∧ Below (w.heap.size + 1) W wr ∧ Hid (Xf.dec t = (Xf.dec (t.drop j)).map (out ++ ·)) ∧ out.length ≤ 3 * k)
        (fun _ i _ => n - (intOf i).toNat)
      case atStart => exact ⟨0, 0, [], rfl, by omega, rfl, Own.nil _ _, Below.refl _ _, by show _ = _; rw [List.drop_zero]; cases Xf.dec t <;> simp, Nat.le_refl _⟩
      case round =>
        obtain ⟨k, j, out, hkj, hj, rfl, hown, hbel, hq, hol⟩ := hrel
        have hz : w.heap.size + 1 ≤ wr.heap.size := by have := hbel.size; omega
        have htr : TabB wr := ht0.below (by rw [hWs]; exact hbel)
        have hol2 : out.length ≤ 2000 := by omega
        by_cases hjn : j < n
        · have hj4 : j + 4 ≤ n := by omega
          have HK : Hid (4 * (k + 1) = j + 4) := by show _ = _; omega
          have hext : (str t).extract j (j + 4) = str [nth t j, nth t (j + 1), nth t (j + 2), nth t (j + 3)] := by
            rw [str_extract, ← Xf.take_four t j (by omega), List.drop_take, Nat.add_sub_cancel_left]
          have hd4 := Xf.drop_four t j (by omega)
          have hB4 : IsB [nth t j, nth t (j + 1), nth t (j + 2), nth t (j + 3)] := by
            intro b hb
            simp only [List.mem_cons, List.not_mem_nil, or_false] at hb
            rcases hb with rfl | rfl | rfl | rfl <;> exact nth_lt hB _
          generalize nth t j = x0 at *
          generalize nth t (j + 1) = x1 at *
          generalize nth t (j + 2) = x2 at *
          generalize nth t (j + 3) = x3 at *
          have hdg := Xf.dec_group hd4
          have hrn : t.drop (j + 4) ≠ [] ↔ j + 4 < n := by
            rw [ne_eq, List.drop_eq_nil_iff]; omega
          have j1 : (j : Int) < (n : Int) := by omega
          have j2 : (j : Int) + 4 ≤ (n : Int) := by omega
          clear hd4 hkj
          go_wp2_with fail
          refine (readGroup_any x0 x1 x2 x3 _ hB4 htr).mono ?_
          rintro e w1 ⟨rfl, rfl⟩
          cases hg : Xf.grp x0 x1 x2 x3 with
          | none =>
            rw [grpV_none hg]
            have H : Hid (decB t = (7, [])) := decB_none (by omega) (by rw [hq.out, hdg, hg]; rfl)
            obtain ⟨hcw, hcw1, hfw, hfw1⟩ := res_block hW hbel
            obtain ⟨hk0, hk1⟩ := res_cells hcw hcw1 (.int .i64 7) (.slice none 0 0)
            clear hq hdg hrn hg hext
            go_wp2
            all_goals
              refine bodyPost_ret (v := .agg #[.int .i64 7, .slice none 0 0]) (by simp [results, Tryz.results80, go_sem, hk0, hk1]) rfl ?_
              exact ⟨.slice none 0 0, by rw [H.out], by rw [H.out]; exact Own.nil _ _, ((hb0.trans (hbel.mono (by omega))).setCell (by simp) _).setCell (by simp) _⟩
          | some gb =>
            rw [grpV_some hg]
            obtain ⟨f2, f4, fb, fg⟩ := grp_facts hg
            simp only [hg] at hdg
            generalize Xf.bitsOf (Xf.cnt x0 x1 x2 x3) x0 x1 x2 x3 = A at *
            generalize hc : Xf.cnt x0 x1 x2 x3 - 1 = c at *
            have hc1 : 1 ≤ c := by omega
            have hc3 : c ≤ 3 := by omega
            have hgl : gb.length = c := by rw [fg, Xf.bts_len]
            have c0 : ((c : Int) == 0) = false := beq_eq_false_iff_ne.2 (by omega)
            have hdrop : (gb.length < 3 ∧ t.drop (j + 4) ≠ []) ↔ (c < 3 ∧ j + 4 < n) := by rw [hgl, hrn]
            clear hc f2 f4 hrn hg hB4
            by_cases hbad : c < 3 ∧ j + 4 < n
            · have H : Hid (decB t = (7, [])) := decB_none (by omega) (by rw [hq.out, hdg, if_pos (hdrop.2 hbad)]; rfl)
              have c3 : (c : Int) < 3 := by omega
              have l4 : ((j : Int) + 4 == (n : Int)) = false := beq_eq_false_iff_ne.2 (by omega)
              obtain ⟨hcw, hcw1, hfw, hfw1⟩ := res_block hW hbel
              obtain ⟨hk0, hk1⟩ := res_cells hcw hcw1 (.int .i64 7) (.slice none 0 0)
              clear hq hdg hext hdrop fg hgl
              go_wp2
              refine bodyPost_ret (v := .agg #[.int .i64 7, .slice none 0 0]) (by simp [results, Tryz.results80, go_sem, hk0, hk1]) rfl ?_
              exact ⟨.slice none 0 0, by rw [H.out], by rw [H.out]; exact Own.nil _ _, ((hb0.trans (hbel.mono (by omega))).setCell (by simp) _).setCell (by simp) _⟩
            · have HQ : Hid (Xf.dec t = (Xf.dec (t.drop (j + 4))).map ((out ++ Xf.bts A c) ++ ·)) := by
                show _ = _
                rw [hq.out, hdg, if_neg (fun h => hbad (hdrop.1 h)), fg]
                cases Xf.dec (t.drop (j + 4)) <;> simp
              have hA : A < 4294967296 := by omega
              clear hq hdg hext hdrop fg hgl
              by_cases c3 : c < 3
              · have c3' : (c : Int) < 3 := by omega
                have l4 : ((j : Int) + 4 == (n : Int)) = true := beq_iff_eq.2 (by omega)
                go_wp2_with fail
                refine (appendBytes_any _ out A c (w.heap.size + 1) _ _ hown hA rfl (by omega) (by omega) hz).mono ?_
                rintro e w2 ⟨v', rfl, hown2, hb2⟩
                go_wp2
                go_roundw
                case rel => exact ⟨k + 1, j + 4, out ++ Xf.bts A c, HK.out, by omega, by go_num, hown2, hbel.trans hb2, HQ, by rw [List.length_append, Xf.bts_len]; omega⟩
                case measure => simp [intOf]; omega
              · have c3' : ¬ (c : Int) < 3 := by omega
                go_wp2_with fail
                refine (appendBytes_any _ out A c (w.heap.size + 1) _ _ hown hA rfl (by omega) (by omega) hz).mono ?_
                rintro e w2 ⟨v', rfl, hown2, hb2⟩
                go_wp2
                go_roundw
                case rel => exact ⟨k + 1, j + 4, out ++ Xf.bts A c, HK.out, by omega, by go_num, hown2, hbel.trans hb2, HQ, by rw [List.length_append, Xf.bts_len]; omega⟩
                case measure => simp [intOf]; omega
        · have hu : Xf.dec t = some out := by rw [hq.out, List.drop_of_length_le (by omega)]; simp [Xf.dec]
          obtain ⟨ao, ocap, rfl, hoc⟩ := hown.form
          obtain ⟨hcw, hcw1, hfw, hfw1⟩ := res_block hW hbel
          have hjn' : ¬ (j : Int) < (n : Int) := by omega
          generalize hN : out.length = N at *
          clear hkj
          by_cases h4 : 400 < N
          · have h4' : (400 : Int) < (N : Int) := by omega
            have H : Hid (decB t = (2, [])) := decB_many (by omega) hu (by omega)
            obtain ⟨hk0, hk1⟩ := res_cells hcw hcw1 (.int .i64 2) (.slice none 0 0)
            clear hq hu hN
            go_wp2
            refine bodyPost_ret (v := .agg #[.int .i64 2, .slice none 0 0]) (by simp [results, Tryz.results80, go_sem, hk0, hk1]) rfl ?_
            exact ⟨.slice none 0 0, by rw [H.out], by rw [H.out]; exact Own.nil _ _, ((hb0.trans (hbel.mono (by omega))).setCell (by simp) _).setCell (by simp) _⟩
          · have h4' : ¬ (400 : Int) < (N : Int) := by omega
            have H : Hid (decB t = (0, out)) := decB_some (by omega) hu (by omega)
            obtain ⟨hk0, hk1⟩ := res_cells hcw hcw1 (.int .i64 0) (.slice ao N ocap)
            clear hq hu hN
            go_wp2
            refine bodyPost_ret (v := .agg #[.int .i64 0, .slice ao N ocap]) (by simp [results, Tryz.results80, go_sem, hk0, hk1]) rfl ?_
            exact ⟨.slice ao N ocap, by rw [H.out], by rw [H.out]; exact ((hown.set _ (by simp) _).set _ (by simp) _).low (by omega), ((hb0.trans (hbel.mono (by omega))).setCell (by simp) _).setCell (by simp) _⟩
    · have e4 : (((n : Int) % 4) != 0) = true := by rw [bne_iff_ne]; omega
      have H : Hid (decB t = (7, [])) := decB_none (by omega) (Xf.dec_odd t (by omega))
      go_enter Tryz.func80, Tryz.ntmps80
      go_wp2
      go_returns
      exact ⟨.slice none 0 0, by rw [H.out], by rw [H.out]; exact Own.nil _ _, by go_grown⟩
end Go.Proofs.YtooifkdbpghcfaaGreatDoor

namespace Go.Proofs.YtooifkdbpghcfaaGreatDoor
open Go.RowKit

/-- The library's own bound lies in its variable. -/
def MaxI (w : World) : Prop := ∃ m, w.cell? ⟨3, 0, none⟩ = some (.int .i64 m)
theorem MaxI.below {w w' : World} (h : MaxI w) (hb : Below w.heap.size w w') : MaxI w' := by
  obtain ⟨m, hm⟩ := h
  exact ⟨m, (hb.cell (p := ⟨3, 0, none⟩) (World.block_lt_of_cell? _ _ hm)).trans hm⟩
end Go.Proofs.YtooifkdbpghcfaaGreatDoor

namespace Go.Proofs.YtooifkdbpghcfaaGreatDoor
open Go.RowKit

/-- The bytes that a body tells by its coding, or a code. -/
def byV (body : List Nat) (g : Int) : Int × List Nat := if g = 2 then decB (repL body) else if g = 3 then decQ body else (0, body)

set_option maxHeartbeats 800000 in
set_option maxRecDepth 100000 in
theorem withoutLineFeeds_any (a : Option Addr) (n cap : Nat) (l : List Nat) (w : World) (hl : l.length = n) (hr : Rd w a l) (hB : IsB l) (hn : n ≤ 1048576) (hm : MaxI w) :
    Calls Tryz.prog 81 #[.slice a n cap] w fun e w' => e = .returned (.string (str (repL l))) ∧ Below w.heap.size w w' := by
  obtain ⟨m, hm'⟩ := hm
  have HR := Tryz.strings_ReplaceAll (str l) ⟨#[10]⟩ ⟨#[]⟩ m w (by rw [str_size]; omega) hm' (by decide) (by
    rw [str_size, show (⟨#[]⟩ : ByteArray).size = 0 from rfl]; omega)
  rw [show (⟨#[10]⟩ : ByteArray).data.toList = [10] from rfl, show (⟨#[]⟩ : ByteArray).data.toList = [] from rfl, replAllL l hB] at HR
  have hst := run_str (w := w) (a := a) (n := n) (cap := cap) (l := l) hl hr
  generalize str (repL l) = s at *
  go_enter Tryz.func81, Tryz.ntmps81
  go_wp2_with fail
  refine HR.mono ?_
  rintro e w1 ⟨rfl, hb⟩
  go_wp2
  go_ret
  exact ⟨rfl, hb⟩

set_option maxHeartbeats 3200000 in
set_option maxRecDepth 100000 in
theorem bytesOfPart_any {cp : Nat} (b m : Nat) (d : List Nat) (p : PtP) (f t : Nat) (w : World) (hr : Rd w (some ⟨b, 0, none⟩) d) (hB : IsB d) (hl : d.length = m) (hm : m ≤ 400) (hp : p.2.1 = ((f : Int), (t : Int))) (hft : f ≤ t) (htm : t ≤ m) (hTB : TabB w) (hTH : TabH w) (hMI : MaxI w) (hcp : m ≤ cp := by omega) :
    Calls Tryz.prog 55 #[.slice (some ⟨b, 0, none⟩) m cp, ptA p] w (SeeB (byV (cutN d f t) p.1.2.2) w) := by
  unfold ptA
  obtain ⟨⟨p0, p1, p2⟩, ⟨p3, p4⟩, p5, p6⟩ := p
  dsimp only at hp ⊢
  obtain ⟨rfl, rfl⟩ : p3 = (f : Int) ∧ p4 = (t : Int) := by simpa using hp
  have hBc : IsB (cutN d f t) := isB_drop (isB_take hB _) _
  have hcl : (cutN d f t).length = t - f := by unfold cutN; rw [List.length_drop, List.length_take]; omega
  have HR1 : Hid (∀ W, Below w.heap.size w W → Rd W (some ⟨b, f, none⟩) (cutN d f t)) := fun W hW => by
    have h := (rd_takeH (hr.below hW) t).drop f
    rw [Nat.zero_add] at h; exact h
  have HR0 : Hid (cp = f → ∀ W, Below w.heap.size w W → Rd W (some ⟨b, 0, none⟩) (cutN d f t)) := fun hmf W hW => by
    rw [List.length_eq_zero_iff.1 (show (cutN d f t).length = 0 by omega)]; exact .inl rfl
  have hbx : Below w.heap.size w (w.alloc (.cells #[.int .i64 p0, .int .i64 p1, .int .i64 p2, .int .i64 (f : Int), .int .i64 (t : Int), .int .i64 p5, .int .i64 p6] 44)) := (Below.refl _ _).alloc (Nat.le_refl _) _
  have hi1 : (f : Int) ≤ (t : Int) := by omega
  have hi2 : (t : Int) ≤ (m : Int) := by omega
  by_cases h2 : p2 = 2
  · subst h2
    have HD := fun w (hw : TabB w) => implDecodeBase_any (repL (cutN d f t)) _ w rfl (repL_isB hBc) hw
    have hV : byV (cutN d f t) 2 = decB (repL (cutN d f t)) := if_pos rfl
    rw [hV]
    clear hV hp
    generalize decB (repL (cutN d f t)) = r at *
    go_enter Tryz.func55, Tryz.ntmps55
    go_wp2_with fail
    case inl =>
      have RD := HR0.out (by omega) _ hbx
      refine (withoutLineFeeds_any _ (t - f) _ (cutN d f t) _ hcl RD hBc (by omega) (hMI.below hbx)).mono ?_
      rintro e w1 ⟨rfl, hb1⟩
      have hbw1 := hbx.trans (hb1.mono hbx.size)
      go_wp2_with fail
      refine (HD _ (hTB.below hbw1)).mono ?_
      rintro e w2 ⟨v, rfl, ho, hb2⟩
      have hbw2 := hbw1.trans (hb2.mono hbw1.size)
      have ho2 := ho.lower (C := w.heap.size) hbw1.size
      obtain ⟨a, cp, hv, -, -⟩ := ho2.form
      subst hv
      by_cases hc : r.1 = 0
      · rw [hc]
        go_wp2_with fail
        refine (bytesIn_ok a _ cp _).mono ?_
        rintro e w3 ⟨rfl, hb3⟩
        have ho3 := ho2.below hb3 (Nat.le_refl _)
        have hbw3 := hbw2.trans (hb3.mono hbw2.size)
        clear ho ho2 hb2 hb3 HD
        go_wp2
        go_ret
        exact ⟨.inl ⟨hc, _, rfl, ho3⟩, hbw3⟩
      · go_wp2_with fail
        refine (bytesIn_bad _ hc a _ cp _).mono ?_
        rintro e w3 ⟨rfl, hb3⟩
        exact ⟨rfl, .inr ⟨hc, rfl⟩, hbw2.trans (hb3.mono hbw2.size)⟩
    case inr =>
      have RD := HR1.out _ hbx
      refine (withoutLineFeeds_any _ (t - f) _ (cutN d f t) _ hcl RD hBc (by omega) (hMI.below hbx)).mono ?_
      rintro e w1 ⟨rfl, hb1⟩
      have hbw1 := hbx.trans (hb1.mono hbx.size)
      go_wp2_with fail
      refine (HD _ (hTB.below hbw1)).mono ?_
      rintro e w2 ⟨v, rfl, ho, hb2⟩
      have hbw2 := hbw1.trans (hb2.mono hbw1.size)
      have ho2 := ho.lower (C := w.heap.size) hbw1.size
      obtain ⟨a, cp, hv, -, -⟩ := ho2.form
      subst hv
      by_cases hc : r.1 = 0
      · rw [hc]
        go_wp2_with fail
        refine (bytesIn_ok a _ cp _).mono ?_
        rintro e w3 ⟨rfl, hb3⟩
        have ho3 := ho2.below hb3 (Nat.le_refl _)
        have hbw3 := hbw2.trans (hb3.mono hbw2.size)
        clear ho ho2 hb2 hb3 HD
        go_wp2
        go_ret
        exact ⟨.inl ⟨hc, _, rfl, ho3⟩, hbw3⟩
      · go_wp2_with fail
        refine (bytesIn_bad _ hc a _ cp _).mono ?_
        rintro e w3 ⟨rfl, hb3⟩
        exact ⟨rfl, .inr ⟨hc, rfl⟩, hbw2.trans (hb3.mono hbw2.size)⟩
  · have h2' : (p2 == 2) = false := by simpa using h2
    by_cases h3 : p2 = 3
    · subst h3
      have HD := fun w (hw : TabH w) => implDecodeQuoted_any (cutN d f t) _ w rfl hBc hw
      have hV : byV (cutN d f t) 3 = decQ (cutN d f t) := (if_neg (by decide)).trans (if_pos rfl)
      have hst1 := fun W hW c => run_str (cap := c) hcl (HR1.out W hW)
      have hst0 := fun h W hW c => run_str (cap := c) hcl (HR0.out h W hW)
      have HS1 := hst1 _ hbx
      have HS0 : Hid (cp = f → _) := fun h => hst0 h _ hbx
      rw [hV]
      clear hV hp hst1 hst0
      generalize decQ (cutN d f t) = r at *
      go_enter Tryz.func55, Tryz.ntmps55
      by_cases hmf : cp = f
      · have HS := HS0.out hmf
        clear HS0 HS1
        go_wp2_with fail
        have RD := HR0.out hmf _ hbx
        have hbw1 := hbx
        refine (HD _ (hTH.below hbw1)).mono ?_
        rintro e w2 ⟨v, rfl, ho, hb2⟩
        have hbw2 := hbw1.trans (hb2.mono hbw1.size)
        have ho2 := ho.lower (C := w.heap.size) hbw1.size
        obtain ⟨a, cp, hv, -, -⟩ := ho2.form
        subst hv
        by_cases hc : r.1 = 0
        · rw [hc]
          go_wp2_with fail
          refine (bytesIn_ok a _ cp _).mono ?_
          rintro e w3 ⟨rfl, hb3⟩
          have ho3 := ho2.below hb3 (Nat.le_refl _)
          have hbw3 := hbw2.trans (hb3.mono hbw2.size)
          clear ho ho2 hb2 hb3 HD
          go_wp2
          go_ret
          exact ⟨.inl ⟨hc, _, rfl, ho3⟩, hbw3⟩
        · go_wp2_with fail
          refine (bytesIn_bad _ hc a _ cp _).mono ?_
          rintro e w3 ⟨rfl, hb3⟩
          exact ⟨rfl, .inr ⟨hc, rfl⟩, hbw2.trans (hb3.mono hbw2.size)⟩
      · clear HS0
        go_wp2_with fail
        have RD := HR1.out _ hbx
        have hbw1 := hbx
        refine (HD _ (hTH.below hbw1)).mono ?_
        rintro e w2 ⟨v, rfl, ho, hb2⟩
        have hbw2 := hbw1.trans (hb2.mono hbw1.size)
        have ho2 := ho.lower (C := w.heap.size) hbw1.size
        obtain ⟨a, cp, hv, -, -⟩ := ho2.form
        subst hv
        by_cases hc : r.1 = 0
        · rw [hc]
          go_wp2_with fail
          refine (bytesIn_ok a _ cp _).mono ?_
          rintro e w3 ⟨rfl, hb3⟩
          have ho3 := ho2.below hb3 (Nat.le_refl _)
          have hbw3 := hbw2.trans (hb3.mono hbw2.size)
          clear ho ho2 hb2 hb3 HD
          go_wp2
          go_ret
          exact ⟨.inl ⟨hc, _, rfl, ho3⟩, hbw3⟩
        · go_wp2_with fail
          refine (bytesIn_bad _ hc a _ cp _).mono ?_
          rintro e w3 ⟨rfl, hb3⟩
          exact ⟨rfl, .inr ⟨hc, rfl⟩, hbw2.trans (hb3.mono hbw2.size)⟩
    · have h3' : (p2 == 3) = false := by simpa using h3
      have hV : byV (cutN d f t) p2 = (0, cutN d f t) := (if_neg h2).trans (if_neg h3)
      rw [hV]
      clear hV hp
      go_enter Tryz.func55, Tryz.ntmps55
      go_wp2_with fail
      case inl =>
        have RD := HR0.out (by omega) _ hbx
        refine (copied_any _ (t - f) _ (cutN d f t) _ hcl RD (by omega)).mono ?_
        rintro e w1 ⟨v, rfl, ho, hb1⟩
        have hbw1 := hbx.trans (hb1.mono hbx.size)
        have ho2 := ho.lower (C := w.heap.size) hbx.size
        obtain ⟨a, cp, hv, -, -⟩ := ho2.form
        rw [hcl] at hv
        subst hv
        clear ho
        go_wp2
        go_ret
        exact ⟨.inl ⟨rfl, _, rfl, ho2⟩, hbw1⟩
      case inr =>
        have RD := HR1.out _ hbx
        refine (copied_any _ (t - f) _ (cutN d f t) _ hcl RD (by omega)).mono ?_
        rintro e w1 ⟨v, rfl, ho, hb1⟩
        have hbw1 := hbx.trans (hb1.mono hbx.size)
        have ho2 := ho.lower (C := w.heap.size) hbx.size
        obtain ⟨a, cp, hv, -, -⟩ := ho2.form
        rw [hcl] at hv
        subst hv
        clear ho
        go_wp2
        go_ret
        exact ⟨.inl ⟨rfl, _, rfl, ho2⟩, hbw1⟩
end Go.Proofs.YtooifkdbpghcfaaGreatDoor
