/- The draws of texts to be read: each ends with some text of at most 1601 letters, and turns nothing that was there; sources of at most 1048576 bytes. -/
import Derived.Test.YtdidjgpgpknknaaDoorDrw5
import Derived.Test.YtdidjgpgpknknaaDoorEncB3
import Derived.Test.YtdidjgpgpknknaaDoorEncQ3
namespace Go.Proofs.YtdidjgpgpknknaaDoor
open Go.RowKit

theorem enc_isB {l : List Nat} (h : IsB l) : IsB (Xf.enc l) := fun x hx => by have := Xf.enc_plain l h x hx; omega
theorem quo_isB {l : List Nat} (h : IsB l) : IsB (Xq.quo l) := fun x hx => by have := Xq.quo_plain l h x hx; omega

set_option maxHeartbeats 1600000 in
set_option maxRecDepth 100000 in
theorem drawDecodeBase_any (a : Option Addr) (n cap : Nat) (l : List Nat) (w : World) (hl : l.length = n) (hr : Rd w a l) (hB : IsB l) (hn : n ≤ 1048576) :
    Calls Tryd.prog 11 #[.slice a n cap] w fun e w' => TextEnd w.heap.size 1601 w e w' := by
  obtain ⟨i0, hi, hz0, hz1, hz2⟩ := info_parts infoB
  go_enter Tryd.func11, Tryd.ntmps11
  go_wp2_with fail
  refine (l1Source_any a n cap l _ hl hr hB hn).mono ?_
  rintro e w1 ⟨rfl, hs, hb⟩
  have hz := hb.size
  clear hl hr hB hn
  go_wp2_with fail
  refine (l1Chance_any w.heap.size w.heap.size 0 40 _ hs (by omega) (by omega) (by omega)).mono ?_
  rintro e w2 ⟨q, rfl, hs2, hg2⟩
  have hb2 : Below w.heap.size w w2 := hb.trans ((Below.refl _ _).grown hg2 hz (by intro k hk; simp at hk; omega))
  have hz2' := hg2.size
  clear hs hg2
  cases q with
  | true =>
    go_wp2_with (at_make; refine wpList_make_full _ rfl _ _ 22 rfl w.heap.size 5 i0 (.int .u8 0) 1 Tryd.underlying22 hi hz0 hz1 .i64 .i64 _ _ 1601 rfl rfl rfl rfl (by rw [hz2]; omega) (by unfold maxLen; omega) (by omega) ?_; intro w3 hown3 hgrow3)
    rw [made_bytes] at hown3
    have ho : Own w3 w.heap.size (.slice (some ⟨w2.heap.size, 0, none⟩) 1601 1601) (List.replicate 1601 0) := by unfold Own; rw [List.length_replicate]; exact hown3
    have hb3 : Below w.heap.size w w3 := hb2.grown hgrow3 (by omega) (by intro k hk; cases hk)
    have hzl : (List.replicate 1601 0).length = 1601 := List.length_replicate
    have hzB : IsB (List.replicate 1601 0) := fun z hz => by rw [List.mem_replicate] at hz; omega
    clear hown3 hs2 hgrow3 hi hz0 hz1 hz2
    generalize List.replicate 1601 0 = zs at *
    have hst := fun c' => run_str (cap := c') (n := 1601) hzl ho.rd.2
    clear ho
    go_wp2
    rw [hst]
    go_wp2
    go_ret
    exact textEnd hzB (by omega) hb3
  | false =>
    go_wp2_with fail
    refine (l1Next_any w.heap.size w.heap.size (0 + 1) 9 _ hs2 (by omega) (by omega) (by omega)).mono ?_
    rintro e w3 ⟨r, rfl, r0, r1, -, hs3, hg3⟩
    obtain ⟨y, rfl⟩ := Int.eq_ofNat_of_zero_le r0
    have hy : y < 9 := by have := r1 (by omega); omega
    have hb3 : Below w.heap.size w w3 := hb2.trans ((Below.refl _ _).grown hg3 (by omega) (by intro k hk; simp at hk; omega))
    clear hs2 hg3 r1
    go_wp2_with fail
    refine (l1Some_any w.heap.size w.heap.size (0 + 1 + 1) y _ hs3 (by omega) (by omega)).mono ?_
    rintro e w4 ⟨v, out, rfl, ho, hBo, hol, hs4, hb4⟩
    subst hol
    obtain ⟨a4, c4, rfl, -, -⟩ := ho.form
    have hbw4 : w.heap.size < w4.heap.size := hs4.2.1
    clear hs3
    go_wp2_with fail
    refine (l1Encode_any a4 out.length c4 out _ rfl ho.rd.2 hBo (by omega)).mono ?_
    rintro e w5 ⟨rfl, hb5⟩
    have hs5 := hs4.below (hb5.mono (by omega))
    have hel : (Xf.enc out).length ≤ 900 := by rw [Xf.enc_len]; omega
    have hB5 := enc_isB hBo
    have hz5 := hb5.size
    have hbw : Below w.heap.size w w5 := hb3.trans (hb4.trans (hb5.mono (by omega)))
    clear hs4 ho hb5 hb4 hb3 hb2 hb
    generalize Xf.enc out = t at *
    have hsz : (str t).size = t.length := str_size t
    have hcvt := fun wx => run_bytes_of_string (P := Tryd.prog) wx 9 22 5 (str t) Tryd.underlying9 Tryd.underlying22 Tryd.underlying5
    rw [hsz] at hcvt
    go_wp2_with fail
    have hcp := grownCap_ge w5 t.length 0 5
    clear hcvt
    generalize grownCap w5 t.length 0 5 = cp at *
    have hbW : Below w5.heap.size w5 (w5.alloc (.cells (bytesRow (str t) cp) 5 ((bytesRow (str t) cp).size, (bytesRow (str t) cp).size + 1))).drew := ((Below.refl _ _).alloc (Nat.le_refl _) _).drew
    have hcvW : Cv (w5.alloc (.cells (bytesRow (str t) cp) 5 ((bytesRow (str t) cp).size, (bytesRow (str t) cp).size + 1))).drew w5.heap.size t.length cp t := Cv.conv w5 t hB5 cp hcp
    refine (l1Bent_any w.heap.size w.heap.size _ w5.heap.size t.length cp t _ (hs5.below (hbW.mono (by omega))) (by omega) hcvW hB5 (by omega) hel).mono ?_
    rintro e w6 ⟨l', rfl, hB', hl', hb6⟩
    have hb7 : Below w.heap.size w w6 := hbw.trans ((hbW.mono (by omega)).trans hb6)
    clear hcvW hbW hs5
    go_wp2
    go_ret
    exact textEnd hB' (by omega) hb7

set_option maxHeartbeats 1600000 in
set_option maxRecDepth 100000 in
theorem drawDecodeQuoted_any (a : Option Addr) (n cap : Nat) (l : List Nat) (w : World) (hl : l.length = n) (hr : Rd w a l) (hB : IsB l) (hn : n ≤ 1048576) :
    Calls Tryd.prog 22 #[.slice a n cap] w fun e w' => TextEnd w.heap.size 1601 w e w' := by
  obtain ⟨i0, hi, hz0, hz1, hz2⟩ := info_parts infoB
  go_enter Tryd.func22, Tryd.ntmps22
  go_wp2_with fail
  refine (l1Source_any a n cap l _ hl hr hB hn).mono ?_
  rintro e w1 ⟨rfl, hs, hb⟩
  have hz := hb.size
  clear hl hr hB hn
  go_wp2_with fail
  refine (l1Chance_any w.heap.size w.heap.size 0 40 _ hs (by omega) (by omega) (by omega)).mono ?_
  rintro e w2 ⟨q, rfl, hs2, hg2⟩
  have hb2 : Below w.heap.size w w2 := hb.trans ((Below.refl _ _).grown hg2 hz (by intro k hk; simp at hk; omega))
  have hz2' := hg2.size
  clear hs hg2
  cases q with
  | true =>
    go_wp2_with (at_make; refine wpList_make_full _ rfl _ _ 22 rfl w.heap.size 5 i0 (.int .u8 0) 1 Tryd.underlying22 hi hz0 hz1 .i64 .i64 _ _ 1601 rfl rfl rfl rfl (by rw [hz2]; omega) (by unfold maxLen; omega) (by omega) ?_; intro w3 hown3 hgrow3)
    rw [made_bytes] at hown3
    have ho : Own w3 w.heap.size (.slice (some ⟨w2.heap.size, 0, none⟩) 1601 1601) (List.replicate 1601 0) := by unfold Own; rw [List.length_replicate]; exact hown3
    have hb3 : Below w.heap.size w w3 := hb2.grown hgrow3 (by omega) (by intro k hk; cases hk)
    have hzl : (List.replicate 1601 0).length = 1601 := List.length_replicate
    have hzB : IsB (List.replicate 1601 0) := fun z hz => by rw [List.mem_replicate] at hz; omega
    clear hown3 hs2 hgrow3 hi hz0 hz1 hz2
    generalize List.replicate 1601 0 = zs at *
    have hst := fun c' => run_str (cap := c') (n := 1601) hzl ho.rd.2
    clear ho
    go_wp2
    rw [hst]
    go_wp2
    go_ret
    exact textEnd hzB (by omega) hb3
  | false =>
    go_wp2_with fail
    refine (l1Next_any w.heap.size w.heap.size (0 + 1) 9 _ hs2 (by omega) (by omega) (by omega)).mono ?_
    rintro e w3 ⟨r, rfl, r0, r1, -, hs3, hg3⟩
    obtain ⟨y, rfl⟩ := Int.eq_ofNat_of_zero_le r0
    have hy : y < 9 := by have := r1 (by omega); omega
    have hb3 : Below w.heap.size w w3 := hb2.trans ((Below.refl _ _).grown hg3 (by omega) (by intro k hk; simp at hk; omega))
    clear hs2 hg3 r1
    go_wp2_with fail
    refine (l1Some_any w.heap.size w.heap.size (0 + 1 + 1) y _ hs3 (by omega) (by omega)).mono ?_
    rintro e w4 ⟨v, out, rfl, ho, hBo, hol, hs4, hb4⟩
    subst hol
    obtain ⟨a4, c4, rfl, -, -⟩ := ho.form
    have hbw4 : w.heap.size < w4.heap.size := hs4.2.1
    clear hs3
    go_wp2_with fail
    refine (l1Quoted_any a4 out.length c4 out _ rfl ho.rd.2 hBo (by omega)).mono ?_
    rintro e w5 ⟨rfl, hb5⟩
    have hs5 := hs4.below (hb5.mono (by omega))
    have hel : (Xq.quo out).length ≤ 900 := by have := Xq.quo_len_le out; omega
    have hB5 := quo_isB hBo
    have hz5 := hb5.size
    have hbw : Below w.heap.size w w5 := hb3.trans (hb4.trans (hb5.mono (by omega)))
    clear hs4 ho hb5 hb4 hb3 hb2 hb
    generalize Xq.quo out = t at *
    have hsz : (str t).size = t.length := str_size t
    have hcvt := fun wx => run_bytes_of_string (P := Tryd.prog) wx 9 22 5 (str t) Tryd.underlying9 Tryd.underlying22 Tryd.underlying5
    rw [hsz] at hcvt
    go_wp2_with fail
    have hcp := grownCap_ge w5 t.length 0 5
    clear hcvt
    generalize grownCap w5 t.length 0 5 = cp at *
    have hbW : Below w5.heap.size w5 (w5.alloc (.cells (bytesRow (str t) cp) 5 ((bytesRow (str t) cp).size, (bytesRow (str t) cp).size + 1))).drew := ((Below.refl _ _).alloc (Nat.le_refl _) _).drew
    have hcvW : Cv (w5.alloc (.cells (bytesRow (str t) cp) 5 ((bytesRow (str t) cp).size, (bytesRow (str t) cp).size + 1))).drew w5.heap.size t.length cp t := Cv.conv w5 t hB5 cp hcp
    refine (l1Bent_any w.heap.size w.heap.size _ w5.heap.size t.length cp t _ (hs5.below (hbW.mono (by omega))) (by omega) hcvW hB5 (by omega) hel).mono ?_
    rintro e w6 ⟨l', rfl, hB', hl', hb6⟩
    have hb7 : Below w.heap.size w w6 := hbw.trans ((hbW.mono (by omega)).trans hb6)
    clear hcvW hbW hs5
    go_wp2
    go_ret
    exact textEnd hB' (by omega) hb7
end Go.Proofs.YtdidjgpgpknknaaDoor
