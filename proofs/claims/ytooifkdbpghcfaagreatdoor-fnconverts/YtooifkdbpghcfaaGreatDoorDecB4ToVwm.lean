/- The model's l1Decode and DecodeBase at every text of at most 1048576 letters · The model's copy of bytes · What is seen of a part, the model's: l1Copy, l6Joined, l6Part, l6Bytes, PartBytes. -/
import Derived.Test.YtooifkdbpghcfaaGreatDoorEncB3ToDecB3
import Derived.Test.YtooifkdbpghcfaaGreatDoorMemToApp
import Derived.Test.YtooifkdbpghcfaaGreatDoorPwiToLfd
namespace Go.Proofs.YtooifkdbpghcfaaGreatDoor
open Go.RowKit

theorem toList_ne {a b : ByteArray} (h : a ≠ b) : (a.toList == b.toList) = false := by
  rw [beq_eq_false_iff_ne]
  intro e
  rw [ByteArray.toList_eq, ByteArray.toList_eq] at e
  exact h (Go.WideShapes.bytes_inj e)

theorem three_cells (wr : World) (A m b0 b1 b2 : Nat) (hm : m ≤ 3) (h0 : b0 = A / 65536) (h1 : b1 = A / 256 % 256) (h2 : b2 = A % 256) :
    ∀ j, j < m → (wr.alloc (.cells #[.int .u8 (b0 : Int), .int .u8 (b1 : Int), .int .u8 (b2 : Int)] 5)).cell? ((⟨wr.heap.size, 0, none⟩ : Addr).add j) = some (.int .u8 (nth (Xf.three A m) j : Int)) := by
  intro j hj
  have hc := new_cells (wr := wr) (cs := #[.int .u8 (b0 : Int), .int .u8 (b1 : Int), .int .u8 (b2 : Int)]) (new := [b0, b1, b2]) rfl 3 rfl j (by omega)
  rw [hc]
  have e : nth (Xf.three A m) j = nth [b0, b1, b2] j := by
    rw [nth_get (by rw [Xf.three_len A m hm]; exact hj), nth_get (show j < [b0, b1, b2].length by simp; omega)]
    simp only [Xf.three, List.getElem_take, h0, h1, h2]
  rw [e]

set_option maxHeartbeats 4000000 in
set_option maxRecDepth 100000 in
theorem l1Decode_any (t : List Nat) (n : Nat) (w : World) (hl : t.length = n) (hB : IsB t) (hn : n ≤ 1048576) :
    Calls Tryz.prog 119 #[.string (str t)] w fun e w' => BasEnd t w e w' := by
  have hsz : (str t).size = n := by rw [str_size, hl]
  by_cases hodd : n % 4 = 0
  · have e4 : (((n : Int) % 4) != 0) = false := by rw [bne_eq_false_iff_eq]; omega
    go_enter Tryz.func119, Tryz.ntmps119
    go_wp2
    have hown0 : Own (w.alloc (.cells #[] 5)) w.heap.size (.slice (some ⟨w.heap.size, 0, none⟩) 0 0) [] := Own.lit w _ (Nat.le_refl _) #[] [] rfl (by decide)
    have hbel0 : Below w.heap.size w (w.alloc (.cells #[] 5)) := (Below.refl _ _).alloc (Nat.le_refl _) _
    go_loopw [4, 5] (fun v i wr => ∃ (k j : Nat) (out : List Nat), 4 * k = j ∧ j ≤ n ∧ i = .int .i64 j ∧ Own wr w.heap.size v out ∧ Below w.heap.size w wr ∧ Hid (Xf.raw t = (Xf.raw (t.drop j)).map (out ++ ·)) ∧ out.length ≤ 3 * k ∧ IsB out)
      (fun _ i _ => n - (intOf i).toNat)
    case atStart => exact ⟨0, 0, [], rfl, by omega, rfl, hown0, hbel0, by show _ = _; rw [List.drop_zero]; cases Xf.raw t <;> simp, Nat.le_refl _, fun b hb => by simp at hb⟩
    case round =>
      obtain ⟨k, j, out, hkj, hj, rfl, hown, hbel, hq, hol, hBo⟩ := hrel
      clear hown0 hbel0
      have hz := hbel.size
      have hol2 : out.length ≤ 1048576 := by omega
      by_cases hjn : j < n
      · have hj4 : j + 4 ≤ n := by omega
        have HK : Hid (4 * (k + 1) = j + 4) := by show _ = _; omega
        have hd4 := Xf.drop_four t j (by omega)
        have gg : ∀ i, i < 4 → (h : j + i < (str t).size) → ((str t)[j + i]'h).toNat = nth [nth t j, nth t (j + 1), nth t (j + 2), nth t (j + 3)] i := fun i hi h => by
          rw [str_get hB h]
          match i, hi with
          | 0, _ => rfl
          | 1, _ => rfl
          | 2, _ => rfl
          | 3, _ => rfl
        have hBg : IsB [nth t j, nth t (j + 1), nth t (j + 2), nth t (j + 3)] := by
          intro b hb
          simp only [List.mem_cons, List.not_mem_nil, or_false] at hb
          rcases hb with rfl | rfl | rfl | rfl <;> exact nth_lt hB _
        generalize nth t j = x0 at *
        generalize nth t (j + 1) = x1 at *
        generalize nth t (j + 2) = x2 at *
        generalize nth t (j + 3) = x3 at *
        have hrg := raw_group hd4
        have hlast : (t.drop (j + 4)).isEmpty = decide (j + 4 = n) := by
          rw [Bool.eq_iff_iff, List.isEmpty_iff, List.drop_eq_nil_iff, decide_eq_true_eq]; omega
        obtain ⟨s2, s4, sU, sD⟩ := cntS_spec (t.drop (j + 4)).isEmpty x0 x1 x2 x3
        have hac := Xf.acc_four (Xf.cntS (t.drop (j + 4)).isEmpty x2 x3) x0 x1 x2 x3
        have hgood := Xf.good_iff (Xf.cntS (t.drop (j + 4)).isEmpty x2 x3) x0 x1 x2 x3
        have hbad := fun i => @Xf.good_bad (Xf.cntS (t.drop (j + 4)).isEmpty x2 x3) x0 x1 x2 x3 i
        generalize hc : Xf.cntS (t.drop (j + 4)).isEmpty x2 x3 = c at *
        rw [hlast] at sU sD
        generalize hg : [x0, x1, x2, x3] = g at *
        have j1 : (j : Int) < (n : Int) := by omega
        have HG : Hid (Xf.raw t = (if Xf.good c x0 x1 x2 x3 = false then none else (Xf.raw (t.drop (j + 4))).map (Xf.three (Xf.bitsOf c x0 x1 x2 x3) (c - 1) ++ ·)).map (out ++ ·)) := by
          show _ = _
          rw [hq.out, hrg]
        clear hrg hd4 hc hg hkj hlast hq
        go_wp2
        go_loop [6] (fun s => ∃ m : Nat, c ≤ m ∧ m ≤ 4 ∧ s = .int .i64 m) (fun s => (intOf s).toNat)
        case atStart => exact ⟨4, s4, by omega, rfl⟩
        case round =>
          obtain ⟨m, hcm, hm4, rfl⟩ := hrel
          have g1 := gg (m - 1) (by omega) (by rw [hsz]; omega)
          have hix : (j : Int) + (m : Int) - 1 = ((j + (m - 1) : Nat) : Int) := by omega
          have hix2 : ((j + (m - 1) : Nat) : Int) < (n : Int) := by omega
          by_cases hmc : c < m
          · obtain ⟨sl, s61⟩ := sU m hmc hm4
            have hl4 : ((j : Int) + 4 == (n : Int)) = true := beq_iff_eq.2 (by have := of_decide_eq_true sl; omega)
            have m2 : (2 : Int) < (m : Int) := by omega
            rw [s61] at g1
            clear sU sD hgood hbad hac gg sl s61
            go_wp2
            go_round
            case rel => exact ⟨m - 1, by omega, by omega, by go_num⟩
            case measure => simp [intOf]; omega
          · have hmc' : m = c := by omega
            subst hmc'
            rcases (show m ≤ 2 ∨ (2 < m ∧ ¬ j + 4 = n) ∨ (2 < m ∧ j + 4 = n) by omega) with hA | ⟨hA, hL⟩ | ⟨hA, hL⟩
            · have m2 : ¬ (2 : Int) < (m : Int) := by omega
              go_wp2
              go_loop [7, 8, 9] (fun v q d => ∃ q' : Nat, q' ≤ 4 ∧ q = .int .i64 q' ∧ v = .int .i64 (Xf.acc m g q' : Int) ∧ Hid (Xf.okTo m g q')) (fun _ q _ => 4 - (intOf q).toNat)
              case atStart => exact ⟨0, by omega, rfl, rfl, fun i hi => by omega⟩
              case round =>
                obtain ⟨q, hq4, rfl, rfl, hok⟩ := hrel
                by_cases hq : q < 4
                · have hqi : (q : Int) < 4 := by omega
                  have hlt := Xf.acc_lt3 hq hok.out
                  have hacc : Xf.acc m g (q + 1) = Xf.acc m g q * 64 + Xf.at_ m q (nth g q) := rfl
                  have hstep : Xf.at_ m q (nth g q) < 64 → Hid (Xf.okTo m g (q + 1)) := fun h i hi => by
                    rcases Nat.lt_or_ge i q with h' | h'
                    · exact hok.out i h'
                    · have : i = q := by omega
                      subst this; exact h
                  generalize Xf.acc m g q = A at *
                  by_cases hqc : q < m
                  · have hqc' : (q : Int) < (m : Int) := by omega
                    have hat : Xf.at_ m q (nth g q) = Xf.pos (nth g q) := by unfold Xf.at_; rw [if_pos hqc]
                    have g2 := gg q hq (by rw [hsz]; omega)
                    have hix3 : ((j : Int) + (q : Int)) < (n : Int) := by omega
                    by_cases hp : Xf.pos (nth g q) < 64
                    · have HP : Hid (posI (nth g q) = (Xf.pos (nth g q) : Int)) := posI_in hp
                      have hok' := hstep (by rw [hat]; exact hp)
                      rw [hat] at hacc
                      have HA : Hid (Xf.acc m g (q + 1) = A * 64 + Xf.pos (nth g q)) := hacc
                      have p1 : ¬ ((Xf.pos (nth g q) : Nat) : Int) < 0 := by omega
                      clear hacc hstep hat sU sD hgood hbad hac gg
                      go_wp2_with fail
                      refine (l1Digit_any (nth g q) _).mono ?_
                      rintro e w1 ⟨rfl, rfl⟩
                      rw [HP.out]
                      go_wp2
                      go_round
                      case rel => exact ⟨q + 1, by omega, by go_num, by rw [HA.out]; go_num, hok'⟩
                      case measure => simp [intOf]; omega
                    · have HP : Hid (posI (nth g q) = -1) := posI_out hp
                      have HD : Hid (Xf.dec t = none) := dec_of_raw_none (by rw [HG.out, if_pos (hbad q hq (by rw [hat]; exact hp))]; rfl)
                      clear hacc hstep hat sU sD hgood hbad hac gg
                      go_wp2_with fail
                      refine (l1Digit_any (nth g q) _).mono ?_
                      rintro e w1 ⟨rfl, rfl⟩
                      rw [HP.out]
                      go_wp2
                      go_ret2
                      exact decEnd_no (Own.nil _ _) hbel HD.out
                  · have hqc' : ¬ (q : Int) < (m : Int) := by omega
                    have hat : Xf.at_ m q (nth g q) = 0 := by unfold Xf.at_; rw [if_neg hqc]
                    have hok' := hstep (by rw [hat]; omega)
                    rw [hat, Nat.add_zero] at hacc
                    have HA : Hid (Xf.acc m g (q + 1) = A * 64) := hacc
                    clear hacc hstep hat sU sD hgood hbad hac gg
                    go_wp2
                    go_round
                    case rel => exact ⟨q + 1, by omega, by go_num, by rw [HA.out]; go_num, hok'⟩
                    case measure => simp [intOf]; omega
                · have hq4' : q = 4 := by omega
                  subst hq4'
                  have hlt := Xf.acc_lt4 (by omega) hok.out
                  have hg1 : Xf.good m x0 x1 x2 x3 = true := hgood.2 hok.out
                  rw [hac] at hlt ⊢
                  have HR := HG.out
                  rw [if_neg (by rw [hg1]; simp)] at HR
                  generalize Xf.bitsOf m x0 x1 x2 x3 = A at *
                  have HQ : Hid (Xf.raw t = (Xf.raw (t.drop (j + 4))).map ((out ++ Xf.three A (m - 1)) ++ ·)) := by
                    show _ = _
                    rw [HR]
                    cases Xf.raw (t.drop (j + 4)) <;> simp
                  have hBo' : IsB (out ++ Xf.three A (m - 1)) := fun b hb => by
                    rcases List.mem_append.1 hb with hb | hb
                    · exact hBo b hb
                    · exact three_isB hlt b hb
                  obtain ⟨b0, h0⟩ : ∃ b, b = A / 65536 := ⟨_, rfl⟩
                  obtain ⟨b1, h1⟩ : ∃ b, b = A / 256 % 256 := ⟨_, rfl⟩
                  obtain ⟨b2, h2⟩ : ∃ b, b = A % 256 := ⟨_, rfl⟩
                  have hcells := three_cells wr A (m - 1) b0 b1 b2 (by omega) h0 h1 h2
                  have HC : Hid (_) := hcells
                  have u0 : (A : Int) / 65536 = (b0 : Int) := by omega
                  have u1 : (A : Int) / 256 % 256 = (b1 : Int) := by omega
                  have u2 : (A : Int) % 256 = (b2 : Int) := by omega
                  have v0 : b0 < 256 := by omega
                  have v1 : b1 < 256 := by omega
                  have v2 : b2 < 256 := by omega
                  have cm1 : (m : Int) - 1 = ((m - 1 : Nat) : Int) := by omega
                  have cm2 : ((m - 1 : Nat) : Int) ≤ 3 := by omega
                  have cm3 : m - 1 ≤ 3 := by omega
                  have tl : Hid ((Xf.three A (m - 1)).length = m - 1) := Xf.three_len A _ cm3
                  have hq44 : ¬ ((4 : Nat) : Int) < 4 := by omega
                  clear hcells h0 h1 h2 HR hg1 hac hgood hbad sU sD gg hok
                  go_wp2_with (at_builtin; refine wpList_app rfl _ _ rfl w.heap.size _ out rfl (hown.alloc _) ⟨wr.heap.size, 0, none⟩ (m - 1) 3 (Xf.three A (m - 1)) rfl tl.out HC.out (by omega) (by simp; omega) ?_; intro v' w2 hown' hb')
                  go_wp2
                  go_roundw
                  case rel => exact ⟨k + 1, j + 4, out ++ Xf.three A (m - 1), HK.out, by omega, by go_num, hown', hbel.trans (((Below.refl _ _).alloc hz _).trans hb'), HQ, by rw [List.length_append, tl.out]; omega, hBo'⟩
                  case measure => simp [intOf]; omega
            · have m2 : (2 : Int) < (m : Int) := by omega
              have hl4 : ((j : Int) + 4 == (n : Int)) = false := beq_eq_false_iff_ne.2 (by omega)
              go_wp2
              go_loop [7, 8, 9] (fun v q d => ∃ q' : Nat, q' ≤ 4 ∧ q = .int .i64 q' ∧ v = .int .i64 (Xf.acc m g q' : Int) ∧ Hid (Xf.okTo m g q')) (fun _ q _ => 4 - (intOf q).toNat)
              case atStart => exact ⟨0, by omega, rfl, rfl, fun i hi => by omega⟩
              case round =>
                obtain ⟨q, hq4, rfl, rfl, hok⟩ := hrel
                by_cases hq : q < 4
                · have hqi : (q : Int) < 4 := by omega
                  have hlt := Xf.acc_lt3 hq hok.out
                  have hacc : Xf.acc m g (q + 1) = Xf.acc m g q * 64 + Xf.at_ m q (nth g q) := rfl
                  have hstep : Xf.at_ m q (nth g q) < 64 → Hid (Xf.okTo m g (q + 1)) := fun h i hi => by
                    rcases Nat.lt_or_ge i q with h' | h'
                    · exact hok.out i h'
                    · have : i = q := by omega
                      subst this; exact h
                  generalize Xf.acc m g q = A at *
                  by_cases hqc : q < m
                  · have hqc' : (q : Int) < (m : Int) := by omega
                    have hat : Xf.at_ m q (nth g q) = Xf.pos (nth g q) := by unfold Xf.at_; rw [if_pos hqc]
                    have g2 := gg q hq (by rw [hsz]; omega)
                    have hix3 : ((j : Int) + (q : Int)) < (n : Int) := by omega
                    by_cases hp : Xf.pos (nth g q) < 64
                    · have HP : Hid (posI (nth g q) = (Xf.pos (nth g q) : Int)) := posI_in hp
                      have hok' := hstep (by rw [hat]; exact hp)
                      rw [hat] at hacc
                      have HA : Hid (Xf.acc m g (q + 1) = A * 64 + Xf.pos (nth g q)) := hacc
                      have p1 : ¬ ((Xf.pos (nth g q) : Nat) : Int) < 0 := by omega
                      clear hacc hstep hat sU sD hgood hbad hac gg
                      go_wp2_with fail
                      refine (l1Digit_any (nth g q) _).mono ?_
                      rintro e w1 ⟨rfl, rfl⟩
                      rw [HP.out]
                      go_wp2
                      go_round
                      case rel => exact ⟨q + 1, by omega, by go_num, by rw [HA.out]; go_num, hok'⟩
                      case measure => simp [intOf]; omega
                    · have HP : Hid (posI (nth g q) = -1) := posI_out hp
                      have HD : Hid (Xf.dec t = none) := dec_of_raw_none (by rw [HG.out, if_pos (hbad q hq (by rw [hat]; exact hp))]; rfl)
                      clear hacc hstep hat sU sD hgood hbad hac gg
                      go_wp2_with fail
                      refine (l1Digit_any (nth g q) _).mono ?_
                      rintro e w1 ⟨rfl, rfl⟩
                      rw [HP.out]
                      go_wp2
                      go_ret2
                      exact decEnd_no (Own.nil _ _) hbel HD.out
                  · have hqc' : ¬ (q : Int) < (m : Int) := by omega
                    have hat : Xf.at_ m q (nth g q) = 0 := by unfold Xf.at_; rw [if_neg hqc]
                    have hok' := hstep (by rw [hat]; omega)
                    rw [hat, Nat.add_zero] at hacc
                    have HA : Hid (Xf.acc m g (q + 1) = A * 64) := hacc
                    clear hacc hstep hat sU sD hgood hbad hac gg
                    go_wp2
                    go_round
                    case rel => exact ⟨q + 1, by omega, by go_num, by rw [HA.out]; go_num, hok'⟩
                    case measure => simp [intOf]; omega
                · have hq4' : q = 4 := by omega
                  subst hq4'
                  have hlt := Xf.acc_lt4 (by omega) hok.out
                  have hg1 : Xf.good m x0 x1 x2 x3 = true := hgood.2 hok.out
                  rw [hac] at hlt ⊢
                  have HR := HG.out
                  rw [if_neg (by rw [hg1]; simp)] at HR
                  generalize Xf.bitsOf m x0 x1 x2 x3 = A at *
                  have HQ : Hid (Xf.raw t = (Xf.raw (t.drop (j + 4))).map ((out ++ Xf.three A (m - 1)) ++ ·)) := by
                    show _ = _
                    rw [HR]
                    cases Xf.raw (t.drop (j + 4)) <;> simp
                  have hBo' : IsB (out ++ Xf.three A (m - 1)) := fun b hb => by
                    rcases List.mem_append.1 hb with hb | hb
                    · exact hBo b hb
                    · exact three_isB hlt b hb
                  obtain ⟨b0, h0⟩ : ∃ b, b = A / 65536 := ⟨_, rfl⟩
                  obtain ⟨b1, h1⟩ : ∃ b, b = A / 256 % 256 := ⟨_, rfl⟩
                  obtain ⟨b2, h2⟩ : ∃ b, b = A % 256 := ⟨_, rfl⟩
                  have hcells := three_cells wr A (m - 1) b0 b1 b2 (by omega) h0 h1 h2
                  have HC : Hid (_) := hcells
                  have u0 : (A : Int) / 65536 = (b0 : Int) := by omega
                  have u1 : (A : Int) / 256 % 256 = (b1 : Int) := by omega
                  have u2 : (A : Int) % 256 = (b2 : Int) := by omega
                  have v0 : b0 < 256 := by omega
                  have v1 : b1 < 256 := by omega
                  have v2 : b2 < 256 := by omega
                  have cm1 : (m : Int) - 1 = ((m - 1 : Nat) : Int) := by omega
                  have cm2 : ((m - 1 : Nat) : Int) ≤ 3 := by omega
                  have cm3 : m - 1 ≤ 3 := by omega
                  have tl : Hid ((Xf.three A (m - 1)).length = m - 1) := Xf.three_len A _ cm3
                  have hq44 : ¬ ((4 : Nat) : Int) < 4 := by omega
                  clear hcells h0 h1 h2 HR hg1 hac hgood hbad sU sD gg hok
                  go_wp2_with (at_builtin; refine wpList_app rfl _ _ rfl w.heap.size _ out rfl (hown.alloc _) ⟨wr.heap.size, 0, none⟩ (m - 1) 3 (Xf.three A (m - 1)) rfl tl.out HC.out (by omega) (by simp; omega) ?_; intro v' w2 hown' hb')
                  go_wp2
                  go_roundw
                  case rel => exact ⟨k + 1, j + 4, out ++ Xf.three A (m - 1), HK.out, by omega, by go_num, hown', hbel.trans (((Below.refl _ _).alloc hz _).trans hb'), HQ, by rw [List.length_append, tl.out]; omega, hBo'⟩
                  case measure => simp [intOf]; omega
            · have m2 : (2 : Int) < (m : Int) := by omega
              have hl4 : ((j : Int) + 4 == (n : Int)) = true := beq_iff_eq.2 (by omega)
              have n61 := sD hA (decide_eq_true hL)
              have e61 : (((nth g (m - 1) : Nat) : Int) == 61) = false := beq_eq_false_iff_ne.2 (by omega)
              go_wp2
              go_loop [7, 8, 9] (fun v q d => ∃ q' : Nat, q' ≤ 4 ∧ q = .int .i64 q' ∧ v = .int .i64 (Xf.acc m g q' : Int) ∧ Hid (Xf.okTo m g q')) (fun _ q _ => 4 - (intOf q).toNat)
              case atStart => exact ⟨0, by omega, rfl, rfl, fun i hi => by omega⟩
              case round =>
                obtain ⟨q, hq4, rfl, rfl, hok⟩ := hrel
                by_cases hq : q < 4
                · have hqi : (q : Int) < 4 := by omega
                  have hlt := Xf.acc_lt3 hq hok.out
                  have hacc : Xf.acc m g (q + 1) = Xf.acc m g q * 64 + Xf.at_ m q (nth g q) := rfl
                  have hstep : Xf.at_ m q (nth g q) < 64 → Hid (Xf.okTo m g (q + 1)) := fun h i hi => by
                    rcases Nat.lt_or_ge i q with h' | h'
                    · exact hok.out i h'
                    · have : i = q := by omega
                      subst this; exact h
                  generalize Xf.acc m g q = A at *
                  by_cases hqc : q < m
                  · have hqc' : (q : Int) < (m : Int) := by omega
                    have hat : Xf.at_ m q (nth g q) = Xf.pos (nth g q) := by unfold Xf.at_; rw [if_pos hqc]
                    have g2 := gg q hq (by rw [hsz]; omega)
                    have hix3 : ((j : Int) + (q : Int)) < (n : Int) := by omega
                    by_cases hp : Xf.pos (nth g q) < 64
                    · have HP : Hid (posI (nth g q) = (Xf.pos (nth g q) : Int)) := posI_in hp
                      have hok' := hstep (by rw [hat]; exact hp)
                      rw [hat] at hacc
                      have HA : Hid (Xf.acc m g (q + 1) = A * 64 + Xf.pos (nth g q)) := hacc
                      have p1 : ¬ ((Xf.pos (nth g q) : Nat) : Int) < 0 := by omega
                      clear hacc hstep hat sU sD hgood hbad hac gg
                      go_wp2_with fail
                      refine (l1Digit_any (nth g q) _).mono ?_
                      rintro e w1 ⟨rfl, rfl⟩
                      rw [HP.out]
                      go_wp2
                      go_round
                      case rel => exact ⟨q + 1, by omega, by go_num, by rw [HA.out]; go_num, hok'⟩
                      case measure => simp [intOf]; omega
                    · have HP : Hid (posI (nth g q) = -1) := posI_out hp
                      have HD : Hid (Xf.dec t = none) := dec_of_raw_none (by rw [HG.out, if_pos (hbad q hq (by rw [hat]; exact hp))]; rfl)
                      clear hacc hstep hat sU sD hgood hbad hac gg
                      go_wp2_with fail
                      refine (l1Digit_any (nth g q) _).mono ?_
                      rintro e w1 ⟨rfl, rfl⟩
                      rw [HP.out]
                      go_wp2
                      go_ret2
                      exact decEnd_no (Own.nil _ _) hbel HD.out
                  · have hqc' : ¬ (q : Int) < (m : Int) := by omega
                    have hat : Xf.at_ m q (nth g q) = 0 := by unfold Xf.at_; rw [if_neg hqc]
                    have hok' := hstep (by rw [hat]; omega)
                    rw [hat, Nat.add_zero] at hacc
                    have HA : Hid (Xf.acc m g (q + 1) = A * 64) := hacc
                    clear hacc hstep hat sU sD hgood hbad hac gg
                    go_wp2
                    go_round
                    case rel => exact ⟨q + 1, by omega, by go_num, by rw [HA.out]; go_num, hok'⟩
                    case measure => simp [intOf]; omega
                · have hq4' : q = 4 := by omega
                  subst hq4'
                  have hlt := Xf.acc_lt4 (by omega) hok.out
                  have hg1 : Xf.good m x0 x1 x2 x3 = true := hgood.2 hok.out
                  rw [hac] at hlt ⊢
                  have HR := HG.out
                  rw [if_neg (by rw [hg1]; simp)] at HR
                  generalize Xf.bitsOf m x0 x1 x2 x3 = A at *
                  have HQ : Hid (Xf.raw t = (Xf.raw (t.drop (j + 4))).map ((out ++ Xf.three A (m - 1)) ++ ·)) := by
                    show _ = _
                    rw [HR]
                    cases Xf.raw (t.drop (j + 4)) <;> simp
                  have hBo' : IsB (out ++ Xf.three A (m - 1)) := fun b hb => by
                    rcases List.mem_append.1 hb with hb | hb
                    · exact hBo b hb
                    · exact three_isB hlt b hb
                  obtain ⟨b0, h0⟩ : ∃ b, b = A / 65536 := ⟨_, rfl⟩
                  obtain ⟨b1, h1⟩ : ∃ b, b = A / 256 % 256 := ⟨_, rfl⟩
                  obtain ⟨b2, h2⟩ : ∃ b, b = A % 256 := ⟨_, rfl⟩
                  have hcells := three_cells wr A (m - 1) b0 b1 b2 (by omega) h0 h1 h2
                  have HC : Hid (_) := hcells
                  have u0 : (A : Int) / 65536 = (b0 : Int) := by omega
                  have u1 : (A : Int) / 256 % 256 = (b1 : Int) := by omega
                  have u2 : (A : Int) % 256 = (b2 : Int) := by omega
                  have v0 : b0 < 256 := by omega
                  have v1 : b1 < 256 := by omega
                  have v2 : b2 < 256 := by omega
                  have cm1 : (m : Int) - 1 = ((m - 1 : Nat) : Int) := by omega
                  have cm2 : ((m - 1 : Nat) : Int) ≤ 3 := by omega
                  have cm3 : m - 1 ≤ 3 := by omega
                  have tl : Hid ((Xf.three A (m - 1)).length = m - 1) := Xf.three_len A _ cm3
                  have hq44 : ¬ ((4 : Nat) : Int) < 4 := by omega
                  clear hcells h0 h1 h2 HR hg1 hac hgood hbad sU sD gg hok
                  go_wp2_with (at_builtin; refine wpList_app rfl _ _ rfl w.heap.size _ out rfl (hown.alloc _) ⟨wr.heap.size, 0, none⟩ (m - 1) 3 (Xf.three A (m - 1)) rfl tl.out HC.out (by omega) (by simp; omega) ?_; intro v' w2 hown' hb')
                  go_wp2
                  go_roundw
                  case rel => exact ⟨k + 1, j + 4, out ++ Xf.three A (m - 1), HK.out, by omega, by go_num, hown', hbel.trans (((Below.refl _ _).alloc hz _).trans hb'), HQ, by rw [List.length_append, tl.out]; omega, hBo'⟩
                  case measure => simp [intOf]; omega
      · have hu : Xf.raw t = some out := by rw [hq.out, List.drop_of_length_le (by omega)]; simp [Xf.raw]
        have hjn' : ¬ (j : Int) < (n : Int) := by omega
        obtain ⟨ao, ocap, rfl, hoc⟩ := hown.form
        have hrd := (Own.rd hown).2
        have hde := dec_of_raw hu hBo
        clear hkj hq hu
        by_cases he : Xf.enc out = t
        · have HD : Hid (Xf.dec t = some out) := by show _ = _; rw [hde, if_pos he]
          clear hde
          go_wp2_with fail
          refine (l1Encode_any ao out.length ocap out _ rfl hrd hBo (by omega)).mono ?_
          rintro e w1 ⟨rfl, hb1⟩
          rw [he]
          go_wp2
          go_ret2
          exact decEnd_yes (hown.below hb1 (Nat.le_refl _)) (hbel.trans (hb1.mono hz)) HD.out
        · have HD : Hid (Xf.dec t = none) := by show _ = _; rw [hde, if_neg he]
          clear hde
          go_wp2_with fail
          refine (l1Encode_any ao out.length ocap out _ rfl hrd hBo (by omega)).mono ?_
          rintro e w1 ⟨rfl, hb1⟩
          have hne : str (Xf.enc out) ≠ str t := fun h => he (str_injB (fun b hb => by have := Xf.enc_plain out hBo b hb; omega) hB h)
          have heq : ((str (Xf.enc out)).toList == (str t).toList) = false := toList_ne hne
          generalize str (Xf.enc out) = S1 at *
          generalize str t = S2 at *
          clear hne
          go_wp2
          go_ret2
          exact decEnd_no (hown.below hb1 (Nat.le_refl _)) (hbel.trans (hb1.mono hz)) HD.out
  · have e4 : (((n : Int) % 4) != 0) = true := by rw [bne_iff_ne]; omega
    have H : Hid (Xf.dec t = none) := Xf.dec_odd t (by omega)
    go_enter Tryz.func119, Tryz.ntmps119
    go_wp2
    go_ret2
    exact decEnd_no (Own.nil _ _) (by go_grown) H.out

set_option maxHeartbeats 1600000 in
set_option maxRecDepth 100000 in
theorem specDecodeBase_any (t : List Nat) (n : Nat) (w : World) (hl : t.length = n) (hB : IsB t) :
    Calls Tryz.prog 87 #[.string (str t)] w fun e w' => ∃ v, e = .returned (.agg #[.int .i64 (decB t).1, v]) ∧ Own w' w.heap.size v (decB t).2 ∧ Below w.heap.size w w' := by
  have hsz : (str t).size = n := by rw [str_size, hl]
  by_cases hbig : 1600 < n
  · have H : Hid (decB t = (2, [])) := decB_long (by omega)
    have hn' : (1600 : Int) < (n : Int) := by omega
    go_enter Tryz.func87, Tryz.ntmps87
    go_wp2
    go_returns
    exact ⟨.slice none 0 0, by rw [H.out], by rw [H.out]; exact Own.nil _ _, by go_grown⟩
  · have hn' : ¬ (1600 : Int) < (n : Int) := by omega
    have hb0 : Below w.heap.size w (w.alloc (.cells #[.int .i64 0, .slice none 0 0] 27)) := (Below.refl _ _).alloc (Nat.le_refl _) _
    go_enter Tryz.func87, Tryz.ntmps87
    go_wp2_with fail
    refine (l1Decode_any t n _ hl hB (by omega)).mono ?_
    rintro e w1 ⟨v, ok, l, rfl, hown, hb1, hsay⟩
    have hbl : Below (w.heap.size + 1) (w.alloc (.cells #[.int .i64 0, .slice none 0 0] 27)) w1 := hb1.mono (by simp)
    have hown' : Own w1 (w.heap.size + 1) v l := hown.low (by simp)
    obtain ⟨hcw, hcw1, hfw, hfw1⟩ := res_block rfl hbl
    have hbel : Below w.heap.size w w1 := hb0.trans (hbl.mono (by omega))
    clear hown hb1
    rcases hsay with ⟨rfl, hu⟩ | ⟨rfl, hu⟩
    · obtain ⟨ao, ocap, hv, hoc⟩ := hown'.form
      rw [hv] at hown' ⊢
      clear hv
      generalize hN : l.length = N at *
      by_cases h4 : 400 < N
      · have h4' : (400 : Int) < (N : Int) := by omega
        have H : Hid (decB t = (2, [])) := decB_many (by omega) hu (by omega)
        obtain ⟨hk0, hk1⟩ := res_cells hcw hcw1 (.int .i64 2) (.slice none 0 0)
        clear hu hN
        go_wp2
        refine bodyPost_ret (v := .agg #[.int .i64 2, .slice none 0 0]) (by simp [results, Tryz.results87, go_sem, hk0, hk1]) rfl ?_
        exact ⟨.slice none 0 0, by rw [H.out], by rw [H.out]; exact Own.nil _ _, (hbel.setCell (by simp) _).setCell (by simp) _⟩
      · have h4' : ¬ (400 : Int) < (N : Int) := by omega
        have H : Hid (decB t = (0, l)) := decB_some (by omega) hu (by omega)
        obtain ⟨hk0, hk1⟩ := res_cells hcw hcw1 (.int .i64 0) (.slice ao N ocap)
        clear hu hN
        go_wp2
        refine bodyPost_ret (v := .agg #[.int .i64 0, .slice ao N ocap]) (by simp [results, Tryz.results87, go_sem, hk0, hk1]) rfl ?_
        exact ⟨.slice ao N ocap, by rw [H.out], by rw [H.out]; exact ((hown'.set _ (by simp) _).set _ (by simp) _).low (by omega), (hbel.setCell (by simp) _).setCell (by simp) _⟩
    · have H : Hid (decB t = (7, [])) := decB_none (by omega) hu
      obtain ⟨hk0, hk1⟩ := res_cells hcw hcw1 (.int .i64 7) (.slice none 0 0)
      clear hu
      go_wp2
      refine bodyPost_ret (v := .agg #[.int .i64 7, .slice none 0 0]) (by simp [results, Tryz.results87, go_sem, hk0, hk1]) rfl ?_
      exact ⟨.slice none 0 0, by rw [H.out], by rw [H.out]; exact Own.nil _ _, (hbel.setCell (by simp) _).setCell (by simp) _⟩

end Go.Proofs.YtooifkdbpghcfaaGreatDoor

namespace Go.Proofs.YtooifkdbpghcfaaGreatDoor
open Go.RowKit

set_option maxHeartbeats 800000 in
set_option maxRecDepth 100000 in
theorem l1Copy_any (b off n cap : Nat) (l : List Nat) (w : World) (hl : l.length = n) (hr : Rd w (some ⟨b, off, none⟩) l) (hn : n ≤ 1048576) :
    Calls Tryz.prog 32 #[.slice (some ⟨b, off, none⟩) n cap] w fun e w' => ∃ v, e = .returned v ∧ Own w' w.heap.size v l ∧ Below w.heap.size w w' := by
  have HC : Hid (∀ j, j < n → (w.alloc (.cells #[] 5)).cell? ((⟨b, off, none⟩ : Addr).add j) = some (.int .u8 (nth l j : Int))) := fun j hj => by
    obtain ⟨b', off', e, -, hc⟩ := (hr.below ((Below.refl _ w).alloc (Nat.le_refl _) (.cells #[] 5))).at_ (by omega)
    cases e
    rw [Go.WideShapes.add_plain]
    exact hc j (by omega)
  go_enter Tryz.func32, Tryz.ntmps32
  go_wp2_with (at_builtin; refine wpList_app rfl _ _ rfl w.heap.size _ [] rfl (Own.lit w w.heap.size (Nat.le_refl _) #[] [] rfl (Nat.zero_le _)) ⟨b, off, none⟩ n cap l rfl hl HC.out (by simp; omega) (by simp) ?_; intro v' w1 hown' hb')
  have hb : Below w.heap.size w w1 := ((Below.refl _ _).alloc (Nat.le_refl _) _).trans hb'
  obtain ⟨a, cp, hv, -, -⟩ := hown'.form
  subst hv
  go_wp2
  go_ret
  exact ⟨_, rfl, hown', hb⟩
end Go.Proofs.YtooifkdbpghcfaaGreatDoor

namespace Go.Proofs.YtooifkdbpghcfaaGreatDoor
open Go.RowKit

theorem repL_snoc (l : List Nat) (k : Nat) (h : k < l.length) : repL (l.take (k + 1)) = repL (l.take k) ++ (if nth l k = 10 then [] else [nth l k]) := by
  rw [take_snoc l k h, repL_app, repL_cons]
  simp [repL]

set_option maxHeartbeats 1600000 in
set_option maxRecDepth 100000 in
theorem l6Joined_any (a : Option Addr) (n cap : Nat) (l : List Nat) (w : World) (hl : l.length = n) (hr : Rd w a l) (hB : IsB l) (hn : n ≤ 1048576) :
    Calls Tryz.prog 88 #[.slice a n cap] w fun e w' => e = .returned (.string (str (repL l))) ∧ Below w.heap.size w w' := by
  have hown0 : Own (w.alloc (.cells #[] 5)) w.heap.size (.slice (some ⟨w.heap.size, 0, none⟩) 0 0) [] := Own.lit w _ (Nat.le_refl _) #[] [] rfl (by decide)
  go_enter Tryz.func88, Tryz.ntmps88
  go_wp2
  go_loopw [3, 4] (fun v i wr => ∃ k : Nat, k ≤ n ∧ i = .int .i64 k ∧ Own wr w.heap.size v (repL (l.take k)) ∧ Below w.heap.size w wr) (fun _ i _ => n - (intOf i).toNat)
  case atStart => exact ⟨0, Nat.zero_le _, rfl, hown0, (Below.refl _ _).alloc (Nat.le_refl _) _⟩
  case round =>
    obtain ⟨k, hk, rfl, hown, hbel⟩ := hrel
    clear hown0
    obtain ⟨av, cv, hv, -, -⟩ := hown.form
    have hol : (repL (l.take k)).length ≤ 1048576 := by have := repL_len (l.take k); rw [List.length_take] at this; omega
    by_cases hkn : k < n
    · obtain ⟨b, off, rfl, hblt, hcell⟩ := hr.at_ (by omega)
      have hc : wr.cell? ⟨b, off + k, none⟩ = some (.int .u8 (nth l k : Int)) := (hbel.cell (p := ⟨b, off + k, none⟩) hblt).trans (hcell k (by omega))
      have hki : (k : Int) < (n : Int) := by omega
      have HS : Hid (repL (l.take (k + 1)) = repL (l.take k) ++ (if nth l k = 10 then [] else [nth l k])) := repL_snoc l k (by omega)
      have hx : nth l k < 256 := nth_lt hB k
      clear hcell
      generalize nth l k = x at *
      generalize repL (l.take k) = out at *
      by_cases h10 : x = 10
      · have HS2 : Hid (repL (l.take (k + 1)) = out) := by show _ = _; rw [HS.out, if_pos h10, List.append_nil]
        have hxi : (x : Int) = 10 := by omega
        rw [hxi] at hc
        clear HS
        subst hv
        go_wp2
        go_roundw
        case rel => exact ⟨k + 1, by omega, by go_num, by rw [HS2.out]; exact hown, hbel⟩
        case measure => simp [intOf]; omega
      · have HS2 : Hid (repL (l.take (k + 1)) = out ++ [x]) := by show _ = _; rw [HS.out, if_neg h10]
        have hxi : ((x : Int) != 10) = true := by simp; omega
        clear HS
        have hz := hbel.size
        go_wp2_with (at_builtin; refine wpList_app_new rfl _ _ rfl w.heap.size _ out rfl hown 1 1 [x] rfl rfl rfl (by omega) hz ?_; intro v' w1 hown' hb')
        have hb2 := hbel.trans hb'
        go_roundw
        case rel => exact ⟨k + 1, by omega, by go_num, by rw [HS2.out]; exact hown', hb2⟩
        case measure => simp [intOf]; omega
    · have hke : l.take k = l := List.take_of_length_le (by omega)
      rw [hke] at hown hv
      have hki : ¬ (k : Int) < (n : Int) := by omega
      subst hv
      have hst := fun c => run_str (cap := c) hown.rd.1 hown.rd.2
      go_wp2
      go_ret
      exact ⟨rfl, hbel⟩
end Go.Proofs.YtooifkdbpghcfaaGreatDoor
