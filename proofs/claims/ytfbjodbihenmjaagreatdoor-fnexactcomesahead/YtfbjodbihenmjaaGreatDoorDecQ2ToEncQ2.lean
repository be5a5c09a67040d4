/- DecodeQuoted, the program's, at every text: the bytes of its quoted text, or a code; texts of whatever length · The program's EncodeQuoted: of at most 400 bytes it answers their quoted text, of more the code 2. -/
import Derived.Test.YtfbjodbihenmjaaGreatDoorDecQToEncB2
import Derived.Test.YtfbjodbihenmjaaGreatDoorBytToEncQ
import Derived.Deep.RegionHeld3
import Derived.WalkLawsBesides
namespace Go.Proofs.YtfbjodbihenmjaaGreatDoor
open Go.RowKit

/-- What DecodeQuoted answers: a code and bytes. -/
def decQ (t : List Nat) : Int × List Nat :=
  if 1600 < t.length then (2, []) else match Xq.unq t with
    | none => (7, [])
    | some b => if 400 < b.length then (2, []) else (0, b)
theorem decQ_long {t : List Nat} (h : 1600 < t.length) : decQ t = (2, []) := by unfold decQ; rw [if_pos h]
theorem decQ_none {t : List Nat} (h : ¬ 1600 < t.length) (hn : Xq.unq t = none) : decQ t = (7, []) := by unfold decQ; rw [if_neg h, hn]
theorem decQ_many {t b : List Nat} (h : ¬ 1600 < t.length) (hn : Xq.unq t = some b) (hb : 400 < b.length) : decQ t = (2, []) := by unfold decQ; rw [if_neg h, hn]; simp only; rw [if_pos hb]
theorem decQ_some {t b : List Nat} (h : ¬ 1600 < t.length) (hn : Xq.unq t = some b) (hb : ¬ 400 < b.length) : decQ t = (0, b) := by unfold decQ; rw [if_neg h, hn]; simp only; rw [if_neg hb]

theorem Own.low {w : World} {B C : Nat} {v : Value} {l : List Nat} (h : Own w B v l) (hC : C ≤ B) : Own w C v l := by
  refine ⟨h.1, ?_⟩
  rcases h.2 with h' | ⟨g, cap, cur, h1, h2, h3⟩
  · exact .inl h'
  · exact .inr ⟨g, cap, cur, h1, Nat.le_trans hC h2, h3⟩
theorem Own.set {w : World} {B : Nat} {v : Value} {l : List Nat} (h : Own w B v l) (p : Addr) (hp : p.block < B) (u : Value) : Own (w.setCell p u) B v l := ownsRow_setCell_below h hp u

/-- What becomes of what is still to be read. -/
theorem map_app {o : Option (List Nat)} {a b : List Nat} : (o.map (b ++ ·)).map (a ++ ·) = o.map ((a ++ b) ++ ·) := by cases o <;> simp

set_option maxHeartbeats 3200000 in
set_option maxRecDepth 100000 in
theorem implDecodeQuoted_any (t : List Nat) (n : Nat) (w : World) (hl : t.length = n) (hB : IsB t) (ht : TabH w) :
    Calls Tryz.prog 150 #[.string (str t)] w fun e w' => ∃ v, e = .returned (.agg #[.int .i64 (decQ t).1, v]) ∧ Own w' w.heap.size v (decQ t).2 ∧ Below w.heap.size w w' := by
  have hsz : (str t).size = n := by rw [str_size, hl]
  by_cases hbig : 1600 < n
  · have H : Hid (decQ t = (2, [])) := decQ_long (by omega)
    have hn' : (1600 : Int) < (n : Int) := by omega
    go_enter Tryz.func150, Tryz.ntmps150
    go_wp2
    go_returns
    exact ⟨.slice none 0 0, by rw [H.out], by rw [H.out]; exact Own.nil _ _, by go_grown⟩
  · have hn' : ¬ (1600 : Int) < (n : Int) := by omega
    have hcv := fun wx => run_bytes_of_string (P := Tryz.prog) wx 9 22 5 (str t) Tryz.underlying9 Tryz.underlying22 Tryz.underlying5
    rw [hsz] at hcv
    go_enter Tryz.func150, Tryz.ntmps150
    go_wp2
    have hcap := grownCap_ge (w.alloc (Obj.cells #[Value.int IntKind.i64 0, Value.slice none 0 0] 145)) n 0 5
    clear hcv
    generalize grownCap (w.alloc (Obj.cells #[Value.int IntKind.i64 0, Value.slice none 0 0] 145)) n 0 5 = cp at *
    have hb1 : Below w.heap.size w (w.alloc (.cells #[.int .i64 0, .slice none 0 0] 145)) := (Below.refl _ _).alloc (Nat.le_refl _) _
    have hW1s : (w.alloc (.cells #[.int .i64 0, .slice none 0 0] 145)).heap.size = w.heap.size + 1 := by simp
    generalize hW1 : w.alloc (.cells #[.int .i64 0, .slice none 0 0] 145) = W1 at *
    have hb2 : Below (w.heap.size + 1) W1 (W1.alloc (.cells (bytesRow (str t) cp) 5 ((bytesRow (str t) cp).size, (bytesRow (str t) cp).size + 1))).drew := ((Below.refl _ _).alloc (by omega) _).drew
    have hr0 : Rd (W1.alloc (.cells (bytesRow (str t) cp) 5 ((bytesRow (str t) cp).size, (bytesRow (str t) cp).size + 1))).drew (some ⟨w.heap.size + 1, 0, none⟩) t := by
      have := bytesRow_rd W1 t hB cp ((bytesRow (str t) cp).size, (bytesRow (str t) cp).size + 1)
      rw [hW1s] at this
      exact this
    have hWs : (W1.alloc (.cells (bytesRow (str t) cp) 5 ((bytesRow (str t) cp).size, (bytesRow (str t) cp).size + 1))).drew.heap.size = w.heap.size + 2 := by simp; omega
    generalize (W1.alloc (.cells (bytesRow (str t) cp) 5 ((bytesRow (str t) cp).size, (bytesRow (str t) cp).size + 1))).drew = W at *
    have hb0 : Below w.heap.size w W := hb1.trans (hb2.mono (by omega))
    have ht0 : TabH W := ht.below hb0
    have hGl := ht.lt
    go_loopw [3, 4] (fun v r wr => ∃ (k m c : Nat) (out : List Nat) (a' : Option Addr), k + m = n ∧ m ≤ c ∧ r = .slice a' m c ∧ Rd W a' (t.drop k) ∧ Own wr (w.heap.size + 2) v out ∧ Below (w.heap.size + 2) W wr ∧ Hid (Xq.unq t = (Xq.unq (t.drop k)).map (out ++ ·)) ∧ out.length ≤ k)
      (fun _ r _ => sliceLen r)
    case atStart => exact ⟨0, n, cp, [], _, by omega, hcap, rfl, hr0, Own.nil _ _, Below.refl _ _, by show _ = _; rw [List.drop_zero]; cases Xq.unq t <;> simp, Nat.le_refl _⟩
    case round =>
      obtain ⟨k, m, c, out, a', hk, hmc, rfl, hrk, hown, hbel, hq, hol⟩ := hrel
      have hz : w.heap.size + 2 ≤ wr.heap.size := by have := hbel.size; omega
      have hlk : (t.drop k).length = m := by rw [List.length_drop, hl]; omega
      have htr : TabH wr := ht0.below (by rw [hWs]; exact hbel)
      have hrw : Rd wr a' (t.drop k) := hrk.below (by rw [hWs]; exact hbel)
      by_cases hm : 0 < m
      · obtain ⟨b, off, rfl, hblt, hcell⟩ := hrk.at_ (by omega)
        have c0 : wr.cell? ⟨b, off, none⟩ = some (.int .u8 (nth (t.drop k) 0 : Int)) := (hbel.cell (p := ⟨b, off, none⟩) (by simp; omega)).trans (by have := hcell 0 (by omega); rw [Nat.add_zero] at this; exact this)
        have hm' : (0 : Int) < (m : Int) := by omega
        clear hcell
        go_wp2_with fail
        refine (stands_any _ m c (t.drop k) _ hlk hrw hm).mono ?_
        rintro e w1 ⟨rfl, rfl⟩
        cases hs : selfL (t.drop k) with
        | true =>
          have HQ : Hid (Xq.unq t = (Xq.unq (t.drop (k + 1))).map ((out ++ [nth (t.drop k) 0]) ++ ·)) := by
            show _ = _
            rw [hq.out, unq_step_self (by omega) hs, List.drop_drop]
            cases Xq.unq (t.drop (k + 1)) <;> simp
          have HR : Hid (Rd W (if c = 1 then some ⟨b, off, none⟩ else some ⟨b, off + 1, none⟩) (t.drop (k + 1))) := (by
            have h := hrk.drop 1
            rw [List.drop_drop] at h
            exact h.cut (fun hh => List.drop_of_length_le (by omega)))
          have i1 : (1 : Int) ≤ (m : Int) := by omega
          generalize nth (t.drop k) 0 = x at *
          clear hq hs hrw hlk
          go_wp2_with (at_builtin; refine wpList_app_new rfl _ _ rfl (w.heap.size + 2) _ out rfl hown 1 1 [x] rfl rfl rfl (by omega) hz ?_; intro v' w2 hown' hb')
          go_wp2
          go_roundw
          case rel => exact ⟨k + 1, m - 1, c - 1, out ++ [x], _, by omega, by omega, rfl, HR.out, hown', hbel.trans hb', HQ, by simp; omega⟩
          case measure => simp [sliceLen]; omega
        | false =>
          go_wp2_with fail
          refine (breaksLine_any _ m c (t.drop k) _ hlk hrw).mono ?_
          rintro e w2 ⟨rfl, rfl⟩
          cases hbk : brk (t.drop k) with
          | true =>
            have h2 : 2 ≤ m := by have := (of_decide_eq_true hbk).1; omega
            have HQ : Hid (Xq.unq t = (Xq.unq (t.drop (k + 2))).map (out ++ ·)) := by
              show _ = _
              rw [hq.out, unq_step_brk hbk, List.drop_drop]
            have HR : Hid (Rd W (if c = 2 then some ⟨b, off, none⟩ else some ⟨b, off + 2, none⟩) (t.drop (k + 2))) := (by
              have h := hrk.drop 2
              rw [List.drop_drop] at h
              exact h.cut (fun hh => List.drop_of_length_le (by omega)))
            have i2 : (2 : Int) ≤ (m : Int) := by omega
            clear hq hs hrw hlk hbk c0
            go_wp2
            go_roundw
            case rel => exact ⟨k + 2, m - 2, c - 2, out, _, by omega, by omega, rfl, HR.out, hown, hbel, HQ, by omega⟩
            case measure => simp [sliceLen]; omega
          | false =>
            go_wp2_with fail
            refine (readQuoted_any _ m c (t.drop k) _ hlk hrw (isB_drop hB k) hm htr).mono ?_
            rintro e w3 ⟨rfl, rfl⟩
            cases hx : rdq (t.drop k) with
            | none =>
              rw [rdqV_none hx]
              have H : Hid (decQ t = (7, [])) := decQ_none (by omega) (by rw [hq.out, unq_step_bad (by omega) hs hbk hx]; rfl)
              obtain ⟨hcw, hcw1, hfw, hfw1⟩ := res_block hW1 (hb2.trans (hbel.mono (by omega)))
              obtain ⟨hk0, hk1⟩ := res_cells hcw hcw1 (.int .i64 7) (.slice none 0 0)
              clear hq hs hrw hlk hbk c0 hx
              go_wp2
              refine bodyPost_ret (v := .agg #[.int .i64 7, .slice none 0 0]) (by simp [results, Tryz.results150, go_sem, hk0, hk1]) rfl ?_
              exact ⟨.slice none 0 0, by rw [H.out], by rw [H.out]; exact Own.nil _ _, ((hb0.trans (hbel.mono (by omega))).setCell (by simp) _).setCell (by simp) _⟩
            | some x =>
              rw [rdqV_some hx]
              have h3 : 3 ≤ m := by
                unfold rdq at hx
                split at hx
                · rename_i hh; have := hh.1; omega
                · cases hx
              have HQ : Hid (Xq.unq t = (Xq.unq (t.drop (k + 3))).map ((out ++ [x]) ++ ·)) := by
                show _ = _
                rw [hq.out, unq_step_hex hbk hx, List.drop_drop]
                cases Xq.unq (t.drop (k + 3)) <;> simp
              have HR : Hid (Rd W (if c = 3 then some ⟨b, off, none⟩ else some ⟨b, off + 3, none⟩) (t.drop (k + 3))) := (by
                have h := hrk.drop 3
                rw [List.drop_drop] at h
                exact h.cut (fun hh => List.drop_of_length_le (by omega)))
              have i3 : (3 : Int) ≤ (m : Int) := by omega
              clear hq hs hrw hlk hbk c0 hx
              go_wp2_with (at_builtin; refine wpList_app_new rfl _ _ rfl (w.heap.size + 2) _ out rfl hown 1 1 [x] rfl rfl rfl (by omega) hz ?_; intro v' w2 hown' hb')
              go_wp2
              go_roundw
              case rel => exact ⟨k + 3, m - 3, c - 3, out ++ [x], _, by omega, by omega, rfl, HR.out, hown', hbel.trans hb', HQ, by simp; omega⟩
              case measure => simp [sliceLen]; omega
      · have hm0 : m = 0 := by omega
        subst hm0
        have hu : Xq.unq t = some out := by rw [hq.out, List.drop_of_length_le (by omega)]; simp [Xq.unq]
        obtain ⟨ao, ocap, rfl, hoc⟩ := hown.form
        obtain ⟨hcw, hcw1, hfw, hfw1⟩ := res_block hW1 (hb2.trans (hbel.mono (by omega)))
        generalize hN : out.length = N at *
        by_cases h4 : 400 < N
        · have h4' : (400 : Int) < (N : Int) := by omega
          have H : Hid (decQ t = (2, [])) := decQ_many (by omega) hu (by omega)
          obtain ⟨hk0, hk1⟩ := res_cells hcw hcw1 (.int .i64 2) (.slice none 0 0)
          clear hq hu hrw hlk hN
          go_wp2
          refine bodyPost_ret (v := .agg #[.int .i64 2, .slice none 0 0]) (by simp [results, Tryz.results150, go_sem, hk0, hk1]) rfl ?_
          exact ⟨.slice none 0 0, by rw [H.out], by rw [H.out]; exact Own.nil _ _, ((hb0.trans (hbel.mono (by omega))).setCell (by simp) _).setCell (by simp) _⟩
        · have h4' : ¬ (400 : Int) < (N : Int) := by omega
          have H : Hid (decQ t = (0, out)) := decQ_some (by omega) hu (by omega)
          obtain ⟨hk0, hk1⟩ := res_cells hcw hcw1 (.int .i64 0) (.slice ao N ocap)
          clear hq hu hrw hlk hN
          go_wp2
          refine bodyPost_ret (v := .agg #[.int .i64 0, .slice ao N ocap]) (by simp [results, Tryz.results150, go_sem, hk0, hk1]) rfl ?_
          exact ⟨.slice ao N ocap, by rw [H.out], by rw [H.out]; exact ((hown.set _ (by simp) _).set _ (by simp) _).low (by omega), ((hb0.trans (hbel.mono (by omega))).setCell (by simp) _).setCell (by simp) _⟩
end Go.Proofs.YtfbjodbihenmjaaGreatDoor

namespace Go.Proofs.YtfbjodbihenmjaaGreatDoor
open Go.RowKit

end Go.Proofs.YtfbjodbihenmjaaGreatDoor
