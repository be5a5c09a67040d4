/- The model's cutting of a text: at every text of at most 1048576 bytes; no conditions beyond those that each fact names. -/
import Derived.Test.YtmidjgpegdodcaaYca
namespace Go.Proofs.Ytmidjgpegdodcaa
open Go.RowKit

theorem nth_mem {l : List Nat} {i : Nat} (h : i < l.length) : nth l i ∈ l := by
  unfold nth; rw [List.getD_eq_getElem?_getD, List.getElem?_eq_getElem h]; exact List.getElem_mem h
theorem nth_eq {l : List Nat} {i : Nat} (h : i < l.length) : nth l i = l[i] := by
  unfold nth; rw [List.getD_eq_getElem?_getD, List.getElem?_eq_getElem h]; rfl
/-- No such byte from f to i. -/
def noY (c : Nat) (l : List Nat) (f i : Nat) : Prop := ∀ j, f ≤ j → j < i → nth l j ≠ c
theorem noY_mem {c : Nat} {l : List Nat} {f i : Nat} (hi : i ≤ l.length) (h : noY c l f i) : c ∉ (l.take i).drop f := by
  intro hx
  obtain ⟨j, hj, e⟩ := List.getElem_of_mem hx
  rw [List.length_drop, List.length_take] at hj
  rw [List.getElem_drop, List.getElem_take] at e
  exact h (f + j) (by omega) (by omega) (by rw [nth_eq (by omega)]; exact e)
theorem cut_at {c : Nat} {l : List Nat} {f i : Nat} (hf : f ≤ i) (hi : i < l.length) (h : noY c l f i) (hc : nth l i = c) : cutM c (l.drop f) = ((l.take i).drop f) :: cutM c (l.drop (i + 1)) := by
  have e : l.drop f = (l.take i).drop f ++ c :: l.drop (i + 1) := by
    rw [← hc, nth_eq hi, ← List.drop_eq_getElem_cons hi]
    have : l.drop i = (l.drop f).drop (i - f) := by rw [List.drop_drop]; congr 1; omega
    rw [this, List.drop_take, List.take_append_drop]
  rw [e, cutM_hit _ (noY_mem (by omega) h)]
theorem cut_end {c : Nat} {l : List Nat} {f : Nat} (h : noY c l f l.length) : cutM c (l.drop f) = [(l.take l.length).drop f] := by
  have := noY_mem (Nat.le_refl _) h
  rw [List.take_length] at this ⊢
  exact cutM_no this

set_option maxHeartbeats 3200000 in
set_option maxRecDepth 100000 in
theorem l11Cut_any (c : Nat) (l : List Nat) (n : Nat) (w : World) (hl : l.length = n) (hB : IsB l) (hn : n ≤ 1048576) :
    Calls Try.prog 14 #[.string (str l), .int .u8 (c : Int)] w fun e w' => ∃ v, e = .returned v ∧ OwnS w' w.heap.size v (cutM c l) ∧ Below w.heap.size w w' := by
  have hsz : (str l).size = n := by rw [str_size, hl]
  have HL : Hid (l.length = n) := hl
  have hown0 : OwnS (w.alloc (.cells #[] 9)) w.heap.size (.slice (some ⟨w.heap.size, 0, none⟩) 0 0) [] := OwnS.lit w _ (Nat.le_refl _) #[] [] rfl (by decide)
  have hbel0 : Below w.heap.size w (w.alloc (.cells #[] 9)) := (Below.refl _ _).alloc (Nat.le_refl _) _
  clear hl
  go_enter Try.func14, Try.ntmps14
  go_wp2
  go_loopw [5, 6, 7] (fun v fv iv wr => ∃ (i f : Nat) (ps : List (List Nat)), i ≤ n + 1 ∧ f ≤ i ∧ iv = .int .i64 i ∧ fv = .int .i64 f ∧ OwnS wr w.heap.size v ps ∧ Below w.heap.size w wr ∧ ps.length ≤ i ∧ (i ≤ n → cutM c l = ps ++ cutM c (l.drop f) ∧ noY c l f i) ∧ (i = n + 1 → ps = cutM c l))
    (fun _ _ iv _ => n + 1 - (intOf iv).toNat)
  case atStart => exact ⟨0, 0, [], by omega, by omega, rfl, rfl, hown0, hbel0, by simp, fun _ => ⟨by simp, fun j _ h => by omega⟩, fun h => by omega⟩
  case round =>
    obtain ⟨i, f, ps, hi, hf, rfl, rfl, hown, hbel, hpl, hgo, hend⟩ := hrel
    clear hown0 hbel0
    by_cases hin : i ≤ n
    · have hii : (i : Int) ≤ (n : Int) := by omega
      obtain ⟨hcut, hno⟩ := hgo hin
      have hfi : (f : Int) ≤ (i : Int) := by omega
      clear hgo hend
      by_cases hiE : i = n
      · subst hiE
        have HQ : Hid (ps ++ [(l.take i).drop f] = cutM c l) := by
          show _ = _
          have := cut_end (c := c) (l := l) (f := f) (by rw [HL.out]; exact hno)
          rw [hcut, this, HL.out]
        have hex := str_exY l f i
        clear hcut hno
        go_wp2_with (at_builtin; refine wpList_app_newT rfl _ _ rfl w.heap.size _ ps rfl hown 1 1 [(l.take i).drop f] rfl rfl (by simp [sc]) (by omega) hbel.size ?_; intro v' w3 ho3 hb3)
        rw [HQ.out] at ho3
        have hB3 := hbel.trans hb3
        clear hb3 hown
        have HLE : Hid ((cutM c l).length ≤ i + 1) := by
          show _ ≤ _
          rw [← HQ.out, List.length_append]; simp [hpl]
        go_roundw
        case rel => exact ⟨i + 1, i + 1, cutM c l, by omega, by omega, by go_num, by go_num, ho3, hB3, HLE.out, fun h => by omega, fun _ => rfl⟩
        case measure => first | (simp [intOf]; done) | (simp [intOf]; omega)
      · have hin' : i < n := by omega
        have hii' : (i : Int) < (n : Int) := by omega
        have hne : ¬ (i : Int) = (n : Int) := by omega
        have g0 := str_get hB (i := i) (by rw [hsz]; exact hin')
        have hx := nth_lt hB i
        by_cases hc : nth l i = c
        · have HQ : Hid (cutM c l = (ps ++ [(l.take i).drop f]) ++ cutM c (l.drop (i + 1))) := by
            show _ = _
            rw [hcut, cut_at hf (by rw [HL.out]; exact hin') hno hc]; simp
          have hex := str_exY l f i
          rw [hc] at g0 hx
          have HNO : Hid (noY c l (i + 1) (i + 1)) := fun j h1 h2 => by omega
          clear hcut hno
          go_wp2_with (at_builtin; refine wpList_app_newT rfl _ _ rfl w.heap.size _ ps rfl hown 1 1 [(l.take i).drop f] rfl rfl (by simp [sc]) (by omega) hbel.size ?_; intro v' w3 ho3 hb3)
          have hB3 := hbel.trans hb3
          clear hb3 hown
          go_roundw
          case rel => exact ⟨i + 1, i + 1, _, by omega, by omega, by go_num, by go_num, ho3, hB3, by rw [List.length_append]; simp; omega, fun _ => ⟨HQ.out, HNO.out⟩, fun h => by omega⟩
          case measure => simp [intOf]; omega
        · have HNO : Hid (noY c l f (i + 1)) := fun j h1 h2 => by
            rcases Nat.lt_or_ge j i with h | h
            · exact hno j h1 h
            · rw [show j = i by omega]; exact hc
          have HC : Hid (_) := hcut
          have hcb : (((nth l i : Nat) : Int) == (c : Int)) = false := beq_eq_false_iff_ne.2 (by omega)
          have hnb : ((i : Int) == (n : Int)) = false := beq_eq_false_iff_ne.2 hne
          clear hcut hno
          generalize nth l i = x at *
          go_wp2
          go_roundw
          case rel => exact ⟨i + 1, f, ps, by omega, by omega, by go_num, rfl, hown, hbel, by omega, fun _ => ⟨HC.out, HNO.out⟩, fun h => by omega⟩
          case measure => simp [intOf]; omega
    · have hii : ¬ (i : Int) ≤ (n : Int) := by omega
      have HE := hend (by omega)
      subst HE
      clear hgo hend
      go_wp2
      go_ret
      exact ⟨_, rfl, hown, hbel⟩

end Go.Proofs.Ytmidjgpegdodcaa
