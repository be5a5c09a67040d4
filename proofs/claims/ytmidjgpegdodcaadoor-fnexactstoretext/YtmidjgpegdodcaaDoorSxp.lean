/- What is said of a store: the texts, plain facts; the program's digits and lines; no conditions beyond those that each fact names. -/
import Derived.Test.YtmidjgpegdodcaaDoorStb
import Derived.Test.YtmidjgpegdodcaaDoorIto
import Derived.Test.YtmidjgpegdodcaaDoorMemS
import Derived.Test.YtmidjgpegdodcaaDoorShf
import Derived.Lib.LaidTab
namespace Go.Proofs.YtmidjgpegdodcaaDoor
open Go.RowKit

/-- The library's table of powers of ten is there. -/
def TabW (w : World) : Prop := Lib.TabIs Tryd.prog w "internal/strconv.uint64pow10" .u64 Lib.pow10Tab
theorem gW : Tryd.prog.globalNamed "internal/strconv.uint64pow10" = some 1 := by kernel_rfl
theorem TabW.below {w w' : World} (h : TabW w) (hb : Below w.heap.size w w') : TabW w' := by
  unfold TabW Lib.TabIs World.var? at h ⊢
  rw [gW] at h ⊢
  simp only [Option.bind_some] at h ⊢
  have hlt : 1 < w.heap.size := by
    rcases Nat.lt_or_ge 1 w.heap.size with h' | h'
    · exact h'
    · rw [Array.getElem?_eq_none h'] at h; simp at h
  rw [hb.block _ hlt]; exact h

theorem str_txB (s : ByteArray) : str (txB s) = s := by
  obtain ⟨t, rfl, hB⟩ := str_surj s
  rw [txB_str hB]
/-- The digits of a number up to 9999. -/
def d4 (n : Int) : List Nat := dgF 3 n.toNat
theorem d4_len (n : Int) : (d4 n).length ≤ 4 := dgF_len 3 _
/-- Words with a blank between. -/
def jnW : List (List Nat) → List Nat
  | [] => []
  | x :: r => x ++ (r.map ([32] ++ ·)).flatten
theorem jnW_join (ws : List (List Nat)) : Lib.join (ws.map fun x => (str x).data.toList) [32] = (jnW ws).map UInt8.ofNat := by
  have hs : ∀ l : List Nat, (str l).data.toList = l.map UInt8.ofNat := fun l => by simp [str]
  cases ws with
  | nil => rfl
  | cons x r =>
    rw [List.map_cons, Lib.join_cons, hs]
    show _ = (x ++ (r.map ([32] ++ ·)).flatten).map UInt8.ofNat
    rw [List.map_append]
    congr 1
    unfold Lib.joinTail
    rw [List.map_map, List.map_flatten, List.map_map]
    congr 1
/-- A line of words. -/
def lnW (ws : List (List Nat)) : List Nat := jnW ws ++ [10]
/-- What is said of a message, of a mailbox, of mailboxes. -/
def mzT (m : Msg) : List Nat := lnW [[109, 101, 115, 115, 97, 103, 101], d4 m.u, d4 m.f, d4 m.d, d4 (m.b.length : Int)]
def bzT (b : Bx) : List Nat := lnW [[98, 111, 120], txB b.n, d4 b.v, d4 b.x] ++ (b.m.map mzT).flatten
def szT (l : List Bx) : List Nat := if l.length = 0 then [110, 111, 110, 101, 10] else (l.map bzT).flatten
theorem mzT_len (m : Msg) : (mzT m).length ≤ 28 := by
  have h1 := d4_len m.u
  have h2 := d4_len m.f
  have h3 := d4_len m.d
  have h4 := d4_len (m.b.length : Int)
  simp [mzT, lnW, jnW]; omega
theorem mzs_len (l : List Msg) : ((l.map mzT).flatten).length ≤ 28 * l.length := by
  induction l with
  | nil => simp
  | cons m r ih =>
    have := mzT_len m
    rw [List.map_cons, List.flatten_cons, List.length_append]
    simp only [List.length_cons]; omega
theorem bzT_len (b : Bx) (h : (txB b.n).length ≤ 8) (h6 : b.m.length ≤ 6) : (bzT b).length ≤ 200 := by
  have h1 := d4_len b.v
  have h2 := d4_len b.x
  have h3 := mzs_len b.m
  unfold bzT
  rw [List.length_append]
  generalize (b.m.map mzT).flatten.length = k at *
  simp [lnW, jnW]; omega
theorem bzs_len : ∀ l : List Bx, (∀ b ∈ l, (bzT b).length ≤ 200) → ((l.map bzT).flatten).length ≤ 200 * l.length
  | [], _ => by simp
  | b :: r, h => by
    have h1 := h b List.mem_cons_self
    have h2 := bzs_len r fun x hx => h x (List.mem_cons_of_mem _ hx)
    rw [List.map_cons, List.flatten_cons, List.length_append]
    simp only [List.length_cons]; omega

theorem mfV_okX {m : Msg} (h : mfV m = 0) : (0 ≤ m.u ∧ m.u ≤ 9999) ∧ (0 ≤ m.f ∧ m.f ≤ 9999) ∧ (0 ≤ m.d ∧ m.d ≤ 9999) ∧ m.b.length ≤ 400 := by
  unfold mfV at h
  by_cases h1 : bt m.u 1 999 = true ∧ bt m.f 0 15 = true ∧ bt m.d 0 9999 = true
  · rw [if_pos h1] at h
    have a := of_decide_eq_true h1.1
    have b := of_decide_eq_true h1.2.1
    have c := of_decide_eq_true h1.2.2
    by_cases h2 : 400 < m.b.length
    · rw [if_pos h2] at h; omega
    · exact ⟨by omega, by omega, by omega, by omega⟩
  · rw [if_neg h1] at h; omega
theorem bmV_okX {x : Int} : ∀ {l : List Msg} {p : Int}, bmV x p l = 0 → ∀ m ∈ l, mfV m = 0
  | [], _, _, m, hm => by cases hm
  | y :: r, p, h, m, hm => by
    unfold bmV at h
    by_cases h0 : mfV y = 0
    · rw [if_pos h0] at h
      by_cases h1 : y.u ≤ p ∨ x ≤ y.u
      · rw [if_pos h1] at h; omega
      · rw [if_neg h1] at h
        rcases List.mem_cons.1 hm with rfl | hm
        · exact h0
        · exact bmV_okX h m hm
    · rw [if_neg h0] at h; exact absurd h h0
theorem bfV_okX {b : Bx} (h : bfV b = 0) : (txB b.n).length ≤ 8 ∧ (0 ≤ b.v ∧ b.v ≤ 9999) ∧ (0 ≤ b.x ∧ b.x ≤ 9999) ∧ b.m.length ≤ 6 ∧ ∀ m ∈ b.m, mfV m = 0 := by
  unfold bfV at h
  by_cases h0 : bnOk (txB b.n) = true
  · rw [if_pos h0] at h
    by_cases h1 : bt b.v 1 999 = true ∧ bt b.x 1 1000 = true
    · rw [if_pos h1] at h
      have a := of_decide_eq_true h1.1
      have c := of_decide_eq_true h1.2
      by_cases h2 : 6 < b.m.length
      · rw [if_pos h2] at h; omega
      · rw [if_neg h2] at h
        refine ⟨?_, by omega, by omega, by omega, bmV_okX h⟩
        unfold bnOk at h0
        rw [Bool.and_eq_true] at h0
        exact (of_decide_eq_true h0.2).2
    · rw [if_neg h1] at h; omega
  · rw [if_neg h0] at h; omega
theorem sxV_okX {v : Int} {l : List Bx} : ∀ (r k : Nat), sxV v l r k = 0 → ∀ j, k ≤ j → j < k + r → bfV (nthX l j) = 0
  | 0, k, _, j, h1, h2 => by omega
  | r + 1, k, h, j, h1, h2 => by
    unfold sxV at h
    by_cases h0 : sbE v l k = 0
    · rw [if_pos h0] at h
      by_cases hj : j = k
      · subst hj
        unfold sbE at h0
        by_cases h3 : bfV (nthX l j) = 0
        · exact h3
        · rw [if_neg h3] at h0; exact h0
      · exact sxV_okX r (k + 1) h j (by omega) (by omega)
    · rw [if_neg h0] at h; exact absurd h h0
theorem stV_okX {v : Int} {l : List Bx} (h : stV v l = 0) : l.length ≤ 3 ∧ ∀ b ∈ l, bfV b = 0 := by
  unfold stV at h
  by_cases h0 : bt v 1 1000 = true
  · rw [if_pos h0] at h
    by_cases h1 : 3 < l.length
    · rw [if_pos h1] at h; omega
    · rw [if_neg h1] at h
      refine ⟨by omega, fun b hb => ?_⟩
      obtain ⟨j, hj, rfl⟩ := List.getElem_of_mem hb
      have := sxV_okX _ _ h j (Nat.zero_le _) (by omega)
      rw [nthX_get hj] at this
      exact this
  · rw [if_neg h0] at h; omega
end Go.Proofs.YtmidjgpegdodcaaDoor
