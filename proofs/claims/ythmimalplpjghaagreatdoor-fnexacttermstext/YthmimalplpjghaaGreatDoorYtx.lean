/- The text of a set, on both sides: at every set; the library's table of powers is as it was laid; no conditions beyond those that each fact names. -/
import Derived.Test.YthmimalplpjghaaGreatDoorYte
import Derived.Test.YthmimalplpjghaaGreatDoorYinToYis
import Derived.Test.YthmimalplpjghaaGreatDoorTbsToMemS
import Derived.Test.YthmimalplpjghaaGreatDoorShf
import Derived.Lib.AppendIntMem
import Derived.Lib.LaidTab
namespace Go.Proofs.YthmimalplpjghaaGreatDoor
open Go.RowKit

/-- The library's table of powers of ten is there. -/
def TabW (w : World) : Prop := Lib.TabIs Tryz.prog w "internal/strconv.uint64pow10" .u64 Lib.pow10Tab
theorem gW : Tryz.prog.globalNamed "internal/strconv.uint64pow10" = some 3 := by kernel_rfl
theorem TabW.below {w w' : World} (h : TabW w) (hb : Below w.heap.size w w') : TabW w' := by
  unfold TabW Lib.TabIs World.var? at h ⊢
  rw [gW] at h ⊢
  simp only [Option.bind_some] at h ⊢
  have hlt : 3 < w.heap.size := by
    rcases Nat.lt_or_ge 3 w.heap.size with h' | h'
    · exact h'
    · rw [Array.getElem?_eq_none h'] at h; simp at h
  rw [hb.block _ hlt]; exact h

/-- An end of a range as a text. -/
def wdN (n : Int) : List Nat := if n = 0 then [42] else dgF 2 n.toNat
theorem wdN_len (n : Int) : (wdN n).length ≤ 3 := by
  unfold wdN
  split
  · decide
  · exact dgF_len 2 _
/-- A range as a text. -/
def wdY (p : YgP) : List Nat := if p.1 = p.2 then wdN p.1 else wdN p.1 ++ [58] ++ wdN p.2
theorem wdY_len (p : YgP) : (wdY p).length ≤ 7 := by
  have h1 := wdN_len p.1
  have h2 := wdN_len p.2
  unfold wdY
  split
  · omega
  · rw [List.length_append, List.length_append]; simp; omega
/-- Words with a comma between. -/
def jnT : List (List Nat) → List Nat
  | [] => []
  | x :: r => x ++ (r.map ([44] ++ ·)).flatten
theorem jnT_snoc (xs : List (List Nat)) (y : List Nat) : jnT (xs ++ [y]) = if xs = [] then y else jnT xs ++ [44] ++ y := by
  cases xs with
  | nil => simp [jnT]
  | cons x r => simp [jnT]
theorem jnT_len : ∀ xs : List (List Nat), (∀ x ∈ xs, x.length ≤ 7) → (jnT xs).length ≤ 8 * xs.length
  | [], _ => Nat.le_refl _
  | x :: r, h => by
    have hx := h x (List.mem_cons_self ..)
    have : ∀ r : List (List Nat), (∀ x ∈ r, x.length ≤ 7) → ((r.map ([44] ++ ·)).flatten).length ≤ 8 * r.length := by
      intro r
      induction r with
      | nil => intro _; exact Nat.le_refl _
      | cons y r ih =>
        intro h
        have h1 := h y (List.mem_cons_self ..)
        have h2 := ih fun x hx => h x (List.mem_cons_of_mem _ hx)
        simp only [List.map_cons, List.flatten_cons, List.length_append, List.length_cons, List.length_nil]
        omega
    have h2 := this r fun x hx => h x (List.mem_cons_of_mem _ hx)
    show (x ++ (r.map ([44] ++ ·)).flatten).length ≤ _
    rw [List.length_append, List.length_cons]
    omega
theorem str_list (l : List Nat) : (str l).data.toList = l.map UInt8.ofNat := by simp [str]
theorem jnT_join (ws : List (List Nat)) : Lib.join (ws.map fun x => (str x).data.toList) [44] = (jnT ws).map UInt8.ofNat := by
  cases ws with
  | nil => rfl
  | cons x r =>
    rw [List.map_cons, Lib.join_cons, str_list]
    show _ = (x ++ (r.map ([44] ++ ·)).flatten).map UInt8.ofNat
    rw [List.map_append]
    congr 1
    unfold Lib.joinTail
    rw [List.map_map, List.map_flatten, List.map_map]
    congr 1
/-- The text of a set. -/
def txY (l : List YgP) : List Nat := jnT (l.map wdY)
theorem txY_len (l : List YgP) : (txY l).length ≤ 8 * l.length := by
  have := jnT_len (l.map wdY) (fun x hx => by obtain ⟨p, _, rfl⟩ := List.mem_map.1 hx; exact wdY_len p)
  rw [List.length_map] at this
  exact this
theorem txY_step {l : List YgP} {k : Nat} (h : k < l.length) : txY (l.take (k + 1)) = (if k = 0 then [] else txY (l.take k) ++ [44]) ++ wdY (nthY l k) := by
  unfold txY
  rw [take_snocY l k h, List.map_append, List.map_cons, List.map_nil, jnT_snoc]
  by_cases h0 : k = 0
  · subst h0; simp
  · rw [if_neg h0, if_neg]
    intro h1
    have := congrArg List.length h1
    rw [List.length_map, List.length_take] at this
    rw [List.length_nil] at this
    omega

theorem itoa_all : (List.range 1000).all (fun n => n == 0 || Lib.itoa (n : Int) == (dgF 2 n).map UInt8.ofNat) = true := by kernel_rfl
theorem itoa_str {n : Nat} (h0 : n ≠ 0) (h9 : n ≤ 999) : (⟨(Lib.itoa (n : Int)).toArray⟩ : ByteArray) = str (dgF 2 n) := by
  have := List.all_eq_true.1 itoa_all n (by rw [List.mem_range]; omega)
  simp [h0] at this
  rw [this]; rfl

theorem endWord_any (n : Int) (w : World) (h : bty n 0 999 = true) (ht : TabW w) : Calls Tryz.prog 273 #[.int .i64 n] w fun e w' => e = .returned (.string (str (wdN n))) ∧ Below w.heap.size w w' := by
  have hb := of_decide_eq_true h
  by_cases h0 : n = 0
  · subst h0
    go_enter Tryz.func273, Tryz.ntmps273
    go_wp2
    go_ret
    exact ⟨rfl, Below.refl _ _⟩
  · obtain ⟨m, rfl⟩ : ∃ m : Nat, n = (m : Int) := ⟨n.toNat, by omega⟩
    have HF := Tryz.strconv_FormatInt_10 (m : Int) (by omega) (by omega) w ht
    have hm0 : m ≠ 0 := by omega
    rw [itoa_str hm0 (by omega)] at HF
    have HV : Hid (wdN (m : Int) = dgF 2 m) := by
      show wdN (m : Int) = _
      unfold wdN
      rw [if_neg h0, Int.toNat_natCast]
    go_enter Tryz.func273, Tryz.ntmps273
    go_wp2_with fail
    refine HF.mono ?_
    rintro e w1 ⟨rfl, k, os, rfl⟩
    have hbw := Lib.below_grow w.heap.size w (Nat.le_refl _) k os
    go_wp2
    go_ret
    exact ⟨by rw [HV.out]; rfl, hbw⟩

theorem l11Number_any (n : Int) (w : World) (h : bty n 0 999 = true) : Calls Tryz.prog 197 #[.int .i64 n] w fun e w' => e = .returned (.string (str (wdN n))) ∧ Below w.heap.size w w' := by
  have hb := of_decide_eq_true h
  by_cases h0 : n = 0
  · subst h0
    go_enter Tryz.func197, Tryz.ntmps197
    go_wp2
    go_ret
    exact ⟨rfl, Below.refl _ _⟩
  · obtain ⟨m, rfl⟩ : ∃ m : Nat, n = (m : Int) := ⟨n.toNat, by omega⟩
    have HF := l1Digits_any 2 m w (by simp; omega) (by omega)
    have HV : Hid (wdN (m : Int) = dgF 2 m) := by
      show wdN (m : Int) = _
      unfold wdN
      rw [if_neg h0, Int.toNat_natCast]
    go_enter Tryz.func197, Tryz.ntmps197
    go_wp2_with fail
    refine HF.mono ?_
    rintro e w1 ⟨rfl, hbw⟩
    go_wp2
    go_ret
    exact ⟨by rw [HV.out]; rfl, hbw⟩

set_option maxHeartbeats 1600000 in
set_option maxRecDepth 100000 in
theorem word_any (p : YgP) (w : World) (h1 : bty p.1 0 999 = true) (h2 : bty p.2 0 999 = true) (ht : TabW w) : Calls Tryz.prog 221 #[cz p] w fun e w' => e = .returned (.string (str (wdY p))) ∧ Below w.heap.size w w' := by
  obtain ⟨x, y⟩ := p
  simp only at h1 h2
  have HFr : Hid (_) := fun w => reachFrom_any (x, y) w h1
  have HTo : Hid (_) := fun w => reachTo_any (x, y) w h2
  have HW1 : Hid (_) := fun w ht => endWord_any x w h1 ht
  have HW2 : Hid (_) := fun w ht => endWord_any y w h2 ht
  by_cases hxy : x = y
  · subst hxy
    have HV : Hid (wdY (x, x) = wdN x) := if_pos rfl
    go_enter Tryz.func221, Tryz.ntmps221
    go_wp2_with fail
    refine (HFr.out _).mono ?_
    rintro e w1 ⟨rfl, rfl⟩
    go_wp2_with fail
    refine (HTo.out _).mono ?_
    rintro e w1 ⟨rfl, rfl⟩
    go_wp2_with fail
    refine (HFr.out _).mono ?_
    rintro e w1 ⟨rfl, rfl⟩
    go_wp2_with fail
    refine (HW1.out _ ht).mono ?_
    rintro e w1 ⟨rfl, hb1⟩
    go_wp2
    go_ret
    exact ⟨by rw [HV.out]; rfl, hb1⟩
  · have HV : Hid ((str (wdN x) ++ ⟨#[58]⟩) ++ str (wdN y) = str (wdY (x, y))) := by
      show _ = _
      rw [show (⟨#[58]⟩ : ByteArray) = str [58] from rfl, str_plusY, str_plusY, wdY, if_neg hxy]
    have l1 : (str (wdN x)).size ≤ 3 := by rw [str_size]; exact wdN_len x
    have l2 : (str (wdN y)).size ≤ 3 := by rw [str_size]; exact wdN_len y
    have l3 : (str (wdN x) ++ ⟨#[58]⟩).size ≤ 4 := by
      rw [ByteArray.size_append]
      have : (⟨#[58]⟩ : ByteArray).size = 1 := rfl
      omega
    generalize str (wdN x) = s1 at *
    generalize str (wdN y) = s2 at *
    go_enter Tryz.func221, Tryz.ntmps221
    go_wp2_with fail
    refine (HFr.out _).mono ?_
    rintro e w1 ⟨rfl, rfl⟩
    go_wp2_with fail
    refine (HTo.out _).mono ?_
    rintro e w1 ⟨rfl, rfl⟩
    go_wp2_with fail
    refine (HFr.out _).mono ?_
    rintro e w1 ⟨rfl, rfl⟩
    go_wp2_with fail
    refine (HW1.out _ ht).mono ?_
    rintro e w1 ⟨rfl, hb1⟩
    go_wp2_with fail
    refine (HTo.out _).mono ?_
    rintro e w2 ⟨rfl, rfl⟩
    go_wp2_with fail
    refine (HW2.out _ (TabW.below ht hb1)).mono ?_
    rintro e w2 ⟨rfl, hb2⟩
    have hb12 := hb1.trans (hb2.mono hb1.size)
    clear hb1 hb2
    go_wp2
    go_ret
    exact ⟨by rw [← HV.out]; rfl, hb12⟩
end Go.Proofs.YthmimalplpjghaaGreatDoor
