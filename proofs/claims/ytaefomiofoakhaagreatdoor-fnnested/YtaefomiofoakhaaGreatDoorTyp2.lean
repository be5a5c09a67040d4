/- What kind of part a value tells, the model's. -/
import Derived.Test.YtaefomiofoakhaaGreatDoorTyp1
namespace Go.Proofs.YtaefomiofoakhaaGreatDoor
open Go.RowKit

theorem low_isB {t : List Nat} (h : IsB t) : IsB (t.map low) := by
  intro b hb
  obtain ⟨c, hc, rfl⟩ := List.mem_map.1 hb
  have := h c hc
  unfold low
  split <;> omega
theorem str_inT {a b : List Nat} (ha : IsB a) (hb : IsB b) (h : str a = str b) : a = b := by
  have e := congrArg (fun s => s.data.toList.map UInt8.toNat) h
  simp only [str, List.map_map] at e
  have key : ∀ l : List Nat, IsB l → l.map (UInt8.toNat ∘ UInt8.ofNat) = l := by
    intro l hl
    induction l with
    | nil => rfl
    | cons c l ih =>
      rw [List.map_cons, ih (fun x hx => hl x (by simp [hx]))]
      have := hl c (by simp)
      simp [UInt8.toNat_ofNat']
      omega
  rw [key a ha, key b hb] at e
  exact e
theorem str_beq {a b : List Nat} (ha : IsB a) (hb : IsB b) : ((str a).toList == (str b).toList) = decide (a = b) := by
  by_cases h : a = b
  · subst h; simp
  · rw [decide_eq_false h]
    exact texts_ne (fun e => h (str_inT ha hb e))
theorem bgN_short {t p : List Nat} (h : ¬ p.length ≤ t.length) : bgN t p = false := by
  cases e : bgN t p with
  | false => rfl
  | true => exact absurd (bgN_len e) h

set_option maxHeartbeats 1600000 in
set_option maxRecDepth 100000 in
theorem l5Begins_any (t p : List Nat) (w : World) (hB : IsB t) (hBp : IsB p) (_ : t.length ≤ 1048576) (hp : p.length ≤ 1048576) : Calls Tryz.prog 41 #[.string (str t), .string (str p)] w fun e w' => e = .returned (.bool (bgN t p)) ∧ Below w.heap.size w w' := by
  have hst : (str t).size = t.length := str_size t
  have hsp : (str p).size = p.length := str_size p
  by_cases hpt : p.length ≤ t.length
  · have hpi : (p.length : Int) ≤ (t.length : Int) := by omega
    have hex : (str t).extract 0 p.length = str (t.take p.length) := by rw [str_pc]; rfl
    have HT : Hid (∀ w, Calls Tryz.prog 62 #[.string (str (t.take p.length))] w fun e w' => e = .returned (.string (str ((t.take p.length).map low))) ∧ Below w.heap.size w w') := fun w => l2Lower_any _ _ w rfl (isB_take hB _) (by rw [List.length_take]; omega)
    have hq := str_beq (low_isB (isB_take hB p.length)) hBp
    have HE : Hid (decide ((t.take p.length).map low = p) = bgN t p) := rfl
    generalize decide ((t.take p.length).map low = p) = q at *
    rw [← HE.out]
    clear HE
    generalize (t.take p.length).map low = y at *
    generalize t.take p.length = x at *
    go_enter Tryz.func41, Tryz.ntmps41
    go_wp2_with fail
    refine (HT.out _).mono ?_
    rintro e w' ⟨rfl, hb⟩
    go_wp2
    go_ret
    exact ⟨rfl, hb⟩
  · have hpi : ¬ (p.length : Int) ≤ (t.length : Int) := by omega
    rw [bgN_short hpt]
    go_enter Tryz.func41, Tryz.ntmps41
    go_wp2
    go_ret
    exact ⟨rfl, Below.refl _ _⟩

/-- How the look for a name ends. -/
def nmP (o : Option (List Nat)) : Value := match o with
  | some x => .tuple #[.string (str x), .bool true]
  | none => .tuple #[.string ⟨#[]⟩, .bool false]
/-- Pieces that are bytes, not too many. -/
def PcOk (l : List (List Nat)) : Prop := ∀ p ∈ l, IsB p ∧ p.length ≤ 1048576
theorem nthS_mem {l : List (List Nat)} {k : Nat} (h : k < l.length) : nthS l k ∈ l := by rw [nthS_get h]; exact List.getElem_mem h
set_option maxHeartbeats 1600000 in
set_option maxRecDepth 100000 in
theorem l5Named_any (a : Option Addr) (n cap : Nat) (l : List (List Nat)) (p : List Nat) (w : World) (hl : l.length = n) (h1 : 1 ≤ n) (hr : RdS w a l) (hn : n ≤ 1048576) (hok : PcOk l) (hBp : IsB p) (hp : p.length ≤ 1048576) :
    Calls Tryz.prog 42 #[.slice a n cap, .string (str p)] w fun e w' => e = .returned (nmP (nmN p (l.drop 1))) ∧ Below w.heap.size w w' := by
  have HL : Hid (l.length = n) := hl
  have hsp : (str p).size = p.length := str_size p
  have HE : Hid (∀ k, 1 ≤ k → k < n → (∀ i, 1 ≤ i → i < k → bgN (nthS l i) p = false) → bgN (nthS l k) p = true → nmN p (l.drop 1) = some ((nthS l k).drop p.length)) := fun k h1k hk h2 h3 => by
    have e : ∀ i, (l.drop 1).getD i [] = nthS l (i + 1) := fun i => by unfold nthS; rw [List.getD_eq_getElem?_getD, List.getD_eq_getElem?_getD, List.getElem?_drop, Nat.add_comm]
    have := nmN_some (p := p) (l := l.drop 1) (k := k - 1) (by rw [List.length_drop, HL.out]; omega) (fun i hi => by rw [e]; exact h2 (i + 1) (by omega) (by omega)) (by rw [e, show k - 1 + 1 = k by omega]; exact h3)
    rw [e, show k - 1 + 1 = k by omega] at this
    exact this
  have HU : Hid ((∀ i, 1 ≤ i → i < n → bgN (nthS l i) p = false) → nmN p (l.drop 1) = none) := fun h => nmN_none (fun i hi => by
    have e : (l.drop 1).getD i [] = nthS l (i + 1) := by unfold nthS; rw [List.getD_eq_getElem?_getD, List.getD_eq_getElem?_getD, List.getElem?_drop, Nat.add_comm]
    rw [List.length_drop, HL.out] at hi
    rw [e]; exact h (i + 1) (by omega) (by omega))
  clear hl
  generalize nmN p (l.drop 1) = r at *
  obtain ⟨b, off, rfl, hblt, hcell⟩ := hr.at_ (by have := HL.out; omega)
  clear hr
  go_enter Tryz.func42, Tryz.ntmps42
  go_wp2
  go_loopw [6] (fun v wr => ∃ k : Nat, 1 ≤ k ∧ k ≤ n ∧ v = .int .i64 k ∧ Hid (∀ i, 1 ≤ i → i < k → bgN (nthS l i) p = false) ∧ Below w.heap.size w wr) (fun v _ => n - (intOf v).toNat)
  case atStart => exact ⟨1, Nat.le_refl _, h1, rfl, fun i h1 hi => by omega, Below.refl _ _⟩
  case round =>
    obtain ⟨k, h1k, hk, rfl, HA, hbel⟩ := hrel
    by_cases hkn : k < n
    · have hki : (k : Int) < (n : Int) := by omega
      have hc : wr.cell? ⟨b, off + k, none⟩ = some (.string (str (nthS l k))) := (hbel.cell (p := ⟨b, off + k, none⟩) hblt).trans (hcell k (by have := HL.out; omega))
      obtain ⟨hBx, hxl⟩ := hok _ (nthS_mem (l := l) (k := k) (by have := HL.out; omega))
      have HC : Hid (∀ w, Calls Tryz.prog 41 #[.string (str (nthS l k)), .string (str p)] w fun e w' => e = .returned (.bool (bgN (nthS l k) p)) ∧ Below w.heap.size w w') := fun w => l5Begins_any _ p w hBx hBp hxl hp
      have HY := fun h => HE.out k h1k hkn HA.out h
      have HM : Hid (bgN (nthS l k) p = false → ∀ i, 1 ≤ i → i < k + 1 → bgN (nthS l i) p = false) := fun h i h1 hi => by
        by_cases he : i = k
        · subst he; exact h
        · exact HA.out i h1 (by omega)
      have HG : Hid (bgN (nthS l k) p = true → p.length ≤ (nthS l k).length) := bgN_len
      have HY : Hid (bgN (nthS l k) p = true → r = some ((nthS l k).drop p.length)) := HY
      clear HE HU HA
      have hsx : (str (nthS l k)).size = (nthS l k).length := str_size _
      have hex : (str (nthS l k)).extract p.length (nthS l k).length = str ((nthS l k).drop p.length) := by rw [str_pc, List.take_length]
      generalize bgN (nthS l k) p = q at *
      have HX : Hid ((nthS l k).drop p.length = (nthS l k).drop p.length) := rfl
      generalize hyy : (nthS l k).drop p.length = y at *
      generalize nthS l k = x at *
      clear hyy HX
      go_wp2_with fail
      refine (HC.out _).mono ?_
      rintro e w' ⟨rfl, hb⟩
      have hc' : w'.cell? ⟨b, off + k, none⟩ = some (.string (str x)) := (hb.cell (p := ⟨b, off + k, none⟩) (Nat.lt_of_lt_of_le hblt hbel.size)).trans hc
      have hbel' := hbel.trans (hb.mono hbel.size)
      clear HC hb hc
      cases q with
      | true =>
        have hpx := HG.out rfl
        have hpi : (p.length : Int) ≤ (x.length : Int) := by omega
        obtain rfl := HY.out rfl
        go_wp2
        go_ret2
        exact ⟨rfl, hbel'⟩
      | false =>
        have HM' : Hid (_) := HM.out rfl
        clear HY HM HG
        go_wp2
        go_roundw
        case rel => exact ⟨k + 1, by omega, by omega, by go_num, HM'.out, hbel'⟩
        case measure => simp [intOf]; omega
    · have hki : ¬ (k : Int) < (n : Int) := by omega
      obtain rfl := HU.out (fun i h1 hi => HA.out i h1 (by omega))
      clear HE HU HA
      go_wp2
      go_ret2
      exact ⟨rfl, hbel⟩
end Go.Proofs.YtaefomiofoakhaaGreatDoor
