/- The ranges of a body, the model's: by the plain function · A part and all that is in it, the model's: at the last depth. -/
import Derived.Test.YtaefomiofoakhaaGreatDoorSpmToSpn
import Derived.Test.YtaefomiofoakhaaGreatDoorRdmToBytI
import Derived.Test.YtaefomiofoakhaaGreatDoorRdp0ToPth
namespace Go.Proofs.YtaefomiofoakhaaGreatDoor
open Go.RowKit

/-- The open range as the model keeps it. -/
def opI (o : Option Nat) : Int := match o with
  | some s => (s : Int)
  | none => -1
theorem new_oneM {wr : World} {s : Nat} (e : wr.heap.size = s) (x y : Value) : ∀ j u, [x, y][j]? = some u → (wr.alloc (.cells #[x, y] 100)).cell? ((⟨s, 0, none⟩ : Addr).add j) = some u := new_twoS e x y _
/-- How the model's ranges end. -/
def SpEnd (l : List RngP) (w : World) (e : Ending) (w' : World) : Prop := ∃ v, e = .returned v ∧ OwnM w' w.heap.size v l ∧ Below w.heap.size w w'

set_option maxHeartbeats 3200000 in
set_option maxRecDepth 100000 in
theorem l5Spans_any {cp : Nat} (b m : Nat) (d : List Nat) (mk bg en : ByteArray) (w : World) (hr : Rd w (some ⟨b, 0, none⟩) d) (hB : IsB d) (hl : d.length = m) (hm : m ≤ 400) (fr tt : Nat) (hft : fr ≤ tt) (htt : tt ≤ m) (hmk : mk.size ≤ 1000) (hbg : ⟨#[45, 45]⟩ ++ mk = bg) (hen : bg ++ ⟨#[45, 45]⟩ = en) (hcp : m ≤ cp := by omega) :
    Calls Tryz.prog 53 #[.slice (some ⟨b, 0, none⟩) m cp, .int .i64 (fr : Int), .int .i64 (tt : Int), .string mk] w (SpEnd (spF d tt bg en (tt - fr) fr [] none) w) := by
  have htl : (d.take tt).length = tt := by rw [List.length_take]; omega
  have hBt := isB_take hB tt
  have HE : Hid (∀ W, Below w.heap.size w W → ∀ k, k ≤ tt → Calls Tryz.prog 77 #[.slice (some ⟨b, 0, none⟩) tt cp, .int .i64 (k : Int)] W fun e w' => e = .returned (.int .i64 (eoL (d.take tt) k : Int)) ∧ W = w') := fun W hb k hk => l4End_any _ tt cp (d.take tt) k W htl (rd_takeH (hr.below hb) tt) hBt (by omega) hk
  have HLn : Hid (∀ W, Below w.heap.size w W → ∀ i j, i < m → i ≤ j → j ≤ m → Calls Tryz.prog 78 #[.slice (some ⟨b, 0, none⟩) m cp, .int .i64 (i : Int), .int .i64 (j : Int), .string mk] W fun e w' => e = .returned (.int .i64 (kdM bg en (str (cutN d i j)))) ∧ W = w') := fun W hb i j h1 h2 h3 => l5Line_any b m d mk bg en W (hr.below hb) hl hm i j h1 h2 h3 hmk hbg hen
  have hel : ∀ k, k ≤ tt → k ≤ eoL (d.take tt) k ∧ eoL (d.take tt) k ≤ tt := fun k hk => ⟨eoL_ge _ _, by have := eoL_le (l := d.take tt) (i := k) (by omega); omega⟩
  have hkd : ∀ t, kdM bg en t = 0 ∨ kdM bg en t = 1 ∨ kdM bg en t = 2 := fun t => by unfold kdM; split; exact .inr (.inl rfl); split; exact .inr (.inr rfl); exact .inl rfl
  have HEL : Hid (_) := hel
  have HKD : Hid (_) := hkd
  have Hy : Hid (∀ f k out op, k < tt → spF d tt bg en (f + 1) k out op = spS (kdM bg en (str (cutN d k (eoL (d.take tt) k)))) k (eoL (d.take tt) k) tt out op (spF d tt bg en f)) := fun f k out op h => spF_yes h
  have Hn : Hid (∀ f k out op, ¬ k < tt → spF d tt bg en f k out op = finM tt out op) := fun f k out op h => spF_end h
  clear hel hkd hB hBt htl hbg hen
  generalize hres : spF d tt bg en (tt - fr) fr [] none = res at *
  have HRS : Hid (_) := hres
  have hi2 : (tt : Int) ≤ (m : Int) := by omega
  have hi0 : (0 : Int) ≤ (tt : Int) := by omega
  have hb0 : Below w.heap.size w (w.alloc (.cells #[] 100)) := (Below.refl _ _).alloc (Nat.le_refl _) _
  have ho0 := OwnM.lit0 w w.heap.size (Nat.le_refl _)
  clear hres
  go_enter Tryz.func53, Tryz.ntmps53
  go_wp2
  go_loopw [9, 10, 11] (fun v o a wr => ∃ (f k : Nat) (out : List RngP) (op : Option Nat), k ≤ tt + 1 ∧ a = .int .i64 (k : Int) ∧ o = .int .i64 (opI op) ∧ tt ≤ f + k ∧ out.length ≤ k ∧ OwnM wr w.heap.size v out ∧ Below w.heap.size w wr ∧ Hid (spF d tt bg en f k out op = res) ∧ Hid (∀ s, op = some s → s ≤ tt)) (fun _ _ a _ => tt + 1 - (intOf a).toNat)
  case atStart => exact ⟨tt - fr, fr, [], none, by omega, rfl, rfl, by omega, by simp, ho0, hb0, HRS, fun s h => by cases h⟩
  case round =>
    obtain ⟨f, k, out, op, hk, rfl, rfl, hf, hol, hown, hbel, HR, HS⟩ := hrel
    obtain ⟨av, cv, rfl, -, -⟩ := hown.form
    by_cases hkt : k < tt
    · have hki : (k : Int) < (tt : Int) := by omega
      obtain ⟨f, rfl⟩ : ∃ f', f = f' + 1 := ⟨f - 1, by omega⟩
      have HR2 : Hid (_) := (Hy.out f k out op hkt).symm.trans HR.out
      obtain ⟨he1, he2⟩ := HEL.out k (by omega)
      have HE1 := HE.out wr hbel k (by omega)
      have HL1 := HLn.out wr hbel k (eoL (d.take tt) k) (by omega) he1 (by omega)
      have hkk := HKD.out (str (cutN d k (eoL (d.take tt) k)))
      generalize kdM bg en (str (cutN d k (eoL (d.take tt) k))) = kd at *
      generalize eoL (d.take tt) k = e at *
      go_wp2_with fail
      refine HE1.mono ?_
      rintro _ _ ⟨rfl, rfl⟩
      go_wp2_with fail
      refine HL1.mono ?_
      rintro _ _ ⟨rfl, rfl⟩
      clear HE1 HL1
      rcases hkk with rfl | rfl | rfl
      · have HR3 : Hid (spF d tt bg en f (e + 1) out op = res) := (((if_neg (by decide)).trans (if_neg (by decide)) : spS 0 k e tt out op (spF d tt bg en f) = spF d tt bg en f (e + 1) out op)).symm.trans HR2.out
        clear HR2 HR Hy Hn HE HLn HEL HKD HRS
        go_wp2
        go_roundw
        case rel => exact ⟨f, e + 1, out, op, by omega, by go_num, rfl, by omega, by omega, hown, hbel, HR3, HS⟩
        case measure => simp [intOf]; omega
      · have HR3 : Hid (spF d tt bg en f (e + 1) (cloM k out op) (some (if e + 1 ≤ tt then e + 1 else tt)) = res) := (((if_neg (by decide)).trans (if_pos rfl) : spS 1 k e tt out op (spF d tt bg en f) = spF d tt bg en f (e + 1) (cloM k out op) (some (if e + 1 ≤ tt then e + 1 else tt)))).symm.trans HR2.out
        have hmn : (if (e : Int) + 1 < (tt : Int) then (e : Int) + 1 else (tt : Int)) = ((if e + 1 ≤ tt then e + 1 else tt : Nat) : Int) := by split <;> split <;> omega
        have HQ : Hid ((if e + 1 ≤ tt then e + 1 else tt : Nat) ≤ tt) := by show _ ≤ _; split <;> omega
        clear HR2 HR Hy Hn HE HLn HEL HKD HRS
        generalize (if e + 1 ≤ tt then e + 1 else tt : Nat) = mn at *
        cases op with
        | none =>
          simp only [opI, cloM] at *
          go_wp2_with fail
          refine (l1Min_any _ _ _).mono ?_
          rintro _ _ ⟨rfl, rfl⟩
          rw [hmn]
          clear hmn
          go_wp2
          go_roundw
          case rel => exact ⟨f, e + 1, out, some mn, by omega, by go_num, rfl, by omega, by omega, hown, hbel, HR3, fun s h => by cases h; exact HQ.out⟩
          case measure => simp [intOf]; omega
        | some s =>
          have hmx : (if (k : Int) - 1 < (s : Int) then (s : Int) else (k : Int) - 1) = ((if s ≤ k - 1 then k - 1 else s : Nat) : Int) := by split <;> split <;> omega
          have hss := HS.out s rfl
          have hs0 : (0 : Int) ≤ (s : Int) := by omega
          have hz := hbel.size
          simp only [opI, cloM] at *
          go_wp2_with fail
          refine (l1Max_any _ _ _).mono ?_
          rintro _ _ ⟨rfl, rfl⟩
          rw [hmx]
          generalize (if s ≤ k - 1 then k - 1 else s : Nat) = mx at *
          clear hmx
          go_wp2_with (at_builtin; refine wpList_appM rfl _ _ rfl w.heap.size _ out rfl (hown.alloc _) ⟨wr.heap.size, 0, none⟩ ((s : Int), (mx : Int)) rfl (new_oneM rfl _ _) (by omega) (by simp; omega) ?_; intro v' w2 hown' hb'; obtain ⟨av', cv', rfl, -, -⟩ := hown'.form; rw [List.length_append, List.length_singleton] at hown')
          refine (l1Min_any _ _ _).mono ?_
          rintro _ _ ⟨rfl, rfl⟩
          rw [hmn]
          clear hmn
          go_wp2
          go_roundw
          case rel => exact ⟨f, e + 1, _, some mn, by omega, by go_num, rfl, by omega, by simp; omega, hown', hbel.trans (((Below.refl _ _).alloc hz _).trans hb'), HR3, fun s h => by cases h; exact HQ.out⟩
          case measure => simp [intOf]; omega
      · have HR3 : Hid (cloM k out op = res) := ((if_pos rfl : spS 2 k e tt out op (spF d tt bg en f) = cloM k out op)).symm.trans HR2.out
        clear HR2 HR Hy Hn HE HLn HEL HKD HRS
        cases op with
        | none =>
          simp only [opI, cloM] at *
          go_wp2
          go_ret
          exact ⟨_, rfl, by rw [← HR3.out]; exact hown, hbel⟩
        | some s =>
          have hmx : (if (k : Int) - 1 < (s : Int) then (s : Int) else (k : Int) - 1) = ((if s ≤ k - 1 then k - 1 else s : Nat) : Int) := by split <;> split <;> omega
          have hss := HS.out s rfl
          have hs0 : (0 : Int) ≤ (s : Int) := by omega
          have hz := hbel.size
          simp only [opI, cloM] at *
          go_wp2_with fail
          refine (l1Max_any _ _ _).mono ?_
          rintro _ _ ⟨rfl, rfl⟩
          rw [hmx]
          generalize (if s ≤ k - 1 then k - 1 else s : Nat) = mx at *
          clear hmx
          go_wp2_with (at_builtin; refine wpList_appM rfl _ _ rfl w.heap.size _ out rfl (hown.alloc _) ⟨wr.heap.size, 0, none⟩ ((s : Int), (mx : Int)) rfl (new_oneM rfl _ _) (by omega) (by simp; omega) ?_; intro v' w2 hown' hb'; obtain ⟨av', cv', rfl, -, -⟩ := hown'.form; rw [List.length_append, List.length_singleton] at hown')
          go_ret
          exact ⟨_, rfl, by rw [← HR3.out]; exact hown', hbel.trans (((Below.refl _ _).alloc hz _).trans hb')⟩
    · have hki : ¬ (k : Int) < (tt : Int) := by omega
      have HR3 : Hid (finM tt out op = res) := (Hn.out f k out op hkt).symm.trans HR.out
      clear HR Hy Hn HE HLn HEL HKD HRS
      cases op with
      | none =>
        simp only [opI, finM] at *
        go_wp2
        go_ret
        exact ⟨_, rfl, by rw [← HR3.out]; exact hown, hbel⟩
      | some s =>
        have hss := HS.out s rfl
        have hs0 : (0 : Int) ≤ (s : Int) := by omega
        have hz := hbel.size
        simp only [opI, finM] at *
        go_wp2_with (at_builtin; refine wpList_appM rfl _ _ rfl w.heap.size _ out rfl (hown.alloc _) ⟨wr.heap.size, 0, none⟩ ((s : Int), (tt : Int)) rfl (new_oneM rfl _ _) (by omega) (by simp; omega) ?_; intro v' w2 hown' hb'; obtain ⟨av', cv', rfl, -, -⟩ := hown'.form; rw [List.length_append, List.length_singleton] at hown')
        go_ret
        exact ⟨_, rfl, by rw [← HR3.out]; exact hown', hbel.trans (((Below.refl _ _).alloc hz _).trans hb')⟩
end Go.Proofs.YtaefomiofoakhaaGreatDoor

namespace Go.Proofs.YtaefomiofoakhaaGreatDoor
open Go.RowKit

/-- An append of one part that tells which row it grew. -/
theorem wpList_appPG {w : World} {ops : Array Oper} {rest : List Oper} {o : Oper} {a : Act} {Q : Exit → Act → World → Prop} (hgd : o.guard = none) (s x : Operand)
    (ho : o.op = .call { callee := .builtin .append, args := #[s, x], argTypes := #[25, 25] })
    (B : Nat) (v : Value) (l : List PtP) (hs : a.eval s = v) (hown : OwnP w B v l) (ad : Addr) (y : PtP) (hx : a.eval x = .slice (some ad) 1 1)
    (hnew : ∀ j u, (pcl y)[j]? = some u → w.cell? (ad.add j) = some u) (hsz : l.length + 1 ≤ 1048576) (hB : B ≤ w.heap.size)
    (h : ∀ v' w1, OwnP w1 B v' (l ++ [y]) → w.grownBy w1 v.ownBlock → wpList Tryz.prog ops Q rest (a.put o.dst v') w1) : wpList Tryz.prog ops Q (o :: rest) a w := by
  obtain ⟨i0, hi, hz0, hz1, hz2⟩ := info_parts infoP
  refine wpList_append_own w hgd s x 25 ho B 30 i0 zeroP 7 56 Tryz.underlying25 hi hz0 hz1 hz2 rfl (by decide) v l.length (pc l) hs hown ad 1 1 (pc [y]) hx (by rw [pc_len]; rfl) ?_ (pc_one [y]) (by unfold maxLen; omega) (by omega) hB ?_
  · intro j u hj
    have e : pc [y] = pcl y := by simp [pc]
    rw [e] at hj
    exact hnew j u hj
  · intro v' w1 hown' hgr _
    refine h v' w1 ?_ hgr
    unfold OwnP
    rw [pc_app, List.length_append]
    exact hown'
theorem OwnP.row_lt {w : World} {B : Nat} {v : Value} {l : List PtP} (h : OwnP w B v l) {g : Nat} (hg : v.ownBlock = some g) : B ≤ g ∧ g < w.heap.size := World.ownsRow.lt h g hg

end Go.Proofs.YtaefomiofoakhaaGreatDoor
