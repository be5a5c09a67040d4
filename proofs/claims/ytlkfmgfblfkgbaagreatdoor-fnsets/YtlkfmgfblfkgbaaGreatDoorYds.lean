/- Texts of sets, sets and numbers that the model draws: small ones, in memory of the draw's own; nothing that was there is turned; sources of at most 1048576 bytes. -/
import Derived.Test.YtlkfmgfblfkgbaaGreatDoorYdr
import Derived.Test.YtlkfmgfblfkgbaaGreatDoorYtv
import Derived.Test.YtlkfmgfblfkgbaaGreatDoorYex
import Derived.Test.YtlkfmgfblfkgbaaGreatDoorCv
import Derived.Laws.IdiomStrings
namespace Go.Proofs.YtlkfmgfblfkgbaaGreatDoor
open Go.RowKit

set_option maxHeartbeats 1600000 in
set_option maxRecDepth 100000 in
theorem drawSetText_any (a : Option Addr) (n cap : Nat) (l : List Nat) (w : World) (hl : l.length = n) (hr : Rd w a l) (hB : IsB l) (hn : n ≤ 1048576) :
    Calls Tryz.prog 14 #[.slice a n cap] w fun e w' => ∃ (v : Value) (out : List YgP), e = .returned v ∧ OwnY w' w.heap.size v out ∧ out.length ≤ 9 ∧ Below w.heap.size w w' := by
  go_enter Tryz.func14, Tryz.ntmps14
  go_wp2_with fail
  refine (l1Source_any a n cap l _ hl hr hB hn).mono ?_
  rintro e w1 ⟨rfl, hs1, hb1⟩
  obtain ⟨_, hz1, _⟩ := id hs1
  go_wp2_with fail
  refine (l11Bent_any _ _ 0 _ hs1 (by omega)).mono ?_
  rintro e w2 ⟨v, out, rfl, ho2, hol, -, hs2, hb2⟩
  have ho := ho2.low (C := w.heap.size) (by omega)
  have hB2 := hb1.trans hb2
  obtain ⟨av, cv, ev, _, _⟩ := ho.form
  subst ev
  clear hs1 hs2 hb1 hb2 ho2
  go_wp2
  go_ret
  exact ⟨_, out, rfl, ho, hol, hB2⟩

theorem OwnI.keptGY {w w' : World} {B b : Nat} {v : Value} {l : List Int} (h : OwnI w B v l) (hg : w.grownBy w' (some b)) (hb : b < B) : OwnI w' B v l := by
  refine World.ownsRow.kept h hg ?_
  cases hv : v.ownBlock with
  | none => exact .inl rfl
  | some k => right; intro e; have := (h.lt k hv).1; simp at e; omega

set_option maxHeartbeats 3200000 in
set_option maxRecDepth 100000 in
theorem drawSetOf_any (a : Option Addr) (n cap : Nat) (l : List Nat) (w : World) (hl : l.length = n) (hr : Rd w a l) (hB : IsB l) (hn : n ≤ 1048576) :
    Calls Tryz.prog 9 #[.slice a n cap] w fun e w' => ∃ (v : Value) (out : List Int), e = .returned v ∧ OwnI w' w.heap.size v out ∧ out.length ≤ 10 ∧ Below w.heap.size w w' := by
  go_enter Tryz.func9, Tryz.ntmps9
  go_wp2_with fail
  refine (l1Source_any a n cap l _ hl hr hB hn).mono ?_
  rintro e w1 ⟨rfl, hs1, hb1⟩
  obtain ⟨_, hz1, _⟩ := id hs1
  obtain ⟨b, hb⟩ : ∃ b, w.heap.size = b := ⟨_, rfl⟩
  rw [hb] at hs1 hb1 hz1 ⊢
  have hs1' : Src (w1.alloc (.cells #[] 2)) b b 0 := hs1.below ((Below.refl _ _).alloc (by omega) _)
  have hown0 : OwnI (w1.alloc (.cells #[] 2)) (b + 1) (.slice (some ⟨w1.heap.size, 0, none⟩) 0 0) [] := OwnI.lit w1 _ (by omega) #[] [] rfl (by decide)
  have hb1' : Below b w (w1.alloc (.cells #[] 2)) := hb1.alloc (by omega) _
  go_wp2_with fail
  refine (l1Next_any b b 0 9 _ hs1' (by omega) (by omega) (by omega)).mono ?_
  rintro e w2 ⟨r, rfl, r0, r1, _, hs2, hg2⟩
  have r9 := r1 (by omega)
  have hz2 : w1.heap.size + 1 ≤ w2.heap.size := by have := hg2.size; simpa using this
  have ho2 := hown0.keptGY hg2 (by omega)
  have hB2 : Below b w w2 := hb1'.trans ((Below.refl _ _).grown hg2 (by simp; omega) (by intro k hk; simp at hk; omega))
  obtain ⟨K, hK⟩ : ∃ K : Nat, r = (K : Int) := ⟨r.toNat, by omega⟩
  subst hK
  clear hs1 hb1 hs1' hown0 hb1' hg2 r1
  go_wp2
  go_loopw [4, 5, 6] (fun v nv kv wr => ∃ (j : Nat) (x : Int) (out : List Int), kv = .int .i64 (j : Int) ∧ nv = .int .i64 x ∧ 0 ≤ x ∧ x ≤ 6 * (K : Int) - 6 * (j : Int) ∧ j + out.length = K ∧ OwnI wr (b + 1) v out ∧ Src wr b b (1 + out.length) ∧ Below b w wr)
    (fun _ _ kv _ => (intOf kv).toNat)
  case atStart => exact ⟨K, 0, [], rfl, rfl, by omega, by omega, rfl, ho2, hs2, hB2⟩
  case round =>
    obtain ⟨j, x, out, rfl, rfl, hx0, hx1, hj, hown, hsr, hbel⟩ := hrel
    clear ho2 hs2 hB2
    obtain ⟨_, hbr, _⟩ := id hsr
    by_cases hj0 : 0 < j
    · have hj' : (j : Int) > 0 := by omega
      obtain ⟨j', rfl⟩ : ∃ j', j = j' + 1 := ⟨j - 1, by omega⟩
      have hs3' : Src (wr.alloc (.cells #[.int .i64 0, .int .i64 0, .int .i64 1, .int .i64 5] 2)) b b (1 + out.length) := hsr.below ((Below.refl _ _).alloc (by omega) _)
      have ho3' := hown.alloc (.cells #[.int .i64 0, .int .i64 0, .int .i64 1, .int .i64 5] 2)
      have hb3' : Below b w (wr.alloc (.cells #[.int .i64 0, .int .i64 0, .int .i64 1, .int .i64 5] 2)) := hbel.alloc (by omega) _
      go_wp2_with fail
      refine (l1Pick_any b b _ _ 4 4 [0, 0, 1, 5] _ hs3' (by omega) rfl (by omega) (by omega) (nums_new rfl) (by omega)).mono ?_
      rintro e w4 ⟨p, rfl, hp, hs4, hg4⟩
      have hp' : 0 ≤ p ∧ p ≤ 5 := by simp at hp; omega
      have ho4 := ho3'.keptGY hg4 (by omega)
      have hz4 : wr.heap.size + 1 ≤ w4.heap.size := by have := hg4.size; simpa using this
      have hb4 : Below b w w4 := hb3'.trans ((Below.refl _ _).grown hg4 (by simp; omega) (by intro k hk; simp at hk; omega))
      have HS4 : Hid (Src w4 b b (1 + (out.length + 1))) := hs4.more (by omega)
      clear hown hsr hbel hs3' ho3' hb3' hg4 hp hs4
      go_wp2_with (at_builtin; refine wpList_app_newI rfl _ _ rfl (b + 1) _ out rfl ho4 1 1 [x + 1 + p] rfl rfl rfl (by omega) (by omega) ?_; intro v' w5 ho5 hb5)
      have hs5 : Src w5 b b (1 + (out.length + 1)) := Src.below HS4.out hb5
      have hB5 := hb4.trans (hb5.mono (by omega))
      clear HS4 ho4 hb5
      go_roundw
      case rel => exact ⟨j', x + 1 + p, out ++ [x + 1 + p], by go_num, rfl, by omega, by omega, by rw [List.length_append]; simp; omega, ho5, by rw [List.length_append]; exact hs5, hB5⟩
      case measure => simp [intOf]
    · obtain rfl : j = 0 := by omega
      have hj' : ¬ ((0 : Nat) : Int) > 0 := by omega
      go_wp2_with fail
      refine (l1Chance_any b b _ 10 _ hsr (by omega) (by omega) (by omega)).mono ?_
      rintro e w4 ⟨q, rfl, hs4, hg4⟩
      have ho4 := hown.keptGY hg4 (by omega)
      have hz4 := hg4.size
      have hb4 : Below b w w4 := hbel.trans ((Below.refl _ _).grown hg4 (by omega) (by intro k hk; simp at hk; omega))
      clear hown hsr hbel hg4
      cases q with
      | false =>
        have ho := ho4.lowY (C := b) (by omega)
        go_wp2
        go_ret
        exact ⟨_, out, rfl, by rw [hb]; exact ho, by omega, by rw [hb]; exact hb4⟩
      | true =>
        have hs5' : Src (w4.alloc (.cells #[.int .i64 0, .int .i64 999, .int .i64 1000, .int .i64 1] 2)) b b _ := hs4.below ((Below.refl _ _).alloc (by omega) _)
        have ho5' := ho4.alloc (.cells #[.int .i64 0, .int .i64 999, .int .i64 1000, .int .i64 1] 2)
        have hb5' : Below b w (w4.alloc (.cells #[.int .i64 0, .int .i64 999, .int .i64 1000, .int .i64 1] 2)) := hb4.alloc (by omega) _
        go_wp2_with fail
        refine (l1Pick_any b b _ _ 4 4 [0, 999, 1000, 1] _ hs5' (by omega) rfl (by omega) (by omega) (nums_new rfl) (by omega)).mono ?_
        rintro e w6 ⟨p, rfl, hp, hs6, hg6⟩
        have ho6 := ho5'.keptGY hg6 (by omega)
        have hz6 : w4.heap.size + 1 ≤ w6.heap.size := by have := hg6.size; simpa using this
        have hb6 : Below b w w6 := hb5'.trans ((Below.refl _ _).grown hg6 (by simp; omega) (by intro k hk; simp at hk; omega))
        clear ho4 hs4 hb4 hs5' ho5' hb5' hg6 hp hs6
        go_wp2_with (at_builtin; refine wpList_app_newI rfl _ _ rfl (b + 1) _ out rfl ho6 1 1 [p] rfl rfl rfl (by omega) (by omega) ?_; intro v' w7 ho7 hb7)
        have ho := ho7.lowY (C := b) (by omega)
        have hB7 := hb6.trans (hb7.mono (by omega))
        go_ret
        exact ⟨_, out ++ [p], rfl, by rw [hb]; exact ho, by rw [List.length_append]; simp; omega, by rw [hb]; exact hB7⟩

/-- How a draw of a text ends. -/
def TxE11 (w : World) (e : Ending) (w' : World) : Prop := ∃ t : List Nat, e = .returned (.string (str t)) ∧ IsB t ∧ t.length ≤ 64 ∧ Below w.heap.size w w'
theorem txE11 {w w' : World} {t : List Nat} (h1 : IsB t) (h2 : t.length ≤ 64) (h3 : Below w.heap.size w w') : TxE11 w (.returned (.string (str t))) w' := ⟨t, rfl, h1, h2, h3⟩
theorem Rd.takeY {w : World} {g k : Nat} {l : List Nat} (h : Rd w (some ⟨g, 0, none⟩) l) : Rd w (some ⟨g, 0, none⟩) (l.take k) := by
  rcases h with h | ⟨b, off, e, hlt, hc⟩
  · left; rw [h]; simp
  · right
    refine ⟨b, off, e, hlt, fun i hi => ?_⟩
    have hi' : i < l.length := by rw [List.length_take] at hi; omega
    rw [hc i hi', nth_get hi', nth_get hi, List.getElem_take]
theorem txY_pos {o : List YgP} (h : 1 ≤ o.length) : 1 ≤ (txY o).length := by
  have hw : ∀ p : YgP, 1 ≤ (wdY p).length := by
    intro p
    have hn : ∀ n : Int, 1 ≤ (wdN n).length := by
      intro n
      unfold wdN
      split
      · decide
      · unfold dgF
        split
        · simp
        · rw [List.length_append]; simp
    unfold wdY
    split
    · exact hn _
    · rw [List.length_append, List.length_append]; have := hn p.1; omega
  cases o with
  | nil => simp at h
  | cons p r =>
    show 1 ≤ (jnT (wdY p :: r.map wdY)).length
    simp only [jnT, List.length_append]
    have := hw p
    omega
theorem txY_isB {o : List YgP} (h : rfA o = true) : IsB (txY o) := by
  have hN : ∀ n : Int, bty n 0 999 = true → ∀ x ∈ wdN n, x < 256 := by
    intro n hb x hx
    have hb' := of_decide_eq_true hb
    have hd : ∀ d m : Nat, m < 10 ^ (d + 1) → ∀ x ∈ dgF d m, x < 256 := by
      intro d
      induction d with
      | zero => intro m hm x hx; simp only [dgF, List.mem_singleton] at hx; simp at hm; omega
      | succ d ih =>
        intro m hm x hx
        unfold dgF at hx
        split at hx
        · simp only [List.mem_singleton] at hx; omega
        · rcases List.mem_append.1 hx with hx | hx
          · exact ih (m / 10) (by rw [Nat.pow_succ] at hm; omega) x hx
          · simp only [List.mem_singleton] at hx; omega
    unfold wdN at hx
    split at hx
    · simp only [List.mem_singleton] at hx; omega
    · exact hd 2 n.toNat (by simp; omega) x hx
  have hY : ∀ p ∈ o, ∀ x ∈ wdY p, x < 256 := by
    intro p hp x hx
    have hb := Bool.and_eq_true_iff.1 (List.all_eq_true.1 h p hp)
    unfold wdY at hx
    split at hx
    · exact hN _ hb.1 x hx
    · rcases List.mem_append.1 hx with hx | hx
      · rcases List.mem_append.1 hx with hx | hx
        · exact hN _ hb.1 x hx
        · simp at hx; omega
      · exact hN _ hb.2 x hx
  have gen : ∀ ws : List (List Nat), (∀ w ∈ ws, ∀ x ∈ w, x < 256) → ∀ x ∈ jnT ws, x < 256 := by
    intro ws h x hx
    cases ws with
    | nil => cases hx
    | cons y r =>
      rcases List.mem_append.1 hx with hx | hx
      · exact h y (List.mem_cons_self ..) x hx
      · obtain ⟨z, hz, hxz⟩ := List.mem_flatten.1 hx
        obtain ⟨v, hv, rfl⟩ := List.mem_map.1 hz
        rcases List.mem_append.1 hxz with hx | hx
        · simp at hx; omega
        · exact h v (List.mem_cons_of_mem _ hv) x hx
  exact fun x hx => gen _ (fun w hw => by obtain ⟨p, hp, rfl⟩ := List.mem_map.1 hw; exact hY p hp) x hx

set_option maxHeartbeats 3200000 in
set_option maxRecDepth 100000 in
theorem drawParseSet_any (a : Option Addr) (n cap : Nat) (l : List Nat) (w : World) (hl : l.length = n) (hr : Rd w a l) (hB : IsB l) (hn : n ≤ 1048576) :
    Calls Tryz.prog 5 #[.slice a n cap] w fun e w' => TxE11 w e w' := by
  go_enter Tryz.func5, Tryz.ntmps5
  go_wp2_with fail
  refine (l1Source_any a n cap l _ hl hr hB hn).mono ?_
  rintro e w1 ⟨rfl, hs1, hb1⟩
  obtain ⟨_, hz1, _⟩ := id hs1
  clear hl hr hB hn
  go_wp2_with fail
  refine (l11Draw_any _ _ 0 _ hs1 (by omega)).mono ?_
  rintro e w4 ⟨v, out, rfl, ho4, hol, h13, hs4, hb4⟩
  obtain ⟨ho1, hrf⟩ := h13 rfl
  obtain ⟨a4, c4, ev, -, -⟩ := ho4.form
  subst ev
  have hbw4 : w.heap.size < w4.heap.size := hs4.2.1
  clear hs1 h13
  go_wp2_with fail
  refine (l11Text_any a4 out.length c4 out _ rfl ho4.rd.2 (by omega) hrf).mono ?_
  rintro e w5 ⟨rfl, hb5⟩
  have hs5 := hs4.below (hb5.mono (by omega))
  have hel : (txY out).length ≤ 64 := by have := txY_len out; omega
  have hp1 := txY_pos ho1
  have hB5 := txY_isB hrf
  have hz5 := hb5.size
  have hbw : Below w.heap.size w w5 := hb1.trans (hb4.trans (hb5.mono (by omega)))
  clear hs4 ho4 hb5 hb4 hb1 hol ho1 hrf
  generalize txY out = t at *
  have hsz : (str t).size = t.length := str_size t
  have hcvt := fun wx => run_bytes_of_string (P := Tryz.prog) wx 9 22 5 (str t) Tryz.underlying9 Tryz.underlying22 Tryz.underlying5
  rw [hsz] at hcvt
  go_wp2_with fail
  have hcp := grownCap_ge w5 t.length 0 5
  clear hcvt
  generalize grownCap w5 t.length 0 5 = cp at *
  have hbW : Below w5.heap.size w5 (w5.alloc (.cells (bytesRow (str t) cp) 5 ((bytesRow (str t) cp).size, (bytesRow (str t) cp).size + 1))).drew := ((Below.refl _ _).alloc (Nat.le_refl _) _).drew
  have hcvW : Cv (w5.alloc (.cells (bytesRow (str t) cp) 5 ((bytesRow (str t) cp).size, (bytesRow (str t) cp).size + 1))).drew w5.heap.size t.length cp t := Cv.conv w5 t hB5 cp hcp
  have hsW := hs5.below (hbW.mono (by omega))
  have hbE := hbw.trans (hbW.mono (by omega))
  have hzW := hcvW.2.2.1
  generalize (w5.alloc (.cells (bytesRow (str t) cp) 5 ((bytesRow (str t) cp).size, (bytesRow (str t) cp).size + 1))).drew = W at *
  have hgb : w.heap.size < w5.heap.size := by omega
  generalize w5.heap.size = g at *
  clear hs5 hbw hbW hsz
  obtain ⟨b, hb⟩ : ∃ b, w.heap.size = b := ⟨_, rfl⟩
  rw [hb] at hsW hbE hgb hz1 hbw4 ⊢
  refine (l1Next_any b b _ 5 _ hsW (by omega) (by omega) (by omega)).mono ?_
  rintro e w6 ⟨r, rfl, r0, r1, _, hs6, hg6⟩
  have hcv6 := hcvW.kept hg6 (by omega)
  have hz6 := hg6.size
  have hb6 : Below b w w6 := hbE.trans ((Below.refl _ _).grown hg6 (by omega) (by intro k hk; simp at hk; omega))
  obtain ⟨N, hN⟩ : ∃ N, t.length = N := ⟨_, rfl⟩
  rw [hN] at hcv6 hel hp1 hcp ⊢
  have hg6' : g < w6.heap.size := hcv6.2.2.1
  clear hsW hcvW hbE hg6 r1
  by_cases hr0 : r = 0
  · go_wp2_with fail
    refine (l1Next_any b b _ (N : Int) _ hs6 (by omega) (by omega) (by omega)).mono ?_
    rintro e w7 ⟨i, rfl, i0, i1, _, hs7, hg7⟩
    have hi := i1 (by omega)
    obtain ⟨j, rfl⟩ := Int.eq_ofNat_of_zero_le i0
    have hjN : j < N := by omega
    have hcv7 := hcv6.kept hg7 (by omega)
    have hz7 := hg7.size
    have hb7 : Below b w w7 := hb6.trans ((Below.refl _ _).grown hg7 (by omega) (by intro k hk; simp at hk; omega))
    have hs8' : Src (w7.alloc (.cells #[.int .i64 44, .int .i64 58, .int .i64 42, .int .i64 48, .int .i64 120] 2)) b b _ := hs7.below ((Below.refl _ _).alloc (by omega) _)
    have hcv8' := hcv7.below (C := w7.heap.size) ((Below.refl _ _).alloc (Nat.le_refl _) (.cells #[.int .i64 44, .int .i64 58, .int .i64 42, .int .i64 48, .int .i64 120] 2)) (by omega)
    have hb8' : Below b w (w7.alloc (.cells #[.int .i64 44, .int .i64 58, .int .i64 42, .int .i64 48, .int .i64 120] 2)) := hb7.alloc (by omega) _
    clear hs6 hcv6 hg7 i1 hb6 hs7 hcv7 hb7
    go_wp2_with fail
    refine (l1Pick_any b b _ _ 5 5 [44, 58, 42, 48, 120] _ hs8' (by omega) rfl (by omega) (by omega) (nums_new rfl) (by omega)).mono ?_
    rintro e w9 ⟨p, rfl, hp, hs9, hg9⟩
    have hcv9 := hcv8'.kept hg9 (by omega)
    have hb9 : Below b w w9 := hb8'.trans ((Below.refl _ _).grown hg9 (by simp; omega) (by intro k hk; simp at hk; omega))
    obtain ⟨q, rfl, hq⟩ : ∃ q : Nat, p = (q : Int) ∧ q < 256 := ⟨p.toNat, by simp at hp; omega⟩
    have hqw : IntKind.u8.wrap (q : Int) = (q : Int) := by simp [IntKind.wrap, IntKind.bits, IntKind.signed]; omega
    have hput := hcv9.put (y := q) hjN
    have hBp : IsB (t.set j q) := fun x hx => by
      rcases List.mem_or_eq_of_mem_set hx with h | rfl
      · exact hB5 x h
      · exact hq
    have hst := fun c' => run_str (cap := c') (n := N) (by rw [List.length_set]; exact hN) hput.rd
    have hc9 := hcv9.2.2.2.1 j hjN
    have hf9 := (hcv9.2.2.2.2 j (by omega)).2
    have hbP : Below b w (w9.setCell ⟨g, j, none⟩ (.int .u8 (q : Int))) := hb9.setCell (by show b ≤ g; omega) _
    have hjN' : (j : Int) < (N : Int) := by omega
    have HE : Hid (TxE11 w (.returned (.string (str (t.set j q)))) (w9.setCell ⟨g, j, none⟩ (.int .u8 (q : Int)))) := txE11 hBp (by rw [List.length_set]; omega) (by rw [hb]; exact hbP)
    clear hs8' hcv8' hb8' hg9 hs9 hput hcv9 hb9 hbP hp
    generalize str (t.set j q) = sE at *
    generalize nth t j = x0 at *
    go_wp2
    go_ret
    exact HE.out
  · by_cases hr1 : r = 1
    · go_wp2_with fail
      refine (l1Next_any b b _ (N : Int) _ hs6 (by omega) (by omega) (by omega)).mono ?_
      rintro e w7 ⟨i, rfl, i0, i1, _, hs7, hg7⟩
      have hi := i1 (by omega)
      obtain ⟨j, rfl⟩ := Int.eq_ofNat_of_zero_le i0
      have hjN : j < N := by omega
      have hcv7 := hcv6.kept hg7 (by omega)
      have hz7 := hg7.size
      have hb7 : Below b w w7 := hb6.trans ((Below.refl _ _).grown hg7 (by omega) (by intro k hk; simp at hk; omega))
      have hst := fun c' => run_str (cap := c') (n := j) (l := t.take j) (by rw [List.length_take]; omega) (Rd.takeY (k := j) hcv7.rd)
      have hBt : IsB (t.take j) := fun x hx => hB5 x (List.mem_of_mem_take hx)
      have HE : Hid (TxE11 w (.returned (.string (str (t.take j)))) w7) := txE11 hBt (by rw [List.length_take]; omega) (by rw [hb]; exact hb7)
      have hjc : (j : Int) ≤ (cp : Int) := by omega
      clear hs6 hcv6 hg7 i1 hb6 hs7 hcv7 hb7
      generalize str (t.take j) = sE at *
      go_wp2
      go_ret
      exact HE.out
    · have e0 : (r == 0) = false := beq_eq_false_iff_ne.2 hr0
      have e1 : (r == 1) = false := beq_eq_false_iff_ne.2 hr1
      have hst := fun c' => run_str (cap := c') (n := N) hN hcv6.rd
      have HE : Hid (TxE11 w (.returned (.string (str t))) w6) := txE11 hB5 (by omega) (by rw [hb]; exact hb6)
      clear hs6 hcv6 hb6
      generalize str t = sE at *
      go_wp2
      go_ret
      exact HE.out
end Go.Proofs.YtlkfmgfblfkgbaaGreatDoor
