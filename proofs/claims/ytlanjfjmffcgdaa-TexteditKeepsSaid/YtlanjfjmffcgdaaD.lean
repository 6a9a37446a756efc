/-
  Shift of the program and of the specification. Conditions: the slice reads as a list of at most 20 edits with texts of at most 60 bytes.
-/
import Derived.Test.YtlanjfjmffcgdaaC
namespace Go.Proofs.Ytlanjfjmffcgdaa
open Go.RowKit
set_option linter.unusedSimpArgs false
set_option linter.unusedVariables false
def shf (at_ : Int) : List Ed → Int → Int
  | [], by_ => at_ + by_
  | x :: t, by_ => if x.2.1 ≤ at_ then shf at_ t (by_ + grw x) else if x.1 ≤ at_ then x.1 + by_ else shf at_ t by_
theorem shf_a {a b b' : Int} {xs : List Ed} {k : Nat} (h : k < xs.length) (h1 : xs[k].2.1 ≤ a) (hb : b' = b + grw xs[k]) : shf a (xs.drop k) b = shf a (xs.drop (k + 1)) b' := by
  rw [List.drop_eq_getElem_cons h, shf, if_pos h1, hb]
theorem shf_b {a b : Int} {xs : List Ed} {k : Nat} (h : k < xs.length) (h1 : ¬ xs[k].2.1 ≤ a) (h2 : xs[k].1 ≤ a) : shf a (xs.drop k) b = xs[k].1 + b := by
  rw [List.drop_eq_getElem_cons h, shf, if_neg h1, if_pos h2]
theorem shf_c {a b : Int} {xs : List Ed} {k : Nat} (h : k < xs.length) (h1 : ¬ xs[k].2.1 ≤ a) (h2 : ¬ xs[k].1 ≤ a) : shf a (xs.drop k) b = shf a (xs.drop (k + 1)) b := by
  rw [List.drop_eq_getElem_cons h, shf, if_neg h1, if_neg h2]
theorem shf_d {a b : Int} {xs : List Ed} {k : Nat} (h : xs.length ≤ k) : shf a (xs.drop k) b = a + b := by
  rw [List.drop_eq_nil_of_le h, shf]
def shfV (a : Int) (xs : List Ed) : Int := if a < 0 ∨ 2147483647 < a ∨ chkL 9223372036854775807 xs ≠ 0 then a else shf a xs 0
theorem insA_mem {n : Int} {xs : List Ed} (h : insA n xs = true) {k : Nat} (hk : k < xs.length) : 0 ≤ xs[k].1 ∧ xs[k].1 ≤ xs[k].2.1 ∧ xs[k].2.1 ≤ n := by
  unfold insA at h
  rw [List.all_eq_true] at h
  have := h _ (List.getElem_mem hk)
  unfold insB at this
  simp only [Bool.and_eq_true, decide_eq_true_eq] at this
  omega
theorem chk_zero {n : Int} {xs : List Ed} (h : chkL n xs = 0) : insA n xs = true ∧ ordB xs = true := by
  unfold chkL at h
  cases hi : insA n xs <;> cases ho : ordB xs <;> simp [hi, ho] at h ⊢
theorem chk_zero' {n : Int} {xs : List Ed} (h : insA n xs = true) (h' : ordB xs = true) : chkL n xs = 0 := by
  unfold chkL; rw [if_neg (by simp [h]), if_neg (by simp [h'])]
theorem chk_range (n : Int) (xs : List Ed) : chkL n xs = 0 ∨ chkL n xs = 1 ∨ chkL n xs = 6 := by
  unfold chkL; cases insA n xs <;> cases ordB xs <;> simp
set_option maxRecDepth 100000 in
set_option maxHeartbeats 4000000 in
theorem shift_main (a : Nat) (A : Option Addr) (c : Nat) (xs : List Ed) (ha : a ≤ 2147483647) (hx : xs.length ≤ 20) (ht : ∀ x ∈ xs, x.2.2.size ≤ 60) (hz : chkL 9223372036854775807 xs = 0) (w : World) (h : Re w w.heap.size A xs) :
    Calls Try.prog 17 #[.int .i64 (a : Int), .slice A xs.length c] w fun e w' => e = .returned (.int .i64 (shf a xs 0)) ∧ Below w.heap.size w w' := by
  have HR : Hid (shf a (xs.drop 0) 0 = shf a xs 0) := by show shf a (xs.drop 0) 0 = shf a xs 0; simp
  generalize shf a xs 0 = R at *
  have H := Lib.hid h
  have HI : Hid (∀ k (hk : k < xs.length), 0 ≤ xs[k].1 ∧ xs[k].1 ≤ xs[k].2.1 ∧ xs[k].2.1 ≤ 9223372036854775807 ∧ xs[k].2.2.size ≤ 60) := Lib.hid fun k hk => by
    obtain ⟨e0, e1, e2⟩ := insA_mem (chk_zero hz).1 hk
    exact ⟨e0, e1, e2, ht _ (List.getElem_mem hk)⟩
  have C0 := Lib.hid (check_any A c 9223372036854775807 xs (by omega) w h)
  rw [hz] at C0
  have q0 : decide ((a : Int) < 0) = false := decide_eq_false (by omega)
  have q1 : decide ((2147483647 : Int) < (a : Int)) = false := decide_eq_false (by omega)
  clear h hz ht
  go_enter Try.func17, Try.ntmps17
  go_wp2_with fail
  refine C0.out.mono ?_
  rintro e w1 ⟨rfl, hb1⟩
  have HB1 := Lib.hid hb1
  clear hb1 C0
  go_wp2_with fail
  go_loopw [5, 22, 26, 35] (fun g i x y wr => ∃ (k : Nat) (b : Int), i = .int .i64 (k : Int) ∧ g = .int .i64 b ∧ k ≤ xs.length ∧ -((k : Int) * 2147483648) ≤ b ∧ b ≤ (k : Int) * 60 ∧ Hid (shf a (xs.drop k) b = R) ∧ Hid (Below w.heap.size w wr)) (fun _ i _ _ _ => xs.length - (intOf i).toNat)
  case atStart => exact ⟨0, 0, rfl, rfl, by omega, by omega, by omega, HR, HB1⟩
  case round =>
    obtain ⟨k, b, rfl, rfl, hk, hb0, hb1, HS, HB⟩ := hrel
    by_cases hlt : k < xs.length
    · obtain ⟨ad, rfl, hl, c0, c1, c2⟩ := (H.out.below HB.out).at_ k hlt
      obtain ⟨i0, i1, i2, i3⟩ := HI.out k hlt
      have HA := Lib.hid (fun b' h1 hb => @shf_a (a : Int) b b' xs k hlt h1 hb)
      have HBb := Lib.hid (@shf_b (a : Int) b xs k hlt)
      have HC := Lib.hid (@shf_c (a : Int) b xs k hlt)
      generalize xs[k] = x at *
      obtain ⟨f, t, s⟩ := x
      simp only at i0 i1 i2 i3 c0 c1 c2
      have q8 : (k : Int) < (xs.length : Int) := by omega
      have HB2 := Lib.hid (HB.out.alloc HB.out.size (.cells #[.int .i64 f, .int .i64 t, .string s] 35))
      have CG : Hid (∀ W, Calls Try.prog 27 #[.agg #[.int .i64 f, .int .i64 t, .string s]] W fun e w' => e = .returned (.int .i64 ((s.size : Int) - (t - f))) ∧ Below W.heap.size W w') := Lib.hid fun W => growth_any f t s W i0 i1 i2 (by omega)
      by_cases h1 : t ≤ (a : Int)
      · have q2 : decide (t ≤ (a : Int)) = true := decide_eq_true h1
        obtain ⟨gr, hgr⟩ : ∃ gr, gr = (s.size : Int) - (t - f) := ⟨_, rfl⟩
        have g1 : -2147483648 ≤ gr := by omega
        have g2 : gr ≤ 60 := by omega
        have HS2 := Lib.hid (((HA.out (b + gr) h1 (by rw [hgr]; rfl)).symm).trans HS.out)
        rw [← hgr] at CG
        clear hgr HS HA HBb HC h1
        go_wp2_with fail
        refine (CG.out _).mono ?_
        rintro e w2 ⟨rfl, hb2⟩
        have HB3 := Lib.hid (HB2.out.trans (hb2.mono HB2.out.size))
        clear hb2 CG
        go_wp2_with fail
        go_roundw
        case rel => exact ⟨k + 1, b + gr, by go_num, rfl, by omega, by omega, by omega, HS2, HB3⟩
        case measure => simp [intOf]; omega
      · have q2 : decide (t ≤ (a : Int)) = false := decide_eq_false h1
        by_cases h2 : f ≤ (a : Int)
        · have q3 : decide (f ≤ (a : Int)) = true := decide_eq_true h2
          have HX := Lib.hid (((HBb.out h1 h2).symm).trans HS.out)
          clear HS HA HBb HC h1 CG
          go_wp2_with fail
          go_ret
          exact ⟨ret_int HX.out, HB2.out⟩
        · have q3 : decide (f ≤ (a : Int)) = false := decide_eq_false h2
          have HS2 := Lib.hid (((HC.out h1 h2).symm).trans HS.out)
          clear HS HA HBb HC h1 h2 CG
          go_wp2_with fail
          go_roundw
          case rel => exact ⟨k + 1, b, by go_num, rfl, by omega, by omega, by omega, HS2, HB2⟩
          case measure => simp [intOf]; omega
    · obtain rfl : k = xs.length := by omega
      have HX := Lib.hid ((shf_d (Nat.le_refl _)).symm.trans HS.out)
      clear HS
      go_wp2_with fail
      go_ret
      exact ⟨ret_int HX.out, HB.out⟩
theorem shfV_0 {a : Int} {xs : List Ed} (h : a < 0 ∨ 2147483647 < a ∨ chkL 9223372036854775807 xs ≠ 0) : shfV a xs = a := by unfold shfV; rw [if_pos h]
theorem shfV_1 {a : Int} {xs : List Ed} (h : ¬ (a < 0 ∨ 2147483647 < a ∨ chkL 9223372036854775807 xs ≠ 0)) : shfV a xs = shf a xs 0 := by unfold shfV; rw [if_neg h]
set_option maxRecDepth 100000 in
set_option maxHeartbeats 4000000 in
theorem shift_any (a : Int) (A : Option Addr) (c : Nat) (xs : List Ed) (hx : xs.length ≤ 20) (ht : ∀ x ∈ xs, x.2.2.size ≤ 60) (w : World) (h : Re w w.heap.size A xs) :
    Calls Try.prog 17 #[.int .i64 a, .slice A xs.length c] w fun e w' => e = .returned (.int .i64 (shfV a xs)) ∧ Below w.heap.size w w' := by
  by_cases h0 : a < 0
  · rw [shfV_0 (.inl h0)]
    have q0 : decide (a < 0) = true := decide_eq_true h0
    clear h0 h ht
    go_enter Try.func17, Try.ntmps17
    go_wp2_with fail
    go_ret
    exact ⟨rfl, Below.refl _ _⟩
  have q0 : decide (a < 0) = false := decide_eq_false h0
  by_cases h1 : 2147483647 < a
  · rw [shfV_0 (.inr (.inl h1))]
    have q1 : decide ((2147483647 : Int) < a) = true := decide_eq_true h1
    clear h0 h1 h ht
    go_enter Try.func17, Try.ntmps17
    go_wp2_with fail
    go_ret
    exact ⟨rfl, Below.refl _ _⟩
  have q1 : decide ((2147483647 : Int) < a) = false := decide_eq_false h1
  by_cases h2 : chkL 9223372036854775807 xs = 0
  · rw [shfV_1 (by omega)]
    obtain ⟨m, rfl⟩ := Int.eq_ofNat_of_zero_le (show 0 ≤ a by omega)
    exact shift_main m A c xs (by omega) hx ht h2 w h
  · rw [shfV_0 (.inr (.inr h2))]
    have C0 := Lib.hid (check_any A c 9223372036854775807 xs (by omega) w h)
    have q2 : (chkL 9223372036854775807 xs != 0) = true := by simp [h2]
    generalize chkL 9223372036854775807 xs = E at *
    clear h0 h1 h2 h ht
    go_enter Try.func17, Try.ntmps17
    go_wp2_with fail
    refine C0.out.mono ?_
    rintro e w1 ⟨rfl, hb1⟩
    go_wp2_with fail
    go_ret
    exact ⟨rfl, hb1⟩
set_option maxRecDepth 100000 in
set_option maxHeartbeats 4000000 in
theorem rshift_main (a : Nat) (A : Option Addr) (c : Nat) (xs : List Ed) (ha : a ≤ 2147483647) (hx : xs.length ≤ 20) (ht : ∀ x ∈ xs, x.2.2.size ≤ 60) (hz : chkL 9223372036854775807 xs = 0) (w : World) (h : Re w w.heap.size A xs) :
    Calls Try.prog 18 #[.int .i64 (a : Int), .slice A xs.length c] w fun e w' => e = .returned (.int .i64 (shf a xs 0)) ∧ Below w.heap.size w w' := by
  have HR : Hid (shf a (xs.drop 0) 0 = shf a xs 0) := by show shf a (xs.drop 0) 0 = shf a xs 0; simp
  generalize shf a xs 0 = R at *
  have H := Lib.hid h
  obtain ⟨z1, z2⟩ := chk_zero hz
  have HI : Hid (∀ k (hk : k < xs.length), 0 ≤ xs[k].1 ∧ xs[k].1 ≤ xs[k].2.1 ∧ xs[k].2.1 ≤ 9223372036854775807 ∧ xs[k].2.2.size ≤ 60) := Lib.hid fun k hk => by
    obtain ⟨e0, e1, e2⟩ := insA_mem z1 hk
    exact ⟨e0, e1, e2, ht _ (List.getElem_mem hk)⟩
  have C0 := Lib.hid (inside_any A c 9223372036854775807 xs (by omega) w h)
  have C1 : Hid (∀ W, Below w.heap.size w W → Calls Try.prog 30 #[.slice A xs.length c] W fun e w' => e = .returned (.bool (ordB xs)) ∧ Below W.heap.size W w') := Lib.hid fun W k => ordered_any A c xs (by omega) W (re_keep h k)
  rw [z1] at C0
  rw [z2] at C1
  have q0 : decide ((a : Int) < 0) = false := decide_eq_false (by omega)
  have q1 : decide ((2147483647 : Int) < (a : Int)) = false := decide_eq_false (by omega)
  clear h hz ht z1 z2
  go_enter Try.func18, Try.ntmps18
  go_wp2_with fail
  refine C0.out.mono ?_
  rintro e w1 ⟨rfl, hb1⟩
  have HB1 := Lib.hid hb1
  clear hb1 C0
  go_wp2_with fail
  refine (C1.out _ HB1.out).mono ?_
  rintro e w2 ⟨rfl, hb2⟩
  have HB2 := Lib.hid (HB1.out.trans (hb2.mono HB1.out.size))
  clear hb2 C1
  go_wp2_with fail
  go_loopw [5, 6] (fun g i wr => ∃ (k : Nat) (b : Int), i = .int .i64 (k : Int) ∧ g = .int .i64 b ∧ k ≤ xs.length ∧ -((k : Int) * 2147483648) ≤ b ∧ b ≤ (k : Int) * 60 ∧ Hid (shf a (xs.drop k) b = R) ∧ Hid (Below w.heap.size w wr)) (fun _ i _ => xs.length - (intOf i).toNat)
  case atStart => exact ⟨0, 0, rfl, rfl, by omega, by omega, by omega, HR, HB2⟩
  case round =>
    obtain ⟨k, b, rfl, rfl, hk, hb0, hb1, HS, HB⟩ := hrel
    by_cases hlt : k < xs.length
    · obtain ⟨ad, rfl, hl, c0, c1, c2⟩ := (H.out.below HB.out).at_ k hlt
      obtain ⟨i0, i1, i2, i3⟩ := HI.out k hlt
      have HA := Lib.hid (fun b' h1 hb => @shf_a (a : Int) b b' xs k hlt h1 hb)
      have HBb := Lib.hid (@shf_b (a : Int) b xs k hlt)
      have HC := Lib.hid (@shf_c (a : Int) b xs k hlt)
      generalize xs[k] = x at *
      obtain ⟨f, t, s⟩ := x
      simp only at i0 i1 i2 i3 c0 c1 c2
      have q8 : (k : Int) < (xs.length : Int) := by omega
      by_cases h1 : t ≤ (a : Int)
      · have q2 : decide (t ≤ (a : Int)) = true := decide_eq_true h1
        have q3 : decide (f ≤ (a : Int)) = true := decide_eq_true (by omega)
        have q4 : decide ((a : Int) < t) = false := decide_eq_false (by omega)
        have HS2 := Lib.hid (((HA.out (b + (s.size : Int) - (t - f)) h1 (by unfold grw; simp only; omega)).symm).trans HS.out)
        have w1' : IntKind.i64.wrap (b + (s.size : Int)) = b + (s.size : Int) := IntWalk.i64_in _ (by omega)
        have w2' : IntKind.i64.wrap (t - f) = t - f := IntWalk.i64_in _ (by omega)
        have w3' : IntKind.i64.wrap (b + (s.size : Int) - (t - f)) = b + (s.size : Int) - (t - f) := IntWalk.i64_in _ (by omega)
        have HBd : Hid (-(((k + 1 : Nat) : Int) * 2147483648) ≤ b + (s.size : Int) - (t - f) ∧ b + (s.size : Int) - (t - f) ≤ ((k + 1 : Nat) : Int) * 60) := Lib.hid (by omega)
        clear HS HA HBb HC h1
        go_wp2_with fail
        go_quiet (fail)
        have B1 := Lib.hid (bdrewN HB.out nq)
        clear w1' w2' w3'
        generalize wr.drewN nq = w3 at *
        go_wp2_with fail
        go_roundw
        case rel => exact ⟨k + 1, _, by go_num, rfl, by omega, HBd.out.1, HBd.out.2, HS2, B1⟩
        case measure => simp [intOf]; omega
      · have q2 : decide (t ≤ (a : Int)) = false := decide_eq_false h1
        have q4 : decide ((a : Int) < t) = true := decide_eq_true (by omega)
        by_cases h2 : f ≤ (a : Int)
        · have q3 : decide (f ≤ (a : Int)) = true := decide_eq_true h2
          have HX := Lib.hid (((HBb.out h1 h2).symm).trans HS.out)
          clear HS HA HBb HC h1
          go_wp2_with fail
          go_ret
          exact ⟨ret_int HX.out, HB.out⟩
        · have q3 : decide (f ≤ (a : Int)) = false := decide_eq_false h2
          have HS2 := Lib.hid (((HC.out h1 h2).symm).trans HS.out)
          clear HS HA HBb HC h1 h2
          go_wp2_with fail
          go_roundw
          case rel => exact ⟨k + 1, b, by go_num, rfl, by omega, by omega, by omega, HS2, HB⟩
          case measure => simp [intOf]; omega
    · obtain rfl : k = xs.length := by omega
      have HX := Lib.hid ((shf_d (Nat.le_refl _)).symm.trans HS.out)
      clear HS
      go_wp2_with fail
      go_ret
      exact ⟨ret_int HX.out, HB.out⟩
set_option maxRecDepth 100000 in
set_option maxHeartbeats 4000000 in
theorem rshift_any (a : Int) (A : Option Addr) (c : Nat) (xs : List Ed) (hx : xs.length ≤ 20) (ht : ∀ x ∈ xs, x.2.2.size ≤ 60) (w : World) (h : Re w w.heap.size A xs) :
    Calls Try.prog 18 #[.int .i64 a, .slice A xs.length c] w fun e w' => e = .returned (.int .i64 (shfV a xs)) ∧ Below w.heap.size w w' := by
  by_cases h0 : a < 0
  · rw [shfV_0 (.inl h0)]
    have q0 : decide (a < 0) = true := decide_eq_true h0
    clear h0 h ht
    go_enter Try.func18, Try.ntmps18
    go_wp2_with fail
    go_ret
    exact ⟨rfl, Below.refl _ _⟩
  have q0 : decide (a < 0) = false := decide_eq_false h0
  by_cases h1 : 2147483647 < a
  · rw [shfV_0 (.inr (.inl h1))]
    have q1 : decide ((2147483647 : Int) < a) = true := decide_eq_true h1
    clear h0 h1 h ht
    go_enter Try.func18, Try.ntmps18
    go_wp2_with fail
    go_ret
    exact ⟨rfl, Below.refl _ _⟩
  have q1 : decide ((2147483647 : Int) < a) = false := decide_eq_false h1
  by_cases h2 : chkL 9223372036854775807 xs = 0
  · rw [shfV_1 (by omega)]
    obtain ⟨m, rfl⟩ := Int.eq_ofNat_of_zero_le (show 0 ≤ a by omega)
    exact rshift_main m A c xs (by omega) hx ht h2 w h
  · rw [shfV_0 (.inr (.inr h2))]
    have C0 := Lib.hid (inside_any A c 9223372036854775807 xs (by omega) w h)
    have C1 : Hid (∀ W, Below w.heap.size w W → Calls Try.prog 30 #[.slice A xs.length c] W fun e w' => e = .returned (.bool (ordB xs)) ∧ Below W.heap.size W w') := Lib.hid fun W k => ordered_any A c xs (by omega) W (re_keep h k)
    cases hi : insA 9223372036854775807 xs with
    | false =>
      rw [hi] at C0
      clear h0 h1 h2 h ht hi
      go_enter Try.func18, Try.ntmps18
      go_wp2_with fail
      refine C0.out.mono ?_
      rintro e w1 ⟨rfl, hb1⟩
      go_wp2_with fail
      go_ret
      exact ⟨rfl, hb1⟩
    | true =>
      cases ho : ordB xs with
      | true => exact absurd (chk_zero' hi ho) h2
      | false =>
        rw [hi] at C0
        rw [ho] at C1
        clear h0 h1 h2 h ht hi ho
        go_enter Try.func18, Try.ntmps18
        go_wp2_with fail
        refine C0.out.mono ?_
        rintro e w1 ⟨rfl, hb1⟩
        have HB1 := Lib.hid hb1
        clear hb1
        go_wp2_with fail
        refine (C1.out _ HB1.out).mono ?_
        rintro e w2 ⟨rfl, hb2⟩
        have HB2 := Lib.hid (HB1.out.trans (hb2.mono HB1.out.size))
        clear hb2
        go_wp2_with fail
        go_ret
        exact ⟨rfl, HB2.out⟩
