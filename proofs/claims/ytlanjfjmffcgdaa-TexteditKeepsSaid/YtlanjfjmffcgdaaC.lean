/-
  Check of the program; inside, ordered, Check and Small of the specification. No condition but that the slices read as lists.
-/
import Derived.Test.YtlanjfjmffcgdaaB
namespace Go.Proofs.Ytlanjfjmffcgdaa
open Go.RowKit
set_option linter.unusedSimpArgs false
set_option linter.unusedVariables false
set_option maxRecDepth 100000 in
set_option maxHeartbeats 4000000 in
theorem inside_any (A : Option Addr) (c : Nat) (n : Int) (xs : List Ed) (hx : xs.length ≤ 1000000) (w : World) (h : Re w w.heap.size A xs) :
    Calls Try.prog 29 #[.int .i64 n, .slice A xs.length c] w fun e w' => e = .returned (.bool (insA n xs)) ∧ Below w.heap.size w w' := by
  have HR : Hid (insA n (xs.drop 0) = insA n xs) := by show insA n (xs.drop 0) = insA n xs; simp
  generalize insA n xs = R at *
  have H := Lib.hid h
  clear h
  go_enter Try.func29, Try.ntmps29
  go_wp2_with fail
  go_loopw [5] (fun i wr => ∃ k : Nat, i = .int .i64 (k : Int) ∧ k ≤ xs.length ∧ Hid (insA n (xs.drop k) = R) ∧ Hid (Below w.heap.size w wr)) (fun i _ => xs.length - (intOf i).toNat)
  case atStart => exact ⟨0, rfl, by omega, HR, Lib.hid (Below.refl _ _)⟩
  case round =>
    obtain ⟨k, rfl, hk, HS, HB⟩ := hrel
    by_cases hlt : k < xs.length
    · obtain ⟨ad, rfl, hl, c0, c1, c2⟩ := (H.out.below HB.out).at_ k hlt
      rw [insA_at hlt] at HS
      have H0 := Lib.hid (@insB_0 n xs[k])
      have H1 := Lib.hid (@insB_1 n xs[k])
      have H2 := Lib.hid (@insB_2 n xs[k])
      have H3 := Lib.hid (@insB_3 n xs[k])
      generalize insB n xs[k] = V at *
      generalize xs[k] = x at *
      obtain ⟨f, t, s⟩ := x
      have q8 : (k : Int) < (xs.length : Int) := by omega
      clear c2
      by_cases h0 : f < 0
      · have q0 : decide (f < 0) = true := decide_eq_true h0
        have HV := Lib.hid (H0.out h0)
        have HX : Hid (false = R) := Lib.hid (by have := HS.out; rw [HV.out, Bool.false_and] at this; exact this)
        clear h0 H0 H1 H2 H3 HS
        go_wp2_with fail
        go_quiet (fail)
        have B1 := Lib.hid (bdrewN HB.out nq)
        generalize wr.drewN nq = w1 at *
        go_wp2_with fail
        go_ret
        exact ⟨ret_bool HX.out, B1.out⟩
      have q0 : decide (f < 0) = false := decide_eq_false h0
      by_cases h1 : t < f
      · have q1 : decide (t < f) = true := decide_eq_true h1
        have HV := Lib.hid (H1.out h1)
        have HX : Hid (false = R) := Lib.hid (by have := HS.out; rw [HV.out, Bool.false_and] at this; exact this)
        clear h0 h1 H0 H1 H2 H3 HS
        go_wp2_with fail
        go_quiet (fail)
        have B1 := Lib.hid (bdrewN HB.out nq)
        generalize wr.drewN nq = w1 at *
        go_wp2_with fail
        go_ret
        exact ⟨ret_bool HX.out, B1.out⟩
      have q1 : decide (t < f) = false := decide_eq_false h1
      by_cases h2 : n < t
      · have q2 : decide (n < t) = true := decide_eq_true h2
        have HV := Lib.hid (H2.out h2)
        have HX : Hid (false = R) := Lib.hid (by have := HS.out; rw [HV.out, Bool.false_and] at this; exact this)
        clear h0 h1 h2 H0 H1 H2 H3 HS
        go_wp2_with fail
        go_quiet (fail)
        have B1 := Lib.hid (bdrewN HB.out nq)
        generalize wr.drewN nq = w1 at *
        go_wp2_with fail
        go_ret
        exact ⟨ret_bool HX.out, B1.out⟩
      have q2 : decide (n < t) = false := decide_eq_false h2
      have HV := Lib.hid (H3.out h0 h1 h2)
      have HS2 : Hid (insA n (xs.drop (k + 1)) = R) := Lib.hid (by have := HS.out; rw [HV.out, Bool.true_and] at this; exact this)
      clear h0 h1 h2 H0 H1 H2 H3 HS HV
      go_wp2_with fail
      go_quiet (fail)
      have B1 := Lib.hid (bdrewN HB.out nq)
      generalize wr.drewN nq = w1 at *
      go_wp2_with fail
      go_roundw
      case rel => exact ⟨k + 1, by go_num, by omega, HS2, B1⟩
      case measure => simp [intOf]; omega
    · obtain rfl : k = xs.length := by omega
      have HI : Hid (true = R) := Lib.hid (by rw [← HS.out]; exact (insA_end (Nat.le_refl _)).symm)
      clear HS
      go_wp2_with fail
      go_ret
      exact ⟨ret_bool HI.out, HB.out⟩
set_option maxRecDepth 100000 in
set_option maxHeartbeats 4000000 in
theorem ordered_any (A : Option Addr) (c : Nat) (xs : List Ed) (hx : xs.length ≤ 1000000) (w : World) (h : Re w w.heap.size A xs) :
    Calls Try.prog 30 #[.slice A xs.length c] w fun e w' => e = .returned (.bool (ordB xs)) ∧ Below w.heap.size w w' := by
  have HR2 : Hid (ordB (xs.drop 0) = ordB xs) := by show ordB (xs.drop 0) = ordB xs; simp
  generalize ordB xs = R2 at *
  have H := Lib.hid h
  clear h
  go_enter Try.func30, Try.ntmps30
  go_wp2_with fail
  go_loopw [3] (fun i wr => ∃ q j : Nat, i = .int .i64 (q : Int) ∧ Hid (q = j + 1) ∧ (j + 1 ≤ xs.length ∨ j = 0) ∧ Hid (ordB (xs.drop j) = R2) ∧ Hid (Below w.heap.size w wr)) (fun i _ => xs.length - (intOf i).toNat)
  case atStart => exact ⟨1, 0, rfl, Lib.hid rfl, by omega, HR2, Lib.hid (Below.refl _ _)⟩
  case round =>
    obtain ⟨q, j, rfl, HQ, hj, HS, HB⟩ := hrel
    by_cases hlt2 : q < xs.length
    · have hlt3 : j + 1 < xs.length := by have := HQ.out; omega
      obtain ⟨ad, rfl, hl, c0, c1, c2⟩ := (H.out.below HB.out).at_ (j + 1) hlt3
      obtain ⟨ad', e, hl', d0, d1, d2⟩ := (H.out.below HB.out).at_ j (by omega)
      injection e with e
      subst e
      rw [ordB_at hlt3] at HS
      generalize xs[j] = x at *
      generalize xs[j + 1] = y at *
      rw [← HQ.out] at c0
      have q5 : (1 : Int) ≤ (q : Int) := by have := HQ.out; omega
      have q6 : ((q : Int) - 1).toNat = j := by have := HQ.out; omega
      have q7 : (q : Int) - 1 < (xs.length : Int) := by omega
      have q8 : (q : Int) < (xs.length : Int) := by omega
      clear hlt3 c1 c2 d0 d2
      by_cases h0 : y.1 < x.2.1
      · have q1 : decide (y.1 < x.2.1) = true := decide_eq_true h0
        have HX : Hid (false = R2) := Lib.hid (by have := HS.out; rw [decide_eq_false (p := x.2.1 ≤ y.1) (by omega), Bool.false_and] at this; exact this)
        clear h0 HS hj
        go_wp2_with fail
        go_quiet (fail)
        have B1 := Lib.hid (bdrewN HB.out nq)
        generalize wr.drewN nq = w1 at *
        go_wp2_with fail
        go_ret
        exact ⟨ret_bool HX.out, B1.out⟩
      · have q1 : decide (y.1 < x.2.1) = false := decide_eq_false h0
        have HS2 : Hid (ordB (xs.drop (j + 1)) = R2) := Lib.hid (by have := HS.out; rw [decide_eq_true (p := x.2.1 ≤ y.1) (by omega), Bool.true_and] at this; exact this)
        clear h0 HS hj
        go_wp2_with fail
        go_quiet (fail)
        have B1 := Lib.hid (bdrewN HB.out nq)
        generalize wr.drewN nq = w1 at *
        go_wp2_with fail
        go_roundw
        case rel => exact ⟨q + 1, j + 1, by go_num, Lib.hid (by rw [HQ.out]), by have := HQ.out; omega, HS2, B1⟩
        case measure => simp [intOf]; omega
    · have HO : Hid (true = R2) := Lib.hid (by rw [← HS.out]; exact (ordB_end (by have := HQ.out; omega)).symm)
      clear HS hj
      go_wp2_with fail
      go_ret
      exact ⟨ret_bool HO.out, HB.out⟩
set_option maxRecDepth 100000 in
set_option maxHeartbeats 1000000 in
theorem Check_any (s : ByteArray) (A : Option Addr) (c : Nat) (xs : List Ed) (hx : xs.length ≤ 1000000) (w : World) (h : Re w w.heap.size A xs) :
    Calls Try.prog 15 #[.string s, .slice A xs.length c] w fun e w' => e = .returned (.int .i64 (chkL (s.size : Int) xs)) ∧ Below w.heap.size w w' := by
  have C0 := Lib.hid (check_any A c (s.size : Int) xs hx w h)
  clear h
  go_enter Try.func15, Try.ntmps15
  go_wp2_with fail
  refine C0.out.mono ?_
  rintro e w1 ⟨rfl, hb⟩
  go_wp2_with fail
  go_ret
  exact ⟨rfl, hb⟩
set_option maxRecDepth 100000 in
set_option maxHeartbeats 1000000 in
theorem rCheck_any (s : ByteArray) (A : Option Addr) (c : Nat) (xs : List Ed) (hx : xs.length ≤ 1000000) (w : World) (h : Re w w.heap.size A xs) :
    Calls Try.prog 16 #[.string s, .slice A xs.length c] w fun e w' => e = .returned (.int .i64 (chkL (s.size : Int) xs)) ∧ Below w.heap.size w w' := by
  have C0 := Lib.hid (inside_any A c (s.size : Int) xs hx w h)
  have C1 : Hid (∀ W, Below w.heap.size w W → Calls Try.prog 30 #[.slice A xs.length c] W fun e w' => e = .returned (.bool (ordB xs)) ∧ Below W.heap.size W w') := Lib.hid fun W k => ordered_any A c xs hx W (re_keep h k)
  have HC1 : Hid (insA s.size xs = false → (1 : Int) = chkL s.size xs) := Lib.hid fun e => by unfold chkL; rw [if_pos e]
  have HC2 : Hid (insA s.size xs = true → ordB xs = false → (6 : Int) = chkL s.size xs) := Lib.hid fun e e2 => by unfold chkL; rw [if_neg (by simp [e]), if_pos e2]
  have HC3 : Hid (insA s.size xs = true → ordB xs = true → (0 : Int) = chkL s.size xs) := Lib.hid fun e e2 => by unfold chkL; rw [if_neg (by simp [e]), if_neg (by simp [e2])]
  clear h
  generalize chkL s.size xs = C at *
  cases hi : insA s.size xs with
  | false =>
    have HX := Lib.hid (HC1.out hi)
    rw [hi] at C0
    clear HC1 HC2 HC3 hi
    go_enter Try.func16, Try.ntmps16
    go_wp2_with fail
    refine C0.out.mono ?_
    rintro e w1 ⟨rfl, hb⟩
    go_wp2_with fail
    go_ret
    exact ⟨ret_int HX.out, hb⟩
  | true =>
    rw [hi] at C0
    cases ho : ordB xs with
    | false =>
      have HX := Lib.hid (HC2.out hi ho)
      rw [ho] at C1
      clear HC1 HC2 HC3 hi ho
      go_enter Try.func16, Try.ntmps16
      go_wp2_with fail
      refine C0.out.mono ?_
      rintro e w1 ⟨rfl, hb⟩
      go_wp2_with fail
      refine (C1.out _ hb).mono ?_
      rintro e w2 ⟨rfl, hb2⟩
      go_wp2_with fail
      go_ret
      exact ⟨ret_int HX.out, hb.trans (hb2.mono hb.size)⟩
    | true =>
      have HX := Lib.hid (HC3.out hi ho)
      rw [ho] at C1
      clear HC1 HC2 HC3 hi ho
      go_enter Try.func16, Try.ntmps16
      go_wp2_with fail
      refine C0.out.mono ?_
      rintro e w1 ⟨rfl, hb⟩
      go_wp2_with fail
      refine (C1.out _ hb).mono ?_
      rintro e w2 ⟨rfl, hb2⟩
      go_wp2_with fail
      go_ret
      exact ⟨ret_int HX.out, hb.trans (hb2.mono hb.size)⟩
/-- small texts and edits -/
def smB (n : Nat) (xs : List Ed) : Bool := xs.all (fun x => decide (x.2.2.size ≤ 60)) && (decide (n ≤ 400) && decide (xs.length ≤ 20))
def tx6 (xs : List Ed) : Bool := xs.all (fun x => decide (x.2.2.size ≤ 60))
theorem tx6_at {xs : List Ed} {k : Nat} (h : k < xs.length) : tx6 (xs.drop k) = (decide (xs[k].2.2.size ≤ 60) && tx6 (xs.drop (k + 1))) := by
  rw [List.drop_eq_getElem_cons h]; rfl
theorem tx6_end {xs : List Ed} {k : Nat} (h : xs.length ≤ k) : tx6 (xs.drop k) = true := by rw [List.drop_eq_nil_of_le h]; rfl
theorem sm_facts {n : Nat} {xs : List Ed} (h : smB n xs = true) : n ≤ 400 ∧ xs.length ≤ 20 ∧ ∀ x ∈ xs, x.2.2.size ≤ 60 := by
  unfold smB at h
  simp only [Bool.and_eq_true, List.all_eq_true, decide_eq_true_eq] at h
  exact ⟨h.2.1, h.2.2, h.1⟩
set_option maxRecDepth 100000 in
set_option maxHeartbeats 4000000 in
theorem small_any (s : ByteArray) (A : Option Addr) (c : Nat) (xs : List Ed) (hx : xs.length ≤ 9223372036854775807) (w : World) (h : Re w w.heap.size A xs) :
    Calls Try.prog 11 #[.string s, .slice A xs.length c] w fun e w' => e = .returned (.bool (smB s.size xs)) ∧ w = w' := by
  have HR : Hid (tx6 (xs.drop 0) = tx6 xs) := by show tx6 (xs.drop 0) = tx6 xs; simp
  have HF : Hid (smB s.size xs = (tx6 xs && (decide (s.size ≤ 400) && decide (xs.length ≤ 20)))) := Lib.hid rfl
  generalize smB s.size xs = F at *
  generalize tx6 xs = R at *
  have H := Lib.hid h
  clear h
  go_enter Try.func11, Try.ntmps11
  go_wp2_with fail
  go_loop [5] (fun i => ∃ k : Nat, i = .int .i64 (k : Int) ∧ k ≤ xs.length ∧ Hid (tx6 (xs.drop k) = R)) (fun i => xs.length - (intOf i).toNat)
  case atStart => exact ⟨0, rfl, by omega, HR⟩
  case round =>
    obtain ⟨k, rfl, hk, HS⟩ := hrel
    by_cases hlt : k < xs.length
    · obtain ⟨ad, rfl, hl, c0, c1, c2⟩ := H.out.at_ k hlt
      rw [tx6_at hlt] at HS
      generalize xs[k] = x at *
      obtain ⟨f, t, u⟩ := x
      have q8 : (k : Int) < (xs.length : Int) := by omega
      clear c0 c1
      by_cases h0 : 60 < u.size
      · have q0 : decide ((60 : Int) < (u.size : Int)) = true := decide_eq_true (by omega)
        have HX : Hid (false = F) := Lib.hid (by have := HS.out; rw [decide_eq_false (p := u.size ≤ 60) (by omega), Bool.false_and] at this; rw [HF.out, ← this]; rfl)
        clear h0 HS HF
        go_wp2_with fail
        go_ret
        exact ⟨ret_bool HX.out, rfl⟩
      · have q0 : decide ((60 : Int) < (u.size : Int)) = false := decide_eq_false (by omega)
        have HS2 : Hid (tx6 (xs.drop (k + 1)) = R) := Lib.hid (by have := HS.out; rw [decide_eq_true (p := u.size ≤ 60) (by omega), Bool.true_and] at this; exact this)
        clear h0 HS
        go_wp2_with fail
        go_round
        case rel => exact ⟨k + 1, by go_num, by omega, HS2⟩
        case measure => simp [intOf]; omega
    · obtain rfl : k = xs.length := by omega
      have HX : Hid ((decide (s.size ≤ 400) && decide (xs.length ≤ 20)) = F) := Lib.hid (by have := HS.out; rw [tx6_end (Nat.le_refl _)] at this; rw [HF.out, ← this]; rfl)
      clear HS HF
      by_cases h0 : s.size ≤ 400
      · by_cases h1 : xs.length ≤ 20
        · rw [decide_eq_true h0, decide_eq_true h1] at HX
          have q0 : decide ((s.size : Int) ≤ 400) = true := decide_eq_true (by omega)
          have q1 : decide ((xs.length : Int) ≤ 20) = true := decide_eq_true (by omega)
          go_wp2_with fail
          go_ret
          exact ⟨ret_bool HX.out, rfl⟩
        · rw [decide_eq_true h0, decide_eq_false h1] at HX
          have q0 : decide ((s.size : Int) ≤ 400) = true := decide_eq_true (by omega)
          have q1 : decide ((xs.length : Int) ≤ 20) = false := decide_eq_false (by omega)
          go_wp2_with fail
          go_ret
          exact ⟨ret_bool HX.out, rfl⟩
      · rw [decide_eq_false h0] at HX
        have q0 : decide ((s.size : Int) ≤ 400) = false := decide_eq_false (by omega)
        go_wp2_with fail
        go_ret
        exact ⟨ret_bool HX.out, rfl⟩
