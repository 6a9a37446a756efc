/-
  The laws TexteditApplies, TexteditInverts, TexteditLines: their walks. Conditions: the slice reads as a list.
-/
import Derived.Test.YtlanjfjmffcgdaaY
namespace Go.Proofs.Ytlanjfjmffcgdaa
open Go.RowKit
set_option linter.unusedSimpArgs false
set_option linter.unusedVariables false
set_option maxRecDepth 100000 in
set_option maxHeartbeats 4000000 in
theorem law_applies (s : ByteArray) (A : Option Addr) (c : Nat) (xs : List Ed) (hx : xs.length ≤ 9223372036854775807) (w : World) (h : Re w w.heap.size A xs) :
    Calls Try.prog 3 #[.string s, .slice A xs.length c] w fun e w' => e = .returned (.bool true) ∧ Below w.heap.size w w' := by
  have CS := Lib.hid (small_any s A c xs hx w h)
  cases hs : smB s.size xs with
  | false =>
    rw [hs] at CS
    clear hs h
    go_enter Try.func3, Try.ntmps3
    go_wp2_with fail
    refine CS.out.mono ?_
    rintro e w' ⟨rfl, rfl⟩
    go_wp2_with fail
    refine (example_any _).mono ?_
    rintro e w1 ⟨rfl, hb1⟩
    go_wp2_with fail
    go_ret
    exact ⟨rfl, hb1⟩
  | true =>
    rw [hs] at CS
    obtain ⟨h400, h20, h60⟩ := sm_facts hs
    have C1 := Lib.hid (apply_any s A c xs (by omega) h20 (fun x hx => by have := h60 x hx; omega) w h)
    have C2 : Hid (∀ W, Below w.heap.size w W → Calls Try.prog 14 #[.string s, .slice A xs.length c] W fun e w' => e = .returned (.tuple #[.string (appS s xs), .int .i64 (appE s xs)]) ∧ Below W.heap.size W w') := Lib.hid fun W k => rapply_any s A c xs (by omega) h20 h60 W (re_keep h k)
    have C3 : Hid (∀ W, Below w.heap.size w W → Calls Try.prog 15 #[.string s, .slice A xs.length c] W fun e w' => e = .returned (.int .i64 (chkL (s.size : Int) xs)) ∧ Below W.heap.size W w') := Lib.hid fun W k => Check_any s A c xs (by omega) W (re_keep h k)
    have C4 : Hid (∀ W, Below w.heap.size w W → Calls Try.prog 16 #[.string s, .slice A xs.length c] W fun e w' => e = .returned (.int .i64 (chkL (s.size : Int) xs)) ∧ Below W.heap.size W w') := Lib.hid fun W k => rCheck_any s A c xs (by omega) W (re_keep h k)
    generalize chkL (s.size : Int) xs = R at *
    generalize appS s xs = RS at *
    generalize appE s xs = RE at *
    have e1 : (RS.toList == RS.toList) = true := by simp
    clear hs h h60
    go_enter Try.func3, Try.ntmps3
    go_wp2_with fail
    refine CS.out.mono ?_
    rintro e w' ⟨rfl, rfl⟩
    go_wp2_with fail
    refine C1.out.mono ?_
    rintro e w1 ⟨rfl, hb1⟩
    have B1 := Lib.hid hb1
    clear hb1 C1
    go_wp2_with fail
    refine (C2.out _ B1.out).mono ?_
    rintro e w2 ⟨rfl, hb2⟩
    have B2 := Lib.hid (B1.out.trans (hb2.mono B1.out.size))
    clear hb2 C2 B1
    go_wp2_with fail
    refine (C3.out _ B2.out).mono ?_
    rintro e w3 ⟨rfl, hb3⟩
    have B3 := Lib.hid (B2.out.trans (hb3.mono B2.out.size))
    clear hb3 C3 B2
    go_wp2_with fail
    refine (C4.out _ B3.out).mono ?_
    rintro e w4 ⟨rfl, hb4⟩
    have B4 := Lib.hid (B3.out.trans (hb4.mono B3.out.size))
    clear hb4 C4 B3
    go_wp2_with fail
    refine (example_any _).mono ?_
    rintro e w5 ⟨rfl, hb5⟩
    have B5 := Lib.hid (B4.out.trans (hb5.mono B4.out.size))
    clear hb5
    go_wp2_with fail
    go_ret
    exact ⟨rfl, B5.out⟩
set_option maxRecDepth 100000 in
set_option maxHeartbeats 4000000 in
theorem law_inverts (s : ByteArray) (A : Option Addr) (c : Nat) (xs : List Ed) (hx : xs.length ≤ 9223372036854775807) (w : World) (h : Re w w.heap.size A xs) :
    Calls Try.prog 5 #[.string s, .slice A xs.length c] w fun e w' => e = .returned (.bool true) ∧ Below w.heap.size w w' := by
  have CS := Lib.hid (small_any s A c xs hx w h)
  cases hs : smB s.size xs with
  | false =>
    rw [hs] at CS
    clear hs h
    go_enter Try.func5, Try.ntmps5
    go_wp2_with fail
    refine CS.out.mono ?_
    rintro e w' ⟨rfl, rfl⟩
    go_wp2_with fail
    refine (example_any _).mono ?_
    rintro e w1 ⟨rfl, hb1⟩
    go_wp2_with fail
    go_ret
    exact ⟨rfl, hb1⟩
  | true =>
    rw [hs] at CS
    obtain ⟨h400, h20, h60⟩ := sm_facts hs
    have C1 := Lib.hid (invert_any s A c xs (by omega) h20 h60 w h)
    have C2 : Hid (∀ W, Below w.heap.size w W → Calls Try.prog 20 #[.string s, .slice A xs.length c] W (InvP W (appE s xs) (invV s xs))) := Lib.hid fun W k => rinvert_any s A c xs (by omega) h20 h60 W (re_keep h k)
    have HLN : Hid ((invV s xs).length ≤ 20) := Lib.hid (by
      unfold invV
      split
      · simp
      · have key : ∀ (b : Int) (l : List Ed), (invF s b l).length = l.length := by
          intro b l
          induction l generalizing b with
          | nil => rfl
          | cons x t ih => simp [invF, ih]
        rw [key]; exact h20)
    generalize invV s xs = R at *
    generalize appE s xs = RE at *
    clear hs h h60
    go_enter Try.func5, Try.ntmps5
    go_wp2_with fail
    refine CS.out.mono ?_
    rintro e w' ⟨rfl, rfl⟩
    go_wp2_with fail
    refine C1.out.mono ?_
    rintro e w1 ⟨v1, rfl, o1, hb1⟩
    have B1 := Lib.hid hb1
    obtain ⟨A1, k1, rfl, _, r1⟩ := re_own o1
    have R1 := Lib.hid r1
    clear hb1 C1 o1 r1
    go_wp2_with fail
    refine (C2.out _ B1.out).mono ?_
    rintro e w2 ⟨v2, rfl, o2, hb2⟩
    have B2 := Lib.hid (B1.out.trans (hb2.mono B1.out.size))
    obtain ⟨A2, k2, rfl, _, r2⟩ := re_own o2
    have C3 := Lib.hid (same_any A1 A2 k1 k2 R R (by have := HLN.out; omega) (by have := HLN.out; omega) w2 (re_keep R1.out hb2) r2)
    rw [(samB_iff R R).2 rfl] at C3
    clear hb2 C2 B1 o2 r2 R1
    go_wp2_with fail
    refine C3.out.mono ?_
    rintro e w3 ⟨rfl, hb3⟩
    have B3 := Lib.hid (B2.out.trans (hb3.mono B2.out.size))
    clear hb3 C3 B2
    go_wp2_with fail
    refine (example_any _).mono ?_
    rintro e w5 ⟨rfl, hb5⟩
    have B5 := Lib.hid (B3.out.trans (hb5.mono B3.out.size))
    clear hb5
    go_wp2_with fail
    go_ret
    exact ⟨rfl, B5.out⟩
theorem lin_own {w : World} {B : Nat} {v : Value} {R : List ByteArray} (h : w.ownsRow B 9 1 v R.length (strs R)) : ∃ A c, v = .slice A R.length c ∧ R.length ≤ c ∧ ∀ k (hk : k < R.length), ∃ ad, A = some ad ∧ ad.block < w.heap.size ∧ w.cell? (ad.add k) = some (.string R[k]) := by
  rcases id h.2 with ⟨hv, hn⟩ | ⟨g, cap, cur, hv, hbg, hg, hle, r⟩
  · exact ⟨none, 0, by rw [hv, hn], by omega, fun k hk => by omega⟩
  · subst hv
    refine ⟨some ⟨g, 0, none⟩, cap, rfl, hle, fun k hk => ⟨_, rfl, (Array.getElem?_eq_some_iff.1 hg).1, ?_⟩⟩
    exact h.cells rfl k _ (by simp [strs, List.getElem?_eq_getElem hk])
set_option maxRecDepth 100000 in
set_option maxHeartbeats 4000000 in
theorem law_lines (s : ByteArray) (w : World) : Calls Try.prog 8 #[.string s] w fun e w' => e = .returned (.bool true) ∧ Below w.heap.size w w' := by
  by_cases hs : s.size ≤ 400
  · have q0 : decide ((400 : Int) < (s.size : Int)) = false := decide_eq_false (by omega)
    have C1 := Lib.hid (lines_any s (by omega) w)
    have C2 : Hid (∀ W, Calls Try.prog 23 #[.string s] W (LinP W (linL s))) := Lib.hid fun W => rlines_any s (by omega) W
    have HL : Hid ((linL s).length ≤ 401) := Lib.hid (by unfold linL linP; have := lin_len s (s.size - 0) 0 0; omega)
    generalize linL s = R at *
    clear hs
    go_enter Try.func8, Try.ntmps8
    go_wp2_with fail
    refine C1.out.mono ?_
    rintro e w1 ⟨v1, rfl, o1, hb1⟩
    obtain ⟨A1, k1, rfl, _, r1⟩ := lin_own o1
    have R1 := Lib.hid r1
    have B1 := Lib.hid hb1
    clear hb1 o1 r1 C1
    go_wp2_with fail
    refine (C2.out _).mono ?_
    rintro e w2 ⟨v2, rfl, o2, hb2⟩
    obtain ⟨A2, k2, rfl, _, r2⟩ := lin_own o2
    have R2 := Lib.hid r2
    have B2 := Lib.hid (B1.out.trans (hb2.mono B1.out.size))
    have S1 : Hid (∀ k (hk : k < R.length), ∃ ad, A1 = some ad ∧ ad.block < w2.heap.size ∧ w2.cell? (ad.add k) = some (.string R[k])) := Lib.hid fun k hk => by
      obtain ⟨ad, e, hl, c⟩ := R1.out k hk
      exact ⟨ad, e, Nat.lt_of_lt_of_le hl hb2.size, cell_keep c hb2⟩
    have q1 : ((R.length : Int) != (R.length : Int)) = false := by simp
    clear hb2 o2 r2 C2 R1 B1
    go_wp2_with fail
    go_loopw [5] (fun i wr => ∃ k : Nat, i = .int .i64 (k : Int) ∧ k ≤ R.length ∧ Hid (∃ n, wr = w2.drewN n)) (fun i _ => R.length - (intOf i).toNat)
    case atStart => exact ⟨0, rfl, by omega, Lib.hid ⟨0, rfl⟩⟩
    case round =>
      obtain ⟨k, rfl, hk, HW⟩ := hrel
      obtain ⟨n, rfl⟩ := HW.out
      by_cases hlt : k < R.length
      · obtain ⟨ad1, rfl, _, c1⟩ := S1.out k hlt
        obtain ⟨ad2, rfl, _, c2⟩ := R2.out k hlt
        have d1 : (w2.drewN n).cell? (ad1.add k) = some (.string R[k]) := c1
        have d2 : (w2.drewN n).cell? (ad2.add k) = some (.string R[k]) := c2
        have q8 : (k : Int) < (R.length : Int) := by omega
        have hRl : R.length ≤ 401 := HL.out
        obtain ⟨x, hx⟩ : ∃ x, R[k] = x := ⟨_, rfl⟩
        rw [hx] at d1 d2
        clear hx
        have e1 : (x.toList == x.toList) = true := by simp
        clear c1 c2 HW
        obtain ⟨wn, hwn⟩ : ∃ wn, w2.drewN n = wn := ⟨_, rfl⟩
        rw [hwn] at d1 d2 ⊢
        go_wp2_with fail
        go_quiet (fail)
        go_wp2_with fail
        go_roundw
        case rel => exact ⟨k + 1, by go_num, by omega, Lib.hid ⟨n + nq, by rw [← hwn, World.drewN_drewN]⟩⟩
        case measure => simp [intOf]; omega
      · obtain rfl : k = R.length := by omega
        have B3 := Lib.hid (bdrewN B2.out n)
        clear HW
        generalize w2.drewN n = w3 at *
        go_wp2_with fail
        refine (example_any _).mono ?_
        rintro e w5 ⟨rfl, hb5⟩
        have B5 := Lib.hid (B3.out.trans (hb5.mono B3.out.size))
        clear hb5
        go_wp2_with fail
        go_ret
        exact ⟨rfl, B5.out⟩
  · have q0 : decide ((400 : Int) < (s.size : Int)) = true := decide_eq_true (by omega)
    clear hs
    go_enter Try.func8, Try.ntmps8
    go_wp2_with fail
    refine (example_any _).mono ?_
    rintro e w1 ⟨rfl, hb1⟩
    go_wp2_with fail
    go_ret
    exact ⟨rfl, hb1⟩
