/-
  The specification's reader: an escape, behind its backslash. Condition: the reader has not failed.
-/
import Derived.Test.YtaocgibfabofhaaDoorQ4
namespace Go.Proofs.YtaocgibfabofhaaDoor
open Go.RowKit
set_option linter.unusedSimpArgs false
set_option linter.unusedVariables false
theorem is_yes (g : Nat) (s : ByteArray) (p c : Nat) (w : World) (h : Rq w g s p false) (hp : p ≤ s.size) (hs : s.size ≤ 65536) (hc : 0 < c) (he : ch s p = c) :
    Calls Tryd.prog 50 #[.pointer (some ⟨g, 0, none⟩), .int .u8 (c : Int)] w fun e w' => e = .returned (.bool true) ∧ RqP g s (p + 1) false w w' := by
  have := ris_any g s p c w h hp hs hc
  rw [if_pos he, beq_iff_eq.2 he] at this
  exact this
theorem is_no (g : Nat) (s : ByteArray) (p c : Nat) (w : World) (h : Rq w g s p false) (hp : p ≤ s.size) (hs : s.size ≤ 65536) (hc : 0 < c) (he : ch s p ≠ c) :
    Calls Tryd.prog 50 #[.pointer (some ⟨g, 0, none⟩), .int .u8 (c : Int)] w fun e w' => e = .returned (.bool false) ∧ RqP g s p false w w' := by
  have := ris_any g s p c w h hp hs hc
  rw [if_neg he, beq_eq_false_iff_ne.2 he] at this
  exact this
/-- the byte that an escape at p stands for -/
def escB (s : ByteArray) (p : Nat) : UInt8 :=
  if ch s p = 34 then 34 else if ch s p = 92 then 92 else if ch s p = 110 then 10 else if ch s p = 116 then 9 else if ch s p = 114 then 13
  else UInt8.ofNat (16 * (digV (ch s (p + 1))).toNat + (digV (ch s (p + 2))).toNat)
set_option maxRecDepth 100000 in
set_option maxHeartbeats 8000000 in
theorem resc_any (g : Nat) (s : ByteArray) (p : Nat) (w : World) (h : Rq w g s p false) (hp : p ≤ s.size) (hs : s.size ≤ 65536) :
    Calls Tryd.prog 85 #[.pointer (some ⟨g, 0, none⟩)] w fun e w' => (∃ v, e = .returned (.string v) ∧ v.size ≤ 1 ∧ ((escS s p).1 = true → v = ⟨#[escB s p]⟩)) ∧ RqP g s (escS s p).2 (!(escS s p).1) w w' := by
  have P := Lib.hid (RqP.start h)
  have Y := Lib.hid (fun c w h hc he => is_yes g s p c w h hp hs hc he)
  have NO := Lib.hid (fun c w h hc he => is_no g s p c w h hp hs hc he)
  clear h
  by_cases c34 : ch s p = 34
  · have HE : Hid (escB s p = 34) := Lib.hid (by unfold escB; simp [c34])
    rw [escS_1 (by omega)]
    have HN34 := Lib.hid c34
    clear c34
    go_enter Tryd.func85, Tryd.ntmps85
    go_wp2_with fail
    refine (Y.out 34 _ P.out.2 (by omega) HN34.out).mono ?_
    rintro e w1 ⟨rfl, hb1⟩
    have P1 := Lib.hid (P.out.trans hb1)
    clear hb1
    go_wp2_with fail
    go_ret
    exact ⟨⟨_, rfl, (by first | decide | exact Nat.le_refl 1), fun _ => by rw [HE.out]⟩, P1.out⟩
  have HN34 := Lib.hid c34
  by_cases c92 : ch s p = 92
  · have HE : Hid (escB s p = 92) := Lib.hid (by unfold escB; simp [c92])
    rw [escS_1 (by omega)]
    have HN92 := Lib.hid c92
    clear c34 c92
    go_enter Tryd.func85, Tryd.ntmps85
    go_wp2_with fail
    refine (NO.out 34 _ P.out.2 (by omega) HN34.out).mono ?_
    rintro e w1 ⟨rfl, hb1⟩
    have P1 := Lib.hid (P.out.trans hb1)
    clear hb1
    go_wp2_with fail
    refine (Y.out 92 _ P1.out.2 (by omega) HN92.out).mono ?_
    rintro e w2 ⟨rfl, hb2⟩
    have P2 := Lib.hid (P1.out.trans hb2)
    clear hb2
    clear P1
    go_wp2_with fail
    go_ret
    exact ⟨⟨_, rfl, (by first | decide | exact Nat.le_refl 1), fun _ => by rw [HE.out]⟩, P2.out⟩
  have HN92 := Lib.hid c92
  by_cases c110 : ch s p = 110
  · have HE : Hid (escB s p = 10) := Lib.hid (by unfold escB; simp [c110])
    rw [escS_1 (by omega)]
    have HN110 := Lib.hid c110
    clear c34 c92 c110
    go_enter Tryd.func85, Tryd.ntmps85
    go_wp2_with fail
    refine (NO.out 34 _ P.out.2 (by omega) HN34.out).mono ?_
    rintro e w1 ⟨rfl, hb1⟩
    have P1 := Lib.hid (P.out.trans hb1)
    clear hb1
    go_wp2_with fail
    refine (NO.out 92 _ P1.out.2 (by omega) HN92.out).mono ?_
    rintro e w2 ⟨rfl, hb2⟩
    have P2 := Lib.hid (P1.out.trans hb2)
    clear hb2
    clear P1
    go_wp2_with fail
    refine (Y.out 110 _ P2.out.2 (by omega) HN110.out).mono ?_
    rintro e w3 ⟨rfl, hb3⟩
    have P3 := Lib.hid (P2.out.trans hb3)
    clear hb3
    clear P2
    go_wp2_with fail
    go_ret
    exact ⟨⟨_, rfl, (by first | decide | exact Nat.le_refl 1), fun _ => by rw [HE.out]⟩, P3.out⟩
  have HN110 := Lib.hid c110
  by_cases c116 : ch s p = 116
  · have HE : Hid (escB s p = 9) := Lib.hid (by unfold escB; simp [c116])
    rw [escS_1 (by omega)]
    have HN116 := Lib.hid c116
    clear c34 c92 c110 c116
    go_enter Tryd.func85, Tryd.ntmps85
    go_wp2_with fail
    refine (NO.out 34 _ P.out.2 (by omega) HN34.out).mono ?_
    rintro e w1 ⟨rfl, hb1⟩
    have P1 := Lib.hid (P.out.trans hb1)
    clear hb1
    go_wp2_with fail
    refine (NO.out 92 _ P1.out.2 (by omega) HN92.out).mono ?_
    rintro e w2 ⟨rfl, hb2⟩
    have P2 := Lib.hid (P1.out.trans hb2)
    clear hb2
    clear P1
    go_wp2_with fail
    refine (NO.out 110 _ P2.out.2 (by omega) HN110.out).mono ?_
    rintro e w3 ⟨rfl, hb3⟩
    have P3 := Lib.hid (P2.out.trans hb3)
    clear hb3
    clear P2
    go_wp2_with fail
    refine (Y.out 116 _ P3.out.2 (by omega) HN116.out).mono ?_
    rintro e w4 ⟨rfl, hb4⟩
    have P4 := Lib.hid (P3.out.trans hb4)
    clear hb4
    clear P3
    go_wp2_with fail
    go_ret
    exact ⟨⟨_, rfl, (by first | decide | exact Nat.le_refl 1), fun _ => by rw [HE.out]⟩, P4.out⟩
  have HN116 := Lib.hid c116
  by_cases c114 : ch s p = 114
  · have HE : Hid (escB s p = 13) := Lib.hid (by unfold escB; simp [c114])
    rw [escS_1 (by omega)]
    have HN114 := Lib.hid c114
    clear c34 c92 c110 c116 c114
    go_enter Tryd.func85, Tryd.ntmps85
    go_wp2_with fail
    refine (NO.out 34 _ P.out.2 (by omega) HN34.out).mono ?_
    rintro e w1 ⟨rfl, hb1⟩
    have P1 := Lib.hid (P.out.trans hb1)
    clear hb1
    go_wp2_with fail
    refine (NO.out 92 _ P1.out.2 (by omega) HN92.out).mono ?_
    rintro e w2 ⟨rfl, hb2⟩
    have P2 := Lib.hid (P1.out.trans hb2)
    clear hb2
    clear P1
    go_wp2_with fail
    refine (NO.out 110 _ P2.out.2 (by omega) HN110.out).mono ?_
    rintro e w3 ⟨rfl, hb3⟩
    have P3 := Lib.hid (P2.out.trans hb3)
    clear hb3
    clear P2
    go_wp2_with fail
    refine (NO.out 116 _ P3.out.2 (by omega) HN116.out).mono ?_
    rintro e w4 ⟨rfl, hb4⟩
    have P4 := Lib.hid (P3.out.trans hb4)
    clear hb4
    clear P3
    go_wp2_with fail
    refine (Y.out 114 _ P4.out.2 (by omega) HN114.out).mono ?_
    rintro e w5 ⟨rfl, hb5⟩
    have P5 := Lib.hid (P4.out.trans hb5)
    clear hb5
    clear P4
    go_wp2_with fail
    go_ret
    exact ⟨⟨_, rfl, (by first | decide | exact Nat.le_refl 1), fun _ => by rw [HE.out]⟩, P5.out⟩
  have HN114 := Lib.hid c114
  by_cases c120 : ch s p = 120
  · rw [escS_2 c120]
    have HE : Hid (escB s p = UInt8.ofNat (16 * (digV (ch s (p + 1))).toNat + (digV (ch s (p + 2))).toNat)) := Lib.hid (by unfold escB; simp [c120])
    have HN120 := Lib.hid c120
    have hlt : p < s.size := ch_in (by omega)
    clear c34 c92 c110 c116 c114 c120
    have D1 := Lib.hid (fun w h => rdigq_any g s (p + 1) w h (by omega) hs)
    by_cases hb : badHi (digV (ch s (p + 1))) = true
    · rw [digS_1 hb]
      have dlo := digV_lo (ch s (p + 1))
      unfold badHi at hb
      have hb' := of_decide_eq_true hb
      clear hb
      clear HE
      generalize digV (ch s (p + 1)) = x at *
      by_cases hx : x < 0
      · have q : decide (x < 0) = true := decide_eq_true hx
        go_enter Tryd.func85, Tryd.ntmps85
        go_wp2_with fail
        refine (NO.out 34 _ P.out.2 (by omega) HN34.out).mono ?_
        rintro e w1 ⟨rfl, hb1⟩
        have P1 := Lib.hid (P.out.trans hb1)
        clear hb1
        go_wp2_with fail
        refine (NO.out 92 _ P1.out.2 (by omega) HN92.out).mono ?_
        rintro e w2 ⟨rfl, hb2⟩
        have P2 := Lib.hid (P1.out.trans hb2)
        clear hb2
        clear P1
        go_wp2_with fail
        refine (NO.out 110 _ P2.out.2 (by omega) HN110.out).mono ?_
        rintro e w3 ⟨rfl, hb3⟩
        have P3 := Lib.hid (P2.out.trans hb3)
        clear hb3
        clear P2
        go_wp2_with fail
        refine (NO.out 116 _ P3.out.2 (by omega) HN116.out).mono ?_
        rintro e w4 ⟨rfl, hb4⟩
        have P4 := Lib.hid (P3.out.trans hb4)
        clear hb4
        clear P3
        go_wp2_with fail
        refine (NO.out 114 _ P4.out.2 (by omega) HN114.out).mono ?_
        rintro e w5 ⟨rfl, hb5⟩
        have P5 := Lib.hid (P4.out.trans hb5)
        clear hb5
        clear P4
        go_wp2_with fail
        refine (Y.out 120 _ P5.out.2 (by omega) HN120.out).mono ?_
        rintro e w6 ⟨rfl, hb6⟩
        have P6 := Lib.hid (P5.out.trans hb6)
        clear hb6
        clear P5
        go_wp2_with fail
        refine (D1.out _ P6.out.2).mono ?_
        rintro e w7 ⟨rfl, hb7⟩
        have P7 := Lib.hid (P6.out.below hb7)
        clear hb7 P6
        obtain ⟨z, c0, c1, c2, f1, f2⟩ := P7.out.2.facts
        have PF := Lib.hid (P7.out.fail true)
        go_wp2_with fail
        go_ret
        exact ⟨⟨_, rfl, (by first | decide | exact Nat.le_refl 1), fun h => by cases h⟩, PF.out⟩
      · have q : decide (x < 0) = false := decide_eq_false hx
        have q2 : decide ((1 : Int) < x) = true := decide_eq_true (by omega)
        have q3 : decide (x < 7) = true := decide_eq_true (by omega)
        go_enter Tryd.func85, Tryd.ntmps85
        go_wp2_with fail
        refine (NO.out 34 _ P.out.2 (by omega) HN34.out).mono ?_
        rintro e w1 ⟨rfl, hb1⟩
        have P1 := Lib.hid (P.out.trans hb1)
        clear hb1
        go_wp2_with fail
        refine (NO.out 92 _ P1.out.2 (by omega) HN92.out).mono ?_
        rintro e w2 ⟨rfl, hb2⟩
        have P2 := Lib.hid (P1.out.trans hb2)
        clear hb2
        clear P1
        go_wp2_with fail
        refine (NO.out 110 _ P2.out.2 (by omega) HN110.out).mono ?_
        rintro e w3 ⟨rfl, hb3⟩
        have P3 := Lib.hid (P2.out.trans hb3)
        clear hb3
        clear P2
        go_wp2_with fail
        refine (NO.out 116 _ P3.out.2 (by omega) HN116.out).mono ?_
        rintro e w4 ⟨rfl, hb4⟩
        have P4 := Lib.hid (P3.out.trans hb4)
        clear hb4
        clear P3
        go_wp2_with fail
        refine (NO.out 114 _ P4.out.2 (by omega) HN114.out).mono ?_
        rintro e w5 ⟨rfl, hb5⟩
        have P5 := Lib.hid (P4.out.trans hb5)
        clear hb5
        clear P4
        go_wp2_with fail
        refine (Y.out 120 _ P5.out.2 (by omega) HN120.out).mono ?_
        rintro e w6 ⟨rfl, hb6⟩
        have P6 := Lib.hid (P5.out.trans hb6)
        clear hb6
        clear P5
        go_wp2_with fail
        refine (D1.out _ P6.out.2).mono ?_
        rintro e w7 ⟨rfl, hb7⟩
        have P7 := Lib.hid (P6.out.below hb7)
        clear hb7 P6
        obtain ⟨z, c0, c1, c2, f1, f2⟩ := P7.out.2.facts
        have PF := Lib.hid (P7.out.fail true)
        go_wp2_with fail
        go_ret
        exact ⟨⟨_, rfl, (by first | decide | exact Nat.le_refl 1), fun h => by cases h⟩, PF.out⟩
    · have hx0 : ¬ digV (ch s (p + 1)) < 0 := fun h => hb (by unfold badHi; exact decide_eq_true (.inl h))
      have hpl := digV_in hx0
      have hxm : ¬ (2 ≤ digV (ch s (p + 1)) ∧ digV (ch s (p + 1)) ≤ 6) := fun h => hb (by unfold badHi; exact decide_eq_true (.inr h))
      have dhi := digV_hi (ch s (p + 1))
      have D2 := Lib.hid (fun w h => rdigq_any g s (p + 2) w h (by omega) hs)
      have q : decide (digV (ch s (p + 1)) < 0) = false := decide_eq_false hx0
      have dlo2 := digV_lo (ch s (p + 2))
      have dhi2 := digV_hi (ch s (p + 2))
      by_cases hy : digV (ch s (p + 2)) < 0
      · rw [digS_2 hb (by exact hy)]
        have q1 : decide (digV (ch s (p + 2)) < 0) = true := decide_eq_true hy
        clear hb hy hx0 HE
        generalize digV (ch s (p + 1)) = x at *
        generalize digV (ch s (p + 2)) = y at *
        by_cases hx2 : 1 < (x)
        · have q2 : decide ((1 : Int) < x) = true := decide_eq_true hx2
          have q3 : decide (x < 7) = false := decide_eq_false (by omega)
          go_enter Tryd.func85, Tryd.ntmps85
          go_wp2_with fail
          refine (NO.out 34 _ P.out.2 (by omega) HN34.out).mono ?_
          rintro e w1 ⟨rfl, hb1⟩
          have P1 := Lib.hid (P.out.trans hb1)
          clear hb1
          go_wp2_with fail
          refine (NO.out 92 _ P1.out.2 (by omega) HN92.out).mono ?_
          rintro e w2 ⟨rfl, hb2⟩
          have P2 := Lib.hid (P1.out.trans hb2)
          clear hb2
          clear P1
          go_wp2_with fail
          refine (NO.out 110 _ P2.out.2 (by omega) HN110.out).mono ?_
          rintro e w3 ⟨rfl, hb3⟩
          have P3 := Lib.hid (P2.out.trans hb3)
          clear hb3
          clear P2
          go_wp2_with fail
          refine (NO.out 116 _ P3.out.2 (by omega) HN116.out).mono ?_
          rintro e w4 ⟨rfl, hb4⟩
          have P4 := Lib.hid (P3.out.trans hb4)
          clear hb4
          clear P3
          go_wp2_with fail
          refine (NO.out 114 _ P4.out.2 (by omega) HN114.out).mono ?_
          rintro e w5 ⟨rfl, hb5⟩
          have P5 := Lib.hid (P4.out.trans hb5)
          clear hb5
          clear P4
          go_wp2_with fail
          refine (Y.out 120 _ P5.out.2 (by omega) HN120.out).mono ?_
          rintro e w6 ⟨rfl, hb6⟩
          have P6 := Lib.hid (P5.out.trans hb6)
          clear hb6
          clear P5
          go_wp2_with fail
          refine (D1.out _ P6.out.2).mono ?_
          rintro e w7 ⟨rfl, hb7⟩
          have P7 := Lib.hid (P6.out.below hb7)
          clear hb7 P6
          obtain ⟨z, c0, c1, c2, f1, f2⟩ := P7.out.2.facts
          have P8 : Hid (RqP g s (p + 2) false w (w7.setCell ⟨g, 1, none⟩ (.int .i64 (((p + 1 : Nat) : Int) + 1)))) := Lib.hid (P7.out.step (by omega))
          simp only [Int.natCast_add, Int.natCast_one] at c1 P8
          go_wp2_with fail
          try generalize w7.setCell ⟨g, 1, none⟩ (.int .i64 ((p : Int) + 1 + 1)) = w8 at *
          clear z c0 c1 c2 f1 f2 P7
          refine (D2.out _ P8.out.2).mono ?_
          rintro e w9 ⟨rfl, hb9⟩
          have P9 := Lib.hid (P8.out.below hb9)
          clear hb9 P8
          obtain ⟨z, c0, c1, c2, f1, f2⟩ := P9.out.2.facts
          have PF := Lib.hid (P9.out.fail true)
          go_wp2_with fail
          go_ret
          exact ⟨⟨_, rfl, (by first | decide | exact Nat.le_refl 1), fun h => by cases h⟩, PF.out⟩
        · have q2 : decide ((1 : Int) < x) = false := decide_eq_false hx2
          go_enter Tryd.func85, Tryd.ntmps85
          go_wp2_with fail
          refine (NO.out 34 _ P.out.2 (by omega) HN34.out).mono ?_
          rintro e w1 ⟨rfl, hb1⟩
          have P1 := Lib.hid (P.out.trans hb1)
          clear hb1
          go_wp2_with fail
          refine (NO.out 92 _ P1.out.2 (by omega) HN92.out).mono ?_
          rintro e w2 ⟨rfl, hb2⟩
          have P2 := Lib.hid (P1.out.trans hb2)
          clear hb2
          clear P1
          go_wp2_with fail
          refine (NO.out 110 _ P2.out.2 (by omega) HN110.out).mono ?_
          rintro e w3 ⟨rfl, hb3⟩
          have P3 := Lib.hid (P2.out.trans hb3)
          clear hb3
          clear P2
          go_wp2_with fail
          refine (NO.out 116 _ P3.out.2 (by omega) HN116.out).mono ?_
          rintro e w4 ⟨rfl, hb4⟩
          have P4 := Lib.hid (P3.out.trans hb4)
          clear hb4
          clear P3
          go_wp2_with fail
          refine (NO.out 114 _ P4.out.2 (by omega) HN114.out).mono ?_
          rintro e w5 ⟨rfl, hb5⟩
          have P5 := Lib.hid (P4.out.trans hb5)
          clear hb5
          clear P4
          go_wp2_with fail
          refine (Y.out 120 _ P5.out.2 (by omega) HN120.out).mono ?_
          rintro e w6 ⟨rfl, hb6⟩
          have P6 := Lib.hid (P5.out.trans hb6)
          clear hb6
          clear P5
          go_wp2_with fail
          refine (D1.out _ P6.out.2).mono ?_
          rintro e w7 ⟨rfl, hb7⟩
          have P7 := Lib.hid (P6.out.below hb7)
          clear hb7 P6
          obtain ⟨z, c0, c1, c2, f1, f2⟩ := P7.out.2.facts
          have P8 : Hid (RqP g s (p + 2) false w (w7.setCell ⟨g, 1, none⟩ (.int .i64 (((p + 1 : Nat) : Int) + 1)))) := Lib.hid (P7.out.step (by omega))
          simp only [Int.natCast_add, Int.natCast_one] at c1 P8
          go_wp2_with fail
          try generalize w7.setCell ⟨g, 1, none⟩ (.int .i64 ((p : Int) + 1 + 1)) = w8 at *
          clear z c0 c1 c2 f1 f2 P7
          refine (D2.out _ P8.out.2).mono ?_
          rintro e w9 ⟨rfl, hb9⟩
          have P9 := Lib.hid (P8.out.below hb9)
          clear hb9 P8
          obtain ⟨z, c0, c1, c2, f1, f2⟩ := P9.out.2.facts
          have PF := Lib.hid (P9.out.fail true)
          go_wp2_with fail
          go_ret
          exact ⟨⟨_, rfl, (by first | decide | exact Nat.le_refl 1), fun h => by cases h⟩, PF.out⟩
      · have hpl1 := digV_in hy
        have q1 : decide (digV (ch s (p + 2)) < 0) = false := decide_eq_false hy
        have HD := Lib.hid (fun h => digS_3 hb hy h)
        have HG := Lib.hid (fun h => digS_4 hb hy h)
        obtain ⟨x, hx⟩ := Int.eq_ofNat_of_zero_le (show 0 ≤ digV (ch s (p + 1)) by omega)
        obtain ⟨y, hy'⟩ := Int.eq_ofNat_of_zero_le (show 0 ≤ digV (ch s (p + 2)) by omega)
        have hy2 : digV (ch s (p + 1 + 1)) = (y : Int) := hy'
        rw [hx, hy'] at HE
        rw [hx, hy2] at HD HG
        rw [hx] at hxm dhi q D1
        rw [hy'] at dhi2 q1 D2
        simp only [Int.toNat_natCast] at HD HG HE
        clear hb hx0 hy hx hy' hy2 dlo2
        have HW := Lib.hid (fun W => wr96_any (16 * x + y) W)
        have E1 : ((16 * x + y : Nat) : Int) = 16 * (x : Int) + (y : Int) := by omega
        rw [E1] at HW
        clear E1
        have VC : Hid (16 * (x : Int) + (y : Int) = ((UInt8.ofNat (16 * x + y)).toNat : Int)) := Lib.hid (by simp; omega)
        by_cases hw : wrt (16 * x + y) = true
        · rw [HD.out hw]
          have HT := Lib.hid hw
          clear HD HG hw
          generalize UInt8.ofNat (16 * x + y) = cc at *
          by_cases hx2 : 1 < ((x : Int))
          · have q2 : decide ((1 : Int) < (x : Int)) = true := decide_eq_true hx2
            have q3 : decide ((x : Int) < 7) = false := decide_eq_false (by omega)
            go_enter Tryd.func85, Tryd.ntmps85
            go_wp2_with fail
            refine (NO.out 34 _ P.out.2 (by omega) HN34.out).mono ?_
            rintro e w1 ⟨rfl, hb1⟩
            have P1 := Lib.hid (P.out.trans hb1)
            clear hb1
            go_wp2_with fail
            refine (NO.out 92 _ P1.out.2 (by omega) HN92.out).mono ?_
            rintro e w2 ⟨rfl, hb2⟩
            have P2 := Lib.hid (P1.out.trans hb2)
            clear hb2
            clear P1
            go_wp2_with fail
            refine (NO.out 110 _ P2.out.2 (by omega) HN110.out).mono ?_
            rintro e w3 ⟨rfl, hb3⟩
            have P3 := Lib.hid (P2.out.trans hb3)
            clear hb3
            clear P2
            go_wp2_with fail
            refine (NO.out 116 _ P3.out.2 (by omega) HN116.out).mono ?_
            rintro e w4 ⟨rfl, hb4⟩
            have P4 := Lib.hid (P3.out.trans hb4)
            clear hb4
            clear P3
            go_wp2_with fail
            refine (NO.out 114 _ P4.out.2 (by omega) HN114.out).mono ?_
            rintro e w5 ⟨rfl, hb5⟩
            have P5 := Lib.hid (P4.out.trans hb5)
            clear hb5
            clear P4
            go_wp2_with fail
            refine (Y.out 120 _ P5.out.2 (by omega) HN120.out).mono ?_
            rintro e w6 ⟨rfl, hb6⟩
            have P6 := Lib.hid (P5.out.trans hb6)
            clear hb6
            clear P5
            go_wp2_with fail
            refine (D1.out _ P6.out.2).mono ?_
            rintro e w7 ⟨rfl, hb7⟩
            have P7 := Lib.hid (P6.out.below hb7)
            clear hb7 P6
            obtain ⟨z, c0, c1, c2, f1, f2⟩ := P7.out.2.facts
            have P8 : Hid (RqP g s (p + 2) false w (w7.setCell ⟨g, 1, none⟩ (.int .i64 (((p + 1 : Nat) : Int) + 1)))) := Lib.hid (P7.out.step (by omega))
            simp only [Int.natCast_add, Int.natCast_one] at c1 P8
            go_wp2_with fail
            try generalize w7.setCell ⟨g, 1, none⟩ (.int .i64 ((p : Int) + 1 + 1)) = w8 at *
            clear z c0 c1 c2 f1 f2 P7
            refine (D2.out _ P8.out.2).mono ?_
            rintro e w9 ⟨rfl, hb9⟩
            have P9 := Lib.hid (P8.out.below hb9)
            clear hb9 P8
            go_wp2_with fail
            refine (HW.out _).mono ?_
            rintro e w10 ⟨rfl, rfl⟩
            rw [HT.out]
            obtain ⟨z, c0, c1, c2, f1, f2⟩ := P9.out.2.facts
            have P10 : Hid (RqP g s (p + 3) false w (w9.setCell ⟨g, 1, none⟩ (.int .i64 (((p + 2 : Nat) : Int) + 1)))) := Lib.hid (P9.out.step (by omega))
            simp only [Int.natCast_add, Int.cast_ofNat_Int] at c1 P10
            have HC := conv1 (16 * (x : Int) + (y : Int)) cc VC.out (w9.setCell ⟨g, 1, none⟩ (.int .i64 ((p : Int) + 2 + 1))) w9.heap.size (by simp)
            go_wp2_with fail
            go_ret
            exact ⟨⟨_, rfl, (by first | decide | exact Nat.le_refl 1), fun _ => by rw [HE.out]⟩, P10.out.below ((Below.refl _ _).alloc (by simp) _)⟩
          · have q2 : decide ((1 : Int) < (x : Int)) = false := decide_eq_false hx2
            go_enter Tryd.func85, Tryd.ntmps85
            go_wp2_with fail
            refine (NO.out 34 _ P.out.2 (by omega) HN34.out).mono ?_
            rintro e w1 ⟨rfl, hb1⟩
            have P1 := Lib.hid (P.out.trans hb1)
            clear hb1
            go_wp2_with fail
            refine (NO.out 92 _ P1.out.2 (by omega) HN92.out).mono ?_
            rintro e w2 ⟨rfl, hb2⟩
            have P2 := Lib.hid (P1.out.trans hb2)
            clear hb2
            clear P1
            go_wp2_with fail
            refine (NO.out 110 _ P2.out.2 (by omega) HN110.out).mono ?_
            rintro e w3 ⟨rfl, hb3⟩
            have P3 := Lib.hid (P2.out.trans hb3)
            clear hb3
            clear P2
            go_wp2_with fail
            refine (NO.out 116 _ P3.out.2 (by omega) HN116.out).mono ?_
            rintro e w4 ⟨rfl, hb4⟩
            have P4 := Lib.hid (P3.out.trans hb4)
            clear hb4
            clear P3
            go_wp2_with fail
            refine (NO.out 114 _ P4.out.2 (by omega) HN114.out).mono ?_
            rintro e w5 ⟨rfl, hb5⟩
            have P5 := Lib.hid (P4.out.trans hb5)
            clear hb5
            clear P4
            go_wp2_with fail
            refine (Y.out 120 _ P5.out.2 (by omega) HN120.out).mono ?_
            rintro e w6 ⟨rfl, hb6⟩
            have P6 := Lib.hid (P5.out.trans hb6)
            clear hb6
            clear P5
            go_wp2_with fail
            refine (D1.out _ P6.out.2).mono ?_
            rintro e w7 ⟨rfl, hb7⟩
            have P7 := Lib.hid (P6.out.below hb7)
            clear hb7 P6
            obtain ⟨z, c0, c1, c2, f1, f2⟩ := P7.out.2.facts
            have P8 : Hid (RqP g s (p + 2) false w (w7.setCell ⟨g, 1, none⟩ (.int .i64 (((p + 1 : Nat) : Int) + 1)))) := Lib.hid (P7.out.step (by omega))
            simp only [Int.natCast_add, Int.natCast_one] at c1 P8
            go_wp2_with fail
            try generalize w7.setCell ⟨g, 1, none⟩ (.int .i64 ((p : Int) + 1 + 1)) = w8 at *
            clear z c0 c1 c2 f1 f2 P7
            refine (D2.out _ P8.out.2).mono ?_
            rintro e w9 ⟨rfl, hb9⟩
            have P9 := Lib.hid (P8.out.below hb9)
            clear hb9 P8
            go_wp2_with fail
            refine (HW.out _).mono ?_
            rintro e w10 ⟨rfl, rfl⟩
            rw [HT.out]
            obtain ⟨z, c0, c1, c2, f1, f2⟩ := P9.out.2.facts
            have P10 : Hid (RqP g s (p + 3) false w (w9.setCell ⟨g, 1, none⟩ (.int .i64 (((p + 2 : Nat) : Int) + 1)))) := Lib.hid (P9.out.step (by omega))
            simp only [Int.natCast_add, Int.cast_ofNat_Int] at c1 P10
            have HC := conv1 (16 * (x : Int) + (y : Int)) cc VC.out (w9.setCell ⟨g, 1, none⟩ (.int .i64 ((p : Int) + 2 + 1))) w9.heap.size (by simp)
            go_wp2_with fail
            go_ret
            exact ⟨⟨_, rfl, (by first | decide | exact Nat.le_refl 1), fun _ => by rw [HE.out]⟩, P10.out.below ((Below.refl _ _).alloc (by simp) _)⟩
        · rw [HG.out hw]
          have HT : Hid (wrt (16 * x + y) = false) := Lib.hid (by simpa using hw)
          clear HD HG hw
          by_cases hx2 : 1 < ((x : Int))
          · have q2 : decide ((1 : Int) < (x : Int)) = true := decide_eq_true hx2
            have q3 : decide ((x : Int) < 7) = false := decide_eq_false (by omega)
            go_enter Tryd.func85, Tryd.ntmps85
            go_wp2_with fail
            refine (NO.out 34 _ P.out.2 (by omega) HN34.out).mono ?_
            rintro e w1 ⟨rfl, hb1⟩
            have P1 := Lib.hid (P.out.trans hb1)
            clear hb1
            go_wp2_with fail
            refine (NO.out 92 _ P1.out.2 (by omega) HN92.out).mono ?_
            rintro e w2 ⟨rfl, hb2⟩
            have P2 := Lib.hid (P1.out.trans hb2)
            clear hb2
            clear P1
            go_wp2_with fail
            refine (NO.out 110 _ P2.out.2 (by omega) HN110.out).mono ?_
            rintro e w3 ⟨rfl, hb3⟩
            have P3 := Lib.hid (P2.out.trans hb3)
            clear hb3
            clear P2
            go_wp2_with fail
            refine (NO.out 116 _ P3.out.2 (by omega) HN116.out).mono ?_
            rintro e w4 ⟨rfl, hb4⟩
            have P4 := Lib.hid (P3.out.trans hb4)
            clear hb4
            clear P3
            go_wp2_with fail
            refine (NO.out 114 _ P4.out.2 (by omega) HN114.out).mono ?_
            rintro e w5 ⟨rfl, hb5⟩
            have P5 := Lib.hid (P4.out.trans hb5)
            clear hb5
            clear P4
            go_wp2_with fail
            refine (Y.out 120 _ P5.out.2 (by omega) HN120.out).mono ?_
            rintro e w6 ⟨rfl, hb6⟩
            have P6 := Lib.hid (P5.out.trans hb6)
            clear hb6
            clear P5
            go_wp2_with fail
            refine (D1.out _ P6.out.2).mono ?_
            rintro e w7 ⟨rfl, hb7⟩
            have P7 := Lib.hid (P6.out.below hb7)
            clear hb7 P6
            obtain ⟨z, c0, c1, c2, f1, f2⟩ := P7.out.2.facts
            have P8 : Hid (RqP g s (p + 2) false w (w7.setCell ⟨g, 1, none⟩ (.int .i64 (((p + 1 : Nat) : Int) + 1)))) := Lib.hid (P7.out.step (by omega))
            simp only [Int.natCast_add, Int.natCast_one] at c1 P8
            go_wp2_with fail
            try generalize w7.setCell ⟨g, 1, none⟩ (.int .i64 ((p : Int) + 1 + 1)) = w8 at *
            clear z c0 c1 c2 f1 f2 P7
            refine (D2.out _ P8.out.2).mono ?_
            rintro e w9 ⟨rfl, hb9⟩
            have P9 := Lib.hid (P8.out.below hb9)
            clear hb9 P8
            go_wp2_with fail
            refine (HW.out _).mono ?_
            rintro e w10 ⟨rfl, rfl⟩
            rw [HT.out]
            obtain ⟨z, c0, c1, c2, f1, f2⟩ := P9.out.2.facts
            have PF := Lib.hid (P9.out.fail true)
            go_wp2_with fail
            go_ret
            exact ⟨⟨_, rfl, (by first | decide | exact Nat.le_refl 1), fun h => by cases h⟩, PF.out⟩
          · have q2 : decide ((1 : Int) < (x : Int)) = false := decide_eq_false hx2
            go_enter Tryd.func85, Tryd.ntmps85
            go_wp2_with fail
            refine (NO.out 34 _ P.out.2 (by omega) HN34.out).mono ?_
            rintro e w1 ⟨rfl, hb1⟩
            have P1 := Lib.hid (P.out.trans hb1)
            clear hb1
            go_wp2_with fail
            refine (NO.out 92 _ P1.out.2 (by omega) HN92.out).mono ?_
            rintro e w2 ⟨rfl, hb2⟩
            have P2 := Lib.hid (P1.out.trans hb2)
            clear hb2
            clear P1
            go_wp2_with fail
            refine (NO.out 110 _ P2.out.2 (by omega) HN110.out).mono ?_
            rintro e w3 ⟨rfl, hb3⟩
            have P3 := Lib.hid (P2.out.trans hb3)
            clear hb3
            clear P2
            go_wp2_with fail
            refine (NO.out 116 _ P3.out.2 (by omega) HN116.out).mono ?_
            rintro e w4 ⟨rfl, hb4⟩
            have P4 := Lib.hid (P3.out.trans hb4)
            clear hb4
            clear P3
            go_wp2_with fail
            refine (NO.out 114 _ P4.out.2 (by omega) HN114.out).mono ?_
            rintro e w5 ⟨rfl, hb5⟩
            have P5 := Lib.hid (P4.out.trans hb5)
            clear hb5
            clear P4
            go_wp2_with fail
            refine (Y.out 120 _ P5.out.2 (by omega) HN120.out).mono ?_
            rintro e w6 ⟨rfl, hb6⟩
            have P6 := Lib.hid (P5.out.trans hb6)
            clear hb6
            clear P5
            go_wp2_with fail
            refine (D1.out _ P6.out.2).mono ?_
            rintro e w7 ⟨rfl, hb7⟩
            have P7 := Lib.hid (P6.out.below hb7)
            clear hb7 P6
            obtain ⟨z, c0, c1, c2, f1, f2⟩ := P7.out.2.facts
            have P8 : Hid (RqP g s (p + 2) false w (w7.setCell ⟨g, 1, none⟩ (.int .i64 (((p + 1 : Nat) : Int) + 1)))) := Lib.hid (P7.out.step (by omega))
            simp only [Int.natCast_add, Int.natCast_one] at c1 P8
            go_wp2_with fail
            try generalize w7.setCell ⟨g, 1, none⟩ (.int .i64 ((p : Int) + 1 + 1)) = w8 at *
            clear z c0 c1 c2 f1 f2 P7
            refine (D2.out _ P8.out.2).mono ?_
            rintro e w9 ⟨rfl, hb9⟩
            have P9 := Lib.hid (P8.out.below hb9)
            clear hb9 P8
            go_wp2_with fail
            refine (HW.out _).mono ?_
            rintro e w10 ⟨rfl, rfl⟩
            rw [HT.out]
            obtain ⟨z, c0, c1, c2, f1, f2⟩ := P9.out.2.facts
            have PF := Lib.hid (P9.out.fail true)
            go_wp2_with fail
            go_ret
            exact ⟨⟨_, rfl, (by first | decide | exact Nat.le_refl 1), fun h => by cases h⟩, PF.out⟩
  have HN120 := Lib.hid c120
  rw [escS_3 (by omega) c120]
  clear c34 c92 c110 c116 c114 c120
  go_enter Tryd.func85, Tryd.ntmps85
  go_wp2_with fail
  refine (NO.out 34 _ P.out.2 (by omega) HN34.out).mono ?_
  rintro e w1 ⟨rfl, hb1⟩
  have P1 := Lib.hid (P.out.trans hb1)
  clear hb1
  go_wp2_with fail
  refine (NO.out 92 _ P1.out.2 (by omega) HN92.out).mono ?_
  rintro e w2 ⟨rfl, hb2⟩
  have P2 := Lib.hid (P1.out.trans hb2)
  clear hb2
  clear P1
  go_wp2_with fail
  refine (NO.out 110 _ P2.out.2 (by omega) HN110.out).mono ?_
  rintro e w3 ⟨rfl, hb3⟩
  have P3 := Lib.hid (P2.out.trans hb3)
  clear hb3
  clear P2
  go_wp2_with fail
  refine (NO.out 116 _ P3.out.2 (by omega) HN116.out).mono ?_
  rintro e w4 ⟨rfl, hb4⟩
  have P4 := Lib.hid (P3.out.trans hb4)
  clear hb4
  clear P3
  go_wp2_with fail
  refine (NO.out 114 _ P4.out.2 (by omega) HN114.out).mono ?_
  rintro e w5 ⟨rfl, hb5⟩
  have P5 := Lib.hid (P4.out.trans hb5)
  clear hb5
  clear P4
  go_wp2_with fail
  refine (NO.out 120 _ P5.out.2 (by omega) HN120.out).mono ?_
  rintro e w6 ⟨rfl, hb6⟩
  have P6 := Lib.hid (P5.out.trans hb6)
  clear hb6
  clear P5
  obtain ⟨z, c0, c1, c2, f1, f2⟩ := P6.out.2.facts
  have PF := Lib.hid (P6.out.fail true)
  go_wp2_with fail
  go_ret
  exact ⟨⟨_, rfl, (by first | decide | exact Nat.le_refl 1), fun h => by cases h⟩, PF.out⟩
end Go.Proofs.YtaocgibfabofhaaDoor
