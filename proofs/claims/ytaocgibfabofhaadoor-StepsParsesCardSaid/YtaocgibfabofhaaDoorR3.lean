/-
  The reader's escape and character: a byte between quotes, or an escape that Quote writes. Condition: an escape stands behind a backslash.
-/
import Derived.Test.YtaocgibfabofhaaDoorR2
namespace Go.Proofs.YtaocgibfabofhaaDoor
open Go.RowKit
set_option linter.unusedSimpArgs false
set_option linter.unusedVariables false
/-- an escape behind its backslash, at p -/
def escS (s : ByteArray) (p : Nat) : Bool × Nat :=
  if ch s p = 34 ∨ ch s p = 92 ∨ ch s p = 110 ∨ ch s p = 116 ∨ ch s p = 114 then (true, p + 1)
  else if ch s p = 120 then digS s (p + 1) else (false, p)
theorem escS_1 {s : ByteArray} {p : Nat} (h : ch s p = 34 ∨ ch s p = 92 ∨ ch s p = 110 ∨ ch s p = 116 ∨ ch s p = 114) : escS s p = (true, p + 1) := by unfold escS; rw [if_pos h]
theorem escS_2 {s : ByteArray} {p : Nat} (h : ch s p = 120) : escS s p = digS s (p + 1) := by unfold escS; rw [if_neg (by omega), if_pos h]
theorem escS_3 {s : ByteArray} {p : Nat} (h : ¬ (ch s p = 34 ∨ ch s p = 92 ∨ ch s p = 110 ∨ ch s p = 116 ∨ ch s p = 114)) (h' : ch s p ≠ 120) : escS s p = (false, p) := by unfold escS; rw [if_neg h, if_neg h']
/-- a byte, or an escape, at p -/
def chrS (s : ByteArray) (p : Nat) : Bool × Nat :=
  if ch s p < 32 ∨ 126 < ch s p then (false, p) else if ch s p ≠ 92 then (true, p + 1) else escS s (p + 1)
theorem chrS_1 {s : ByteArray} {p : Nat} (h : ch s p < 32 ∨ 126 < ch s p) : chrS s p = (false, p) := by unfold chrS; rw [if_pos h]
theorem chrS_2 {s : ByteArray} {p : Nat} (h : ¬ (ch s p < 32 ∨ 126 < ch s p)) (h' : ch s p ≠ 92) : chrS s p = (true, p + 1) := by unfold chrS; rw [if_neg h, if_pos h']
theorem chrS_3 {s : ByteArray} {p : Nat} (h : ch s p = 92) : chrS s p = escS s (p + 1) := by unfold chrS; rw [if_neg (by omega), if_neg (by omega)]
theorem ch_in {s : ByteArray} {p : Nat} (h : ch s p ≠ 0) : p < s.size := by
  rcases Nat.lt_or_ge p s.size with h' | h'
  · exact h'
  · exact absurd (ch_end s p h') h
set_option maxRecDepth 100000 in
set_option maxHeartbeats 4000000 in
theorem escapeR_any (g : Nat) (s : ByteArray) (p : Nat) (w : World) (h : Rdr w g s (p : Nat)) (hp : p ≤ s.size) (hs : s.size ≤ 65536) (h1 : 1 ≤ p) (b1 : ch s (p - 1) = 92) :
    Calls Tryd.prog 81 #[.pointer (some ⟨g, 0, none⟩)] w fun e w' => e = .returned (.bool (escS s p).1) ∧ RdP g s ((escS s p).2 : Nat) w w' := by
  have C1 := Lib.hid (fun w => peek_any g s p w)
  have P := Lib.hid (RdP.start h)
  clear h
  by_cases c34 : ch s p = 34
  · rw [escS_1 (by omega)]
    rw [c34] at C1
    clear c34
    go_enter Tryd.func81, Tryd.ntmps81
    go_wp2_with fail
    refine (C1.out _ P.out.2 hp hs).mono ?_
    rintro e w1 ⟨rfl, hb1⟩
    have P1 := Lib.hid (P.out.below hb1)
    clear hb1
    obtain ⟨z, c0, c1, f1⟩ := P1.out.2.facts
    have P2 := Lib.hid P1.out.step
    go_wp2_with fail
    go_ret
    exact ⟨rfl, P2.out⟩
  by_cases c92 : ch s p = 92
  · rw [escS_1 (by omega)]
    rw [c92] at C1
    clear c34
    clear c92
    go_enter Tryd.func81, Tryd.ntmps81
    go_wp2_with fail
    refine (C1.out _ P.out.2 hp hs).mono ?_
    rintro e w1 ⟨rfl, hb1⟩
    have P1 := Lib.hid (P.out.below hb1)
    clear hb1
    obtain ⟨z, c0, c1, f1⟩ := P1.out.2.facts
    have P2 := Lib.hid P1.out.step
    go_wp2_with fail
    go_ret
    exact ⟨rfl, P2.out⟩
  by_cases c110 : ch s p = 110
  · rw [escS_1 (by omega)]
    rw [c110] at C1
    clear c34
    clear c92
    clear c110
    go_enter Tryd.func81, Tryd.ntmps81
    go_wp2_with fail
    refine (C1.out _ P.out.2 hp hs).mono ?_
    rintro e w1 ⟨rfl, hb1⟩
    have P1 := Lib.hid (P.out.below hb1)
    clear hb1
    obtain ⟨z, c0, c1, f1⟩ := P1.out.2.facts
    have P2 := Lib.hid P1.out.step
    go_wp2_with fail
    go_ret
    exact ⟨rfl, P2.out⟩
  by_cases c116 : ch s p = 116
  · rw [escS_1 (by omega)]
    rw [c116] at C1
    clear c34
    clear c92
    clear c110
    clear c116
    go_enter Tryd.func81, Tryd.ntmps81
    go_wp2_with fail
    refine (C1.out _ P.out.2 hp hs).mono ?_
    rintro e w1 ⟨rfl, hb1⟩
    have P1 := Lib.hid (P.out.below hb1)
    clear hb1
    obtain ⟨z, c0, c1, f1⟩ := P1.out.2.facts
    have P2 := Lib.hid P1.out.step
    go_wp2_with fail
    go_ret
    exact ⟨rfl, P2.out⟩
  by_cases c114 : ch s p = 114
  · rw [escS_1 (by omega)]
    rw [c114] at C1
    clear c34
    clear c92
    clear c110
    clear c116
    clear c114
    go_enter Tryd.func81, Tryd.ntmps81
    go_wp2_with fail
    refine (C1.out _ P.out.2 hp hs).mono ?_
    rintro e w1 ⟨rfl, hb1⟩
    have P1 := Lib.hid (P.out.below hb1)
    clear hb1
    obtain ⟨z, c0, c1, f1⟩ := P1.out.2.facts
    have P2 := Lib.hid P1.out.step
    go_wp2_with fail
    go_ret
    exact ⟨rfl, P2.out⟩
  by_cases c120 : ch s p = 120
  · have hp1 := ch_in (s := s) (p := p) (by omega)
    have D := Lib.hid (fun w h => digits_any g s (p + 1) w h (by omega) hs (by omega) (by rw [show p + 1 - 2 = p - 1 by omega]; exact b1) (by simpa using c120))
    rw [escS_2 c120]
    rw [c120] at C1
    clear c34 c92 c110 c116 c114 c120 b1
    generalize digS s (p + 1) = R at *
    obtain ⟨r, q⟩ := R
    go_enter Tryd.func81, Tryd.ntmps81
    go_wp2_with fail
    refine (C1.out _ P.out.2 hp hs).mono ?_
    rintro e w1 ⟨rfl, hb1⟩
    have P1 := Lib.hid (P.out.below hb1)
    clear hb1
    obtain ⟨z, c0, c1, f1⟩ := P1.out.2.facts
    have P2 := Lib.hid P1.out.step
    go_wp2_with fail
    generalize w1.setCell ⟨g, 1, none⟩ (.int .i64 ((p : Int) + 1)) = w2 at *
    clear z c0 c1 f1 P1
    refine (D.out _ P2.out.2).mono ?_
    rintro e w3 ⟨rfl, h3⟩
    have P3 := Lib.hid (P2.out.trans h3)
    clear h3
    go_wp2_with fail
    go_ret
    exact ⟨rfl, P3.out⟩
  · rw [escS_3 (by omega) c120]
    have q34 : ((ch s p : Int) == 34) = false := by simp; omega
    have q92 : ((ch s p : Int) == 92) = false := by simp; omega
    have q110 : ((ch s p : Int) == 110) = false := by simp; omega
    have q116 : ((ch s p : Int) == 116) = false := by simp; omega
    have q114 : ((ch s p : Int) == 114) = false := by simp; omega
    have q120 : ((ch s p : Int) == 120) = false := by simp; omega
    clear c34 c92 c110 c116 c114 c120
    go_enter Tryd.func81, Tryd.ntmps81
    go_wp2_with fail
    refine (C1.out _ P.out.2 hp hs).mono ?_
    rintro e w1 ⟨rfl, hb1⟩
    have P1 := Lib.hid (P.out.below hb1)
    clear hb1
    go_wp2_with fail
    go_ret
    exact ⟨rfl, P1.out⟩
set_option maxRecDepth 100000 in
set_option maxHeartbeats 4000000 in
theorem chr_any (g : Nat) (s : ByteArray) (p : Nat) (w : World) (h : Rdr w g s (p : Nat)) (hp : p ≤ s.size) (hs : s.size ≤ 65536) :
    Calls Tryd.prog 67 #[.pointer (some ⟨g, 0, none⟩)] w fun e w' => e = .returned (.bool (chrS s p).1) ∧ RdP g s ((chrS s p).2 : Nat) w w' := by
  have C1 := Lib.hid (fun w => peek_any g s p w)
  have P := Lib.hid (RdP.start h)
  clear h
  by_cases lo : ch s p < 32
  · rw [chrS_1 (.inl lo)]
    have q1 : decide ((ch s p : Int) < 32) = true := decide_eq_true (by omega)
    clear lo
    go_enter Tryd.func67, Tryd.ntmps67
    go_wp2_with fail
    refine (C1.out _ P.out.2 hp hs).mono ?_
    rintro e w1 ⟨rfl, hb1⟩
    have P1 := Lib.hid (P.out.below hb1)
    clear hb1
    go_wp2_with fail
    go_ret
    exact ⟨rfl, P1.out⟩
  have q1 : decide ((ch s p : Int) < 32) = false := decide_eq_false (by omega)
  by_cases hi : 126 < ch s p
  · rw [chrS_1 (.inr hi)]
    have q2 : decide ((126 : Int) < (ch s p : Int)) = true := decide_eq_true (by omega)
    clear lo hi
    go_enter Tryd.func67, Tryd.ntmps67
    go_wp2_with fail
    refine (C1.out _ P.out.2 hp hs).mono ?_
    rintro e w1 ⟨rfl, hb1⟩
    have P1 := Lib.hid (P.out.below hb1)
    clear hb1
    go_wp2_with fail
    go_ret
    exact ⟨rfl, P1.out⟩
  have q2 : decide ((126 : Int) < (ch s p : Int)) = false := decide_eq_false (by omega)
  by_cases c92 : ch s p = 92
  · have hp1 := ch_in (s := s) (p := p) (by omega)
    have D := Lib.hid (fun w h => escapeR_any g s (p + 1) w h (by omega) hs (by omega) (by simpa using c92))
    rw [chrS_3 c92]
    rw [c92] at C1
    clear lo hi q1 q2 c92
    generalize escS s (p + 1) = R at *
    obtain ⟨r, q⟩ := R
    go_enter Tryd.func67, Tryd.ntmps67
    go_wp2_with fail
    refine (C1.out _ P.out.2 hp hs).mono ?_
    rintro e w1 ⟨rfl, hb1⟩
    have P1 := Lib.hid (P.out.below hb1)
    clear hb1
    obtain ⟨z, c0, c1, f1⟩ := P1.out.2.facts
    have P2 := Lib.hid P1.out.step
    go_wp2_with fail
    generalize w1.setCell ⟨g, 1, none⟩ (.int .i64 ((p : Int) + 1)) = w2 at *
    clear z c0 c1 f1 P1
    refine (D.out _ P2.out.2).mono ?_
    rintro e w3 ⟨rfl, h3⟩
    have P3 := Lib.hid (P2.out.trans h3)
    clear h3
    go_wp2_with fail
    go_ret
    exact ⟨rfl, P3.out⟩
  · have q3 : ((ch s p : Int) != 92) = true := by simp; omega
    rw [chrS_2 (by omega) c92]
    clear lo hi c92
    go_enter Tryd.func67, Tryd.ntmps67
    go_wp2_with fail
    refine (C1.out _ P.out.2 hp hs).mono ?_
    rintro e w1 ⟨rfl, hb1⟩
    have P1 := Lib.hid (P.out.below hb1)
    clear hb1
    obtain ⟨z, c0, c1, f1⟩ := P1.out.2.facts
    have P2 := Lib.hid P1.out.step
    go_wp2_with fail
    go_ret
    exact ⟨rfl, P2.out⟩
end Go.Proofs.YtaocgibfabofhaaDoor
