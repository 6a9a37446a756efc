/-
  The specification's reader: a digit, and which bytes are written by their number. Condition: the reader has not failed.
-/
import Derived.Test.YtaocgibfabofhaaDoorQ2
namespace Go.Proofs.YtaocgibfabofhaaDoor
open Go.RowKit
set_option linter.unusedSimpArgs false
set_option linter.unusedVariables false
set_option maxHeartbeats 1000000 in
theorem wr96_any (n : Nat) (w : World) : Calls Tryd.prog 96 #[.int .i64 (n : Int)] w fun e w' => e = .returned (.bool (wrt n)) ∧ w = w' := by
  have HR : Hid (wrt n = decide (n < 32 ∧ n ≠ 9 ∧ n ≠ 10 ∧ n ≠ 13 ∨ 126 < n)) := Lib.hid rfl
  rw [HR.out]
  clear HR
  by_cases h1 : n < 32
  · by_cases h2 : n = 9
    · subst h2
      go_enter Tryd.func96, Tryd.ntmps96
      go_wp2
      go_ret
      exact ⟨rfl, rfl⟩
    · by_cases h3 : n = 10
      · subst h3
        go_enter Tryd.func96, Tryd.ntmps96
        go_wp2
        go_ret
        exact ⟨rfl, rfl⟩
      · by_cases h4 : n = 13
        · subst h4
          go_enter Tryd.func96, Tryd.ntmps96
          go_wp2
          go_ret
          exact ⟨rfl, rfl⟩
        · have e : decide (n < 32 ∧ n ≠ 9 ∧ n ≠ 10 ∧ n ≠ 13 ∨ 126 < n) = true := decide_eq_true (by omega)
          rw [e]
          have q1 : decide ((n : Int) < 32) = true := decide_eq_true (by omega)
          have q2 : ((n : Int) != 9) = true := by simp; omega
          have q3 : ((n : Int) != 10) = true := by simp; omega
          have q4 : ((n : Int) != 13) = true := by simp; omega
          clear e
          go_enter Tryd.func96, Tryd.ntmps96
          go_wp2
          go_ret
          exact ⟨ret_bool (by simp [h1, h2, h3, h4]), rfl⟩
  · by_cases h5 : 126 < n
    · have e : decide (n < 32 ∧ n ≠ 9 ∧ n ≠ 10 ∧ n ≠ 13 ∨ 126 < n) = true := decide_eq_true (by omega)
      rw [e]
      clear e
      go_enter Tryd.func96, Tryd.ntmps96
      go_wp2
      go_ret
      exact ⟨ret_bool (by simp [h1, h5] <;> omega), rfl⟩
    · have e : decide (n < 32 ∧ n ≠ 9 ∧ n ≠ 10 ∧ n ≠ 13 ∨ 126 < n) = false := decide_eq_false (by omega)
      rw [e]
      clear e
      go_enter Tryd.func96, Tryd.ntmps96
      go_wp2
      go_ret
      exact ⟨ret_bool (by simp [h1, h5] <;> omega), rfl⟩
theorem wr96_at (n : Nat) (v : Bool) (h : wrt n = v) (w : World) : Calls Tryd.prog 96 #[.int .i64 (n : Int)] w fun e w' => e = .returned (.bool v) ∧ w = w' := by
  subst h; exact wr96_any n w
set_option maxRecDepth 100000 in
set_option maxHeartbeats 2000000 in
theorem rdigq_any (g : Nat) (s : ByteArray) (p : Nat) (w : World) (h : Rq w g s p false) (hp : p ≤ s.size) (hs : s.size ≤ 65536) :
    Calls Tryd.prog 95 #[.pointer (some ⟨g, 0, none⟩)] w fun e w' => e = .returned (.int .i64 (digV (ch s p))) ∧ Below w.heap.size w w' := by
  have P := Lib.hid h
  by_cases he : p = s.size
  · have e0 : digV (ch s p) = -1 := by rw [ch_end s p (by omega)]; rfl
    rw [e0]
    have M := Lib.hid (more_r h false (by simp; omega))
    clear h he e0
    go_enter Tryd.func95, Tryd.ntmps95
    go_wp2_with fail
    refine (M.out).mono ?_
    rintro e w1 ⟨rfl, hb1⟩
    have B1 := Lib.hid hb1
    obtain ⟨z, c0, c1, c2, f1, f2⟩ := (P.out.keep hb1).facts
    clear hb1
    go_wp2_with fail
    go_ret
    exact ⟨rfl, B1.out⟩
  · have hlt : p < s.size := by omega
    have M := Lib.hid (more_r h true (by simp; omega))
    have HV := Lib.hid (ch_at s p hlt)
    have hn256 := ch_lt s p
    generalize ch s p = n at *
    clear h he
    by_cases h1 : 48 ≤ n
    · have q1 : decide ((48 : Int) ≤ (n : Int)) = true := decide_eq_true (by omega)
      by_cases h2 : n ≤ 57
      · have HE : Hid (digV n = (n : Int) - 48) := Lib.hid (by unfold digV; rw [if_pos ⟨h1, h2⟩])
        rw [HE.out]
        have q2 : decide ((n : Int) ≤ 57) = true := decide_eq_true (by omega)
        go_enter Tryd.func95, Tryd.ntmps95
        go_wp2_with fail
        refine (M.out).mono ?_
        rintro e w1 ⟨rfl, hb1⟩
        have B1 := Lib.hid hb1
        obtain ⟨z, c0, c1, c2, f1, f2⟩ := (P.out.keep hb1).facts
        clear hb1
        go_wp2_with fail
        go_quiet (fail)
        rw [HV.out]
        go_wp2_with fail
        go_ret
        exact ⟨rfl, B1.out.trans (bdrewN (Below.refl _ _) _)⟩
      · have q2 : decide ((n : Int) ≤ 57) = false := decide_eq_false (by omega)
        by_cases h3 : 97 ≤ n
        · have q3 : decide ((97 : Int) ≤ (n : Int)) = true := decide_eq_true (by omega)
          by_cases h4 : n ≤ 102
          · have q4 : decide ((n : Int) ≤ 102) = true := decide_eq_true (by omega)
            have HE : Hid (digV n = (n : Int) - 87) := Lib.hid (by unfold digV; rw [if_neg (by omega), if_pos (by omega)])
            rw [HE.out]
            go_enter Tryd.func95, Tryd.ntmps95
            go_wp2_with fail
            refine (M.out).mono ?_
            rintro e w1 ⟨rfl, hb1⟩
            have B1 := Lib.hid hb1
            obtain ⟨z, c0, c1, c2, f1, f2⟩ := (P.out.keep hb1).facts
            clear hb1
            go_wp2_with fail
            go_quiet (fail)
            rw [HV.out]
            go_wp2_with fail
            go_ret
            exact ⟨ret_int (by omega), B1.out.trans (bdrewN (Below.refl _ _) _)⟩
          · have q4 : decide ((n : Int) ≤ 102) = false := decide_eq_false (by omega)
            have HE : Hid (digV n = -1) := Lib.hid (by unfold digV; rw [if_neg (by omega), if_neg (by omega)])
            rw [HE.out]
            go_enter Tryd.func95, Tryd.ntmps95
            go_wp2_with fail
            refine (M.out).mono ?_
            rintro e w1 ⟨rfl, hb1⟩
            have B1 := Lib.hid hb1
            obtain ⟨z, c0, c1, c2, f1, f2⟩ := (P.out.keep hb1).facts
            clear hb1
            go_wp2_with fail
            go_quiet (fail)
            rw [HV.out]
            go_wp2_with fail
            go_ret
            exact ⟨rfl, B1.out.trans (bdrewN (Below.refl _ _) _)⟩
        · have q3 : decide ((97 : Int) ≤ (n : Int)) = false := decide_eq_false (by omega)
          have HE : Hid (digV n = -1) := Lib.hid (by unfold digV; rw [if_neg (by omega), if_neg (by omega)])
          rw [HE.out]
          go_enter Tryd.func95, Tryd.ntmps95
          go_wp2_with fail
          refine (M.out).mono ?_
          rintro e w1 ⟨rfl, hb1⟩
          have B1 := Lib.hid hb1
          obtain ⟨z, c0, c1, c2, f1, f2⟩ := (P.out.keep hb1).facts
          clear hb1
          go_wp2_with fail
          go_quiet (fail)
          rw [HV.out]
          go_wp2_with fail
          go_ret
          exact ⟨rfl, B1.out.trans (bdrewN (Below.refl _ _) _)⟩
    · have q1 : decide ((48 : Int) ≤ (n : Int)) = false := decide_eq_false (by omega)
      have q3 : decide ((97 : Int) ≤ (n : Int)) = false := decide_eq_false (by omega)
      have HE : Hid (digV n = -1) := Lib.hid (by unfold digV; rw [if_neg (by omega), if_neg (by omega)])
      rw [HE.out]
      go_enter Tryd.func95, Tryd.ntmps95
      go_wp2_with fail
      refine (M.out).mono ?_
      rintro e w1 ⟨rfl, hb1⟩
      have B1 := Lib.hid hb1
      obtain ⟨z, c0, c1, c2, f1, f2⟩ := (P.out.keep hb1).facts
      clear hb1
      go_wp2_with fail
      go_quiet (fail)
      rw [HV.out]
      go_wp2_with fail
      go_ret
      exact ⟨rfl, B1.out.trans (bdrewN (Below.refl _ _) _)⟩
end Go.Proofs.YtaocgibfabofhaaDoor
