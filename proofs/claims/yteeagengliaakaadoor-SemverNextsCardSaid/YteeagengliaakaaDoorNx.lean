/-
  What Next gives, as a triple, and how it compares: for the law SemverNexts. No condition on the world.
-/
import Derived.Test.YteeagengliaakaaDoorK
namespace Go.Proofs.YteeagengliaakaaDoor
open Go.RowKit
set_option linter.unusedSimpArgs false
set_option linter.unusedVariables false
/-- the numbers of the next version, in range or not -/
def nt0 (a n : Int) : Int := if n = 2 then (if a = 0 then a else a + 1) else a
def nt1 (a b n : Int) : Int := if n = 0 then b else if n = 1 then (if a = 0 then b else b + 1) else (if a = 0 then b + 1 else 0)
def nt2 (a c n : Int) : Int := if n = 0 then c + 1 else if n = 1 then (if a = 0 then c + 1 else 0) else 0
theorem next_t (a b c n : Int) (w : World) (ho : okV a b c = true) (h0 : 0 ≤ n) (h2 : n ≤ 2) (p q r : Int) (hp : p = nt0 a n) (hq : q = nt1 a b n) (hr : r = nt2 a c n) (hn : okV p q r = true) :
    Calls Tryd.prog 22 #[vv a b c, .int .i64 n] w fun e w' => e = .returned (.tuple #[vv p q r, .int .i64 0]) ∧ Below w.heap.size w w' := by
  unfold nt0 at hp
  unfold nt1 at hq
  unfold nt2 at hr
  by_cases f : a = 0
  · obtain rfl | rfl | rfl : n = 0 ∨ n = 1 ∨ n = 2 := by omega
    · simp at hp hq hr; subst hp hq hr
      exact next_2_ok _ _ _ 0 w ho (by unfold chg; rw [if_pos rfl]) hn
    · simp [f] at hp hq hr; subst p q r f
      exact next_2_ok _ _ _ 1 w ho (by unfold chg; rw [if_neg (by decide), if_pos rfl, if_pos rfl]) hn
    · simp [f] at hp hq hr; subst p q r f
      exact next_1_ok _ _ _ 2 w ho (by unfold chg; rw [if_neg (by decide), if_neg (by decide), if_pos rfl, if_pos rfl]) hn
  · obtain rfl | rfl | rfl : n = 0 ∨ n = 1 ∨ n = 2 := by omega
    · simp at hp hq hr; subst hp hq hr
      exact next_2_ok _ _ _ 0 w ho (by unfold chg; rw [if_pos rfl]) hn
    · simp [f] at hp hq hr; subst p q r
      exact next_1_ok _ _ _ 1 w ho (by unfold chg; rw [if_neg (by decide), if_pos rfl, if_neg f]) hn
    · simp [f] at hp hq hr; subst p q r
      exact next_0_ok _ _ _ 2 w ho (by unfold chg; rw [if_neg (by decide), if_neg (by decide), if_pos rfl, if_neg f]) hn
theorem next_o (a b c n : Int) (w : World) (ho : okV a b c = true) (h0 : 0 ≤ n) (h2 : n ≤ 2) (hn : okV (nt0 a n) (nt1 a b n) (nt2 a c n) = false) :
    Calls Tryd.prog 22 #[vv a b c, .int .i64 n] w fun e w' => e = .returned (.tuple #[vv 0 0 0, .int .i64 1]) ∧ Below w.heap.size w w' := by
  unfold nt0 nt1 nt2 at hn
  by_cases f : a = 0
  · obtain rfl | rfl | rfl : n = 0 ∨ n = 1 ∨ n = 2 := by omega
    · simp at hn
      exact next_2_over _ _ _ 0 w ho (by unfold chg; rw [if_pos rfl]) hn
    · simp [f] at hn; subst f
      exact next_2_over _ _ _ 1 w ho (by unfold chg; rw [if_neg (by decide), if_pos rfl, if_pos rfl]) hn
    · simp [f] at hn; subst f
      exact next_1_over _ _ _ 2 w ho (by unfold chg; rw [if_neg (by decide), if_neg (by decide), if_pos rfl, if_pos rfl]) hn
  · obtain rfl | rfl | rfl : n = 0 ∨ n = 1 ∨ n = 2 := by omega
    · simp at hn
      exact next_2_over _ _ _ 0 w ho (by unfold chg; rw [if_pos rfl]) hn
    · simp [f] at hn
      exact next_1_over _ _ _ 1 w ho (by unfold chg; rw [if_neg (by decide), if_pos rfl, if_neg f]) hn
    · simp [f] at hn
      exact next_0_over _ _ _ 2 w ho (by unfold chg; rw [if_neg (by decide), if_neg (by decide), if_pos rfl, if_neg f]) hn
theorem cmp3_lt {a0 a1 a2 b0 b1 b2 : Int} (h : ltV a0 a1 a2 b0 b1 b2) : cmp3 a0 a1 a2 b0 b1 b2 = -1 := by
  rcases cmp3_cases a0 a1 a2 b0 b1 b2 with ⟨_, e⟩ | ⟨h', e⟩ | ⟨h', e⟩
  · exact e
  · unfold ltV at h; omega
  · unfold ltV at h h'; omega
theorem cmp3_le {a0 a1 a2 b0 b1 b2 : Int} (h : ¬ ltV b0 b1 b2 a0 a1 a2) : cmp3 a0 a1 a2 b0 b1 b2 ≤ 0 := by
  rcases cmp3_cases a0 a1 a2 b0 b1 b2 with ⟨_, e⟩ | ⟨h', e⟩ | ⟨h', e⟩
  · omega
  · omega
  · exact absurd h' h
theorem nt_gt (a b c n : Int) (h0 : 0 ≤ n) (h2 : n ≤ 2) : cmp3 a b c (nt0 a n) (nt1 a b n) (nt2 a c n) = -1 := by
  apply cmp3_lt
  unfold nt0 nt1 nt2 ltV
  by_cases f : a = 0 <;> obtain rfl | rfl | rfl : n = 0 ∨ n = 1 ∨ n = 2 := by omega
  all_goals simp [f]
  all_goals omega
theorem nt_mono (a b c n m : Int) (ho : okV a b c = true) (h0 : 0 ≤ n) (h2 : n ≤ m) (hm : m ≤ 2) : cmp3 (nt0 a n) (nt1 a b n) (nt2 a c n) (nt0 a m) (nt1 a b m) (nt2 a c m) ≤ 0 := by
  obtain ⟨la, ua, lb, ub, lc, uc⟩ := okV_of ho
  apply cmp3_le
  unfold nt0 nt1 nt2 ltV
  by_cases f : a = 0 <;> obtain rfl | rfl | rfl : n = 0 ∨ n = 1 ∨ n = 2 := by omega
  all_goals obtain rfl | rfl | rfl : m = 0 ∨ m = 1 ∨ m = 2 := by omega
  all_goals first | omega | (simp [f]; done) | (simp [f]; omega)
theorem nt_comp (a b c n : Int) (ho : okV a b c = true) (h0 : 0 ≤ n) (h2 : n ≤ 2) (hn : okV (nt0 a n) (nt1 a b n) (nt2 a c n) = true) :
    compB a b c (nt0 a n) (nt1 a b n) (nt2 a c n) = !(n == 2) := by
  have hc := nt_gt a b c n h0 h2
  obtain ⟨la, ua, lb, ub, lc, uc⟩ := okV_of ho
  unfold compB
  rw [ho, hn, hc]
  simp only [Bool.true_and, show decide ((-1 : Int) ≤ 0) = true from rfl]
  have g1 : ¬ (a + 1 = 0) := by omega
  unfold serB ser nt0 nt1
  by_cases f : a = 0 <;> obtain rfl | rfl | rfl : n = 0 ∨ n = 1 ∨ n = 2 := by omega
  all_goals simp [f, g1]
  all_goals omega
/-- what the last version must be -/
def Good (a b c : Int) (n : Nat) (l0 l1 l2 : Int) : Prop := ∀ m : Int, (n : Int) ≤ m → m ≤ 2 → cmp3 l0 l1 l2 (nt0 a m) (nt1 a b m) (nt2 a c m) ≤ 0
theorem good_start (a b c : Int) : Good a b c 0 a b c := fun m h0 h2 => by rw [nt_gt a b c m (by omega) h2]; omega
theorem good_keep {a b c l0 l1 l2 : Int} {n : Nat} (h : Good a b c n l0 l1 l2) : Good a b c (n + 1) l0 l1 l2 := fun m h0 h2 => h m (by omega) h2
theorem good_next {a b c : Int} (n : Nat) (ho : okV a b c = true) : Good a b c (n + 1) (nt0 a n) (nt1 a b n) (nt2 a c n) := fun m h0 h2 => nt_mono a b c n m ho (by omega) (by omega) h2
end Go.Proofs.YteeagengliaakaaDoor
