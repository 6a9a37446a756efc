import Derived.Test.YtelchjgpfpccnaaDoorB
import Derived.Laws.StructEq
namespace Go.Proofs.YtelchjgpfpccnaaDoor
open Go.RowKit
set_option linter.unusedSimpArgs false
set_option linter.unusedVariables false

set_option maxHeartbeats 1000000 in
theorem version_any (a b c : Int) (w : World) :
    Calls Tryd.prog 33 #[vv a b c] w fun e w' => e = .returned (vv a b c) ∧ Below w.heap.size w w' := by
  unfold vv
  go_enter Tryd.func33, Tryd.ntmps33
  go_wp2
  refine bodyPost_ret (v := _) (by simp [results, Tryd.results33, go_sem]) rfl ⟨rfl, ?_⟩
  exact ((Below.refl _ _).alloc (Nat.le_refl _) _).alloc (by simp) _

/-- what compatible versions have in common -/
def ser (a b : Int) : Int × Int := if a = 0 then (0, b) else (a, 0)
set_option maxHeartbeats 1000000 in
theorem series_any (a b c : Int) (w : World) :
    Calls Tryd.prog 31 #[vv a b c] w fun e w' => e = .returned (.agg #[.int .i64 (ser a b).1, .int .i64 (ser a b).2]) ∧ Below w.heap.size w w' := by
  unfold vv
  by_cases h : a = 0
  · have f : (a != 0) = false := by simp [h]
    have E : ser a b = (0, b) := by unfold ser; rw [if_pos h]
    rw [E]
    clear h E
    go_enter Tryd.func31, Tryd.ntmps31
    go_wp2
    refine bodyPost_ret (v := _) (by simp [results, Tryd.results31, go_sem]) rfl ⟨rfl, ?_⟩
    exact ((Below.refl _ _).alloc (Nat.le_refl _) _).alloc (by simp) _
  · have f : (a != 0) = true := by simp [h]
    have E : ser a b = (a, 0) := by unfold ser; rw [if_neg h]
    rw [E]
    clear h E
    go_enter Tryd.func31, Tryd.ntmps31
    go_wp2
    refine bodyPost_ret (v := _) (by simp [results, Tryd.results31, go_sem]) rfl ⟨rfl, ?_⟩
    exact ((Below.refl _ _).alloc (Nat.le_refl _) _).alloc (by simp) _

/-- the place that a change increases: none for an unknown change -/
def chg (a n : Int) : Int × Bool := if n = 0 then (2, true) else if n = 1 then (if a = 0 then (2, true) else (1, true)) else if n = 2 then (if a = 0 then (1, true) else (0, true)) else (0, false)
def Chg (a n : Int) (w : World) (e : Ending) (w' : World) : Prop := e = .returned (.tuple #[.int .i64 (chg a n).1, .bool (chg a n).2]) ∧ Below w.heap.size w w'
set_option maxHeartbeats 1000000 in
theorem changed_any (a b c n : Int) (w : World) :
    Calls Tryd.prog 32 #[vv a b c, .int .i64 n] w (Chg a n w) := by
  unfold vv
  by_cases h0 : n = 0
  · have E : chg a n = (2, true) := by unfold chg; rw [if_pos h0]
    have f0 : (n == 0) = true := by simp [h0]
    have HE := Lib.hid E
    clear h0 E
    go_enter Tryd.func32, Tryd.ntmps32
    go_wp2
    go_ret2
    unfold Chg; rw [HE.out]
    exact ⟨rfl, (Below.refl _ _).alloc (Nat.le_refl _) _⟩
  · have f0 : (n == 0) = false := by simp [h0]
    by_cases h1 : n = 1
    · have f1 : (n == 1) = true := by simp [h1]
      by_cases ha : a = 0
      · have fa : (a == 0) = true := by simp [ha]
        have E : chg a n = (2, true) := by unfold chg; rw [if_neg h0, if_pos h1, if_pos ha]
        have HE := Lib.hid E
        clear h0 h1 ha E
        go_enter Tryd.func32, Tryd.ntmps32
        go_wp2
        go_ret2
        unfold Chg; rw [HE.out]
        exact ⟨rfl, (Below.refl _ _).alloc (Nat.le_refl _) _⟩
      · have fa : (a == 0) = false := by simp [ha]
        have E : chg a n = (1, true) := by unfold chg; rw [if_neg h0, if_pos h1, if_neg ha]
        have HE := Lib.hid E
        clear h0 h1 ha E
        go_enter Tryd.func32, Tryd.ntmps32
        go_wp2
        go_ret2
        unfold Chg; rw [HE.out]
        exact ⟨rfl, (Below.refl _ _).alloc (Nat.le_refl _) _⟩
    · have f1 : (n == 1) = false := by simp [h1]
      by_cases h2 : n = 2
      · have f2 : (n == 2) = true := by simp [h2]
        by_cases ha : a = 0
        · have fa : (a == 0) = true := by simp [ha]
          have E : chg a n = (1, true) := by unfold chg; rw [if_neg h0, if_neg h1, if_pos h2, if_pos ha]
          have HE := Lib.hid E
          clear h0 h1 h2 ha E
          go_enter Tryd.func32, Tryd.ntmps32
          go_wp2
          go_ret2
          unfold Chg; rw [HE.out]
          exact ⟨rfl, (Below.refl _ _).alloc (Nat.le_refl _) _⟩
        · have fa : (a == 0) = false := by simp [ha]
          have E : chg a n = (0, true) := by unfold chg; rw [if_neg h0, if_neg h1, if_pos h2, if_neg ha]
          have HE := Lib.hid E
          clear h0 h1 h2 ha E
          go_enter Tryd.func32, Tryd.ntmps32
          go_wp2
          go_ret2
          unfold Chg; rw [HE.out]
          exact ⟨rfl, (Below.refl _ _).alloc (Nat.le_refl _) _⟩
      · have f2 : (n == 2) = false := by simp [h2]
        have E : chg a n = (0, false) := by unfold chg; rw [if_neg h0, if_neg h1, if_neg h2]
        have HE := Lib.hid E
        clear h0 h1 h2 E
        go_enter Tryd.func32, Tryd.ntmps32
        go_wp2
        go_ret2
        unfold Chg; rw [HE.out]
        exact ⟨rfl, (Below.refl _ _).alloc (Nat.le_refl _) _⟩
end Go.Proofs.YtelchjgpfpccnaaDoor
