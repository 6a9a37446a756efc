/-
  normal at every list, a nil slice too; All of one axis. No condition but the bounds on the list.
-/
import Derived.Test.YteekccjfokoglaaH
namespace Go.Proofs.Yteekccjfokoglaa
open Go.RowKit Go.Sort Go.Lib Go.Proofs
set_option linter.unusedSimpArgs false
set_option linter.unnecessarySimpa false
set_option linter.unusedVariables false
theorem delete_nil (b : Bool) (c : Nat) (w : World) : Calls Try.prog 72 #[.slice none 0 c, .func (.func 74) #[axv b] #[]] w fun e w' => e = .returned (.slice none 0 c) ∧ Below w.heap.size w w' := by
  have HI := Lib.hid (index_any b none c [] w (re_nil _ _ _) ⟨by simp, by simp⟩)
  have h11 : ((-1 : Int) == -1) = true := by decide
  go_enter Try.func72, Try.ntmps72
  go_wp2_with fail
  refine HI.out.mono ?_
  rintro e w1 ⟨k, hk, _, he, hb1⟩
  rcases he with ⟨_, rfl⟩ | ⟨h, _⟩
  · have HB := Lib.hid hb1
    clear hb1
    go_wp2_with fail
    go_ret
    exact ⟨rfl, HB.out⟩
  · simp at h
theorem nrm_nil (b : Bool) : nrm b [] = [] := by
  have := nrm_len b []
  exact List.length_eq_zero_iff.1 (by simpa using this)
theorem clone_nil (cap : Nat) (w : World) : Calls Try.prog 73 #[.slice none 0 cap] w fun e w' => e = .returned (.slice none 0 0) ∧ Below w.heap.size w w' :=
  (AnyE.slices_Clone_nil Try.cloneB 0 cap w).mono fun e w' ⟨h1, h2⟩ => ⟨h1, by rw [h2]; exact Below.refl _ _⟩
set_option maxRecDepth 100000 in
set_option maxHeartbeats 4000000 in
theorem normal_nil (b : Bool) (cap : Nat) (w : World) : Calls Try.prog 52 #[axv b, .slice none 0 cap] w (NrmIs b [] w) := by
  have HB0 := Lib.hid (bx_new b w)
  have HC := Lib.hid (fun W => clone_nil cap W)
  have HD := Lib.hid (fun c W => delete_nil b c W)
  have HS := Lib.hid (fun c W => sort_none none c W)
  go_enter Try.func52, Try.ntmps52
  go_wp2_with fail
  obtain ⟨w1, hw1⟩ : ∃ w1, w1 = w.alloc (.cells #[.int .i64 (lim b), .bool b] 51) := ⟨_, rfl⟩
  rw [← hw1] at HB0 ⊢
  have S0 : w1.cell? ⟨w.heap.size, 0, none⟩ = some (.int .i64 (lim b)) ∧ w1.cell? ⟨w.heap.size, 1, none⟩ = some (.bool b) ∧ Below w1.heap.size w1 w1 := ⟨HB0.out.c0, HB0.out.c1, Below.refl _ _⟩
  have z0 : w.heap.size < w1.heap.size := HB0.out.lt
  clear hw1
  go_region_held3 (fun w' => w'.cell? ⟨w.heap.size, 0, none⟩ = some (.int .i64 (lim b)) ∧ w'.cell? ⟨w.heap.size, 1, none⟩ = some (.bool b) ∧ Below w1.heap.size w1 w') (first | assumption | exact S0 | exact keep2 z0 z0 S0 (drewB _) | exact keep2 z0 z0 (by assumption) hb3 | exact keep2 z0 z0 (by assumption) hb2 | exact keep2 z0 z0 (by assumption) (drewB _))
    (first | (go_at_call 73; refine (HC.out _).mono ?_; rintro e w2 ⟨rfl, hb2⟩) | (go_at_call 72; refine (HD.out _ _).mono ?_; rintro e w3 ⟨rfl, hb3⟩))
  all_goals
    have HS3 := Lib.hid (show w3.cell? ⟨w.heap.size, 0, none⟩ = some (.int .i64 (lim b)) ∧ w3.cell? ⟨w.heap.size, 1, none⟩ = some (.bool b) ∧ Below w1.heap.size w1 w3 from by assumption)
    clear hb2 hb3
    go_wp2_with fail
    refine wp_loop_rounds 1 ?_
    rw [rounds_succ]
    go_wp2_with fail
    refine (HS.out _ _).mono ?_
    rintro e w4 ⟨rfl, hw4⟩
    have HB := Lib.hid (show Below w.heap.size w w4 by rw [hw4]; exact (HB0.out.bel.trans (HS3.out.2.2.mono (Nat.le_of_lt z0))))
    clear hw4
    go_wp2_with fail
    refine wp_loop_rounds 1 ?_
    rw [rounds_succ]
    go_wp2_with fail
    go_ret
    exact ⟨_, rfl, by rw [nrm_nil]; exact World.ownsRow_nil _ _ _ _, HB.out⟩
/-- normal at every list -/
theorem nrm_any (b : Bool) (A : Option Addr) (cap : Nat) (l : List Sp) (w : World) (hR : Re w w.heap.size A l) (hl : okL l) (hf : Plain A cap) :
    Calls Try.prog 52 #[axv b, .slice A l.length cap] w (NrmIs b l w) := by
  by_cases hne : A = none
  · subst hne
    have : l = [] := by
      cases l with
      | nil => rfl
      | cons s l => obtain ⟨_, _, h, _⟩ := hR.at_ 0 (by simp); simp at h
    subst this
    exact normal_nil b cap w
  · exact normal_any b A cap l w hR hl hf hne
end Go.Proofs.Yteekccjfokoglaa
