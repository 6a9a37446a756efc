/-
  Versions: their numbers, comparison of numbers, Valid. No condition.
-/
import Derived.Test.YthlcdimofagmfaaGreatDoorProg
import Derived.WalkKit
import Derived.WalkSpells
import Derived.WalkLawsBesides
import Derived.Deep.RegionWith
import Derived.Lib.Hide
import Derived.Test.YthlcdimofagmfaaGreatDoorM
import Derived.Deep.RegionHeld3
import Derived.BigQuiet
import Derived.Deep.QuietTactic
import Derived.Deep.DeepCutAuto
import Derived.Sort.Grow
namespace Go.Proofs.YthlcdimofagmfaaGreatDoor
open Go.RowKit
set_option linter.unusedSimpArgs false
set_option linter.unnecessarySimpa false
set_option linter.unusedVariables false
/-- a version, by value -/
abbrev vv (a b c : Int) : Value := .agg #[.int .i64 a, .int .i64 b, .int .i64 c]
theorem ret_bool {a b : Bool} (h : a = b) : Ending.returned (.bool a) = .returned (.bool b) := by rw [h]
theorem ret_int {k : IntKind} {a b : Int} (h : a = b) : Ending.returned (.int k a) = .returned (.int k b) := by rw [h]
set_option maxHeartbeats 1000000 in
theorem numbers_any (a b c : Int) (w : World) :
    Calls Tryz.prog 71 #[vv a b c] w fun e w' => e = .returned (vv a b c) ∧ Below w.heap.size w w' := by
  unfold vv
  go_enter Tryz.func71, Tryz.ntmps71
  go_wp2
  refine bodyPost_ret (v := _) (by simp [results, Tryz.results71, go_sem]) rfl ⟨rfl, ?_⟩
  exact ((Below.refl _ _).alloc (Nat.le_refl _) _).alloc (by simp) _
set_option maxHeartbeats 1000000 in
theorem cmp_any (a b : Int) (w : World) :
    Calls Tryz.prog 72 #[.int .i64 a, .int .i64 b] w fun e w' => e = .returned (.int .i64 (cmpI a b)) ∧ w = w' := by
  by_cases h1 : a < b
  · rw [cmp_lt h1]
    go_enter Tryz.func72, Tryz.ntmps72
    go_wp2
    go_ret
    exact ⟨rfl, rfl⟩
  · by_cases h2 : b < a
    · rw [cmp_gt h2]
      go_enter Tryz.func72, Tryz.ntmps72
      go_wp2
      go_ret
      exact ⟨rfl, rfl⟩
    · rw [cmp_eq (by omega)]
      go_enter Tryz.func72, Tryz.ntmps72
      go_wp2
      go_ret
      exact ⟨rfl, rfl⟩
theorem okN_yes {n : Int} (h0 : ¬ n < 0) (h1 : ¬ 9999 < n) : okN n = true := by unfold okN; simp; omega
theorem okN_lo {n : Int} (h0 : n < 0) : okN n = false := by unfold okN; simp; omega
theorem okN_hi {n : Int} (h0 : 9999 < n) : okN n = false := by unfold okN; simp; omega
set_option maxHeartbeats 2000000 in
theorem valid_any (a b c : Int) (w : World) :
    Calls Tryz.prog 80 #[vv a b c] w fun e w' => e = .returned (.bool (okV a b c)) ∧ Below w.heap.size w w' := by
  have i0 : ∀ w : World, (Instr.index 106 (.agg #[.int .i64 a, .int .i64 b, .int .i64 c]) (.int .i64 0)).run Tryz.prog w = .ok (.int .i64 a) w := fun _ => by kernel_rfl
  have i1 : ∀ w : World, (Instr.index 106 (.agg #[.int .i64 a, .int .i64 b, .int .i64 c]) (.int .i64 1)).run Tryz.prog w = .ok (.int .i64 b) w := fun _ => by kernel_rfl
  have i2 : ∀ w : World, (Instr.index 106 (.agg #[.int .i64 a, .int .i64 b, .int .i64 c]) (.int .i64 2)).run Tryz.prog w = .ok (.int .i64 c) w := fun _ => by kernel_rfl
  unfold vv
  by_cases l0 : a < 0
  · have HV : Hid (okV a b c = false) := by show okV a b c = _; unfold okV; rw [okN_lo l0]; simp
    go_enter Tryz.func80, Tryz.ntmps80
    go_wp2_with fail
    refine (numbers_any _ _ _ _).mono ?_
    rintro e w1 ⟨rfl, hb1⟩
    have HB := Lib.hid ((((Below.refl w.heap.size w).alloc (Nat.le_refl _) (.cells #[.int .i64 a, .int .i64 b, .int .i64 c] 32))).trans (hb1.mono (by simp)))
    clear hb1
    go_wp2_with fail
    refine wp_loop_rounds 1 ?_
    rw [rounds_succ]; go_wp2_with fail
    go_ret
    rw [HV.out]
    exact ⟨rfl, HB.out⟩
  · by_cases u0 : 9999 < a
    · have HV : Hid (okV a b c = false) := by show okV a b c = _; unfold okV; rw [okN_hi u0]; simp
      go_enter Tryz.func80, Tryz.ntmps80
      go_wp2_with fail
      refine (numbers_any _ _ _ _).mono ?_
      rintro e w1 ⟨rfl, hb1⟩
      have HB := Lib.hid ((((Below.refl w.heap.size w).alloc (Nat.le_refl _) (.cells #[.int .i64 a, .int .i64 b, .int .i64 c] 32))).trans (hb1.mono (by simp)))
      clear hb1
      go_wp2_with fail
      refine wp_loop_rounds 1 ?_
      rw [rounds_succ]; go_wp2_with fail
      go_ret
      rw [HV.out]
      exact ⟨rfl, HB.out⟩
    · skip
      by_cases l1 : b < 0
      · have HV : Hid (okV a b c = false) := by show okV a b c = _; unfold okV; rw [okN_lo l1, okN_yes l0 u0]; simp
        go_enter Tryz.func80, Tryz.ntmps80
        go_wp2_with fail
        refine (numbers_any _ _ _ _).mono ?_
        rintro e w1 ⟨rfl, hb1⟩
        have HB := Lib.hid ((((Below.refl w.heap.size w).alloc (Nat.le_refl _) (.cells #[.int .i64 a, .int .i64 b, .int .i64 c] 32))).trans (hb1.mono (by simp)))
        clear hb1
        go_wp2_with fail
        refine wp_loop_rounds 2 ?_
        rw [rounds_succ]; go_wp2_with fail
        rw [rounds_succ]; go_wp2_with fail
        go_ret
        rw [HV.out]
        exact ⟨rfl, HB.out⟩
      · by_cases u1 : 9999 < b
        · have HV : Hid (okV a b c = false) := by show okV a b c = _; unfold okV; rw [okN_hi u1, okN_yes l0 u0]; simp
          go_enter Tryz.func80, Tryz.ntmps80
          go_wp2_with fail
          refine (numbers_any _ _ _ _).mono ?_
          rintro e w1 ⟨rfl, hb1⟩
          have HB := Lib.hid ((((Below.refl w.heap.size w).alloc (Nat.le_refl _) (.cells #[.int .i64 a, .int .i64 b, .int .i64 c] 32))).trans (hb1.mono (by simp)))
          clear hb1
          go_wp2_with fail
          refine wp_loop_rounds 2 ?_
          rw [rounds_succ]; go_wp2_with fail
          rw [rounds_succ]; go_wp2_with fail
          go_ret
          rw [HV.out]
          exact ⟨rfl, HB.out⟩
        · skip
          by_cases l2 : c < 0
          · have HV : Hid (okV a b c = false) := by show okV a b c = _; unfold okV; rw [okN_lo l2, okN_yes l0 u0, okN_yes l1 u1]; simp
            go_enter Tryz.func80, Tryz.ntmps80
            go_wp2_with fail
            refine (numbers_any _ _ _ _).mono ?_
            rintro e w1 ⟨rfl, hb1⟩
            have HB := Lib.hid ((((Below.refl w.heap.size w).alloc (Nat.le_refl _) (.cells #[.int .i64 a, .int .i64 b, .int .i64 c] 32))).trans (hb1.mono (by simp)))
            clear hb1
            go_wp2_with fail
            refine wp_loop_rounds 3 ?_
            rw [rounds_succ]; go_wp2_with fail
            rw [rounds_succ]; go_wp2_with fail
            rw [rounds_succ]; go_wp2_with fail
            go_ret
            rw [HV.out]
            exact ⟨rfl, HB.out⟩
          · by_cases u2 : 9999 < c
            · have HV : Hid (okV a b c = false) := by show okV a b c = _; unfold okV; rw [okN_hi u2, okN_yes l0 u0, okN_yes l1 u1]; simp
              go_enter Tryz.func80, Tryz.ntmps80
              go_wp2_with fail
              refine (numbers_any _ _ _ _).mono ?_
              rintro e w1 ⟨rfl, hb1⟩
              have HB := Lib.hid ((((Below.refl w.heap.size w).alloc (Nat.le_refl _) (.cells #[.int .i64 a, .int .i64 b, .int .i64 c] 32))).trans (hb1.mono (by simp)))
              clear hb1
              go_wp2_with fail
              refine wp_loop_rounds 3 ?_
              rw [rounds_succ]; go_wp2_with fail
              rw [rounds_succ]; go_wp2_with fail
              rw [rounds_succ]; go_wp2_with fail
              go_ret
              rw [HV.out]
              exact ⟨rfl, HB.out⟩
            · have HV : Hid (okV a b c = true) := by show okV a b c = _; unfold okV; rw [okN_yes l0 u0, okN_yes l1 u1, okN_yes l2 u2]; rfl
              go_enter Tryz.func80, Tryz.ntmps80
              go_wp2_with fail
              refine (numbers_any _ _ _ _).mono ?_
              rintro e w1 ⟨rfl, hb1⟩
              have HB := Lib.hid ((((Below.refl w.heap.size w).alloc (Nat.le_refl _) (.cells #[.int .i64 a, .int .i64 b, .int .i64 c] 32))).trans (hb1.mono (by simp)))
              clear hb1
              go_wp2_with fail
              refine wp_loop_rounds 4 ?_
              rw [rounds_succ]; go_wp2_with fail
              rw [rounds_succ]; go_wp2_with fail
              rw [rounds_succ]; go_wp2_with fail
              rw [rounds_succ]; go_wp2_with fail
              go_ret
              rw [HV.out]
              exact ⟨rfl, HB.out⟩
end Go.Proofs.YthlcdimofagmfaaGreatDoor
namespace Go.Proofs.YthlcdimofagmfaaGreatDoor
open Go.RowKit
set_option linter.unusedSimpArgs false
set_option linter.unnecessarySimpa false
set_option linter.unusedVariables false
theorem cell_keep {w w' : World} {a : Addr} {v : Value} (h : w.cell? a = some v) (hb : Below w.heap.size w w') : w'.cell? a = some v := by
  rw [hb.cell (World.block_lt_of_cell? w _ h)]; exact h
/-- w' is w with answers drawn and blocks laid, no more -/
def Gr (w w' : World) : Prop := ∃ (q : Nat) (os : Array Obj), w' = Go.Sort.grow (w.drewN q) os
theorem Gr.refl (w : World) : Gr w w := ⟨0, #[], by simp [Go.Sort.grow, World.drewN]⟩
theorem grow_drewN (w : World) (os : Array Obj) (q : Nat) : (Go.Sort.grow w os).drewN q = Go.Sort.grow (w.drewN q) os := rfl
theorem drewN_add (w : World) (p q : Nat) : (w.drewN p).drewN q = w.drewN (p + q) := by simp [World.drewN, Nat.add_assoc]
theorem Gr.trans {w w1 w2 : World} (h : Gr w w1) (h' : Gr w1 w2) : Gr w w2 := by
  obtain ⟨p, os, rfl⟩ := h
  obtain ⟨q, os', rfl⟩ := h'
  exact ⟨p + q, os ++ os', by rw [grow_drewN, drewN_add, Go.Sort.grow_grow]⟩
theorem grow_none (w : World) : Go.Sort.grow w #[] = w := by cases w; simp [Go.Sort.grow]
theorem Gr.drewN {w w1 : World} (h : Gr w w1) (n : Nat) : Gr w (w1.drewN n) := h.trans ⟨n, #[], (grow_none _).symm⟩
theorem Gr.drew {w w1 : World} (h : Gr w w1) : Gr w w1.drew := h.drewN 1
theorem Gr.alloc {w w1 : World} (h : Gr w w1) (o : Obj) : Gr w (w1.alloc o) := h.trans ⟨0, #[o], by rw [Go.Sort.alloc_eq_grow]; simp [Go.Sort.grow, World.drewN]⟩
theorem Gr.below {w w1 : World} (h : Gr w w1) : Below w.heap.size w w1 := by
  obtain ⟨q, os, rfl⟩ := h
  have h0 : Below w.heap.size w (w.drewN q) := by constructor <;> first | rfl | (intros; rfl) | (intros; assumption) | exact Nat.le_refl _
  constructor <;> first
    | rfl
    | (intros; rfl)
    | (intro b hb; show (w.heap ++ os)[b]? = w.heap[b]?; rw [Array.getElem?_append_left hb])
    | (show w.heap.size ≤ (w.heap ++ os).size; simp)
/-- two versions in two blocks -/
abbrev S2 (w0 : World) (p q : Nat) (a b c a' b' c' : Int) (w : World) : Prop :=
  Gr w0 w ∧ w.cell? ⟨p, 0, none⟩ = some (.int .i64 a) ∧ w.cell? ⟨p, 1, none⟩ = some (.int .i64 b) ∧ w.cell? ⟨p, 2, none⟩ = some (.int .i64 c) ∧
    w.cell? ⟨q, 0, none⟩ = some (.int .i64 a') ∧ w.cell? ⟨q, 1, none⟩ = some (.int .i64 b') ∧ w.cell? ⟨q, 2, none⟩ = some (.int .i64 c')
theorem keep2 {w0 w w' : World} {p q : Nat} {a b c a' b' c' : Int} (h : S2 w0 p q a b c a' b' c' w) (hg : Gr w w') : S2 w0 p q a b c a' b' c' w' := by
  obtain ⟨h0, a0, a1, a2, p0, p1, p2⟩ := h
  have hb := hg.below
  exact ⟨h0.trans hg, cell_keep a0 hb, cell_keep a1 hb, cell_keep a2 hb, cell_keep p0 hb, cell_keep p1 hb, cell_keep p2 hb⟩
set_option maxHeartbeats 1000000 in
theorem numbers_ex (a b c : Int) (w : World) :
    Calls Tryz.prog 71 #[vv a b c] w fun e w' => e = .returned (vv a b c) ∧ (w.alloc (.cells #[.int .i64 a, .int .i64 b, .int .i64 c] 32)).alloc (.cells #[.int .i64 a, .int .i64 b, .int .i64 c] 106) = w' := by
  unfold vv
  go_enter Tryz.func71, Tryz.ntmps71
  go_wp2
  exact bodyPost_ret (v := _) (by simp [results, Tryz.results71, go_sem]) rfl ⟨rfl, rfl⟩
theorem cmp_q (a b : Int) (w : World) :
    Calls Tryz.prog 72 #[.int .i64 a, .int .i64 b] w fun e w' => e = .returned (.int .i64 (cmpI a b)) ∧ w' = w :=
  (cmp_any a b w).mono fun _ _ ⟨he, hw⟩ => ⟨he, hw.symm⟩
theorem below2 {w0 w : World} {p q : Nat} {a b c a' b' c' : Int} (h : S2 w0 p q a b c a' b' c' w) : Gr w0 w := h.1
/-- what Compare's first statement leaves -/
def Two (w : World) (a b c a' b' c' : Int) (p q : Value) (wx : World) : Prop :=
  ∃ g h, p = .pointer (some ⟨g, 0, none⟩) ∧ q = .pointer (some ⟨h, 0, none⟩) ∧ S2 w g h a b c a' b' c' wx
set_option maxRecDepth 100000 in
set_option maxHeartbeats 4000000 in
theorem compare_gr (a b c a' b' c' : Int) (w : World) :
    Calls Tryz.prog 44 #[vv a b c, vv a' b' c'] w fun e w' => e = .returned (.int .i64 (cmp3 a b c a' b' c')) ∧ Gr w w' := by
  unfold vv
  go_enter Tryz.func44, Tryz.ntmps44
  go_upto_region 1 with fail
  go_cut [5, 6] (fun p q wx => Two w a b c a' b' c' p q wx)
  case first =>
    go_region_held3 (fun w' => w'.cell? ⟨w.heap.size, 0, none⟩ = some (.int .i64 a) ∧ w'.cell? ⟨w.heap.size, 1, none⟩ = some (.int .i64 b) ∧ w'.cell? ⟨w.heap.size, 2, none⟩ = some (.int .i64 c) ∧ w'.cell? ⟨w.heap.size + 1, 0, none⟩ = some (.int .i64 a') ∧ w'.cell? ⟨w.heap.size + 1, 1, none⟩ = some (.int .i64 b') ∧ w'.cell? ⟨w.heap.size + 1, 2, none⟩ = some (.int .i64 c')) (refine ⟨?_, ?_, ?_, ?_, ?_, ?_⟩ <;> (go_simp; done))
      (first | (go_at_call 71; refine (numbers_ex _ _ _ _).mono ?_; rintro e w' ⟨rfl, rfl⟩))
    all_goals
      go_wp2_with fail
      go_meet
      refine ⟨_, _, rfl, rfl, ?_, ?_, ?_, ?_, ?_, ?_, ?_⟩
      · repeat' (first | exact Gr.refl _ | refine Gr.drew ?_ | refine Gr.alloc ?_ _)
      all_goals (go_simp; done)
  case rest =>
    obtain ⟨g, h, rfl, rfl, hS⟩ := hcut
    go_wp2_with fail
    by_cases e0 : cmpI a a' = 0
    · have f0 : (cmpI a a' != 0) = false := by simp [e0]
      by_cases e1 : cmpI b b' = 0
      · have f1 : (cmpI b b' != 0) = false := by simp [e1]
        by_cases e2 : cmpI c c' = 0
        · have f2 : (cmpI c c' != 0) = false := by simp [e2]
          have HV : Hid (cmp3 a b c a' b' c' = 0) := by show cmp3 a b c a' b' c' = _; unfold cmp3; rw [if_neg (by simp [e0]), if_neg (by simp [e1]), e2]
          clear e0 e1 e2
          refine wp_loop_rounds 4 ?_
          rw [rounds_succ]; go_wp2_with fail
          go_region_held3 (fun w' => S2 w g h a b c a' b' c' w') (first | assumption | exact keep2 (by assumption) ((Gr.refl _).drew)) (first | (go_at_call 72; refine (cmp_any _ _ _).mono ?_; rintro e w' ⟨rfl, rfl⟩))
          go_wp2_with fail
          rw [rounds_succ]; go_wp2_with fail
          go_region_held3 (fun w' => S2 w g h a b c a' b' c' w') (first | assumption | exact keep2 (by assumption) ((Gr.refl _).drew)) (first | (go_at_call 72; refine (cmp_any _ _ _).mono ?_; rintro e w' ⟨rfl, rfl⟩))
          go_wp2_with fail
          rw [rounds_succ]; go_wp2_with fail
          go_region_held3 (fun w' => S2 w g h a b c a' b' c' w') (first | assumption | exact keep2 (by assumption) ((Gr.refl _).drew)) (first | (go_at_call 72; refine (cmp_any _ _ _).mono ?_; rintro e w' ⟨rfl, rfl⟩))
          go_wp2_with fail
          rw [rounds_succ]; go_wp2_with fail
          go_ret
          rw [HV.out]
          exact ⟨rfl, below2 (by assumption)⟩
        · have f2 : (cmpI c c' != 0) = true := by simp [e2]
          have HV : Hid (cmp3 a b c a' b' c' = cmpI c c') := by show cmp3 a b c a' b' c' = _; unfold cmp3; rw [if_neg (by simp [e0]), if_neg (by simp [e1])]
          clear e0 e1 e2
          refine wp_loop_rounds 3 ?_
          rw [rounds_succ]; go_wp2_with fail
          go_region_held3 (fun w' => S2 w g h a b c a' b' c' w') (first | assumption | exact keep2 (by assumption) ((Gr.refl _).drew)) (first | (go_at_call 72; refine (cmp_any _ _ _).mono ?_; rintro e w' ⟨rfl, rfl⟩))
          go_wp2_with fail
          rw [rounds_succ]; go_wp2_with fail
          go_region_held3 (fun w' => S2 w g h a b c a' b' c' w') (first | assumption | exact keep2 (by assumption) ((Gr.refl _).drew)) (first | (go_at_call 72; refine (cmp_any _ _ _).mono ?_; rintro e w' ⟨rfl, rfl⟩))
          go_wp2_with fail
          rw [rounds_succ]; go_wp2_with fail
          go_region_held3 (fun w' => S2 w g h a b c a' b' c' w') (first | assumption | exact keep2 (by assumption) ((Gr.refl _).drew)) (first | (go_at_call 72; refine (cmp_any _ _ _).mono ?_; rintro e w' ⟨rfl, rfl⟩))
          go_wp2_with fail
          go_ret
          rw [HV.out]
          exact ⟨rfl, below2 (by assumption)⟩
      · have f1 : (cmpI b b' != 0) = true := by simp [e1]
        have HV : Hid (cmp3 a b c a' b' c' = cmpI b b') := by show cmp3 a b c a' b' c' = _; unfold cmp3; rw [if_neg (by simp [e0]), if_pos e1]
        clear e0 e1
        refine wp_loop_rounds 2 ?_
        rw [rounds_succ]; go_wp2_with fail
        go_region_held3 (fun w' => S2 w g h a b c a' b' c' w') (first | assumption | exact keep2 (by assumption) ((Gr.refl _).drew)) (first | (go_at_call 72; refine (cmp_any _ _ _).mono ?_; rintro e w' ⟨rfl, rfl⟩))
        go_wp2_with fail
        rw [rounds_succ]; go_wp2_with fail
        go_region_held3 (fun w' => S2 w g h a b c a' b' c' w') (first | assumption | exact keep2 (by assumption) ((Gr.refl _).drew)) (first | (go_at_call 72; refine (cmp_any _ _ _).mono ?_; rintro e w' ⟨rfl, rfl⟩))
        go_wp2_with fail
        go_ret
        rw [HV.out]
        exact ⟨rfl, below2 (by assumption)⟩
    · have f0 : (cmpI a a' != 0) = true := by simp [e0]
      have HV : Hid (cmp3 a b c a' b' c' = cmpI a a') := by show cmp3 a b c a' b' c' = _; unfold cmp3; rw [if_pos e0]
      clear e0
      refine wp_loop_rounds 1 ?_
      rw [rounds_succ]; go_wp2_with fail
      go_region_held3 (fun w' => S2 w g h a b c a' b' c' w') (first | assumption | exact keep2 (by assumption) ((Gr.refl _).drew)) (first | (go_at_call 72; refine (cmp_any _ _ _).mono ?_; rintro e w' ⟨rfl, rfl⟩))
      go_wp2_with fail
      go_ret
      rw [HV.out]
      exact ⟨rfl, below2 (by assumption)⟩
theorem compare_any (a b c a' b' c' : Int) (w : World) :
    Calls Tryz.prog 44 #[vv a b c, vv a' b' c'] w fun e w' => e = .returned (.int .i64 (cmp3 a b c a' b' c')) ∧ Below w.heap.size w w' :=
  (compare_gr a b c a' b' c' w).mono fun _ _ ⟨he, hg⟩ => ⟨he, hg.below⟩
end Go.Proofs.YthlcdimofagmfaaGreatDoor
