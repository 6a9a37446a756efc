/-
  Steps by value, and how two of them compare: compareSteps, cmp.Or, the specification's one and sign. No condition.
-/
import Derived.Test.YtaocgibfabofhaaDoorI
import Derived.Deep.RegionHeld3
import Derived.Deep.RegionWith
import Derived.LoopTactic
import Derived.IntWalk
namespace Go.Proofs.YtaocgibfabofhaaDoor
open Go.RowKit
set_option linter.unusedSimpArgs false
set_option linter.unusedVariables false

/-- a step by value -/
abbrev sv (s : ByteArray) (i : Int) : Value := .agg #[.string s, .int .i64 i]
def cmpB (a b : ByteArray) : Int := Lib.compareBytes a.data.toList b.data.toList
def orI (x y : Int) : Int := if x = 0 then y else x
/-- how two steps compare -/
def cmpS (a : ByteArray) (i : Int) (b : ByteArray) (j : Int) : Int :=
  if a.size ≠ 0 ∧ b.size = 0 then -1 else if a.size = 0 ∧ b.size ≠ 0 then 1 else orI (cmpB a b) (Lib.compareInt i j)
theorem cmpS_1 {a b : ByteArray} {i j : Int} (h : a.size ≠ 0) (h' : b.size = 0) : cmpS a i b j = -1 := by unfold cmpS; rw [if_pos ⟨h, h'⟩]
theorem cmpS_2 {a b : ByteArray} {i j : Int} (h : a.size = 0) (h' : b.size ≠ 0) : cmpS a i b j = 1 := by unfold cmpS; rw [if_neg (by omega), if_pos ⟨h, h'⟩]
theorem cmpS_3 {a b : ByteArray} {i j : Int} (h : a.size = 0 ↔ b.size = 0) : cmpS a i b j = orI (cmpB a b) (Lib.compareInt i j) := by unfold cmpS; rw [if_neg (by omega), if_neg (by omega)]
theorem str_ne (s : ByteArray) (h : s.size ≠ 0) : s.toList ≠ [] ∧ s.toList.isEmpty = false := ne_facts s (by omega)

set_option maxHeartbeats 1000000 in
theorem or_at (x y : Int) (g : Nat) (w : World) (h0 : w.cell? ⟨g, 0, none⟩ = some (.int .i64 x)) (h1 : w.cell? ⟨g, 1, none⟩ = some (.int .i64 y)) :
    Calls Tryd.prog 53 #[.slice (some ⟨g, 0, none⟩) 2 2] w fun e w' => e = .returned (.int .i64 (orI x y)) ∧ w = w' := by
  by_cases hx : x = 0
  · subst hx
    by_cases hy : y = 0
    · subst hy
      go_enter Tryd.func53, Tryd.ntmps53
      go_wp2
      refine wp_loop_rounds 3 ?_
      rw [rounds_succ]; go_wp2_with fail
      rw [rounds_succ]; go_wp2_with fail
      rw [rounds_succ]; go_wp2_with fail
      go_ret
      exact ⟨rfl, rfl⟩
    · have H : Hid (orI 0 y = y) := by show orI 0 y = y; unfold orI; rw [if_pos rfl]
      have hy' : (y != 0) = true := by simp [hy]
      clear hy
      go_enter Tryd.func53, Tryd.ntmps53
      go_wp2
      refine wp_loop_rounds 2 ?_
      rw [rounds_succ]; go_wp2_with fail
      rw [rounds_succ]; go_wp2_with fail
      go_ret
      exact ⟨ret_int H.out.symm, rfl⟩
  · have H : Hid (orI x y = x) := by show orI x y = x; unfold orI; rw [if_neg hx]
    have hx' : (x != 0) = true := by simp [hx]
    clear hx
    go_enter Tryd.func53, Tryd.ntmps53
    go_wp2
    refine wp_loop_rounds 1 ?_
    rw [rounds_succ]; go_wp2_with fail
    go_ret
    exact ⟨ret_int H.out.symm, rfl⟩

theorem cell_keep {w w' : World} {a : Addr} {v : Value} (h : w.cell? a = some v) (hb : Below w.heap.size w w') : w'.cell? a = some v := by
  rw [hb.cell (World.block_lt_of_cell? w _ h)]; exact h
/-- two steps in two blocks -/
abbrev S2 (w0 : World) (p q : Nat) (a : ByteArray) (i : Int) (b : ByteArray) (j : Int) (w : World) : Prop :=
  Below w0.heap.size w0 w ∧ w.cell? ⟨p, 0, none⟩ = some (.string a) ∧ w.cell? ⟨p, 1, none⟩ = some (.int .i64 i) ∧ w.cell? ⟨q, 0, none⟩ = some (.string b) ∧ w.cell? ⟨q, 1, none⟩ = some (.int .i64 j)
theorem keep2 {w0 w w' : World} {p q : Nat} {a : ByteArray} {i : Int} {b : ByteArray} {j : Int} (h : S2 w0 p q a i b j w) (hb : Below w.heap.size w w') : S2 w0 p q a i b j w' := by
  obtain ⟨h0, a0, a1, p0, p1⟩ := h
  exact ⟨h0.trans (hb.mono h0.size), cell_keep a0 hb, cell_keep a1 hb, cell_keep p0 hb, cell_keep p1 hb⟩
theorem below2 {w0 w : World} {p q : Nat} {a : ByteArray} {i : Int} {b : ByteArray} {j : Int} (h : S2 w0 p q a i b j w) : Below w0.heap.size w0 w := h.1
theorem s2_start (w : World) (a : ByteArray) (i : Int) (b : ByteArray) (j : Int) :
    S2 w w.heap.size (w.heap.size + 1) a i b j ((w.alloc (.cells #[.string a, .int .i64 i] 37)).alloc (.cells #[.string b, .int .i64 j] 37)).drew := by
  refine ⟨(((Below.refl _ _).alloc (Nat.le_refl _) _).alloc (by simp) _).drew, ?_, ?_, ?_, ?_⟩ <;> go_simp
theorem strcmp_q (a b : ByteArray) (w : World) : Calls Tryd.prog 54 #[.string a, .string b] w fun e w' => e = .returned (.int .i64 (cmpB a b)) ∧ w = w' :=
  (Tryd.strings_Compare a b w).mono fun _ _ ⟨he, hw⟩ => ⟨he, hw.symm⟩
theorem intcmp_q (a b : Int) (w : World) : Calls Tryd.prog 55 #[.int .i64 a, .int .i64 b] w fun e w' => e = .returned (.int .i64 (Lib.compareInt a b)) ∧ w = w' :=
  (Tryd.cmp_Compare_int a b w).mono fun _ _ ⟨he, hw⟩ => ⟨he, hw.symm⟩
set_option maxRecDepth 100000 in
set_option maxHeartbeats 4000000 in
theorem cs_any (a : ByteArray) (i : Int) (b : ByteArray) (j : Int) (w : World) :
    Calls Tryd.prog 37 #[sv a i, sv b j] w fun e w' => e = .returned (.int .i64 (cmpS a i b j)) ∧ Below w.heap.size w w' := by
  unfold sv
  by_cases ha : a.size = 0
  · obtain ⟨a1, a2⟩ := empty_facts a ha
    by_cases hb : b.size = 0
    · obtain ⟨b1, b2⟩ := empty_facts b hb
      have HV := Lib.hid (cmpS_3 (a := a) (b := b) (i := i) (j := j) ⟨fun _ => hb, fun _ => ha⟩)
      clear ha hb
      go_enter Tryd.func37, Tryd.ntmps37
      go_wp2_with fail
      go_region_held3 (fun w' => S2 w w.heap.size (w.heap.size + 1) a i b j w') (first | assumption | exact keep2 (by assumption) ((Below.refl _ _).drew) | exact keep2 (by assumption) ((Below.refl _ _).alloc (Nat.le_refl _) _) | exact s2_start _ _ _ _ _) (first | (go_at_call 54; refine (strcmp_q _ _ _).mono ?_; rintro e w' ⟨rfl, rfl⟩) | (go_at_call 55; refine (intcmp_q _ _ _).mono ?_; rintro e w' ⟨rfl, rfl⟩) | (go_at_call 53; refine (or_at (cmpB a b) (Lib.compareInt i j) _ _ ?c1 ?c2).mono ?_; (case c1 => (go_simp; done)); (case c2 => (go_simp; done)); rintro e w' ⟨rfl, rfl⟩))
      all_goals
        go_wp2_with fail
        go_ret
        exact ⟨ret_int HV.out.symm, below2 (by assumption)⟩
    · obtain ⟨b1, b2⟩ := str_ne b hb
      have HV := Lib.hid (cmpS_2 (i := i) (j := j) ha hb)
      clear ha hb
      go_enter Tryd.func37, Tryd.ntmps37
      go_wp2_with fail
      go_ret
      exact ⟨ret_int HV.out.symm, (((Below.refl _ _).alloc (Nat.le_refl _) _).alloc (by simp) _)⟩
  · obtain ⟨a1, a2⟩ := str_ne a ha
    by_cases hb : b.size = 0
    · obtain ⟨b1, b2⟩ := empty_facts b hb
      have HV := Lib.hid (cmpS_1 (i := i) (j := j) ha hb)
      clear ha hb
      go_enter Tryd.func37, Tryd.ntmps37
      go_wp2_with fail
      go_ret
      exact ⟨ret_int HV.out.symm, (((Below.refl _ _).alloc (Nat.le_refl _) _).alloc (by simp) _)⟩
    · obtain ⟨b1, b2⟩ := str_ne b hb
      have HV := Lib.hid (cmpS_3 (a := a) (b := b) (i := i) (j := j) ⟨fun h => absurd h ha, fun h => absurd h hb⟩)
      clear ha hb
      go_enter Tryd.func37, Tryd.ntmps37
      go_wp2_with fail
      go_region_held3 (fun w' => S2 w w.heap.size (w.heap.size + 1) a i b j w') (first | assumption | exact keep2 (by assumption) ((Below.refl _ _).drew) | exact keep2 (by assumption) ((Below.refl _ _).alloc (Nat.le_refl _) _) | exact s2_start _ _ _ _ _) (first | (go_at_call 54; refine (strcmp_q _ _ _).mono ?_; rintro e w' ⟨rfl, rfl⟩) | (go_at_call 55; refine (intcmp_q _ _ _).mono ?_; rintro e w' ⟨rfl, rfl⟩) | (go_at_call 53; refine (or_at (cmpB a b) (Lib.compareInt i j) _ _ ?c1 ?c2).mono ?_; (case c1 => (go_simp; done)); (case c2 => (go_simp; done)); rintro e w' ⟨rfl, rfl⟩))
      all_goals
        go_wp2_with fail
        go_ret
        exact ⟨ret_int HV.out.symm, below2 (by assumption)⟩

theorem sign_any (v : Bool) (w : World) : Calls Tryd.prog 39 #[.bool v] w fun e w' => e = .returned (.int .i64 (if v = true then -1 else 1)) ∧ w = w' := by
  cases v with
  | true =>
    go_enter Tryd.func39, Tryd.ntmps39
    go_wp2
    go_ret
    exact ⟨rfl, rfl⟩
  | false =>
    go_enter Tryd.func39, Tryd.ntmps39
    go_wp2
    go_ret
    exact ⟨rfl, rfl⟩
end Go.Proofs.YtaocgibfabofhaaDoor
