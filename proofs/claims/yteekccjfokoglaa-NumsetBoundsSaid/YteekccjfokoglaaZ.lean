/-
  Single, Compare, Ints, between. No condition but the bounds on the lists.
-/
import Derived.Test.YteekccjfokoglaaY
namespace Go.Proofs.Yteekccjfokoglaa
open Go.RowKit Go.Sort Go.Lib Go.Proofs
set_option linter.unusedSimpArgs false
set_option linter.unnecessarySimpa false
set_option linter.unusedVariables false
def singV (s : NS) : Int := if countS s = 1 then lv (leastO s) else 0
def singB (s : NS) : Bool := decide (countS s = 1) && (leastO s).isSome
def SingleIs (s : NS) (w : World) (e : Ending) (w' : World) : Prop := e = .returned (.tuple #[.int .i64 (singV s), .bool (singB s)]) ∧ Below w.heap.size w w'
set_option maxRecDepth 100000 in
set_option maxHeartbeats 1000000 in
theorem single_any (A1 A2 : Option Addr) (c1 c2 : Nat) (s : NS) (w : World) (hN : Ns w A1 c1 A2 c2 s) (hk : okN 1000 s) :
    Calls Try.prog 41 #[nv A1 s.1.length c1 A2 s.2.length c2] w (SingleIs s w) := by
  have hb0 := bal w (.cells #[.slice A1 s.1.length c1, .slice A2 s.2.length c2] 24)
  have HB := Lib.hid hb0
  have HN := Lib.hid hN
  have HK := Lib.hid hk
  have H1 := Lib.hid (count_any A1 A2 c1 c2 s _ (hN.up hb0) hk)
  clear hb0 hN hk
  by_cases h1 : countS s = 1
  · have e1 : singV s = lv (leastO s) := by simp [singV, h1]
    have e2 : singB s = (leastO s).isSome := by simp [singB, h1]
    have HE := Lib.hid (And.intro e1 e2)
    rw [h1] at H1
    clear e1 e2 h1
    have t1 : ((1 : Int) != 1) = false := by decide
    go_enter Try.func41, Try.ntmps41
    go_wp2_with fail
    refine H1.out.mono ?_
    rintro e w2 ⟨rfl, hb2⟩
    have a0 : w2.cell? ⟨w.heap.size, 0, none⟩ = some (.slice A1 s.1.length c1) := by rw [hb2.cell (p := ⟨w.heap.size, 0, none⟩) (by show w.heap.size < _; simp)]; simp
    have a1 : w2.cell? ⟨w.heap.size, 1, none⟩ = some (.slice A2 s.2.length c2) := by rw [hb2.cell (p := ⟨w.heap.size, 1, none⟩) (by show w.heap.size < _; simp)]; simp
    have HB2 := Lib.hid (HB.out.trans (hb2.mono HB.out.size))
    clear hb2
    go_wp2_with fail
    refine (least_any A1 A2 c1 c2 s w2 (HN.out.up HB2.out) HK.out).mono ?_
    rintro e w3 ⟨rfl, hb3⟩
    have HB3 := Lib.hid (HB2.out.trans (hb3.mono HB2.out.size))
    clear hb3 a0 a1
    go_wp2_with fail
    refine bodyPost_ret (results_tmp2 rfl _ _ _) rfl ⟨?_, HB3.out⟩
    rw [HE.out.1, HE.out.2]; rfl
  · have e1 : singV s = 0 := by simp [singV, h1]
    have e2 : singB s = false := by simp [singB, h1]
    have HE := Lib.hid (And.intro e1 e2)
    have t1 : (countS s != 1) = true := by simp [h1]
    generalize countS s = n at *
    clear e1 e2 h1
    go_enter Try.func41, Try.ntmps41
    go_wp2_with fail
    refine H1.out.mono ?_
    rintro e w2 ⟨rfl, hb2⟩
    have HB2 := Lib.hid (HB.out.trans (hb2.mono HB.out.size))
    clear hb2
    go_wp2_with fail
    refine bodyPost_ret (results_tmp2 rfl _ _ _) rfl ⟨?_, HB2.out⟩
    rw [HE.out.1, HE.out.2]; rfl
theorem leastO_bd (s : NS) : ∀ l, leastO s = some l → bd62 l := by
  intro l h
  rcases least_spec s with ⟨h1, _⟩ | ⟨m, h1, h2⟩
  · rw [h1] at h; cases h
  · rw [h1] at h; cases h
    have := (vld_iff _).1 (has_vld h2.1)
    unfold bd62; omega
def cmO (x y : Option Int) : Int := match x, y with
  | some u, some v => if nearB u v = true then -1 else 1
  | some _, none => -1
  | none, some _ => 1
  | none, none => 0
theorem cmp_cmO (s t : NS) : cmpS s t = cmO (leastO (minus s t)) (leastO (minus t s)) := rfl
set_option maxRecDepth 100000 in
set_option maxHeartbeats 1000000 in
theorem compare_any (A1 A2 B1 B2 : Option Addr) (c1 c2 d1 d2 : Nat) (s t : NS) (w : World) (hN : Ns w A1 c1 A2 c2 s) (hM : Ns w B1 d1 B2 d2 t) (hk : okN 400 s) (hj : okN 400 t) :
    Calls Try.prog 45 #[nv A1 s.1.length c1 A2 s.2.length c2, nv B1 t.1.length d1 B2 t.2.length d2] w fun e w' => e = .returned (.int .i64 (cmpS s t)) ∧ Below w.heap.size w w' := by
  have hb0 : Below w.heap.size w ((w.alloc (.cells #[.slice A1 s.1.length c1, .slice A2 s.2.length c2] 24)).alloc (.cells #[.slice B1 t.1.length d1, .slice B2 t.2.length d2] 24)) := ((Below.refl _ _).alloc (Nat.le_refl _) _).alloc (by simp) _
  have H1 := Lib.hid (minus_any A1 A2 B1 B2 c1 c2 d1 d2 s t _ (hN.up hb0) (hM.up hb0) (hk.le (by omega)) (hj.le (by omega)))
  have HB := Lib.hid hb0
  have HN := Lib.hid hN
  have HM := Lib.hid hM
  have HK := Lib.hid hk
  have HJ := Lib.hid hj
  clear hb0 hN hM hk hj
  go_enter Try.func45, Try.ntmps45
  go_wp2_with fail
  refine H1.out.mono ?_
  rintro e w2 ⟨E1, e1, E2, e2, rfl, ⟨hns, _, _⟩, hb2⟩
  have HL := Lib.hid (least_any E1 E2 e1 e2 (minus s t) w2 hns ((minus_ok HK.out HJ.out).le (by omega)))
  have a0 : w2.cell? ⟨w.heap.size, 0, none⟩ = some (.slice A1 s.1.length c1) := by rw [hb2.cell (p := ⟨w.heap.size, 0, none⟩) (by show w.heap.size < _; simp; omega)]; simp
  have a1 : w2.cell? ⟨w.heap.size, 1, none⟩ = some (.slice A2 s.2.length c2) := by rw [hb2.cell (p := ⟨w.heap.size, 1, none⟩) (by show w.heap.size < _; simp; omega)]; simp
  have b0 : w2.cell? ⟨w.heap.size + 1, 0, none⟩ = some (.slice B1 t.1.length d1) := by rw [hb2.cell (p := ⟨w.heap.size + 1, 0, none⟩) (by show w.heap.size + 1 < _; simp)]; simp
  have b1 : w2.cell? ⟨w.heap.size + 1, 1, none⟩ = some (.slice B2 t.2.length d2) := by rw [hb2.cell (p := ⟨w.heap.size + 1, 1, none⟩) (by show w.heap.size + 1 < _; simp)]; simp
  have HB2 := Lib.hid (HB.out.trans (hb2.mono HB.out.size))
  have hz2 : w.heap.size + 1 < w2.heap.size := by have := hb2.size; simp at this; omega
  clear hb2 hns
  go_wp2_with fail
  refine HL.out.mono ?_
  rintro e w3 ⟨rfl, hb3⟩
  have hz2' : w.heap.size < w2.heap.size := by omega
  rw [← hb3.cell (p := ⟨w.heap.size, 0, none⟩) hz2'] at a0
  rw [← hb3.cell (p := ⟨w.heap.size, 1, none⟩) hz2'] at a1
  rw [← hb3.cell (p := ⟨w.heap.size + 1, 0, none⟩) hz2] at b0
  rw [← hb3.cell (p := ⟨w.heap.size + 1, 1, none⟩) hz2] at b1
  have HB3 := Lib.hid (HB2.out.trans (hb3.mono HB2.out.size))
  clear hb3
  have H2 := Lib.hid (minus_any B1 B2 A1 A2 d1 d2 c1 c2 t s w3 (HM.out.up HB3.out) (HN.out.up HB3.out) (HJ.out.le (by omega)) (HK.out.le (by omega)))
  have hu := leastO_bd (minus s t)
  have hv := leastO_bd (minus t s)
  have HC := Lib.hid (cmp_cmO s t)
  generalize leastO (minus s t) = x at *
  go_wp2_with fail
  refine H2.out.mono ?_
  rintro e w4 ⟨E1', e1', E2', e2', rfl, ⟨hns, _, _⟩, hb4⟩
  have HL2 := Lib.hid (least_any E1' E2' e1' e2' (minus t s) w4 hns ((minus_ok HJ.out HK.out).le (by omega)))
  have HB4 := Lib.hid (HB3.out.trans (hb4.mono HB3.out.size))
  clear hb4 hns a0 a1 b0 b1
  go_wp2_with fail
  refine HL2.out.mono ?_
  rintro e w5 ⟨rfl, hb5⟩
  have HB5 := Lib.hid (HB4.out.trans (hb5.mono HB4.out.size))
  clear hb5
  generalize leastO (minus t s) = y at *
  cases x with
  | none =>
    simp only [lv, Option.getD_none, Option.isSome_none]
    cases y with
    | none =>
      simp only [lv, Option.getD_none, Option.isSome_none]
      go_wp2_with fail
      go_ret
      exact ⟨ret_int HC.out.symm, HB5.out⟩
    | some v =>
      simp only [lv, Option.getD_some, Option.isSome_some]
      go_wp2_with fail
      go_ret
      exact ⟨ret_int HC.out.symm, HB5.out⟩
  | some u =>
    simp only [lv, Option.getD_some, Option.isSome_some]
    cases y with
    | none =>
      simp only [lv, Option.getD_none, Option.isSome_none]
      go_wp2_with fail
      go_ret
      exact ⟨ret_int HC.out.symm, HB5.out⟩
    | some v =>
      simp only [lv, Option.getD_some, Option.isSome_some]
      have HNR := Lib.hid (nearer_any u v w5 (hu u rfl) (hv v rfl))
      clear hu hv
      cases hn : nearB u v
      · rw [hn] at HNR
        have HC2 := Lib.hid (HC.out.trans (show cmO (some u) (some v) = 1 by simp [cmO, hn]))
        go_wp2_with (go_at_call 70; with_reducible refine HNR.out.mono ?_; rintro e w6 ⟨rfl, rfl⟩)
        go_ret
        exact ⟨ret_int HC2.out.symm, HB5.out⟩
      · rw [hn] at HNR
        have HC2 := Lib.hid (HC.out.trans (show cmO (some u) (some v) = -1 by simp [cmO, hn]))
        go_wp2_with (go_at_call 70; with_reducible refine HNR.out.mono ?_; rintro e w6 ⟨rfl, rfl⟩)
        go_ret
        exact ⟨ret_int HC2.out.symm, HB5.out⟩
end Go.Proofs.Yteekccjfokoglaa
