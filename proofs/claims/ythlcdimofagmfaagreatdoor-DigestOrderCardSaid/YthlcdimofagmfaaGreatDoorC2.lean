/-
  The specification's order of modules; the closures of Check. Conditions: internal/bytealg.MaxLen holds some number (the paths alone).
-/
import Derived.Test.YthlcdimofagmfaaGreatDoorC1
import Derived.Test.YthlcdimofagmfaaGreatDoorR3
namespace Go.Proofs.YthlcdimofagmfaaGreatDoor
open Go.RowKit Go.Sort
set_option linter.unusedSimpArgs false
set_option linter.unnecessarySimpa false
set_option linter.unusedVariables false
theorem less_cmp : ∀ (l m : List UInt8), Op.bytesLess l m = true ↔ cmpL l m = -1
  | [], [] => by simp [Op.bytesLess, cmpL, Lib.compareBytes]
  | [], b :: m => by simp [Op.bytesLess, cmpL, Lib.compareBytes]
  | a :: l, [] => by simp [Op.bytesLess, cmpL, Lib.compareBytes]
  | a :: l, b :: m => by
    have ih := less_cmp l m
    rw [cmpL_cons]
    unfold Op.bytesLess
    by_cases h1 : a < b
    · simp [h1]
    · by_cases h2 : b < a
      · have : ¬ a = b := fun e => by rw [e] at h2; exact UInt8.lt_irrefl _ h2
        simp [h1, h2, this]
      · have : a = b := by
          apply UInt8.toNat_inj.1
          simp only [UInt8.lt_iff_toNat_lt] at h1 h2; omega
        simp [h1, h2, this, ih]
theorem lessB {a b : ByteArray} : Op.bytesLess a.toList b.toList = true ↔ cmpB a b = -1 := by
  rw [Go.ByteArray.toList_eq, Go.ByteArray.toList_eq]; exact less_cmp _ _
theorem sameB {a b : ByteArray} : (a.toList == b.toList) = true ↔ cmpB a b = 0 := by
  rw [beq_iff_eq, Go.ByteArray.toList_eq, Go.ByteArray.toList_eq]
  exact ⟨fun h => by rw [show a = b from ByteArray.ext (Array.ext' h)]; exact cmpB_ok.self b, fun h => by rw [cmpB_ok.eq _ _ h]⟩
set_option maxRecDepth 100000 in
set_option maxHeartbeats 4000000 in
theorem rmcompare_any (x y : Md) (n : Int) (h : cmpM x y = n) (w : World) : Calls Tryz.prog 68 #[md x, md y] w fun e w' => e = .returned (.int .i64 n) ∧ Below w.heap.size w w' := by
  subst h
  have hS0 : I4 w w.heap.size (w.heap.size + 1) x y ((w.alloc (.cells #[.string x.1, .int .i64 x.2.1, .int .i64 x.2.2.1, .int .i64 x.2.2.2] 34)).alloc (.cells #[.string y.1, .int .i64 y.2.1, .int .i64 y.2.2.1, .int .i64 y.2.2.2] 34)) :=
    ⟨((Gr.refl _).alloc _).alloc _, (C4.new w x 34).keep (bal _ _), by simpa using C4.new (w.alloc (.cells #[.string x.1, .int .i64 x.2.1, .int .i64 x.2.2.1, .int .i64 x.2.2.2] 34)) y 34⟩
  have HB := Lib.hid hS0.1.below
  clear hS0
  have hr := cmpB_ok.rng x.1 y.1
  have hv := cmpM_eq x y
  rcases hr with h1 | h1 | h1
  · have L : Op.bytesLess x.1.toList y.1.toList = true := lessB.2 h1
    have HV := Lib.hid (show cmpM x y = -1 by rw [hv, h1]; rfl)
    clear hv h1
    unfold md
    go_enter Tryz.func68, Tryz.ntmps68
    go_wp2_with fail
    go_ret
    exact ⟨ret_int HV.out.symm, HB.out⟩
  · have L : Op.bytesLess x.1.toList y.1.toList = false := by rw [← Bool.not_eq_true, lessB]; omega
    have HV := Lib.hid (show cmpM x y = cmp3 x.2.1 x.2.2.1 x.2.2.2 y.2.1 y.2.2.1 y.2.2.2 by rw [hv, h1]; rfl)
    have K := Lib.hid (fun w => rcompare_any x.2.1 x.2.2.1 x.2.2.2 y.2.1 y.2.2.1 y.2.2.2 w)
    have e1 := cmpB_ok.eq _ _ h1
    clear hv h1
    obtain ⟨p, a, b, c⟩ := x
    obtain ⟨p', a', b', c'⟩ := y
    dsimp only at *
    subst e1
    go_enter Tryz.func68, Tryz.ntmps68
    go_wp2_with fail
    refine (K.out _).mono ?_
    rintro e w1 ⟨rfl, hb⟩
    have HB2 := Lib.hid (HB.out.trans (hb.mono HB.out.size))
    clear hb
    go_wp2_with fail
    go_ret
    exact ⟨ret_int HV.out.symm, HB2.out⟩
  · have L : Op.bytesLess x.1.toList y.1.toList = false := by rw [← Bool.not_eq_true, lessB]; omega
    have E : (x.1.toList == y.1.toList) = false := by rw [← Bool.not_eq_true, sameB]; omega
    have E' : ¬ x.1.toList = y.1.toList := by simpa using E
    have HV := Lib.hid (show cmpM x y = 1 by rw [hv, h1]; rfl)
    clear hv h1
    unfold md
    go_enter Tryz.func68, Tryz.ntmps68
    go_wp2_with fail
    go_ret
    exact ⟨ret_int HV.out.symm, HB.out⟩
set_option maxRecDepth 100000 in
theorem closure32 (x : Md) (w : World) (hM : Mx w) : Calls Tryz.prog 77 #[md x] w fun e w' => e = .returned (.bool (!pathB x.1.data.toList)) ∧ Below w.heap.size w w' := by
  have hb := bal w (.cells #[.string x.1, .int .i64 x.2.1, .int .i64 x.2.2.1, .int .i64 x.2.2.2] 34)
  have K := Lib.hid (path_any x.1 _ (hM.keep hb hM.1))
  have HB := Lib.hid hb
  clear hb hM
  cases hp : pathB x.1.data.toList <;> (
    rw [hp] at K
    clear hp
    unfold md
    go_enter Tryz.func77, Tryz.ntmps77
    go_wp2_with fail
    refine K.out.mono ?_
    rintro e w1 ⟨rfl, hb⟩
    have HB2 := Lib.hid (HB.out.trans (hb.mono HB.out.size))
    clear hb
    go_wp2_with fail
    go_ret
    exact ⟨rfl, HB2.out⟩)
set_option maxRecDepth 100000 in
theorem closure33 (x : Md) (w : World) : Calls Tryz.prog 79 #[md x] w fun e w' => e = .returned (.bool (!okV x.2.1 x.2.2.1 x.2.2.2)) ∧ Below w.heap.size w w' := by
  have hb := bal w (.cells #[.string x.1, .int .i64 x.2.1, .int .i64 x.2.2.1, .int .i64 x.2.2.2] 34)
  have HB := Lib.hid hb
  clear hb
  cases hp : okV x.2.1 x.2.2.1 x.2.2.2 <;> (
    have K := Lib.hid (fun w => valid_at x.2.1 x.2.2.1 x.2.2.2 _ hp w)
    clear hp
    unfold md
    go_enter Tryz.func79, Tryz.ntmps79
    go_wp2_with fail
    refine (K.out _).mono ?_
    rintro e w1 ⟨rfl, hb⟩
    have HB2 := Lib.hid (HB.out.trans (hb.mono HB.out.size))
    clear hb
    go_wp2_with fail
    go_ret
    exact ⟨rfl, HB2.out⟩)
end Go.Proofs.YthlcdimofagmfaaGreatDoor
