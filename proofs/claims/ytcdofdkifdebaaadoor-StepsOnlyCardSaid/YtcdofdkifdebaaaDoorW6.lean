/-
  What Parse accepts is the text of the path that it returns: the law StepsOnly. Condition: the table of powers of ten holds what it holds.
-/
import Derived.Test.YtcdofdkifdebaaaDoorM5
import Derived.Test.YtcdofdkifdebaaaDoorW5
import Derived.Test.YtcdofdkifdebaaaDoorR9
namespace Go.Proofs.YtcdofdkifdebaaaDoor
open Go.RowKit
set_option linter.unusedSimpArgs false
set_option linter.unusedVariables false
set_option maxRecDepth 100000 in
set_option maxHeartbeats 4000000 in
theorem law_only (s : ByteArray) (w : World) (hT : P10 w) :
    Calls Tryd.prog 7 #[.string s] w fun e w' => e = .returned (.bool true) ∧ Below w.heap.size w w' := by
  have CE : Hid (∀ W, Below w.heap.size w W → Calls Tryd.prog 12 #[] W fun e w' => e = .returned (.bool true) ∧ Below W.heap.size W w') := Lib.hid fun W h => example_any W (hT.below h)
  by_cases hs : 400 < s.size
  · have q : decide ((400 : Int) < (s.size : Int)) = true := decide_eq_true (by omega)
    clear hT hs
    go_enter Tryd.func7, Tryd.ntmps7
    go_wp2_with fail
    refine (CE.out _ (Below.refl _ _)).mono ?_
    rintro e w1 ⟨rfl, hb1⟩
    go_wp2_with fail
    go_ret
    exact ⟨rfl, hb1⟩
  have q : decide ((400 : Int) < (s.size : Int)) = false := decide_eq_false (by omega)
  have CP := Lib.hid (parse_any s w)
  rcases parS_inv (s := s) (by omega) with ⟨a, e, ha⟩ | ⟨L, e, hv, hl, hn, ht⟩
  · rw [e] at CP
    have q1 : decide ((0 : Int) ≤ (a : Int)) = true := decide_eq_true (by omega)
    have q2 : decide (a ≤ s.size) = true := decide_eq_true ha
    clear hT hs e
    go_enter Tryd.func7, Tryd.ntmps7
    go_wp2_with fail
    refine CP.out.mono ?_
    rintro e w2 ⟨v2, rfl, hown, hb2⟩
    obtain ⟨A2, k2, rfl, _, _⟩ := rd_own hown
    have B2 := Lib.hid (hb2.alloc hb2.size (.cells #[.int .i64 8, .int .i64 (a : Int)] 28))
    have F2 := Lib.hid (World.alloc_heap_new w2 (.cells #[.int .i64 8, .int .i64 (a : Int)] 28))
    clear hown hb2
    obtain ⟨z1, c10, c11⟩ := fcells F2.out
    go_wp2_with fail
    refine (CE.out _ B2.out).mono ?_
    rintro e w4 ⟨rfl, hb4⟩
    have B4 := Lib.hid (B2.out.trans (hb4.mono B2.out.size))
    clear hb4
    go_wp2_with fail
    go_ret
    exact ⟨rfl, B4.out⟩
  · rw [e] at CP
    have eT : (⟨(textS L).toArray⟩ : ByteArray) = s := by rw [ht]
    have q3 : (s.toList == s.toList) = true := by simp
    have HL := Lib.hid hl
    have HT := Lib.hid hT
    have HE := Lib.hid eT
    have HV := Lib.hid hv
    clear hT hs e hv hl ht eT
    go_enter Tryd.func7, Tryd.ntmps7
    go_wp2_with fail
    refine CP.out.mono ?_
    rintro e w2 ⟨v2, rfl, hown, hb2⟩
    obtain ⟨A2, k2, rfl, _, rd2⟩ := rd_own hown
    have B2 := Lib.hid (hb2.alloc hb2.size (.cells #[.int .i64 0, .int .i64 0] 28))
    have F2 := Lib.hid (World.alloc_heap_new w2 (.cells #[.int .i64 0, .int .i64 0] 28))
    have R2 := Lib.hid (rd_keep rd2 ((Below.refl _ _).alloc (Nat.le_refl _) (.cells #[.int .i64 0, .int .i64 0] 28)))
    clear hown hb2 rd2
    obtain ⟨z1, c10, c11⟩ := fcells F2.out
    go_wp2_with fail
    clear z1 c10 c11
    generalize w2.alloc (.cells #[.int .i64 0, .int .i64 0] 28) = x2 at *
    have CV := Lib.hid (valid_any A2 k2 L (by omega) x2 R2.out)
    rw [HV.out] at CV
    refine CV.out.mono ?_
    rintro e w3 ⟨rfl, hb3⟩
    have B3 := Lib.hid (B2.out.trans (hb3.mono B2.out.size))
    have F3 := Lib.hid (blkK F2.out hb3)
    have CT := Lib.hid (text_any A2 k2 L (by omega) (fun x hx => by have := HL.out x hx; omega) w3 (rd_keep R2.out hb3) (HT.out.below B3.out))
    rw [HE.out] at CT
    clear hb3 F2 R2 CV
    go_wp2_with fail
    refine CT.out.mono ?_
    rintro e w4 ⟨rfl, hb4⟩
    have B4 := Lib.hid (B3.out.trans (hb4.mono B3.out.size))
    obtain ⟨z1, c10, c11⟩ := fcells (blkK F3.out hb4)
    clear hb4 F3 CT
    go_wp2_with fail
    refine (CE.out _ B4.out).mono ?_
    rintro e w5 ⟨rfl, hb5⟩
    have B5 := Lib.hid (B4.out.trans (hb5.mono B4.out.size))
    clear hb5
    go_wp2_with fail
    go_ret
    exact ⟨rfl, B5.out⟩
end Go.Proofs.YtcdofdkifdebaaaDoor
