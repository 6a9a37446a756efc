/-
  The law of the paths. Conditions: the table of powers of ten, internal/bytealg.MaxLen holds some number, the two error variables of strconv hold interface values.
-/
import Derived.Test.YtmmghdicjpfdoaaGreatDoorEA
namespace Go.Proofs.YtmmghdicjpfdoaaGreatDoor
open Go.RowKit Go.Sort Go.Lib Go.Shelf Go.Proofs
set_option linter.unusedSimpArgs false
set_option linter.unnecessarySimpa false
set_option linter.unusedVariables false
theorem join_bytes (a b : ByteArray) : (a ++ (⟨#[47]⟩ : ByteArray) ++ b).data.toList = a.data.toList ++ 47 :: b.data.toList := by simp [ByteArray.data_append]
set_option maxRecDepth 100000 in
set_option maxHeartbeats 4000000 in
theorem paths_long (a b : ByteArray) (w : World) (hC : Cond w) (h : 200 < a.size ∨ 200 < b.size) : Calls Tryz.prog 11 #[.string a, .string b] w fun e w' => e = .returned (.bool true) ∧ Below w.heap.size w w' := by
  have KA := Lib.hid (alive_any w hC)
  by_cases h1 : 200 < a.size
  · have q1 : (200 : Int) < (a.size : Int) := by omega
    clear h hC
    go_enter Tryz.func11, Tryz.ntmps11
    go_wp2_with fail
    refine KA.out.mono ?_
    rintro e w1 ⟨rfl, hb⟩
    have HB := Lib.hid hb
    clear hb
    go_wp2_with fail
    go_ret
    exact ⟨rfl, HB.out⟩
  · have q1 : ¬ (200 : Int) < (a.size : Int) := by omega
    have q2 : (200 : Int) < (b.size : Int) := by omega
    clear h hC
    go_enter Tryz.func11, Tryz.ntmps11
    go_wp2_with fail
    refine KA.out.mono ?_
    rintro e w1 ⟨rfl, hb⟩
    have HB := Lib.hid hb
    clear hb
    go_wp2_with fail
    go_ret
    exact ⟨rfl, HB.out⟩
set_option maxRecDepth 100000 in
set_option maxHeartbeats 4000000 in
theorem paths_short (a b : ByteArray) (w : World) (hC : Cond w) (ha : a.size ≤ 200) (hb : b.size ≤ 200) : Calls Tryz.prog 11 #[.string a, .string b] w fun e w' => e = .returned (.bool true) ∧ Below w.heap.size w w' := by
  have HJ := Lib.hid (pathB_join a.data.toList b.data.toList)
  have K := Lib.hid (path_any (a ++ (⟨#[47]⟩ : ByteArray) ++ b) w hC.max)
  rw [join_bytes, HJ.out] at K
  have KA := Lib.hid (fun w (h : Cond w) => path_any a w h.max)
  have KB := Lib.hid (fun w (h : Cond w) => path_any b w h.max)
  have q1 : ¬ (200 : Int) < (a.size : Int) := by omega
  have q2 : ¬ (200 : Int) < (b.size : Int) := by omega
  have hz : ((a.data.toList.length + b.data.toList.length < 60)) ↔ (a.size : Int) + (b.size : Int) < 60 := by simp; omega
  have HC := Lib.hid hC
  have t1 : IntKind.i64.wrap ((a.size : Int) + (b.size : Int)) = (a.size : Int) + (b.size : Int) := IntWalk.i64_in _ (by omega)
  have l1 : a.size + 1 ≤ maxLen := by unfold maxLen; omega
  have l2 : (a.size : Int) + 1 ≤ 9223372036854775807 := by omega
  have l3 : (a.size : Int) + 1 + (b.size : Int) ≤ 9223372036854775807 := by omega
  generalize pathB a.data.toList = pa at *
  generalize pathB b.data.toList = pb at *
  clear hC HJ
  cases pa with
  | false =>
    simp only [Bool.false_and] at K
    go_enter Tryz.func11, Tryz.ntmps11
    go_wp2_with fail
    refine K.out.mono ?_
    rintro e w1 ⟨rfl, hb1⟩
    have HB1 := Lib.hid hb1
    clear hb1 K
    go_wp2_with fail
    refine (KA.out _ (HC.out.keep HB1.out)).mono ?_
    rintro e w2 ⟨rfl, hb2⟩
    have HB2 := Lib.hid (HB1.out.trans (hb2.mono HB1.out.size))
    clear hb2 HB1 KA
    go_wp2_with fail
    refine (alive_any _ (HC.out.keep HB2.out)).mono ?_
    rintro e w9 ⟨rfl, hb9⟩
    have HB9 := Lib.hid (HB2.out.trans (hb9.mono HB2.out.size))
    clear hb9
    go_wp2_with fail
    go_ret
    exact ⟨rfl, HB9.out⟩
  | true =>
    cases pb with
    | false =>
      simp only [Bool.and_false, Bool.true_and, Bool.false_and] at K
      go_enter Tryz.func11, Tryz.ntmps11
      go_wp2_with fail
      refine K.out.mono ?_
      rintro e w1 ⟨rfl, hb1⟩
      have HB1 := Lib.hid hb1
      clear hb1 K
      go_wp2_with fail
      refine (KA.out _ (HC.out.keep HB1.out)).mono ?_
      rintro e w2 ⟨rfl, hb2⟩
      have HB2 := Lib.hid (HB1.out.trans (hb2.mono HB1.out.size))
      clear hb2 HB1 KA
      go_wp2_with fail
      refine (KB.out _ (HC.out.keep HB2.out)).mono ?_
      rintro e w3 ⟨rfl, hb3⟩
      have HB3 := Lib.hid (HB2.out.trans (hb3.mono HB2.out.size))
      clear hb3 HB2 KB
      go_wp2_with fail
      refine (alive_any _ (HC.out.keep HB3.out)).mono ?_
      rintro e w9 ⟨rfl, hb9⟩
      have HB9 := Lib.hid (HB3.out.trans (hb9.mono HB3.out.size))
      clear hb9
      go_wp2_with fail
      go_ret
      exact ⟨rfl, HB9.out⟩
    | true =>
      simp only [Bool.true_and] at K
      by_cases hlt : (a.size : Int) + (b.size : Int) < 60
      · rw [decide_eq_true (hz.2 hlt)] at K
        clear hz
        go_enter Tryz.func11, Tryz.ntmps11
        go_wp2_with fail
        refine K.out.mono ?_
        rintro e w1 ⟨rfl, hb1⟩
        have HB1 := Lib.hid hb1
        clear hb1 K
        go_wp2_with fail
        refine (KA.out _ (HC.out.keep HB1.out)).mono ?_
        rintro e w2 ⟨rfl, hb2⟩
        have HB2 := Lib.hid (HB1.out.trans (hb2.mono HB1.out.size))
        clear hb2 HB1 KA
        go_wp2_with fail
        refine (KB.out _ (HC.out.keep HB2.out)).mono ?_
        rintro e w3 ⟨rfl, hb3⟩
        have HB3 := Lib.hid (HB2.out.trans (hb3.mono HB2.out.size))
        clear hb3 HB2 KB
        go_wp2_with fail
        refine (alive_any _ (HC.out.keep HB3.out)).mono ?_
        rintro e w9 ⟨rfl, hb9⟩
        have HB9 := Lib.hid (HB3.out.trans (hb9.mono HB3.out.size))
        clear hb9
        go_wp2_with fail
        go_ret
        exact ⟨rfl, HB9.out⟩
      · rw [decide_eq_false (fun h => hlt (hz.1 h))] at K
        clear hz
        go_enter Tryz.func11, Tryz.ntmps11
        go_wp2_with fail
        refine K.out.mono ?_
        rintro e w1 ⟨rfl, hb1⟩
        have HB1 := Lib.hid hb1
        clear hb1 K
        go_wp2_with fail
        refine (KA.out _ (HC.out.keep HB1.out)).mono ?_
        rintro e w2 ⟨rfl, hb2⟩
        have HB2 := Lib.hid (HB1.out.trans (hb2.mono HB1.out.size))
        clear hb2 HB1 KA
        go_wp2_with fail
        refine (KB.out _ (HC.out.keep HB2.out)).mono ?_
        rintro e w3 ⟨rfl, hb3⟩
        have HB3 := Lib.hid (HB2.out.trans (hb3.mono HB2.out.size))
        clear hb3 HB2 KB
        go_wp2_with fail
        refine (alive_any _ (HC.out.keep HB3.out)).mono ?_
        rintro e w9 ⟨rfl, hb9⟩
        have HB9 := Lib.hid (HB3.out.trans (hb9.mono HB3.out.size))
        clear hb9
        go_wp2_with fail
        go_ret
        exact ⟨by simp [hlt], HB9.out⟩
theorem law_paths (a b : ByteArray) (w : World) (hC : Cond w) : Calls Tryz.prog 11 #[.string a, .string b] w fun e w' => e = .returned (.bool true) ∧ Below w.heap.size w w' := by
  by_cases h : 200 < a.size ∨ 200 < b.size
  · exact paths_long a b w hC h
  · exact paths_short a b w hC (by omega) (by omega)
end Go.Proofs.YtmmghdicjpfdoaaGreatDoor
