/-
  The name of a module in a line of List. Conditions: the table of powers of ten, internal/bytealg.MaxLen holds some number.
-/
import Derived.Test.YthlcdimofagmfaaGreatDoorLB
namespace Go.Proofs.YthlcdimofagmfaaGreatDoor
open Go.RowKit Go.Sort Go.Lib Go.Shelf Go.Proofs
set_option linter.unusedSimpArgs false
set_option linter.unusedVariables false
/-- path and version -/
def nmM (x : Md) : ByteArray := x.1 ++ (⟨#[32]⟩ : ByteArray) ++ txt x.2.1 x.2.2.1 x.2.2.2
theorem chk_nil {x : Md} {l : List Md} (h : chkM x l = 0) : chkM x [] = 0 := by
  rw [chkM_def] at h ⊢
  by_cases h1 : (x :: l).any p1 = true
  · rw [if_pos h1] at h; cases h
  · by_cases h2 : (x :: l).any p2 = true
    · rw [if_neg h1, if_pos h2] at h; cases h
    · have a1 : ¬ (([x] : List Md).any p1 = true) := fun h' => h1 (by simp at h' ⊢; exact .inl h')
      have a2 : ¬ (([x] : List Md).any p2 = true) := fun h' => h2 (by simp at h' ⊢; exact .inl h')
      have a3 : twiceB [x] = false := by
        unfold twiceB
        simp
      rw [if_neg a1, if_neg a2, if_neg (by simp [a3])]
      rfl
def lnL (x : Md) : List UInt8 := [109, 111, 100, 117, 108, 101, 32] ++ (nmM x).data.toList
theorem line_ln (x : Md) : (lineB kM x).data.toList = lnL x ++ [10] := by
  unfold lineB lnL nmM kM
  simp
theorem trim_ln (x : Md) : Lib.trimSuffix (lineB kM x).data.toList [10] = lnL x := by
  rw [line_ln]
  unfold Lib.trimSuffix Lib.hasSuffix
  simp
theorem cut_ln (x : Md) : Lib.cut (lnL x) [32] = ([109, 111, 100, 117, 108, 101], (nmM x).data.toList, true) := by
  unfold lnL
  generalize (nmM x).data.toList = r
  have hi : Lib.index ([109, 111, 100, 117, 108, 101, 32] ++ r) [32] = 6 := by
    simp [Lib.index]
  unfold Lib.cut
  rw [hi]
  simp
set_option maxRecDepth 100000 in
theorem name_any (x : Md) (hc : chkM x [] = 0) (w : World) (hM : Mx w) (hT : P10 w) : Calls Tryz.prog 40 #[mdk x] w fun e w' => e = .returned (.string (nmM x)) ∧ Below w.heap.size w w' := by
  have hb0 := bal w (.cells #[.string x.1, .int .i64 x.2.1, .int .i64 x.2.2.1, .int .i64 x.2.2.2] 34)
  have HB0 := Lib.hid hb0
  have KT := Lib.hid (text_any x none 0 [] _ (hM.keep hb0 hM.1) (P10.keep hT hb0) (rm_nil _ _ _) (.inl (by unfold Plain; simp)) (by simp))
  have ht : textB x [] = lineB kM x := by
    unfold textB; rw [if_pos hc]
    apply ByteArray.ext; apply Array.ext'
    simp [textL, sortM]
  rw [hc, ht] at KT
  have hpx := chk_path hc x (by simp)
  have hsz := line_le kM (by decide) x hpx
  have htr := trim_ln x
  have hcu := cut_ln x
  have hln : (lnL x).length = (lineB kM x).size - 1 := by
    have h1 : (lineB kM x).data.toList.length = (lineB kM x).size := by simp
    rw [line_ln, List.length_append] at h1
    simp at h1; omega
  have HM := Lib.hid hM
  clear hb0 hM hT ht
  unfold mdk
  generalize lineB kM x = LN at *
  obtain ⟨R, hR⟩ : ∃ R : ByteArray, R = ⟨(lnL x).toArray⟩ := ⟨_, rfl⟩
  have hRs : R.size = (lnL x).length := by rw [hR]; show (lnL x).toArray.size = _; simp
  have hRl : R.data.toList = lnL x := by rw [hR]
  go_enter Tryz.func40, Tryz.ntmps40
  go_wp2_with fail
  refine KT.out.mono ?_
  rintro e w1 ⟨rfl, hb1⟩
  have HB1 := Lib.hid (HB0.out.trans (hb1.mono HB0.out.size))
  have HM1 := Lib.hid (HM.out.keep HB1.out HM.out.1)
  clear hb1
  have C1 := Lib.hid (Tryz.strings_TrimSuffix LN ⟨#[10]⟩ w1 (by omega))
  rw [show (⟨#[10]⟩ : ByteArray).data.toList = [10] from rfl, htr, ← hR] at C1
  obtain ⟨m, hm⟩ := HM1.out.2
  have C2 : Hid (Calls Tryz.prog 66 #[.string R, .string ⟨#[32]⟩] w1 fun e w' => e = .returned (.tuple #[.string ⟨#[109, 111, 100, 117, 108, 101]⟩, .string (nmM x), .bool true]) ∧ Below w1.heap.size w1 w') :=
    Lib.hid ((Tryz.strings_Cut R ⟨#[32]⟩ m w1 (by omega) hm).mono fun e w' ⟨he, hw⟩ => ⟨by
      rw [hRl, show (⟨#[32]⟩ : ByteArray).data.toList = [32] from rfl, hcu] at he
      exact he, by obtain ⟨n, rfl⟩ := hw; exact drewB w1 n⟩)
  clear hm hR hRs hRl hln htr hcu hsz hpx
  go_wp2_with fail
  refine C1.out.mono ?_
  rintro e w2 ⟨rfl, rfl⟩
  go_wp2_with fail
  refine C2.out.mono ?_
  rintro e w3 ⟨rfl, hb3⟩
  have HB3 := Lib.hid (HB1.out.trans (hb3.mono HB1.out.size))
  go_wp2_with fail
  go_ret
  exact ⟨rfl, HB3.out⟩
end Go.Proofs.YthlcdimofagmfaaGreatDoor
