/-
  The name of the module m v1.0.0 in a line of List. Conditions: the table of powers of ten, internal/bytealg.MaxLen holds some number.
-/
import Derived.Test.YthlcdimofagmfaaGreatDoorLA
namespace Go.Proofs.YthlcdimofagmfaaGreatDoor
open Go.RowKit Go.Sort Go.Lib Go.Shelf Go.Proofs
set_option linter.unusedSimpArgs false
set_option linter.unusedVariables false
def xm : Md := (⟨#[109]⟩, 1, 0, 0)
def nmB : ByteArray := ⟨#[109, 32, 118, 49, 46, 48, 46, 48]⟩
def txm : ByteArray := ⟨#[109, 111, 100, 117, 108, 101, 32, 109, 32, 118, 49, 46, 48, 46, 48, 10]⟩
theorem chk_xm : chkM xm [] = 0 := by kernel_rfl
theorem text_xm : textB xm [] = txm := by kernel_rfl
theorem trim_xm : Lib.trimSuffix txm.data.toList [10] = [109, 111, 100, 117, 108, 101, 32, 109, 32, 118, 49, 46, 48, 46, 48] := by kernel_rfl
theorem cut_xm : Lib.cut [109, 111, 100, 117, 108, 101, 32, 109, 32, 118, 49, 46, 48, 46, 48] [32] = ([109, 111, 100, 117, 108, 101], [109, 32, 118, 49, 46, 48, 46, 48], true) := by kernel_rfl
set_option maxRecDepth 100000 in
theorem name_xm (w : World) (hM : Mx w) (hT : P10 w) : Calls Tryz.prog 40 #[mdk xm] w fun e w' => e = .returned (.string nmB) ∧ Below w.heap.size w w' := by
  have hb0 := bal w (.cells #[.string xm.1, .int .i64 xm.2.1, .int .i64 xm.2.2.1, .int .i64 xm.2.2.2] 34)
  have HB0 := Lib.hid hb0
  have KT := Lib.hid (text_any xm none 0 [] _ (hM.keep hb0 hM.1) (P10.keep hT hb0) (rm_nil _ _ _) (.inl (by unfold Plain; simp)) (by simp))
  rw [chk_xm, text_xm] at KT
  have HM := Lib.hid hM
  clear hb0 hM hT
  unfold mdk
  unfold xm at *
  go_enter Tryz.func40, Tryz.ntmps40
  go_wp2_with fail
  refine KT.out.mono ?_
  rintro e w1 ⟨rfl, hb1⟩
  have HB1 := Lib.hid (HB0.out.trans (hb1.mono HB0.out.size))
  have HM1 := Lib.hid (HM.out.keep HB1.out HM.out.1)
  clear hb1
  have C1 := Lib.hid (Tryz.strings_TrimSuffix txm ⟨#[10]⟩ w1 (by unfold txm; decide))
  rw [show (⟨#[10]⟩ : ByteArray).data.toList = [10] from rfl, trim_xm] at C1
  obtain ⟨m, hm⟩ := HM1.out.2
  have C2 : Hid (Calls Tryz.prog 66 #[.string ⟨#[109, 111, 100, 117, 108, 101, 32, 109, 32, 118, 49, 46, 48, 46, 48]⟩, .string ⟨#[32]⟩] w1 fun e w' => e = .returned (.tuple #[.string ⟨#[109, 111, 100, 117, 108, 101]⟩, .string nmB, .bool true]) ∧ Below w1.heap.size w1 w') :=
    Lib.hid ((Tryz.strings_Cut ⟨#[109, 111, 100, 117, 108, 101, 32, 109, 32, 118, 49, 46, 48, 46, 48]⟩ ⟨#[32]⟩ m w1 (by decide) hm).mono fun e w' ⟨he, hw⟩ => ⟨by
      rw [show (⟨#[109, 111, 100, 117, 108, 101, 32, 109, 32, 118, 49, 46, 48, 46, 48]⟩ : ByteArray).data.toList = [109, 111, 100, 117, 108, 101, 32, 109, 32, 118, 49, 46, 48, 46, 48] from rfl, show (⟨#[32]⟩ : ByteArray).data.toList = [32] from rfl, cut_xm] at he
      exact he, by obtain ⟨n, rfl⟩ := hw; exact drewB w1 n⟩)
  clear hm
  go_wp2_with fail
  refine C1.out.mono ?_
  rintro e w2 ⟨rfl, rfl⟩
  go_wp2_with fail
  refine C2.out.mono ?_
  rintro e w3 ⟨rfl, hb3⟩
  have HB3 := Lib.hid (HB1.out.trans (hb3.mono HB1.out.size))
  go_wp2_with fail
  go_ret
  exact ⟨rfl, HB3.out⟩
end Go.Proofs.YthlcdimofagmfaaGreatDoor
