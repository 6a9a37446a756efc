/-
  Parse of the text of a valid version, and of the text of none. Conditions: the table of powers of ten, internal/bytealg.MaxLen holds some number.
-/
import Derived.Test.YtmmghdicjpfdoaaGreatDoorV6
namespace Go.Proofs.YtmmghdicjpfdoaaGreatDoor
open Go.RowKit
set_option linter.unusedSimpArgs false
set_option linter.unnecessarySimpa false
set_option linter.unusedVariables false
/-
  Parse of the text of a valid version gives it back; Parse of the text of no version fails. Conditions: the table of powers of ten, and that internal/bytealg.MaxLen holds some number.
-/
set_option maxRecDepth 100000 in
set_option maxHeartbeats 2000000 in
theorem parse_txt (a b c : Int) (ho : okV a b c = true) (w : World) (hT : P10 w) (hM : Mx w) :
    Calls Tryz.prog 71 #[.string (txtS a b c)] w fun e w' => e = .returned (.tuple #[vv a b c, .int .i64 0]) ∧ Below w.heap.size w w' := by
  have hb0 := (Below.refl w.heap.size w).alloc (Nat.le_refl _) (.cells #[.int .i64 0, .int .i64 0, .int .i64 0] 23)
  have HM := Lib.hid (hM.keep hb0 hM.1)
  have HT := Lib.hid (P10.keep hT hb0)
  have HB := Lib.hid hb0
  have CR := Lib.hid (fun w hM => read_txt a b c ho w hM)
  have CX := Lib.hid (fun w hT => text_ok a b c ho w hT)
  clear hM hT hb0 ho
  generalize txtS a b c = T at *
  go_enter Tryz.func71, Tryz.ntmps71
  go_wp2_with fail
  refine (CR.out _ HM.out).mono ?_
  rintro e w1 ⟨rfl, hb1⟩
  have Z1 : Row3 w1 w.heap.size 0 0 0 := (Row3.new w 0 0 0 23 _ rfl).keep hb1
  have B1 : Below w.heap.size w w1 := HB.out.trans (hb1.mono HB.out.size)
  have T1 : P10 (w1.alloc (.cells #[.int .i64 a, .int .i64 b, .int .i64 c] 23)) := P10.keep (P10.keep HT.out hb1) ((Below.refl _ _).alloc (Nat.le_refl _) _)
  have HT1 := Lib.hid T1
  clear hb1 HB HM HT T1
  go_wp2_with fail
  refine (CX.out _ HT1.out).mono ?_
  rintro e w2 ⟨rfl, hb2⟩
  have Z2 := (Z1.alloc (.cells #[.int .i64 a, .int .i64 b, .int .i64 c] 23)).keep hb2
  have N2 := (Row3.new w1 a b c 23 _ rfl).keep hb2
  have B2 : Below w.heap.size w w2 := (B1.alloc B1.size (.cells #[.int .i64 a, .int .i64 b, .int .i64 c] 23)).trans (hb2.mono (by have := B1.size; simp; omega))
  clear hb2 Z1 B1 HT1
  obtain ⟨y1, d0, d1, d2, g0, g1, g2⟩ := Z2
  obtain ⟨y2, n0, n1, n2, _, _, _⟩ := N2
  have HB2 := Lib.hid B2
  clear B2
  go_wp2_with fail
  refine bodyPost_ret (v := .tuple #[vv a b c, .int .i64 0]) (by simp [results, Tryz.results71, go_sem, d0, d1, d2, y1]) rfl ⟨rfl, ?_⟩
  exact (((HB2.out.setCell (by simp) _).setCell (by simp) _).setCell (by simp) _)
theorem trim_q (w : World) : Calls Tryz.prog 107 #[.string ⟨#[63]⟩, .string ⟨#[118]⟩] w fun e w' => e = .returned (.string ⟨#[63]⟩) ∧ w = w' :=
  (Tryz.strings_TrimPrefix ⟨#[63]⟩ ⟨#[118]⟩ w).mono fun _ _ ⟨he, hw⟩ => ⟨he.trans (by kernel_rfl), hw.symm⟩
theorem split_q (w : World) (h : Mx w) : Calls Tryz.prog 106 #[.string ⟨#[63]⟩, .string ⟨#[46]⟩, .int .i64 3] w fun e w' =>
    e = .returned (.slice (some ⟨w.heap.size, 0, none⟩) 1 2) ∧ w.alloc (.cells #[.string ⟨#[63]⟩, .string ⟨#[]⟩] 9) = w' := by
  obtain ⟨_, m, hm⟩ := h
  refine (Tryz.strings_SplitN ⟨#[63]⟩ ⟨#[46]⟩ 3 m w (by decide) hm (by decide) (by decide) (by decide)).mono fun _ _ ⟨he, hw⟩ => ⟨he.trans ?_, ?_⟩
  · kernel_rfl
  · rw [hw]; kernel_rfl
set_option maxRecDepth 100000 in
set_option maxHeartbeats 2000000 in
theorem read_q (w : World) (hM : Mx w) :
    Calls Tryz.prog 86 #[.string ⟨#[63]⟩] w fun e w' => e = .returned (.tuple #[vv 0 0 0, .bool false]) ∧ Below w.heap.size w w' := by
  have HM := Lib.hid hM
  clear hM
  go_enter Tryz.func86, Tryz.ntmps86
  go_wp2_with fail
  refine (trim_q _).mono ?_
  rintro e w1 ⟨rfl, rfl⟩
  go_wp2_with fail
  refine (split_q _ (HM.out.keep ((Below.refl w.heap.size _).alloc (Nat.le_refl _) _) HM.out.1)).mono ?_
  rintro e w1 ⟨rfl, rfl⟩
  have hR : Row3 ((((w.alloc (.cells #[.int .i64 0, .int .i64 0, .int .i64 0] 23)).alloc (.cells #[.string ⟨#[63]⟩, .string ⟨#[]⟩] 9)).alloc (.cells #[.int .i64 0, .int .i64 0, .int .i64 0] 85))) w.heap.size 0 0 0 := ((Row3.new w 0 0 0 23 _ rfl).alloc _).alloc _
  have hB : Below w.heap.size w ((((w.alloc (.cells #[.int .i64 0, .int .i64 0, .int .i64 0] 23)).alloc (.cells #[.string ⟨#[63]⟩, .string ⟨#[]⟩] 9)).alloc (.cells #[.int .i64 0, .int .i64 0, .int .i64 0] 85))) :=
    (((Below.refl _ _).alloc (Nat.le_refl _) _).alloc (by simp) _).alloc (by simp; omega) _
  have HB := Lib.hid hB
  clear hB HM
  obtain ⟨z1, d0, d1, d2, g0, g1, g2⟩ := hR
  go_wp2_with fail
  refine bodyPost_ret (v := .tuple #[vv 0 0 0, .bool false]) (by simp [results, Tryz.results86, go_sem, d0, d1, d2, z1]) rfl ⟨rfl, ?_⟩
  exact HB.out
set_option maxRecDepth 100000 in
set_option maxHeartbeats 2000000 in
theorem parse_q (w : World) (hM : Mx w) :
    Calls Tryz.prog 71 #[.string ⟨#[63]⟩] w fun e w' => e = .returned (.tuple #[vv 0 0 0, .int .i64 8]) ∧ Below w.heap.size w w' := by
  have hb0 := (Below.refl w.heap.size w).alloc (Nat.le_refl _) (.cells #[.int .i64 0, .int .i64 0, .int .i64 0] 23)
  have HM := Lib.hid (hM.keep hb0 hM.1)
  have HB := Lib.hid hb0
  clear hM hb0
  go_enter Tryz.func71, Tryz.ntmps71
  go_wp2_with fail
  refine (read_q _ HM.out).mono ?_
  rintro e w1 ⟨rfl, hb1⟩
  have Z1 : Row3 w1 w.heap.size 0 0 0 := (Row3.new w 0 0 0 23 _ rfl).keep hb1
  have Z2 := Z1.alloc (.cells #[.int .i64 0, .int .i64 0, .int .i64 0] 23)
  have B1 : Below w.heap.size w w1 := HB.out.trans (hb1.mono HB.out.size)
  have HB2 := Lib.hid (B1.alloc B1.size (.cells #[.int .i64 0, .int .i64 0, .int .i64 0] 23))
  clear hb1 HB HM Z1 B1
  obtain ⟨y1, d0, d1, d2, g0, g1, g2⟩ := Z2
  go_wp2_with fail
  refine bodyPost_ret (v := .tuple #[vv 0 0 0, .int .i64 8]) (by simp [results, Tryz.results71, go_sem, d0, d1, d2, y1]) rfl ⟨rfl, ?_⟩
  exact (((HB2.out.setCell (by simp) _).setCell (by simp) _).setCell (by simp) _)
end Go.Proofs.YtmmghdicjpfdoaaGreatDoor
