/-
  Parse of a text that is the text of no version fails. Conditions: as of V8, and the table of powers of ten.
-/
import Derived.Test.YtmmghdicjpfdoaaGreatDoorV8
namespace Go.Proofs.YtmmghdicjpfdoaaGreatDoor
open Go.RowKit
set_option linter.unusedSimpArgs false
set_option linter.unnecessarySimpa false
set_option linter.unusedVariables false
/-
  Parse of a text that is the text of no version fails. Conditions: the table of powers of ten, internal/bytealg.MaxLen holds some number, the two error variables of strconv hold interface values.
-/
set_option maxRecDepth 100000 in
set_option maxHeartbeats 4000000 in
theorem parse_no (s : ByteArray) (hs : s.size ≤ 100000) (hN : ∀ a b c, txt a b c ≠ s) (w : World) (hT : P10 w) (hM : Mx w) (hE : Er w) :
    Calls Tryz.prog 71 #[.string s] w fun e w' => e = .returned (.tuple #[vv 0 0 0, .int .i64 8]) ∧ Below w.heap.size w w' := by
  have hb0 := (Below.refl w.heap.size w).alloc (Nat.le_refl _) (.cells #[.int .i64 0, .int .i64 0, .int .i64 0] 23)
  have HM := Lib.hid (hM.keep hb0 hM.1)
  have HE := Lib.hid (hE.keep hb0 hE.1)
  have HT := Lib.hid (P10.keep hT hb0)
  have HB := Lib.hid hb0
  have HN := Lib.hid hN
  clear hT hM hE hb0 hN
  go_enter Tryz.func71, Tryz.ntmps71
  go_wp2_with fail
  refine (read_any s hs _ HM.out HE.out).mono ?_
  rintro e w1 ⟨⟨a, b, c, ok, rfl⟩, hb1⟩
  have Z1 : Row3 w1 w.heap.size 0 0 0 := (Row3.new w 0 0 0 23 _ rfl).keep hb1
  have B1 : Below w.heap.size w w1 := HB.out.trans (hb1.mono HB.out.size)
  have T1 : P10 (w1.alloc (.cells #[.int .i64 a, .int .i64 b, .int .i64 c] 23)) := P10.keep (P10.keep HT.out hb1) ((Below.refl _ _).alloc (Nat.le_refl _) _)
  have HT1 := Lib.hid T1
  clear hb1 HB HM HT HE T1
  cases ok with
  | false =>
    have Z2 := Z1.alloc (.cells #[.int .i64 a, .int .i64 b, .int .i64 c] 23)
    have HB2 := Lib.hid (B1.alloc B1.size (.cells #[.int .i64 a, .int .i64 b, .int .i64 c] 23))
    clear Z1 B1 HT1
    obtain ⟨y1, d0, d1, d2, g0, g1, g2⟩ := Z2
    go_wp2_with fail
    refine bodyPost_ret (v := .tuple #[vv 0 0 0, .int .i64 8]) (by simp [results, Tryz.results71, go_sem, d0, d1, d2, y1]) rfl ⟨rfl, ?_⟩
    exact (((HB2.out.setCell (by simp) _).setCell (by simp) _).setCell (by simp) _)
  | true =>
    obtain ⟨X, hX⟩ : ∃ X, txt a b c = X := ⟨_, rfl⟩
    have hne : (X.toList == s.toList) = false := by
      rw [beq_eq_false_iff_ne]
      intro h
      rw [Go.ByteArray.toList_eq, Go.ByteArray.toList_eq] at h
      exact HN.out a b c (hX.trans (ByteArray.ext (Array.ext' h)))
    have CX := Lib.hid (fun w hT => text_at a b c X hX w hT)
    have HNE := Lib.hid hne
    clear hX hne HN
    go_wp2_with fail
    refine (CX.out _ HT1.out).mono ?_
    rintro e w2 ⟨rfl, hb2⟩
    have Z2 := (Z1.alloc (.cells #[.int .i64 a, .int .i64 b, .int .i64 c] 23)).keep hb2
    have B2 : Below w.heap.size w w2 := (B1.alloc B1.size (.cells #[.int .i64 a, .int .i64 b, .int .i64 c] 23)).trans (hb2.mono (by have := B1.size; simp; omega))
    clear hb2 Z1 B1 HT1 CX
    obtain ⟨y1, d0, d1, d2, g0, g1, g2⟩ := Z2
    have HB2 := Lib.hid B2
    clear B2
    have hne := HNE.out
    go_wp2_with fail
    refine bodyPost_ret (v := .tuple #[vv 0 0 0, .int .i64 8]) (by simp [results, Tryz.results71, go_sem, d0, d1, d2, y1]) rfl ⟨rfl, ?_⟩
    exact (((HB2.out.setCell (by simp) _).setCell (by simp) _).setCell (by simp) _)
end Go.Proofs.YtmmghdicjpfdoaaGreatDoor
