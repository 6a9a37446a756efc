import Derived.Test.YtelchjgpfpccnaaDoorF
namespace Go.Proofs.YtelchjgpfpccnaaDoor
open Go.RowKit
set_option linter.unusedSimpArgs false
set_option linter.unusedVariables false
set_option maxRecDepth 100000 in
set_option maxHeartbeats 2000000 in
theorem parse_ex (w : World) (hM : Mx w) :
    Calls Tryd.prog 16 #[.string ⟨#[118, 48, 49, 46, 50, 46, 51]⟩] w fun e w' => e = .returned (.tuple #[vv 0 0 0, .int .i64 8]) ∧ Below w.heap.size w w' := by
  have HM := Lib.hid (hM.keep ((Below.refl w.heap.size w).alloc (Nat.le_refl _) (.cells #[.int .i64 0, .int .i64 0, .int .i64 0] 23)) hM.1)
  have hB0 : Below w.heap.size w (w.alloc (.cells #[.int .i64 0, .int .i64 0, .int .i64 0] 23)) := (Below.refl w.heap.size w).alloc (Nat.le_refl _) _
  have HB := Lib.hid hB0
  clear hM hB0
  go_enter Tryd.func16, Tryd.ntmps16
  go_wp2_with fail
  refine (read_ex _ HM.out).mono ?_
  rintro e w1 ⟨rfl, hb1⟩
  have Z1 : Row3 w1 w.heap.size 0 0 0 := (Row3.new w 0 0 0 23 _ rfl).keep hb1
  have B1 : Below w.heap.size w w1 := HB.out.trans (hb1.mono HB.out.size)
  clear hb1 HB HM
  go_wp2_with fail
  refine (text123 _).mono ?_
  rintro e w2 ⟨rfl, hb2⟩
  have Z2 := (Z1.alloc (.cells #[.int .i64 1, .int .i64 2, .int .i64 3] 23)).keep hb2
  have B2 : Below w.heap.size w w2 := (B1.alloc B1.size (.cells #[.int .i64 1, .int .i64 2, .int .i64 3] 23)).trans (hb2.mono (by have := B1.size; simp; omega))
  clear hb2 Z1 B1
  obtain ⟨y1, d0, d1, d2, g0, g1, g2⟩ := Z2
  go_wp2_with fail
  refine bodyPost_ret (v := .tuple #[vv 0 0 0, .int .i64 8]) (by simp [results, Tryd.results16, go_sem, d0, d1, d2, y1]) rfl ⟨rfl, ?_⟩
  exact (((B2.setCell (by simp) _).setCell (by simp) _).setCell (by simp) _)

set_option maxRecDepth 100000 in
set_option maxHeartbeats 2000000 in
theorem example_any (w : World) (hM : Mx w) :
    Calls Tryd.prog 15 #[] w fun e w' => e = .returned (.bool true) ∧ Below w.heap.size w w' := by
  have HM := Lib.hid hM
  clear hM
  go_enter Tryd.func15, Tryd.ntmps15
  go_wp2_with fail
  refine (next_1_ok 1 2 3 1 _ (by decide) (by decide) (by decide)).mono ?_
  rintro e w1 ⟨rfl, hb1⟩
  go_wp2_with fail
  refine (next_2_ok 0 2 3 1 _ (by decide) (by decide) (by decide)).mono ?_
  rintro e w2 ⟨rfl, hb2⟩
  have P2 : Row3 w2 w1.heap.size 1 3 0 := (Row3.new w1 1 3 0 23 _ rfl).keep hb2
  have B2 : Below w.heap.size w w2 := (hb1.alloc hb1.size (.cells #[.int .i64 1, .int .i64 3, .int .i64 0] 23)).trans (hb2.mono (by have := hb1.size; simp; omega))
  clear hb1 hb2
  go_wp2_with fail
  refine (parse_ex _ (HM.out.keep (B2.alloc B2.size (.cells #[.int .i64 0, .int .i64 2, .int .i64 4] 23)) HM.out.1)).mono ?_
  rintro e w3 ⟨rfl, hb3⟩
  have P3 := (P2.alloc (.cells #[.int .i64 0, .int .i64 2, .int .i64 4] 23)).keep hb3
  have Q3 : Row3 w3 w2.heap.size 0 2 4 := (Row3.new w2 0 2 4 23 _ rfl).keep hb3
  have B3 : Below w.heap.size w w3 := (B2.alloc B2.size (.cells #[.int .i64 0, .int .i64 2, .int .i64 4] 23)).trans (hb3.mono (by have := B2.size; simp; omega))
  clear hb3 P2 B2 HM
  have P3' := P3.alloc (.cells #[.int .i64 0, .int .i64 0, .int .i64 0] 23)
  obtain ⟨y1, d0, d1, d2, g0, g1, g2⟩ := id P3
  go_wp2_with fail
  refine (text130 _).mono ?_
  rintro e w4 ⟨rfl, hb4⟩
  have Q4 := (Q3.alloc (.cells #[.int .i64 0, .int .i64 0, .int .i64 0] 23)).keep hb4
  have B4 : Below w.heap.size w w4 := (B3.alloc B3.size (.cells #[.int .i64 0, .int .i64 0, .int .i64 0] 23)).trans (hb4.mono (by have := B3.size; simp; omega))
  clear hb4 P3 P3' Q3 B3 y1 d0 d1 d2 g0 g1 g2
  obtain ⟨y1, d0, d1, d2, g0, g1, g2⟩ := id Q4
  go_wp2_with fail
  refine (text024 _).mono ?_
  rintro e w5 ⟨rfl, hb5⟩
  have HB := Lib.hid (B4.trans (hb5.mono B4.size))
  clear hb5 B4 Q4 y1 d0 d1 d2 g0 g1 g2
  go_wp2_with fail
  go_ret
  exact ⟨rfl, HB.out⟩
end Go.Proofs.YtelchjgpfpccnaaDoor
