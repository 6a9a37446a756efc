/-
  The chapter's examples hold: 'example' of the statements returns true. No condition.
-/
import Derived.Test.YtlanjfjmffcgdaaV
namespace Go.Proofs.Ytlanjfjmffcgdaa
open Go.RowKit
set_option linter.unusedSimpArgs false
set_option linter.unusedVariables false
def exS : ByteArray := ⟨#[97, 98, 99]⟩
def exL : List Ed := [(1, 2, ⟨#[120, 121]⟩)]
def exM : List Ed := [(1, 3, ⟨#[98]⟩)]
theorem x1 : appS exS exL = ⟨#[97, 120, 121, 99]⟩ := by decide +kernel
theorem x2 : appE exS exL = 0 := by decide +kernel
theorem x3 : invV exS exL = exM := by decide +kernel
theorem x4 : appS exA exD = exB := by decide +kernel
theorem x5 : appE exA exD = 0 := by decide +kernel
theorem x6 : shfV 2 exL = 3 := by decide +kernel
theorem x7 : shfV 1 exL = 1 := by decide +kernel
theorem x8 : samB exM exM = true := by decide +kernel
theorem re_one (w : World) (g : Nat) (x : Ed) (h : w.heap[g]? = some (.cells #[.int .i64 x.1, .int .i64 x.2.1, .string x.2.2] 35 (0, 0))) : Re w w.heap.size (some ⟨g, 0, none⟩) [x] :=
  re_cells (Array.getElem?_eq_some_iff.1 h).1 (fun j u hu => by
    rw [show (⟨g, 0, none⟩ : Addr).add j = ⟨g, j, none⟩ by simp [Addr.add]; exact fun e => e.symm, Lib.cell_of_heap h, ← Array.getElem?_toList]
    exact hu)
set_option maxRecDepth 100000 in
set_option maxHeartbeats 16000000 in
theorem example_any (w : World) : Calls Try.prog 12 #[] w fun e w' => e = .returned (.bool true) ∧ Below w.heap.size w w' := by
  have R0 := Lib.hid (re_one (w.alloc (.cells #[.int .i64 1, .int .i64 2, .string ⟨#[120, 121]⟩] 35)) w.heap.size (1, 2, ⟨#[120, 121]⟩) (MapKept.heap_alloc w _).1)
  have B0 := Lib.hid ((Below.refl w.heap.size w).alloc (Nat.le_refl _) (.cells #[.int .i64 1, .int .i64 2, .string ⟨#[120, 121]⟩] 35))
  go_enter Try.func12, Try.ntmps12
  go_wp2_with fail
  generalize w.alloc (.cells #[.int .i64 1, .int .i64 2, .string ⟨#[120, 121]⟩] 35) = w0 at *
  have C1 := Lib.hid (apply_any exS (some ⟨w.heap.size, 0, none⟩) 1 exL (by decide) (by decide) (by decide) w0 R0.out)
  rw [x1, x2] at C1
  refine C1.out.mono ?_
  rintro e w1 ⟨rfl, hb1⟩
  have R1 := Lib.hid (re_keep R0.out hb1)
  have B1 := Lib.hid (B0.out.trans (hb1.mono B0.out.size))
  have C2 := Lib.hid (invert_any exS (some ⟨w.heap.size, 0, none⟩) 1 exL (by decide) (by decide) (by decide) w1 R1.out)
  rw [x2, x3] at C2
  clear hb1 C1 R0 B0
  go_wp2_with fail
  refine C2.out.mono ?_
  rintro e w2 ⟨v2, rfl, o2, hb2⟩
  have R2 := Lib.hid (re_keep R1.out hb2)
  have B2 := Lib.hid (B1.out.trans (hb2.mono B1.out.size))
  obtain ⟨A2, k2, rfl, _, m2⟩ := re_own o2
  have M2 := Lib.hid m2
  have C3 := Lib.hid (diff_ex w2)
  clear hb2 o2 m2 C2 R1 B1
  go_wp2_with fail
  refine C3.out.mono ?_
  rintro e w3 ⟨v3, rfl, o3, hb3⟩
  have R3 := Lib.hid (re_keep R2.out hb3)
  have M3 := Lib.hid (re_keep M2.out hb3)
  have B3 := Lib.hid (B2.out.trans (hb3.mono B2.out.size))
  obtain ⟨A3, k3, rfl, _, d3⟩ := re_own (xs := exD) o3
  have C4 := Lib.hid (apply_any exA A3 k3 exD (by decide) (by decide) (by decide) w3 d3)
  rw [x4, x5] at C4
  clear hb3 o3 d3 C3 R2 M2 B2
  go_wp2_with fail
  refine C4.out.mono ?_
  rintro e w4 ⟨rfl, hb4⟩
  have R4 := Lib.hid (re_keep R3.out hb4)
  have M4 := Lib.hid (re_keep M3.out hb4)
  have B4 := Lib.hid (B3.out.trans (hb4.mono B3.out.size))
  clear hb4 C4 R3 M3 B3
  have C5 := Lib.hid (shift_any 2 (some ⟨w.heap.size, 0, none⟩) 1 exL (by decide) (by decide) w4 R4.out)
  rw [x6] at C5
  go_wp2_with fail
  refine C5.out.mono ?_
  rintro e w5 ⟨rfl, hb5⟩
  have R5 := Lib.hid (re_keep R4.out hb5)
  have M5 := Lib.hid (re_keep M4.out hb5)
  have B5 := Lib.hid (B4.out.trans (hb5.mono B4.out.size))
  have C6 := Lib.hid (shift_any 1 (some ⟨w.heap.size, 0, none⟩) 1 exL (by decide) (by decide) w5 R5.out)
  rw [x7] at C6
  clear hb5 C5 R4 M4 B4
  go_wp2_with fail
  refine C6.out.mono ?_
  rintro e w6 ⟨rfl, hb6⟩
  have M6 := Lib.hid (re_keep M5.out hb6)
  have B6 := Lib.hid (B5.out.trans (hb6.mono B5.out.size))
  clear hb6 C6 M5 B5 R5
  have R7 := Lib.hid (re_one (w6.alloc (.cells #[.int .i64 1, .int .i64 3, .string ⟨#[98]⟩] 35)) w6.heap.size (1, 3, ⟨#[98]⟩) (MapKept.heap_alloc w6 _).1)
  have M7 := Lib.hid (re_keep M6.out ((Below.refl w6.heap.size w6).alloc (Nat.le_refl _) (.cells #[.int .i64 1, .int .i64 3, .string ⟨#[98]⟩] 35)))
  have B7 := Lib.hid (B6.out.alloc B6.out.size (.cells #[.int .i64 1, .int .i64 3, .string ⟨#[98]⟩] 35))
  go_wp2_with fail
  generalize w6.alloc (.cells #[.int .i64 1, .int .i64 3, .string ⟨#[98]⟩] 35) = w7 at *
  have C8 := Lib.hid (same_any A2 (some ⟨w6.heap.size, 0, none⟩) k2 1 exM exM (by decide) (by decide) w7 M7.out R7.out)
  rw [x8] at C8
  refine C8.out.mono ?_
  rintro e w8 ⟨rfl, hb8⟩
  have B8 := Lib.hid (B7.out.trans (hb8.mono B7.out.size))
  clear hb8 C8
  go_wp2_with fail
  go_ret
  exact ⟨rfl, B8.out⟩
