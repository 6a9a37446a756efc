/-
  Reading the chapter's two texts. No condition.
-/
import Derived.Test.YthlcdimofagmfaaGreatDoorD3
import Derived.Test.YthlcdimofagmfaaGreatDoorShelf
import Derived.Laws.RangeAny
namespace Go.Proofs.YthlcdimofagmfaaGreatDoor.Dg
open Go.RowKit Go.Proofs
set_option linter.unusedSimpArgs false
set_option linter.unnecessarySimpa false
set_option linter.unusedVariables false
theorem cut_e1 (w : World) : Calls Tryz.prog 28 #[.string ⟨#[104, 58, 99, 98, 102, 50, 57, 99, 101, 52, 56, 52, 50, 50, 50, 51, 50, 53]⟩, .string ⟨#[104, 58]⟩] w fun e w' => e = .returned (.tuple #[.string ⟨#[99, 98, 102, 50, 57, 99, 101, 52, 56, 52, 50, 50, 50, 51, 50, 53]⟩, .bool true]) ∧ w' = w :=
  (Tryz.strings_CutPrefix _ _ w).mono fun _ _ ⟨he, hw⟩ => ⟨he.trans (by kernel_rfl), hw⟩
theorem cut_e2 (w : World) : Calls Tryz.prog 28 #[.string ⟨#[104, 58, 67, 66, 70, 50, 57, 67, 69, 52, 56, 52, 50, 50, 50, 51, 50, 53]⟩, .string ⟨#[104, 58]⟩] w fun e w' => e = .returned (.tuple #[.string ⟨#[67, 66, 70, 50, 57, 67, 69, 52, 56, 52, 50, 50, 50, 51, 50, 53]⟩, .bool true]) ∧ w' = w :=
  (Tryz.strings_CutPrefix _ _ w).mono fun _ _ ⟨he, hw⟩ => ⟨he.trans (by kernel_rfl), hw⟩
theorem ixr (r : Int) (d : Int) (h0 : 0 ≤ r) (h1 : r < 128) (hd : Lib.indexByte (⟨#[48, 49, 50, 51, 52, 53, 54, 55, 56, 57, 97, 98, 99, 100, 101, 102]⟩ : ByteArray).data.toList r.toNat.toUInt8 = d) (w : World) :
    Calls Tryz.prog 29 #[.string ⟨#[48, 49, 50, 51, 52, 53, 54, 55, 56, 57, 97, 98, 99, 100, 101, 102]⟩, .int .i32 r] w fun e w' => e = .returned (.int .i64 d) ∧ w' = w :=
  (Tryz.strings_IndexRune_ascii _ r w h0 h1).mono fun _ _ ⟨he, hw⟩ => ⟨he.trans (by rw [hd]), hw⟩
theorem below_iter (w : World) (S : ByteArray) (k : Nat) : Below w.heap.size w (w.iter S k) := (Below.refl w.heap.size w).alloc (Nat.le_refl _) _
set_option maxRecDepth 100000 in
set_option maxHeartbeats 8000000 in
theorem parse_e2 (w : World) :
    Calls Tryz.prog 16 #[.string ⟨#[104, 58, 67, 66, 70, 50, 57, 67, 69, 52, 56, 52, 50, 50, 50, 51, 50, 53]⟩] w fun e w' => e = .returned (.tuple #[.int .u64 0, .int .i64 8]) ∧ Below w.heap.size w w' := by
  have d0 : Utf8.decode ⟨#[67, 66, 70, 50, 57, 67, 69, 52, 56, 52, 50, 50, 50, 51, 50, 53]⟩ 0 = (67, 1) := by kernel_rfl
  have n0 := fun ty => (run_next_any (P := Tryz.prog) w ⟨#[67, 66, 70, 50, 57, 67, 69, 52, 56, 52, 50, 50, 50, 51, 50, 53]⟩ 0 ty (by decide))
  simp only [d0] at n0
  clear d0
  go_enter Tryz.func16, Tryz.ntmps16
  go_wp2_with fail
  refine (cut_e2 _).mono ?_
  rintro e w1 ⟨rfl, rfl⟩
  go_wp2_with fail
  refine wp_loop_rounds 17 ?_
  rw [rounds_succ]; go_wp2_with fail
  refine (ixr 67 (-1) (by decide) (by decide) (by kernel_rfl) _).mono ?_
  rintro e w2 ⟨rfl, rfl⟩
  go_wp2_with fail
  exact bodyPost_ret (v := .tuple #[.int .u64 0, .int .i64 8]) (by simp [results, Tryz.results16, go_sem]) rfl ⟨rfl, below_iter _ _ _⟩
set_option maxRecDepth 100000 in
set_option maxHeartbeats 8000000 in
theorem parse_e1 (w : World) :
    Calls Tryz.prog 16 #[.string ⟨#[104, 58, 99, 98, 102, 50, 57, 99, 101, 52, 56, 52, 50, 50, 50, 51, 50, 53]⟩] w fun e w' => e = .returned (.tuple #[.int .u64 14695981039346656037, .int .i64 0]) ∧ Below w.heap.size w w' := by
  have d0 : Utf8.decode ⟨#[99, 98, 102, 50, 57, 99, 101, 52, 56, 52, 50, 50, 50, 51, 50, 53]⟩ 0 = (99, 1) := by kernel_rfl
  have n0 := fun ty => (run_next_any (P := Tryz.prog) w ⟨#[99, 98, 102, 50, 57, 99, 101, 52, 56, 52, 50, 50, 50, 51, 50, 53]⟩ 0 ty (by decide))
  simp only [d0] at n0
  clear d0
  have d1 : Utf8.decode ⟨#[99, 98, 102, 50, 57, 99, 101, 52, 56, 52, 50, 50, 50, 51, 50, 53]⟩ 1 = (98, 1) := by kernel_rfl
  have n1 := fun ty => (run_next_any (P := Tryz.prog) w ⟨#[99, 98, 102, 50, 57, 99, 101, 52, 56, 52, 50, 50, 50, 51, 50, 53]⟩ 1 ty (by decide))
  simp only [d1] at n1
  clear d1
  have d2 : Utf8.decode ⟨#[99, 98, 102, 50, 57, 99, 101, 52, 56, 52, 50, 50, 50, 51, 50, 53]⟩ 2 = (102, 1) := by kernel_rfl
  have n2 := fun ty => (run_next_any (P := Tryz.prog) w ⟨#[99, 98, 102, 50, 57, 99, 101, 52, 56, 52, 50, 50, 50, 51, 50, 53]⟩ 2 ty (by decide))
  simp only [d2] at n2
  clear d2
  have d3 : Utf8.decode ⟨#[99, 98, 102, 50, 57, 99, 101, 52, 56, 52, 50, 50, 50, 51, 50, 53]⟩ 3 = (50, 1) := by kernel_rfl
  have n3 := fun ty => (run_next_any (P := Tryz.prog) w ⟨#[99, 98, 102, 50, 57, 99, 101, 52, 56, 52, 50, 50, 50, 51, 50, 53]⟩ 3 ty (by decide))
  simp only [d3] at n3
  clear d3
  have d4 : Utf8.decode ⟨#[99, 98, 102, 50, 57, 99, 101, 52, 56, 52, 50, 50, 50, 51, 50, 53]⟩ 4 = (57, 1) := by kernel_rfl
  have n4 := fun ty => (run_next_any (P := Tryz.prog) w ⟨#[99, 98, 102, 50, 57, 99, 101, 52, 56, 52, 50, 50, 50, 51, 50, 53]⟩ 4 ty (by decide))
  simp only [d4] at n4
  clear d4
  have d5 : Utf8.decode ⟨#[99, 98, 102, 50, 57, 99, 101, 52, 56, 52, 50, 50, 50, 51, 50, 53]⟩ 5 = (99, 1) := by kernel_rfl
  have n5 := fun ty => (run_next_any (P := Tryz.prog) w ⟨#[99, 98, 102, 50, 57, 99, 101, 52, 56, 52, 50, 50, 50, 51, 50, 53]⟩ 5 ty (by decide))
  simp only [d5] at n5
  clear d5
  have d6 : Utf8.decode ⟨#[99, 98, 102, 50, 57, 99, 101, 52, 56, 52, 50, 50, 50, 51, 50, 53]⟩ 6 = (101, 1) := by kernel_rfl
  have n6 := fun ty => (run_next_any (P := Tryz.prog) w ⟨#[99, 98, 102, 50, 57, 99, 101, 52, 56, 52, 50, 50, 50, 51, 50, 53]⟩ 6 ty (by decide))
  simp only [d6] at n6
  clear d6
  have d7 : Utf8.decode ⟨#[99, 98, 102, 50, 57, 99, 101, 52, 56, 52, 50, 50, 50, 51, 50, 53]⟩ 7 = (52, 1) := by kernel_rfl
  have n7 := fun ty => (run_next_any (P := Tryz.prog) w ⟨#[99, 98, 102, 50, 57, 99, 101, 52, 56, 52, 50, 50, 50, 51, 50, 53]⟩ 7 ty (by decide))
  simp only [d7] at n7
  clear d7
  have d8 : Utf8.decode ⟨#[99, 98, 102, 50, 57, 99, 101, 52, 56, 52, 50, 50, 50, 51, 50, 53]⟩ 8 = (56, 1) := by kernel_rfl
  have n8 := fun ty => (run_next_any (P := Tryz.prog) w ⟨#[99, 98, 102, 50, 57, 99, 101, 52, 56, 52, 50, 50, 50, 51, 50, 53]⟩ 8 ty (by decide))
  simp only [d8] at n8
  clear d8
  have d9 : Utf8.decode ⟨#[99, 98, 102, 50, 57, 99, 101, 52, 56, 52, 50, 50, 50, 51, 50, 53]⟩ 9 = (52, 1) := by kernel_rfl
  have n9 := fun ty => (run_next_any (P := Tryz.prog) w ⟨#[99, 98, 102, 50, 57, 99, 101, 52, 56, 52, 50, 50, 50, 51, 50, 53]⟩ 9 ty (by decide))
  simp only [d9] at n9
  clear d9
  have d10 : Utf8.decode ⟨#[99, 98, 102, 50, 57, 99, 101, 52, 56, 52, 50, 50, 50, 51, 50, 53]⟩ 10 = (50, 1) := by kernel_rfl
  have n10 := fun ty => (run_next_any (P := Tryz.prog) w ⟨#[99, 98, 102, 50, 57, 99, 101, 52, 56, 52, 50, 50, 50, 51, 50, 53]⟩ 10 ty (by decide))
  simp only [d10] at n10
  clear d10
  have d11 : Utf8.decode ⟨#[99, 98, 102, 50, 57, 99, 101, 52, 56, 52, 50, 50, 50, 51, 50, 53]⟩ 11 = (50, 1) := by kernel_rfl
  have n11 := fun ty => (run_next_any (P := Tryz.prog) w ⟨#[99, 98, 102, 50, 57, 99, 101, 52, 56, 52, 50, 50, 50, 51, 50, 53]⟩ 11 ty (by decide))
  simp only [d11] at n11
  clear d11
  have d12 : Utf8.decode ⟨#[99, 98, 102, 50, 57, 99, 101, 52, 56, 52, 50, 50, 50, 51, 50, 53]⟩ 12 = (50, 1) := by kernel_rfl
  have n12 := fun ty => (run_next_any (P := Tryz.prog) w ⟨#[99, 98, 102, 50, 57, 99, 101, 52, 56, 52, 50, 50, 50, 51, 50, 53]⟩ 12 ty (by decide))
  simp only [d12] at n12
  clear d12
  have d13 : Utf8.decode ⟨#[99, 98, 102, 50, 57, 99, 101, 52, 56, 52, 50, 50, 50, 51, 50, 53]⟩ 13 = (51, 1) := by kernel_rfl
  have n13 := fun ty => (run_next_any (P := Tryz.prog) w ⟨#[99, 98, 102, 50, 57, 99, 101, 52, 56, 52, 50, 50, 50, 51, 50, 53]⟩ 13 ty (by decide))
  simp only [d13] at n13
  clear d13
  have d14 : Utf8.decode ⟨#[99, 98, 102, 50, 57, 99, 101, 52, 56, 52, 50, 50, 50, 51, 50, 53]⟩ 14 = (50, 1) := by kernel_rfl
  have n14 := fun ty => (run_next_any (P := Tryz.prog) w ⟨#[99, 98, 102, 50, 57, 99, 101, 52, 56, 52, 50, 50, 50, 51, 50, 53]⟩ 14 ty (by decide))
  simp only [d14] at n14
  clear d14
  have d15 : Utf8.decode ⟨#[99, 98, 102, 50, 57, 99, 101, 52, 56, 52, 50, 50, 50, 51, 50, 53]⟩ 15 = (53, 1) := by kernel_rfl
  have n15 := fun ty => (run_next_any (P := Tryz.prog) w ⟨#[99, 98, 102, 50, 57, 99, 101, 52, 56, 52, 50, 50, 50, 51, 50, 53]⟩ 15 ty (by decide))
  simp only [d15] at n15
  clear d15
  have n16 := fun ty => (run_next_end (P := Tryz.prog) w ⟨#[99, 98, 102, 50, 57, 99, 101, 52, 56, 52, 50, 50, 50, 51, 50, 53]⟩ 16 ty (by decide))
  go_enter Tryz.func16, Tryz.ntmps16
  go_wp2_with fail
  refine (cut_e1 _).mono ?_
  rintro e w1 ⟨rfl, rfl⟩
  go_wp2_with fail
  refine wp_loop_rounds 17 ?_
  rw [rounds_succ]; go_wp2_with fail
  refine (ixr 99 (12) (by decide) (by decide) (by kernel_rfl) _).mono ?_
  rintro e w2 ⟨rfl, rfl⟩
  go_wp2_with fail
  rw [rounds_succ]; go_wp2_with fail
  refine (ixr 98 (11) (by decide) (by decide) (by kernel_rfl) _).mono ?_
  rintro e w2 ⟨rfl, rfl⟩
  go_wp2_with fail
  rw [rounds_succ]; go_wp2_with fail
  refine (ixr 102 (15) (by decide) (by decide) (by kernel_rfl) _).mono ?_
  rintro e w2 ⟨rfl, rfl⟩
  go_wp2_with fail
  rw [rounds_succ]; go_wp2_with fail
  refine (ixr 50 (2) (by decide) (by decide) (by kernel_rfl) _).mono ?_
  rintro e w2 ⟨rfl, rfl⟩
  go_wp2_with fail
  rw [rounds_succ]; go_wp2_with fail
  refine (ixr 57 (9) (by decide) (by decide) (by kernel_rfl) _).mono ?_
  rintro e w2 ⟨rfl, rfl⟩
  go_wp2_with fail
  rw [rounds_succ]; go_wp2_with fail
  refine (ixr 99 (12) (by decide) (by decide) (by kernel_rfl) _).mono ?_
  rintro e w2 ⟨rfl, rfl⟩
  go_wp2_with fail
  rw [rounds_succ]; go_wp2_with fail
  refine (ixr 101 (14) (by decide) (by decide) (by kernel_rfl) _).mono ?_
  rintro e w2 ⟨rfl, rfl⟩
  go_wp2_with fail
  rw [rounds_succ]; go_wp2_with fail
  refine (ixr 52 (4) (by decide) (by decide) (by kernel_rfl) _).mono ?_
  rintro e w2 ⟨rfl, rfl⟩
  go_wp2_with fail
  rw [rounds_succ]; go_wp2_with fail
  refine (ixr 56 (8) (by decide) (by decide) (by kernel_rfl) _).mono ?_
  rintro e w2 ⟨rfl, rfl⟩
  go_wp2_with fail
  rw [rounds_succ]; go_wp2_with fail
  refine (ixr 52 (4) (by decide) (by decide) (by kernel_rfl) _).mono ?_
  rintro e w2 ⟨rfl, rfl⟩
  go_wp2_with fail
  rw [rounds_succ]; go_wp2_with fail
  refine (ixr 50 (2) (by decide) (by decide) (by kernel_rfl) _).mono ?_
  rintro e w2 ⟨rfl, rfl⟩
  go_wp2_with fail
  rw [rounds_succ]; go_wp2_with fail
  refine (ixr 50 (2) (by decide) (by decide) (by kernel_rfl) _).mono ?_
  rintro e w2 ⟨rfl, rfl⟩
  go_wp2_with fail
  rw [rounds_succ]; go_wp2_with fail
  refine (ixr 50 (2) (by decide) (by decide) (by kernel_rfl) _).mono ?_
  rintro e w2 ⟨rfl, rfl⟩
  go_wp2_with fail
  rw [rounds_succ]; go_wp2_with fail
  refine (ixr 51 (3) (by decide) (by decide) (by kernel_rfl) _).mono ?_
  rintro e w2 ⟨rfl, rfl⟩
  go_wp2_with fail
  rw [rounds_succ]; go_wp2_with fail
  refine (ixr 50 (2) (by decide) (by decide) (by kernel_rfl) _).mono ?_
  rintro e w2 ⟨rfl, rfl⟩
  go_wp2_with fail
  rw [rounds_succ]; go_wp2_with fail
  refine (ixr 53 (5) (by decide) (by decide) (by kernel_rfl) _).mono ?_
  rintro e w2 ⟨rfl, rfl⟩
  go_wp2_with fail
  rw [rounds_succ]; go_wp2_with fail
  refine bodyPost_ret (v := .tuple #[.int .u64 14695981039346656037, .int .i64 0]) (by simp [results, Tryz.results16, go_sem]; first | kernel_rfl | decide +kernel) rfl ⟨rfl, below_iter _ _ _⟩
end Go.Proofs.YthlcdimofagmfaaGreatDoor.Dg
namespace Go.Proofs.YthlcdimofagmfaaGreatDoor.Dg
open Go.RowKit
set_option linter.unusedSimpArgs false
set_option linter.unnecessarySimpa false
set_option linter.unusedVariables false
/-- what alive must give in every world behind w -/
def Alive (w : World) : Prop := ∀ w', Below w.heap.size w w' → Calls Tryz.prog 11 #[] w' fun e w2 => e = .returned (.bool true) ∧ Below w'.heap.size w' w2
set_option maxRecDepth 100000 in
set_option maxHeartbeats 4000000 in
theorem law_sum (s : ByteArray) (w : World) (HA : Alive w) :
    Calls Tryz.prog 3 #[.string s] w fun e w' => e = .returned (.bool true) ∧ Below w.heap.size w w' := by
  have HAL := Lib.hid HA
  clear HA
  by_cases hs : s.size ≤ 2000
  · have h1 : ¬ (2000 : Int) < (s.size : Int) := by omega
    have C1 := Lib.hid (fun w => sum1_any s (by omega) w)
    have C2 := Lib.hid (fun w => rsum_any s (by omega) w)
    have hlt := hsum_lt s.data.toList 14695981039346656037 (by decide)
    generalize hsum 14695981039346656037 s.data.toList = z at *
    have C3 := Lib.hid (fun w => text_any z hlt w)
    have C4 := Lib.hid (fun w => rtext_any z hlt w)
    generalize txtH z = T at *
    clear hs hlt
    go_enter Tryz.func3, Tryz.ntmps3
    go_wp2_with fail
    refine (C1.out _).mono ?_
    rintro e w1 ⟨rfl, hb1⟩
    go_wp2_with fail
    refine (C2.out _).mono ?_
    rintro e w2 ⟨rfl, rfl⟩
    go_wp2_with fail
    refine (C1.out _).mono ?_
    rintro e w3 ⟨rfl, hb3⟩
    have B3 := Lib.hid (hb1.trans (hb3.mono hb1.size))
    clear hb1 hb3
    go_wp2_with fail
    refine (C3.out _).mono ?_
    rintro e w4 ⟨rfl, hb4⟩
    have B4 := Lib.hid (B3.out.trans (hb4.mono B3.out.size))
    clear hb4 B3
    go_wp2_with fail
    refine (C2.out _).mono ?_
    rintro e w5 ⟨rfl, rfl⟩
    go_wp2_with fail
    refine (C4.out _).mono ?_
    rintro e w5 ⟨rfl, rfl⟩
    go_wp2_with fail
    refine (HAL.out _ B4.out).mono ?_
    rintro e w6 ⟨rfl, hb6⟩
    have B6 := Lib.hid (B4.out.trans (hb6.mono B4.out.size))
    clear hb6
    go_wp2_with fail
    go_ret
    exact ⟨rfl, B6.out⟩
  · have h1 : (2000 : Int) < (s.size : Int) := by omega
    clear hs
    go_enter Tryz.func3, Tryz.ntmps3
    go_wp2_with fail
    refine (HAL.out _ (Below.refl _ _)).mono ?_
    rintro e w6 ⟨rfl, hb6⟩
    have B6 := Lib.hid hb6
    clear hb6
    go_wp2_with fail
    go_ret
    exact ⟨rfl, B6.out⟩
end Go.Proofs.YthlcdimofagmfaaGreatDoor.Dg
