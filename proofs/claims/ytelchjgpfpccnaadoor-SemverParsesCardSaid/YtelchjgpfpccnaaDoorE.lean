import Derived.Test.YtelchjgpfpccnaaDoorD
import Derived.Test.YtelchjgpfpccnaaDoorShelf
namespace Go.Proofs.YtelchjgpfpccnaaDoor
open Go.RowKit
set_option linter.unusedSimpArgs false
set_option linter.unusedVariables false
/-- a version in a block, in a world behind w0 -/
abbrev S1 (w0 : World) (p : Nat) (a b c : Int) (w : World) : Prop :=
  Below w0.heap.size w0 w ∧ w.cell? ⟨p, 0, none⟩ = some (.int .i64 a) ∧ w.cell? ⟨p, 1, none⟩ = some (.int .i64 b) ∧ w.cell? ⟨p, 2, none⟩ = some (.int .i64 c)
theorem keep1 {w0 w w' : World} {p : Nat} {a b c : Int} (h : S1 w0 p a b c w) (hb : Below w.heap.size w w') : S1 w0 p a b c w' :=
  ⟨h.1.trans (hb.mono h.1.size), cell_keep h.2.1 hb, cell_keep h.2.2.1 hb, cell_keep h.2.2.2 hb⟩
theorem below1 {w0 w : World} {p : Nat} {a b c : Int} (h : S1 w0 p a b c w) : Below w0.heap.size w0 w := h.1
theorem itoa_at (n : Int) (i : Nat) (s : Array UInt8) (h : n = (i : Int)) (hi : i < 100) (hs : (Lib.decDigits i).toArray = s) (w : World) :
    Calls Tryd.prog 26 #[.int .i64 n] w fun e w' => e = .returned (.string ⟨s⟩) ∧ w = w' := by
  subst h hs
  exact (Tryd.strconv_Itoa_small i hi w).mono fun _ _ ⟨he, hw⟩ => ⟨he, hw.symm⟩
theorem itoa_0 (w : World) : Calls Tryd.prog 26 #[.int .i64 0] w fun e w' => e = .returned (.string ⟨#[48]⟩) ∧ w = w' := itoa_at 0 0 #[48] rfl (by omega) (by kernel_rfl) w
theorem itoa_1 (w : World) : Calls Tryd.prog 26 #[.int .i64 1] w fun e w' => e = .returned (.string ⟨#[49]⟩) ∧ w = w' := itoa_at 1 1 #[49] rfl (by omega) (by kernel_rfl) w
theorem itoa_2 (w : World) : Calls Tryd.prog 26 #[.int .i64 2] w fun e w' => e = .returned (.string ⟨#[50]⟩) ∧ w = w' := itoa_at 2 2 #[50] rfl (by omega) (by kernel_rfl) w
theorem itoa_3 (w : World) : Calls Tryd.prog 26 #[.int .i64 3] w fun e w' => e = .returned (.string ⟨#[51]⟩) ∧ w = w' := itoa_at 3 3 #[51] rfl (by omega) (by kernel_rfl) w
theorem itoa_4 (w : World) : Calls Tryd.prog 26 #[.int .i64 4] w fun e w' => e = .returned (.string ⟨#[52]⟩) ∧ w = w' := itoa_at 4 4 #[52] rfl (by omega) (by kernel_rfl) w
set_option maxRecDepth 100000 in
set_option maxHeartbeats 2000000 in
theorem text130 (w : World) :
    Calls Tryd.prog 13 #[vv 1 3 0] w fun e w' => e = .returned (.string ⟨#[118, 49, 46, 51, 46, 48]⟩) ∧ Below w.heap.size w w' := by
  have ho : okV 1 3 0 = true := by decide
  unfold vv
  go_enter Tryd.func13, Tryd.ntmps13
  go_wp2_with fail
  refine (valid_at _ _ _ true ho _).mono ?_
  rintro e w1 ⟨rfl, hb1⟩
  have hS : S1 w w.heap.size 1 3 0 w1 := by
    have R1 : Row3 w1 w.heap.size 1 3 0 := (Row3.new w 1 3 0 23 _ rfl).keep hb1
    exact ⟨((Below.refl _ _).alloc (Nat.le_refl _) _).trans (hb1.mono (by simp)), R1.c0, R1.c1, R1.c2⟩
  clear hb1
  go_wp2_with fail
  go_region_held3 (fun w' => S1 w w.heap.size 1 3 0 w') (first | assumption | exact keep1 (by assumption) ((Below.refl _ _).drew)) (first | (go_at_call 26; ((with_reducible refine (itoa_1 _).mono ?_)); rintro e w' ⟨rfl, rfl⟩) | (go_at_call 26; ((with_reducible refine (itoa_3 _).mono ?_)); rintro e w' ⟨rfl, rfl⟩) | (go_at_call 26; ((with_reducible refine (itoa_0 _).mono ?_)); rintro e w' ⟨rfl, rfl⟩))
  go_wp2_with fail
  go_ret
  exact ⟨by kernel_rfl, below1 (by assumption)⟩

set_option maxRecDepth 100000 in
set_option maxHeartbeats 2000000 in
theorem text024 (w : World) :
    Calls Tryd.prog 13 #[vv 0 2 4] w fun e w' => e = .returned (.string ⟨#[118, 48, 46, 50, 46, 52]⟩) ∧ Below w.heap.size w w' := by
  have ho : okV 0 2 4 = true := by decide
  unfold vv
  go_enter Tryd.func13, Tryd.ntmps13
  go_wp2_with fail
  refine (valid_at _ _ _ true ho _).mono ?_
  rintro e w1 ⟨rfl, hb1⟩
  have hS : S1 w w.heap.size 0 2 4 w1 := by
    have R1 : Row3 w1 w.heap.size 0 2 4 := (Row3.new w 0 2 4 23 _ rfl).keep hb1
    exact ⟨((Below.refl _ _).alloc (Nat.le_refl _) _).trans (hb1.mono (by simp)), R1.c0, R1.c1, R1.c2⟩
  clear hb1
  go_wp2_with fail
  go_region_held3 (fun w' => S1 w w.heap.size 0 2 4 w') (first | assumption | exact keep1 (by assumption) ((Below.refl _ _).drew)) (first | (go_at_call 26; ((with_reducible refine (itoa_0 _).mono ?_)); rintro e w' ⟨rfl, rfl⟩) | (go_at_call 26; ((with_reducible refine (itoa_2 _).mono ?_)); rintro e w' ⟨rfl, rfl⟩) | (go_at_call 26; ((with_reducible refine (itoa_4 _).mono ?_)); rintro e w' ⟨rfl, rfl⟩))
  go_wp2_with fail
  go_ret
  exact ⟨by kernel_rfl, below1 (by assumption)⟩

set_option maxRecDepth 100000 in
set_option maxHeartbeats 2000000 in
theorem text123 (w : World) :
    Calls Tryd.prog 13 #[vv 1 2 3] w fun e w' => e = .returned (.string ⟨#[118, 49, 46, 50, 46, 51]⟩) ∧ Below w.heap.size w w' := by
  have ho : okV 1 2 3 = true := by decide
  unfold vv
  go_enter Tryd.func13, Tryd.ntmps13
  go_wp2_with fail
  refine (valid_at _ _ _ true ho _).mono ?_
  rintro e w1 ⟨rfl, hb1⟩
  have hS : S1 w w.heap.size 1 2 3 w1 := by
    have R1 : Row3 w1 w.heap.size 1 2 3 := (Row3.new w 1 2 3 23 _ rfl).keep hb1
    exact ⟨((Below.refl _ _).alloc (Nat.le_refl _) _).trans (hb1.mono (by simp)), R1.c0, R1.c1, R1.c2⟩
  clear hb1
  go_wp2_with fail
  go_region_held3 (fun w' => S1 w w.heap.size 1 2 3 w') (first | assumption | exact keep1 (by assumption) ((Below.refl _ _).drew)) (first | (go_at_call 26; ((with_reducible refine (itoa_1 _).mono ?_)); rintro e w' ⟨rfl, rfl⟩) | (go_at_call 26; ((with_reducible refine (itoa_2 _).mono ?_)); rintro e w' ⟨rfl, rfl⟩) | (go_at_call 26; ((with_reducible refine (itoa_3 _).mono ?_)); rintro e w' ⟨rfl, rfl⟩))
  go_wp2_with fail
  go_ret
  exact ⟨by kernel_rfl, below1 (by assumption)⟩

/-- the library's variable MaxLen holds some number -/
def Mx (w : World) : Prop := 3 < w.heap.size ∧ ∃ m : Int, w.cell? ⟨3, 0, none⟩ = some (.int .i64 m)
theorem Mx.keep {w w' : World} {N : Nat} (h : Mx w) (hb : Below N w w') (hN : 3 < N) : Mx w' :=
  ⟨Nat.lt_of_lt_of_le h.1 hb.size, h.2.elim fun m hm => ⟨m, by rw [hb.cell hN]; exact hm⟩⟩
theorem trim_ex (w : World) : Calls Tryd.prog 37 #[.string ⟨#[118, 48, 49, 46, 50, 46, 51]⟩, .string ⟨#[118]⟩] w fun e w' => e = .returned (.string ⟨#[48, 49, 46, 50, 46, 51]⟩) ∧ w = w' :=
  (Tryd.strings_TrimPrefix ⟨#[118, 48, 49, 46, 50, 46, 51]⟩ ⟨#[118]⟩ w).mono fun _ _ ⟨he, hw⟩ => ⟨he.trans (by kernel_rfl), hw.symm⟩
theorem split_ex (w : World) (h : Mx w) : Calls Tryd.prog 36 #[.string ⟨#[48, 49, 46, 50, 46, 51]⟩, .string ⟨#[46]⟩, .int .i64 3] w fun e w' =>
    e = .returned (.slice (some ⟨w.heap.size, 0, none⟩) 3 3) ∧ w.alloc (.cells #[.string ⟨#[48, 49]⟩, .string ⟨#[50]⟩, .string ⟨#[51]⟩] 9) = w' := by
  obtain ⟨_, m, hm⟩ := h
  refine (Tryd.strings_SplitN ⟨#[48, 49, 46, 50, 46, 51]⟩ ⟨#[46]⟩ 3 m w (by decide) hm (by decide) (by decide) (by decide)).mono fun _ _ ⟨he, hw⟩ => ⟨he.trans ?_, ?_⟩
  · kernel_rfl
  · rw [hw]; kernel_rfl
end Go.Proofs.YtelchjgpfpccnaaDoor
