/-
  The specification's small functions: ValidUnits, whole, floor, rank, unrank. Conditions: the numbers lie between -2 * 10^15 and 2 * 10^15 (rank, unrank, floor), or are 64-bit integers.
-/
import Derived.Test.YteekccjfokoglaaA
import Derived.Test.YteekccjfokoglaaM7
namespace Go.Proofs.Yteekccjfokoglaa
open Go.RowKit
set_option linter.unusedSimpArgs false
set_option linter.unnecessarySimpa false
set_option linter.unusedVariables false
theorem rvalid_any (u : Int) (w : World) (h : i64ok u) : Calls Try.prog 37 #[.int .i64 u] w fun e w' => e = .returned (.bool (vld u)) ∧ w = w' := by
  obtain ⟨h1, h2⟩ := h
  by_cases a : -1000000000000000 ≤ u <;> by_cases b : u ≤ 1000000000000000 <;> (
    go_enter Try.func37, Try.ntmps37
    go_wp2
    go_ret
    exact ⟨ret_bool (by simp [vld, a, b]), rfl⟩)
theorem rwhole_any (u : Int) (w : World) : Calls Try.prog 61 #[.int .i64 u] w fun e w' => e = .returned (.bool (decide (u % 10000 = 0))) ∧ w = w' := by
  by_cases hw : u.tmod 10000 = 0
  · have hq : u % 10000 = 0 := Int.emod_eq_zero_of_dvd (Int.dvd_of_tmod_eq_zero hw)
    have ht : ((u.tmod 10000 : Int) == 0) = true := by simp [hw]
    go_enter Try.func61, Try.ntmps61
    go_wp2
    go_ret
    exact ⟨ret_bool (by simp [hq]), rfl⟩
  · have hq : ¬u % 10000 = 0 := by intro h; exact hw (Int.tmod_eq_zero_of_dvd (Int.dvd_of_emod_eq_zero h))
    have ht : ((u.tmod 10000 : Int) == 0) = false := by simp [hw]
    go_enter Try.func61, Try.ntmps61
    go_wp2
    go_ret
    exact ⟨ret_bool (by simp [hq]), rfl⟩
def bdu (u : Int) : Prop := -2000000000000000 ≤ u ∧ u ≤ 2000000000000000
theorem tq_pos {u : Int} {m : Int} (hm : 0 < m) (h : ¬u.tmod m < 0) : u.tdiv m = u / m := by
  rcases Int.lt_or_le u 0 with hu | hu
  · have h0 : u.tmod m = 0 := by
      have : u.tmod m ≤ 0 := by
        rw [← Int.neg_neg u, Int.neg_tmod]
        have := Int.tmod_nonneg (a := -u) m (by omega); omega
      omega
    have hd := Int.dvd_of_tmod_eq_zero h0
    obtain ⟨k, rfl⟩ := hd
    rw [Int.mul_tdiv_cancel_left _ (by omega), Int.mul_ediv_cancel_left _ (by omega)]
  · exact Int.tdiv_eq_ediv_of_nonneg hu
theorem tq_neg {u : Int} {m : Int} (hm : 0 < m) (h : u.tmod m < 0) : u.tdiv m - 1 = u / m := by
  have h1 := Int.tmod_add_mul_tdiv u m
  have h2 := Int.emod_add_mul_ediv u m
  have h3 := Int.emod_nonneg u (by omega : m ≠ 0)
  have h4 := Int.emod_lt_of_pos u hm
  have h5 : -m < u.tmod m := by
    have hu : u < 0 := by
      rcases Int.lt_or_le u 0 with h | h
      · exact h
      · have := Int.tmod_nonneg m h; omega
    rw [← Int.neg_neg u, Int.neg_tmod]
    have := Int.tmod_lt_of_pos (-u) hm; omega
  have h6 : m * (u / m) - m * (u.tdiv m) = u.tmod m - u % m := by omega
  have h7 : m * (u / m - u.tdiv m) = u.tmod m - u % m := by rw [Int.mul_sub]; exact h6
  have h8 : u / m - u.tdiv m < 0 := by
    rcases Int.lt_or_le (u / m - u.tdiv m) 0 with h | h
    · exact h
    · have := Int.mul_nonneg (Int.le_of_lt hm) h; omega
  have h9 : -2 < u / m - u.tdiv m := by
    rcases Int.lt_or_le (-2) (u / m - u.tdiv m) with h | h
    · exact h
    · have := Int.mul_le_mul_of_nonneg_left h (Int.le_of_lt hm); omega
  omega
set_option maxHeartbeats 1000000 in
theorem rfloor_any (u : Int) (w : World) (h : bdu u) : Calls Try.prog 68 #[.int .i64 u] w fun e w' => e = .returned (.int .i64 (u / 10000)) ∧ w = w' := by
  obtain ⟨h1, h2⟩ := h
  have hw : IntKind.i64.wrap (u.tdiv 10000) = u.tdiv 10000 := IntWalk.i64_in _ (by
    by_cases h : u.tmod 10000 < 0
    · have := tq_neg (m := 10000) (by omega) h; omega
    · have := tq_pos (m := 10000) (by omega) h; omega)
  by_cases hn : u.tmod 10000 < 0
  · have e := tq_neg (m := 10000) (by omega) hn
    have hw2 : IntKind.i64.wrap (u.tdiv 10000 - 1) = u.tdiv 10000 - 1 := IntWalk.i64_in _ (by omega)
    have HE := Lib.hid e
    clear e
    go_enter Try.func68, Try.ntmps68
    go_wp2
    go_ret
    exact ⟨ret_int HE.out, rfl⟩
  · have e := tq_pos (m := 10000) (by omega) hn
    have HE := Lib.hid e
    clear e
    go_enter Try.func68, Try.ntmps68
    go_wp2
    go_ret
    exact ⟨ret_int HE.out, rfl⟩
set_option maxHeartbeats 1000000 in
theorem runrank_any (u : Int) (w : World) (h : bdu u) : Calls Try.prog 79 #[.int .i64 u] w fun e w' => e = .returned (.int .i64 (un u)) ∧ w = w' := by
  obtain ⟨h1, h2⟩ := h
  have hw : IntKind.i64.wrap (u.tdiv 9999) = u.tdiv 9999 := IntWalk.i64_in _ (by
    by_cases h : u.tmod 9999 < 0
    · have := tq_neg (m := 9999) (by omega) h; omega
    · have := tq_pos (m := 9999) (by omega) h; omega)
  obtain ⟨q, hq⟩ : ∃ q, q = u / 9999 := ⟨_, rfl⟩
  have b1 : -200020002001 ≤ q := by omega
  have b2 : q ≤ 200020002001 := by omega
  have HU := Lib.hid (show q * 10000 + (u - q * 9999) + 1 = un u by unfold un; omega)
  have a1 : IntKind.i64.wrap (q * 10000) = q * 10000 := IntWalk.i64_in _ (by omega)
  have a2 : IntKind.i64.wrap (q * 9999) = q * 9999 := IntWalk.i64_in _ (by omega)
  have a3 : IntKind.i64.wrap (u - q * 9999) = u - q * 9999 := IntWalk.i64_in _ (by omega)
  have a4 : IntKind.i64.wrap (q * 10000 + (u - q * 9999)) = q * 10000 + (u - q * 9999) := IntWalk.i64_in _ (by omega)
  have a5 : IntKind.i64.wrap (q * 10000 + (u - q * 9999) + 1) = q * 10000 + (u - q * 9999) + 1 := IntWalk.i64_in _ (by omega)
  by_cases hn : u.tmod 9999 < 0
  · have e : u.tdiv 9999 - 1 = q := by rw [hq]; exact tq_neg (m := 9999) (by omega) hn
    have hw2 : IntKind.i64.wrap (u.tdiv 9999 - 1) = q := by rw [e]; exact IntWalk.i64_in _ (by omega)
    clear e hq
    go_enter Try.func79, Try.ntmps79
    go_wp2
    go_ret
    exact ⟨ret_int HU.out, rfl⟩
  · have e : u.tdiv 9999 = q := by rw [hq]; exact tq_pos (m := 9999) (by omega) hn
    rw [e] at hw
    clear hq
    go_enter Try.func79, Try.ntmps79
    go_wp2
    go_ret
    exact ⟨ret_int HU.out, rfl⟩
set_option maxHeartbeats 1000000 in
theorem rrank_any (u : Int) (w : World) (h : bdu u) : Calls Try.prog 81 #[.int .i64 u] w fun e w' => e = .returned (.int .i64 (rk u)) ∧ w = w' := by
  have HF := Lib.hid (fun W => rfloor_any u W h)
  obtain ⟨h1, h2⟩ := h
  obtain ⟨q, hq⟩ : ∃ q, q = u / 10000 := ⟨_, rfl⟩
  rw [← hq] at HF
  have b1 : -200000000001 ≤ q := by omega
  have b2 : q ≤ 200000000001 := by omega
  have HU := Lib.hid (show q * 9999 + (u - q * 10000) - 1 = rk u by unfold rk; omega)
  have a1 : IntKind.i64.wrap (q * 10000) = q * 10000 := IntWalk.i64_in _ (by omega)
  have a2 : IntKind.i64.wrap (q * 9999) = q * 9999 := IntWalk.i64_in _ (by omega)
  have a3 : IntKind.i64.wrap (u - q * 10000) = u - q * 10000 := IntWalk.i64_in _ (by omega)
  have a4 : IntKind.i64.wrap (q * 9999 + (u - q * 10000)) = q * 9999 + (u - q * 10000) := IntWalk.i64_in _ (by omega)
  have a5 : IntKind.i64.wrap (q * 9999 + (u - q * 10000) - 1) = q * 9999 + (u - q * 10000) - 1 := IntWalk.i64_in _ (by omega)
  clear hq
  go_enter Try.func81, Try.ntmps81
  go_wp2_with fail
  refine (HF.out _).mono ?_
  rintro e w' ⟨rfl, rfl⟩
  go_wp2_with fail
  go_ret
  exact ⟨ret_int HU.out, rfl⟩
end Go.Proofs.Yteekccjfokoglaa
