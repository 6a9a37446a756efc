/-
  Sum of a text by both, and the specification's text of a sum. No condition.
-/
import Derived.Test.YthlcdimofagmfaaGreatDoorD2
namespace Go.Proofs.YthlcdimofagmfaaGreatDoor.Dg
open Go.RowKit
set_option linter.unusedSimpArgs false
set_option linter.unnecessarySimpa false
set_option linter.unusedVariables false
set_option maxRecDepth 100000 in
set_option maxHeartbeats 2000000 in
theorem sum1_any (s : ByteArray) (hs : s.size ≤ 1000000) (w : World) :
    Calls Tryz.prog 12 #[.string s] w fun e w' => e = .returned (.int .u64 (hsum 14695981039346656037 s.data.toList : Nat)) ∧ Below w.heap.size w w' := by
  have C := Lib.hid (sum_any [s] w.heap.size 1 (w.alloc (.cells #[.string s] 9)) (fun i x hx => by
    rw [World.cell?_alloc_new]
    match i, hx with
    | 0, hx => simpa using hx
    | i + 1, hx => simp at hx) (by simp) (fun x hx => by simp at hx; subst hx; exact hs))
  obtain ⟨z, hz⟩ : ∃ z, z = hsum 14695981039346656037 s.data.toList := ⟨_, rfl⟩
  have hz2 : hsum 14695981039346656037 ([s].flatMap fun s => s.data.toList) = z := by rw [hz]; simp
  rw [hz2] at C
  rw [← hz]
  clear hz hz2
  go_enter Tryz.func12, Tryz.ntmps12
  go_wp2_with fail
  refine C.out.mono ?_
  rintro e w1 ⟨rfl, rfl⟩
  go_wp2_with fail
  go_ret
  exact ⟨rfl, (Below.refl _ _).alloc (Nat.le_refl _) _⟩
set_option maxRecDepth 100000 in
set_option maxHeartbeats 2000000 in
theorem rsum_any (s : ByteArray) (hs : s.size ≤ 1000000) (w : World) :
    Calls Tryz.prog 13 #[.string s] w fun e w' => e = .returned (.int .u64 (hsum 14695981039346656037 s.data.toList : Nat)) ∧ w' = w := by
  have C := Lib.hid (fun w => rcont_any 14695981039346656037 (by decide) s hs w)
  generalize hsum 14695981039346656037 s.data.toList = z at *
  go_enter Tryz.func13, Tryz.ntmps13
  go_wp2_with fail
  refine (C.out _).mono ?_
  rintro e w1 ⟨rfl, rfl⟩
  go_wp2_with fail
  go_ret
  exact ⟨rfl, rfl⟩
def digsB : ByteArray := ⟨#[48, 49, 50, 51, 52, 53, 54, 55, 56, 57, 97, 98, 99, 100, 101, 102]⟩
theorem sl_any (d : Nat) (hd : d < 16) (W : World) : (Instr.slice 9 (.string ⟨#[48, 49, 50, 51, 52, 53, 54, 55, 56, 57, 97, 98, 99, 100, 101, 102]⟩) (some (.int .u64 (d : Int))) (some (.int .u64 ((d : Int) + 1))) none).run Tryz.prog W = .ok (.string ⟨#[hxd d]⟩) W := by
  have hz : digsB.size = 16 := rfl
  have h1 := run_slice_string (P := Tryz.prog) W 9 digsB .u64 .u64 (d : Int) ((d : Int) + 1) Tryz.underlying9 (by omega) (by omega) (by rw [hz]; omega)
  refine h1.trans ?_
  have h : d = 0 ∨ d = 1 ∨ d = 2 ∨ d = 3 ∨ d = 4 ∨ d = 5 ∨ d = 6 ∨ d = 7 ∨ d = 8 ∨ d = 9 ∨ d = 10 ∨ d = 11 ∨ d = 12 ∨ d = 13 ∨ d = 14 ∨ d = 15 := by omega
  rcases h with rfl | rfl | rfl | rfl | rfl | rfl | rfl | rfl | rfl | rfl | rfl | rfl | rfl | rfl | rfl | rfl <;> rfl
/-- the digits from the lowest on -/
def lowL (n : Nat) : Nat → List UInt8
  | 0 => []
  | k + 1 => hxd (n / 16 ^ k % 16) :: lowL n k
theorem low_len (n : Nat) : ∀ k, (lowL n k).length = k
  | 0 => rfl
  | k + 1 => by simp [lowL, low_len n k]
theorem low_all (n : Nat) : 104 :: 58 :: lowL n 16 = txtL n 16 := by
  simp only [lowL, txtL, dig, List.range, List.range.loop, List.map_cons, List.map_nil]
set_option maxRecDepth 100000 in
set_option maxHeartbeats 4000000 in
theorem rtext_any (n : Nat) (hn : n < 18446744073709551616) (w : World) :
    Calls Tryz.prog 15 #[.int .u64 (n : Int)] w fun e w' => e = .returned (.string (txtH n)) ∧ w' = w := by
  go_enter Tryz.func15, Tryz.ntmps15
  go_wp2_with fail
  go_loop [0, 4, 5] (fun m o i => ∃ k : Nat, i = .int .i64 (k : Int) ∧ k ≤ 16 ∧ m = .int .u64 ((n / 16 ^ k : Nat) : Int) ∧ o = .string ⟨(lowL n k).toArray⟩) (fun _ _ i => (16 - intOf i).toNat)
  case atStart => exact ⟨0, rfl, by omega, by rw [Nat.pow_zero, Nat.div_one], rfl⟩
  case round =>
    obtain ⟨k, rfl, hk, rfl, rfl⟩ := hrel
    by_cases hlt : k < 16
    · have hki : (k : Int) < 16 := by omega
      have wk : IntKind.i64.wrap ((k : Int) + 1) = (k : Int) + 1 := by simp [IntKind.wrap, IntKind.bits, IntKind.signed]; omega
      have hnext : n / 16 ^ (k + 1) = n / 16 ^ k / 16 := by rw [Nat.pow_succ, Nat.div_div_eq_div_mul]
      have hlow : lowL n (k + 1) = hxd (n / 16 ^ k % 16) :: lowL n k := rfl
      have hll := low_len n k
      have hm : n / 16 ^ k < 18446744073709551616 := Nat.lt_of_le_of_lt (Nat.div_le_self _ _) hn
      obtain ⟨m, hme⟩ : ∃ m, m = n / 16 ^ k := ⟨_, rfl⟩
      rw [← hme] at hnext hlow hm ⊢
      obtain ⟨d, hd⟩ : ∃ d, d = m % 16 := ⟨_, rfl⟩
      have hd16 : d < 16 := by omega
      rw [← hd] at hlow
      have t1 : (m : Int).tmod 16 = (d : Int) := by rw [Int.tmod_eq_emod_of_nonneg (by omega)]; omega
      have t2 : (m : Int) % 16 = (d : Int) := by omega
      obtain ⟨m2, hm2⟩ : ∃ m2, m2 = m / 16 := ⟨_, rfl⟩
      have t3 : (m : Int).tdiv 16 = (m2 : Int) := by rw [hm2]; simp [Int.ofNat_tdiv]
      have t4 : (m : Int) / 16 = (m2 : Int) := by omega
      have t5 : IntKind.u64.wrap ((d : Int) + 1) = (d : Int) + 1 := by simp [IntKind.wrap, IntKind.bits, IntKind.signed]; omega
      have hsl := fun W => sl_any d hd16 W
      obtain ⟨cc, hcc⟩ : ∃ cc, cc = hxd d := ⟨_, rfl⟩
      obtain ⟨O, hO⟩ : ∃ O : ByteArray, O = ⟨(lowL n k).toArray⟩ := ⟨_, rfl⟩
      have hOs : O.size = k := by rw [hO]; show (lowL n k).toArray.size = k; rw [List.size_toArray, hll]
      have hadd : ¬ (9223372036854775807 < (⟨#[hxd d]⟩ : ByteArray).size + O.size) := by have h1 : (⟨#[hxd d]⟩ : ByteArray).size = 1 := rfl; rw [h1]; omega
      have hn2 : (⟨(lowL n (k + 1)).toArray⟩ : ByteArray) = (⟨#[hxd d]⟩ : ByteArray) ++ O := by
        rw [hlow, hO]; apply ByteArray.ext; apply Array.ext'; simp
      rw [← hm2] at hnext
      rw [← hO]
      have HN2 := Lib.hid hn2
      have HNX := Lib.hid hnext
      clear hn2 hnext hlow hll hme hd hm2 hO hcc
      generalize (⟨#[hxd d]⟩ : ByteArray) = X at *
      go_wp2_with fail
      go_round
      case rel => exact ⟨k + 1, by go_num, by omega, by rw [HNX.out], by rw [HN2.out]⟩
      case measure => simp [intOf]; omega
    · obtain rfl : k = 16 := by omega
      have hres : (⟨#[104, 58]⟩ : ByteArray) ++ ⟨(lowL n 16).toArray⟩ = txtH n := by
        unfold txtH; rw [← low_all]; apply ByteArray.ext; apply Array.ext'; simp
      have hll := low_len n 16
      obtain ⟨O, hO⟩ : ∃ O : ByteArray, O = ⟨(lowL n 16).toArray⟩ := ⟨_, rfl⟩
      have hOs : O.size = 16 := by rw [hO]; show (lowL n 16).toArray.size = 16; rw [List.size_toArray, hll]
      have hadd : ¬ (9223372036854775807 < (⟨#[104, 58]⟩ : ByteArray).size + O.size) := by have h1 : (⟨#[104, 58]⟩ : ByteArray).size = 2 := rfl; rw [h1]; omega
      rw [← hO] at hres ⊢
      have HRES := Lib.hid hres
      clear hres hll hO
      go_wp2_with fail
      go_ret
      exact ⟨by rw [← HRES.out]; rfl, rfl⟩
end Go.Proofs.YthlcdimofagmfaaGreatDoor.Dg
