/-
  The escapes of a literal, as the program reads them. No condition.
-/
import Derived.Test.YtaocgibfabofhaaDoorE
namespace Go.Proofs.YtaocgibfabofhaaDoor
open Go.RowKit
set_option linter.unusedSimpArgs false
set_option linter.unusedVariables false
def hexV (h l : Nat) : Nat × Nat := if digI h < 0 ∨ digI l < 0 then (0, 0) else ((16 * digI h + digI l).toNat, 4)
def escC (c h l n : Nat) : Nat × Nat :=
  if n < 2 then (0, 0) else if c = 34 then (34, 2) else if c = 92 then (92, 2) else if c = 110 then (10, 2) else if c = 116 then (9, 2) else if c = 114 then (13, 2)
  else if c = 120 then (if n < 4 then (0, 0) else hexV h l) else (0, 0)
/-- the byte of a string, as a number -/
def ch (s : ByteArray) (k : Nat) : Nat := (s.data.toList.getD k 0).toNat
theorem ch_at (s : ByteArray) (k : Nat) (h : k < s.size) : s[k].toNat = ch s k := by
  unfold ch
  rw [List.getD_eq_getElem?_getD, List.getElem?_eq_getElem (by simpa using h)]
  rfl
theorem ch_lt (s : ByteArray) (k : Nat) : ch s k < 256 := UInt8.toNat_lt _
def escV (s : ByteArray) : Nat × Nat := escC (ch s 1) (ch s 2) (ch s 3) s.size
theorem pair_ret {a b : Int} {p : Nat × Nat} (h1 : a = (p.1 : Int)) (h2 : b = (p.2 : Int)) : Ending.returned (.tuple #[.int .u8 a, .int .i64 b]) = .returned (.tuple #[.int .u8 p.1, .int .i64 p.2]) := by rw [h1, h2]
theorem or_i64 (a b : Nat) (ha : a < 16) (hb : b < 16) : bits .or .i64 ((a : Int) * 16) (b : Int) % 256 = ((16 * a + b : Nat) : Int) := by
  have : ∀ (x y : Fin 16), bits .or .i64 ((x.val : Int) * 16) (y.val : Int) % 256 = ((16 * x.val + y.val : Nat) : Int) := by decide +kernel
  exact this ⟨a, ha⟩ ⟨b, hb⟩
set_option maxHeartbeats 1000000 in
theorem hex_any (s : ByteArray) (w : World) :
    Calls Tryd.prog 94 #[.string s] w fun e w' => e = .returned (.tuple #[.int .u8 (if s.size < 4 then ((0, 0) : Nat × Nat) else hexV (ch s 2) (ch s 3)).1, .int .i64 (if s.size < 4 then ((0, 0) : Nat × Nat) else hexV (ch s 2) (ch s 3)).2]) ∧ ∃ n, w' = w.drewN n := by
  by_cases h : s.size < 4
  · rw [if_pos h]
    go_enter Tryd.func94, Tryd.ntmps94
    go_wp2
    go_ret2
    exact ⟨rfl, 0, rfl⟩
  · rw [if_neg h]
    rw [← ch_at s 2 (by omega), ← ch_at s 3 (by omega)]
    have l2 : (s[2]).toNat < 256 := (s[2]).toNat_lt
    have l3 : (s[3]).toNat < 256 := (s[3]).toNat_lt
    have dx0 := digI_lo (s[2]).toNat
    have dx1 := digI_hi (s[2]).toNat
    have dy0 := digI_lo (s[3]).toNat
    have dy1 := digI_hi (s[3]).toNat
    have cx : ∀ w : World, Calls Tryd.prog 100 #[.int .u8 ((s[2]).toNat : Int)] w fun e w' => e = .returned (.int .i64 (digI (s[2]).toNat)) ∧ w' = w := fun w => (digit_any (s[2]).toNat l2 w).mono fun _ _ h => ⟨h.1, h.2.symm⟩
    have cy : ∀ w : World, Calls Tryd.prog 100 #[.int .u8 ((s[3]).toNat : Int)] w fun e w' => e = .returned (.int .i64 (digI (s[3]).toNat)) ∧ w' = w := fun w => (digit_any (s[3]).toNat l3 w).mono fun _ _ h => ⟨h.1, h.2.symm⟩
    unfold hexV
    generalize digI (s[2]).toNat = a at *
    generalize digI (s[3]).toNat = b at *
    have CX := Lib.hid cx
    have CY := Lib.hid cy
    clear cx cy
    have hle : 4 ≤ s.size := by omega
    have k2 : 2 < s.size := by omega
    have k3 : 3 < s.size := by omega
    have K2 : (2 : Int) < (s.size : Int) := by omega
    have K3 : (3 : Int) < (s.size : Int) := by omega
    have j2 : ∀ w : World, (Instr.index 9 (.string s) (.int .i64 2)).run Tryd.prog w = .ok (.int .u8 ((s[2]).toNat : Int)) w := fun w => by go_simp
    have j3 : ∀ w : World, (Instr.index 9 (.string s) (.int .i64 3)).run Tryd.prog w = .ok (.int .u8 ((s[3]).toNat : Int)) w := fun w => by go_simp
    by_cases ha : a < 0
    · obtain rfl : a = -1 := by omega
      have H : Hid ((if (-1 : Int) < 0 ∨ b < 0 then ((0, 0) : Nat × Nat) else ((16 * (-1) + b).toNat, 4)) = (0, 0)) := if_pos (.inl ha)
      rw [H.out]
      clear ha dx0 dx1
      go_enter Tryd.func94, Tryd.ntmps94
      go_wp2_with fail
      go_quiet ((first | (go_at_call 100; with_reducible exact Calls.quiet_of_same (CX.out _)) | (go_at_call 100; with_reducible exact Calls.quiet_of_same (CY.out _))))
      go_wp2_with fail
      go_ret2
      exact ⟨rfl, _, rfl⟩
    · obtain ⟨A, rfl⟩ := Int.eq_ofNat_of_zero_le (show 0 ≤ a by omega)
      by_cases hb : b < 0
      · obtain rfl : b = -1 := by omega
        have H : Hid ((if (A : Int) < 0 ∨ (-1 : Int) < 0 then ((0, 0) : Nat × Nat) else ((16 * (A : Int) + (-1)).toNat, 4)) = (0, 0)) := if_pos (.inr hb)
        rw [H.out]
        clear hb dy0 dy1
        go_enter Tryd.func94, Tryd.ntmps94
        go_wp2_with fail
        go_quiet ((first | (go_at_call 100; with_reducible exact Calls.quiet_of_same (CX.out _)) | (go_at_call 100; with_reducible exact Calls.quiet_of_same (CY.out _))))
        go_wp2_with fail
        go_ret2
        exact ⟨rfl, _, rfl⟩
      · obtain ⟨B, rfl⟩ := Int.eq_ofNat_of_zero_le (show 0 ≤ b by omega)
        have H : Hid ((if (A : Int) < 0 ∨ (B : Int) < 0 then ((0, 0) : Nat × Nat) else ((16 * (A : Int) + (B : Int)).toNat, 4)) = (16 * A + B, 4)) := by
          show (if (A : Int) < 0 ∨ (B : Int) < 0 then ((0, 0) : Nat × Nat) else ((16 * (A : Int) + (B : Int)).toNat, 4)) = (16 * A + B, 4)
          rw [if_neg (by omega)]; congr 1
        rw [H.out]
        have HO := Lib.hid (or_i64 A B (by omega) (by omega))
        clear dx0 dy0
        go_enter Tryd.func94, Tryd.ntmps94
        go_wp2_with fail
        go_quiet ((first | (go_at_call 100; with_reducible exact Calls.quiet_of_same (CX.out _)) | (go_at_call 100; with_reducible exact Calls.quiet_of_same (CY.out _))))
        go_wp2_with fail
        go_ret2
        refine ⟨?_, _, rfl⟩
        show Ending.returned (.tuple #[.int .u8 (bits .or .i64 ((A : Int) * 16) (B : Int) % 256), .int .i64 4]) = _
        rw [HO.out]
        rfl
theorem ne_of_beq_false {a b : Int} (h : (a == b) = false) : a ≠ b := by simpa using h
theorem esc_eq {s : ByteArray} {p : Nat × Nat} (h : escV s = p) {a b : Int} (h1 : a = (p.1 : Int)) (h2 : b = (p.2 : Int)) : Ending.returned (.tuple #[.int .u8 a, .int .i64 b]) = .returned (.tuple #[.int .u8 (escV s).1, .int .i64 (escV s).2]) := by rw [h, h1, h2]
set_option maxHeartbeats 1000000 in
theorem escape_any (s : ByteArray) (w : World) :
    Calls Tryd.prog 83 #[.string s] w fun e w' => e = .returned (.tuple #[.int .u8 (escV s).1, .int .i64 (escV s).2]) ∧ ∃ n, w' = w.drewN n := by
  by_cases h : s.size < 2
  · go_enter Tryd.func83, Tryd.ntmps83
    go_wp2
    go_ret2
    exact ⟨esc_eq (p := (0, 0)) (by unfold escV escC; rw [if_pos h]) rfl rfl, 0, rfl⟩
  · have hle : 2 ≤ s.size := by omega
    have k1 : 1 < s.size := by omega
    have e1 := ch_at s 1 k1
    have E1 := Lib.hid e1
    clear e1
    go_enter Tryd.func83, Tryd.ntmps83
    go_wp2_with fail
    · have x34 : ch s 1 = 34 := by rw [← E1.out]; have := eq_of_beq (show (((s[1]).toNat : Int) == 34) = true by assumption); omega
      go_ret2
      exact ⟨esc_eq (p := (34, 2)) (by unfold escV escC; rw [if_neg (by omega), if_pos x34]) (by rw [E1.out, x34]) rfl, 0, rfl⟩
    · have x34 : ch s 1 ≠ 34 := by rw [← E1.out]; have := ne_of_beq_false (show (((s[1]).toNat : Int) == 34) = false by assumption); omega
      have x92 : ch s 1 = 92 := by rw [← E1.out]; have := eq_of_beq (show (((s[1]).toNat : Int) == 92) = true by assumption); omega
      go_ret2
      exact ⟨esc_eq (p := (92, 2)) (by unfold escV escC; rw [if_neg (by omega), if_neg (by omega), if_pos x92]) (by rw [E1.out, x92]) rfl, 0, rfl⟩
    · have x34 : ch s 1 ≠ 34 := by rw [← E1.out]; have := ne_of_beq_false (show (((s[1]).toNat : Int) == 34) = false by assumption); omega
      have x92 : ch s 1 ≠ 92 := by rw [← E1.out]; have := ne_of_beq_false (show (((s[1]).toNat : Int) == 92) = false by assumption); omega
      have x110 : ch s 1 = 110 := by rw [← E1.out]; have := eq_of_beq (show (((s[1]).toNat : Int) == 110) = true by assumption); omega
      go_ret2
      exact ⟨esc_eq (p := (10, 2)) (by unfold escV escC; rw [if_neg (by omega), if_neg (by omega), if_neg (by omega), if_pos x110]) (rfl) rfl, 0, rfl⟩
    · have x34 : ch s 1 ≠ 34 := by rw [← E1.out]; have := ne_of_beq_false (show (((s[1]).toNat : Int) == 34) = false by assumption); omega
      have x92 : ch s 1 ≠ 92 := by rw [← E1.out]; have := ne_of_beq_false (show (((s[1]).toNat : Int) == 92) = false by assumption); omega
      have x110 : ch s 1 ≠ 110 := by rw [← E1.out]; have := ne_of_beq_false (show (((s[1]).toNat : Int) == 110) = false by assumption); omega
      have x116 : ch s 1 = 116 := by rw [← E1.out]; have := eq_of_beq (show (((s[1]).toNat : Int) == 116) = true by assumption); omega
      go_ret2
      exact ⟨esc_eq (p := (9, 2)) (by unfold escV escC; rw [if_neg (by omega), if_neg (by omega), if_neg (by omega), if_neg (by omega), if_pos x116]) (rfl) rfl, 0, rfl⟩
    · have x34 : ch s 1 ≠ 34 := by rw [← E1.out]; have := ne_of_beq_false (show (((s[1]).toNat : Int) == 34) = false by assumption); omega
      have x92 : ch s 1 ≠ 92 := by rw [← E1.out]; have := ne_of_beq_false (show (((s[1]).toNat : Int) == 92) = false by assumption); omega
      have x110 : ch s 1 ≠ 110 := by rw [← E1.out]; have := ne_of_beq_false (show (((s[1]).toNat : Int) == 110) = false by assumption); omega
      have x116 : ch s 1 ≠ 116 := by rw [← E1.out]; have := ne_of_beq_false (show (((s[1]).toNat : Int) == 116) = false by assumption); omega
      have x114 : ch s 1 = 114 := by rw [← E1.out]; have := eq_of_beq (show (((s[1]).toNat : Int) == 114) = true by assumption); omega
      go_ret2
      exact ⟨esc_eq (p := (13, 2)) (by unfold escV escC; rw [if_neg (by omega), if_neg (by omega), if_neg (by omega), if_neg (by omega), if_neg (by omega), if_pos x114]) (rfl) rfl, 0, rfl⟩
    · have x34 : ch s 1 ≠ 34 := by rw [← E1.out]; have := ne_of_beq_false (show (((s[1]).toNat : Int) == 34) = false by assumption); omega
      have x92 : ch s 1 ≠ 92 := by rw [← E1.out]; have := ne_of_beq_false (show (((s[1]).toNat : Int) == 92) = false by assumption); omega
      have x110 : ch s 1 ≠ 110 := by rw [← E1.out]; have := ne_of_beq_false (show (((s[1]).toNat : Int) == 110) = false by assumption); omega
      have x116 : ch s 1 ≠ 116 := by rw [← E1.out]; have := ne_of_beq_false (show (((s[1]).toNat : Int) == 116) = false by assumption); omega
      have x114 : ch s 1 ≠ 114 := by rw [← E1.out]; have := ne_of_beq_false (show (((s[1]).toNat : Int) == 114) = false by assumption); omega
      have x120 : ch s 1 = 120 := by rw [← E1.out]; have := eq_of_beq (show (((s[1]).toNat : Int) == 120) = true by assumption); omega
      refine (hex_any s w).mono ?_
      rintro e w1 ⟨rfl, m, rfl⟩
      have HE : escV s = (if s.size < 4 then ((0, 0) : Nat × Nat) else hexV (ch s 2) (ch s 3)) := by unfold escV escC; rw [if_neg (by omega), if_neg (by omega), if_neg (by omega), if_neg (by omega), if_neg (by omega), if_neg (by omega), if_pos x120]
      rw [← HE]
      have HH := Lib.hid HE
      clear HE
      go_wp2_with fail
      go_ret2
      exact ⟨rfl, m, rfl⟩
    · have x34 : ch s 1 ≠ 34 := by rw [← E1.out]; have := ne_of_beq_false (show (((s[1]).toNat : Int) == 34) = false by assumption); omega
      have x92 : ch s 1 ≠ 92 := by rw [← E1.out]; have := ne_of_beq_false (show (((s[1]).toNat : Int) == 92) = false by assumption); omega
      have x110 : ch s 1 ≠ 110 := by rw [← E1.out]; have := ne_of_beq_false (show (((s[1]).toNat : Int) == 110) = false by assumption); omega
      have x116 : ch s 1 ≠ 116 := by rw [← E1.out]; have := ne_of_beq_false (show (((s[1]).toNat : Int) == 116) = false by assumption); omega
      have x114 : ch s 1 ≠ 114 := by rw [← E1.out]; have := ne_of_beq_false (show (((s[1]).toNat : Int) == 114) = false by assumption); omega
      have x120 : ch s 1 ≠ 120 := by rw [← E1.out]; have := ne_of_beq_false (show (((s[1]).toNat : Int) == 120) = false by assumption); omega
      go_ret2
      exact ⟨esc_eq (p := (0, 0)) (by unfold escV escC; rw [if_neg (by omega), if_neg (by omega), if_neg (by omega), if_neg (by omega), if_neg (by omega), if_neg (by omega), if_neg (by omega)]) rfl rfl, 0, rfl⟩
end Go.Proofs.YtaocgibfabofhaaDoor
