/-
  The escapes of a literal, as the statements read them. No condition.
-/
import Derived.Test.YtadeejoekeaeeaaRB
namespace Go.Proofs.Ytadeejoekeaeeaa
open Go.RowKit
set_option linter.unusedSimpArgs false
set_option linter.unusedVariables false
set_option maxRecDepth 100000 in
set_option maxHeartbeats 4000000 in
theorem resc_any (s : ByteArray) (i : Nat) (hi : i < s.size) (hsz : s.size ≤ 65536) (h92 : (s[i]).toNat = 92) (w : World) :
    Calls Try.prog 34 #[.string s, .int .i64 (i : Int)] w fun e w' => e = .returned (.tuple #[.int .u8 (escL (s.data.toList.drop i)).1, .int .i64 (escL (s.data.toList.drop i)).2]) ∧ ∃ n, w' = w.drewN n := by
  rw [escL_drop]
  have X92 : (((s[i]).toNat : Int) != 92) = false := by rw [h92]; rfl
  obtain ⟨j1, g1⟩ : ∃ j, j = i + 1 := ⟨_, rfl⟩
  obtain ⟨j2, g2⟩ : ∃ j, j = i + 2 := ⟨_, rfl⟩
  obtain ⟨j3, g3⟩ : ∃ j, j = i + 3 := ⟨_, rfl⟩
  have ws : ∀ x : Int, 0 ≤ x → x ≤ 70000 → IntKind.i64.wrap x = x := fun x a b => by simp [IntKind.wrap, IntKind.bits, IntKind.signed]; omega
  have f1 : (i : Int) + 1 = (j1 : Int) := by omega
  have f2 : (i : Int) + 2 = (j2 : Int) := by omega
  have f3 : (i : Int) + 3 = (j3 : Int) := by omega
  have v1 := ws (j1 : Int) (by omega) (by omega)
  have v2 := ws (j2 : Int) (by omega) (by omega)
  have v3 := ws (j3 : Int) (by omega) (by omega)
  rw [← g1, ← g2, ← g3]
  clear ws h92
  by_cases hA : s.size ≤ j1
  · have HE := Lib.hid (escC_small (c := ch s j1) (h := ch s j2) (l := ch s j3) (n := s.size - i) (by omega))
    rw [HE.out]
    clear HE g1 g2 g3
    go_enter Try.func34, Try.ntmps34
    go_wp2_with fail
    go_ret2
    exact ⟨rfl, 0, rfl⟩
  · have k1 : j1 < s.size := by omega
    have hn2 : ¬ s.size - i < 2 := by omega
    have cv := ch_at s j1 k1
    have G2 := Lib.hid g2; have G3 := Lib.hid g3; have G1 := Lib.hid g1
    clear g1 g2 g3 hA
    by_cases x34 : ch s j1 = 34
    · have HE : Hid (escC (ch s j1) (ch s j2) (ch s j3) (s.size - i) = (34, 2)) := by
        show escC (ch s j1) (ch s j2) (ch s j3) (s.size - i) = (34, 2)
        unfold escC; rw [if_neg hn2, if_pos x34]
      rw [HE.out]
      rw [x34] at cv
      have cvi : ((s[j1]).toNat : Int) = 34 := by omega
      clear HE x34 cv hn2
      go_enter Try.func34, Try.ntmps34
      go_wp2_with fail
      go_ret2
      exact ⟨pair2 (by first | rfl | omega) rfl, 0, rfl⟩
    · have n34 : (((s[j1]).toNat : Int) == 34) = false := beq_eq_false_iff_ne.2 (by omega)
      by_cases x92 : ch s j1 = 92
      · have HE : Hid (escC (ch s j1) (ch s j2) (ch s j3) (s.size - i) = (92, 2)) := by
          show escC (ch s j1) (ch s j2) (ch s j3) (s.size - i) = (92, 2)
          unfold escC; rw [if_neg hn2, if_neg (by omega), if_pos x92]
        rw [HE.out]
        rw [x92] at cv
        have cvi : ((s[j1]).toNat : Int) = 92 := by omega
        clear HE x34 x92 cv hn2
        go_enter Try.func34, Try.ntmps34
        go_wp2_with fail
        go_ret2
        exact ⟨pair2 (by first | rfl | omega) rfl, 0, rfl⟩
      · have n92 : (((s[j1]).toNat : Int) == 92) = false := beq_eq_false_iff_ne.2 (by omega)
        by_cases x110 : ch s j1 = 110
        · have HE : Hid (escC (ch s j1) (ch s j2) (ch s j3) (s.size - i) = (10, 2)) := by
            show escC (ch s j1) (ch s j2) (ch s j3) (s.size - i) = (10, 2)
            unfold escC; rw [if_neg hn2, if_neg (by omega), if_neg (by omega), if_pos x110]
          rw [HE.out]
          rw [x110] at cv
          have cvi : ((s[j1]).toNat : Int) = 110 := by omega
          clear HE x34 x92 x110 cv hn2
          go_enter Try.func34, Try.ntmps34
          go_wp2_with fail
          go_ret2
          exact ⟨pair2 (by first | rfl | omega) rfl, 0, rfl⟩
        · have n110 : (((s[j1]).toNat : Int) == 110) = false := beq_eq_false_iff_ne.2 (by omega)
          by_cases x116 : ch s j1 = 116
          · have HE : Hid (escC (ch s j1) (ch s j2) (ch s j3) (s.size - i) = (9, 2)) := by
              show escC (ch s j1) (ch s j2) (ch s j3) (s.size - i) = (9, 2)
              unfold escC; rw [if_neg hn2, if_neg (by omega), if_neg (by omega), if_neg (by omega), if_pos x116]
            rw [HE.out]
            rw [x116] at cv
            have cvi : ((s[j1]).toNat : Int) = 116 := by omega
            clear HE x34 x92 x110 x116 cv hn2
            go_enter Try.func34, Try.ntmps34
            go_wp2_with fail
            go_ret2
            exact ⟨pair2 (by first | rfl | omega) rfl, 0, rfl⟩
          · have n116 : (((s[j1]).toNat : Int) == 116) = false := beq_eq_false_iff_ne.2 (by omega)
            by_cases x114 : ch s j1 = 114
            · have HE : Hid (escC (ch s j1) (ch s j2) (ch s j3) (s.size - i) = (13, 2)) := by
                show escC (ch s j1) (ch s j2) (ch s j3) (s.size - i) = (13, 2)
                unfold escC; rw [if_neg hn2, if_neg (by omega), if_neg (by omega), if_neg (by omega), if_neg (by omega), if_pos x114]
              rw [HE.out]
              rw [x114] at cv
              have cvi : ((s[j1]).toNat : Int) = 114 := by omega
              clear HE x34 x92 x110 x116 x114 cv hn2
              go_enter Try.func34, Try.ntmps34
              go_wp2_with fail
              go_ret2
              exact ⟨pair2 (by first | rfl | omega) rfl, 0, rfl⟩
            · have n114 : (((s[j1]).toNat : Int) == 114) = false := beq_eq_false_iff_ne.2 (by omega)
              by_cases x120 : ch s j1 = 120
              · have cvi : (((s[j1]).toNat : Int) == 120) = true := by rw [cv, x120]; rfl
                by_cases k3 : s.size ≤ j3
                · have HE : Hid (escC (ch s j1) (ch s j2) (ch s j3) (s.size - i) = (0, 0)) := by
                    show escC (ch s j1) (ch s j2) (ch s j3) (s.size - i) = (0, 0)
                    unfold escC; rw [if_neg hn2, if_neg (by omega), if_neg (by omega), if_neg (by omega), if_neg (by omega), if_neg (by omega), if_pos x120, if_pos (by have := G3.out; omega)]
                  rw [HE.out]
                  clear HE x34 x92 x110 x116 x114 cv hn2 x120
                  go_enter Try.func34, Try.ntmps34
                  go_wp2_with fail
                  go_ret2
                  exact ⟨rfl, 0, rfl⟩
                · have k3' : j3 < s.size := by omega
                  have k2 : j2 < s.size := by have := G2.out; have := G3.out; omega
                  have hE : escC (ch s j1) (ch s j2) (ch s j3) (s.size - i) = hexV (ch s j2) (ch s j3) := by
                    unfold escC; rw [if_neg hn2, if_neg (by omega), if_neg (by omega), if_neg (by omega), if_neg (by omega), if_neg (by omega), if_pos x120, if_neg (by have := G3.out; omega)]
                  rw [hE, ← ch_at s j2 k2, ← ch_at s j3 k3']
                  have dx0 := digI_lo (s[j2]).toNat
                  have dx1 := digI_hi (s[j2]).toNat
                  have dy0 := digI_lo (s[j3]).toNat
                  have dy1 := digI_hi (s[j3]).toNat
                  have CX := Lib.hid (fun w : World => rhex_any (s[j2]).toNat (s[j2]).toNat_lt w)
                  have CY := Lib.hid (fun w : World => rhex_any (s[j3]).toNat (s[j3]).toNat_lt w)
                  have KX : Hid (∀ w : World, Calls Try.prog 45 #[.int .u8 ((s[j2]).toNat : Int)] w fun e w' => e = .returned (.int .i64 (digI (s[j2]).toNat)) ∧ w' = w) := Lib.hid (fun w => (CX.out w).mono fun _ _ h => ⟨h.1, h.2.symm⟩)
                  have KY : Hid (∀ w : World, Calls Try.prog 45 #[.int .u8 ((s[j3]).toNat : Int)] w fun e w' => e = .returned (.int .i64 (digI (s[j3]).toNat)) ∧ w' = w) := Lib.hid (fun w => (CY.out w).mono fun _ _ h => ⟨h.1, h.2.symm⟩)
                  unfold hexV
                  clear hE k3 x34 x92 x110 x116 x114 x120 cv hn2 G1 G2 G3
                  generalize digI (s[j2]).toNat = a at *
                  generalize digI (s[j3]).toNat = b at *
                  by_cases ha : a < 0
                  · obtain rfl : a = -1 := by omega
                    have H : Hid ((if (-1 : Int) < 0 ∨ b < 0 then ((0, 0) : Nat × Nat) else ((16 * (-1) + b).toNat, 4)) = (0, 0)) := if_pos (.inl ha)
                    rw [H.out]
                    clear ha dx0 dx1 H KX KY
                    go_enter Try.func34, Try.ntmps34
                    go_wp2_with fail
                    refine (CX.out _).mono ?_
                    rintro e w1 ⟨rfl, rfl⟩
                    go_wp2_with fail
                    go_ret2
                    exact ⟨rfl, 0, rfl⟩
                  · obtain ⟨A, rfl⟩ := Int.eq_ofNat_of_zero_le (show 0 ≤ a by omega)
                    by_cases hb : b < 0
                    · obtain rfl : b = -1 := by omega
                      have H : Hid ((if (A : Int) < 0 ∨ (-1 : Int) < 0 then ((0, 0) : Nat × Nat) else ((16 * (A : Int) + (-1)).toNat, 4)) = (0, 0)) := if_pos (.inr hb)
                      rw [H.out]
                      clear hb dy0 dy1 H KX KY
                      go_enter Try.func34, Try.ntmps34
                      go_wp2_with fail
                      refine (CX.out _).mono ?_
                      rintro e w1 ⟨rfl, rfl⟩
                      go_wp2_with fail
                      refine (CY.out _).mono ?_
                      rintro e w1 ⟨rfl, rfl⟩
                      go_wp2_with fail
                      go_ret2
                      exact ⟨rfl, 0, rfl⟩
                    · obtain ⟨B, rfl⟩ := Int.eq_ofNat_of_zero_le (show 0 ≤ b by omega)
                      have H : Hid ((if (A : Int) < 0 ∨ (B : Int) < 0 then ((0, 0) : Nat × Nat) else ((16 * (A : Int) + (B : Int)).toNat, 4)) = (16 * A + B, 4)) := by
                        show (if (A : Int) < 0 ∨ (B : Int) < 0 then ((0, 0) : Nat × Nat) else ((16 * (A : Int) + (B : Int)).toNat, 4)) = (16 * A + B, 4)
                        rw [if_neg (by omega)]; congr 1
                      rw [H.out]
                      have HO := Lib.hid (mul_add_u8 A B (by omega) (by omega))
                      clear H
                      go_enter Try.func34, Try.ntmps34
                      go_wp2_with fail
                      refine (CX.out _).mono ?_
                      rintro e w1 ⟨rfl, rfl⟩
                      go_wp2_with fail
                      refine (CY.out _).mono ?_
                      rintro e w1 ⟨rfl, rfl⟩
                      go_wp2_with fail
                      go_quiet ((first | (go_at_call 45; with_reducible exact Calls.quiet_of_same (KX.out _)) | (go_at_call 45; with_reducible exact Calls.quiet_of_same (KY.out _))))
                      go_wp2_with fail
                      go_ret2
                      exact ⟨pair2 (by first | exact HO.out | omega | (simp [IntKind.wrap, IntKind.bits, IntKind.signed]; omega)) rfl, _, rfl⟩
              · have n120 : (((s[j1]).toNat : Int) == 120) = false := beq_eq_false_iff_ne.2 (by omega)
                have HE : Hid (escC (ch s j1) (ch s j2) (ch s j3) (s.size - i) = (0, 0)) := by
                  show escC (ch s j1) (ch s j2) (ch s j3) (s.size - i) = (0, 0)
                  unfold escC; rw [if_neg hn2, if_neg (by omega), if_neg (by omega), if_neg (by omega), if_neg (by omega), if_neg (by omega), if_neg x120]
                rw [HE.out]
                clear HE x34 x92 x110 x116 x114 cv hn2 x120
                go_enter Try.func34, Try.ntmps34
                go_wp2_with fail
                go_ret2
                exact ⟨rfl, 0, rfl⟩
end Go.Proofs.Ytadeejoekeaeeaa
