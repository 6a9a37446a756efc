/-
  Next is greater than its version, compatible exactly unless the change is major, and not smaller after a greater change: the law SemverNexts. Condition: internal/bytealg.MaxLen holds some number.
-/
import Derived.Test.YteeagengliaakaaDoorNx
namespace Go.Proofs.YteeagengliaakaaDoor
open Go.RowKit
set_option linter.unusedSimpArgs false
set_option linter.unusedVariables false
set_option maxRecDepth 100000 in
set_option maxHeartbeats 4000000 in
theorem nexts_bad (a b c : Int) (w : World) (hM : Mx w) (ho : okV a b c = false) :
    Calls Tryd.prog 9 #[vv a b c] w fun e w' => e = .returned (.bool true) ∧ Below w.heap.size w w' := by
  have q0 : ∀ w, (Op.equalIn 10000 23 (.agg #[.int .i64 0, .int .i64 0, .int .i64 0]) (.agg #[.int .i64 0, .int .i64 0, .int .i64 0])).run Tryd.prog w = .ok true w := fun w => by have := eqV 0 0 0 0 0 0 w; unfold vv at this; rw [this]; simp
  have HM := Lib.hid hM
  have h3 := hM.1
  have HO := Lib.hid ho
  clear hM ho
  unfold vv
  go_enter Tryd.func9, Tryd.ntmps9
  go_wp2_with fail
  go_loopw [4] (fun i wr => ∃ n : Nat, i = .int .i64 (n : Int) ∧ n ≤ 3 ∧ Below w.heap.size w wr ∧ Row3 wr w.heap.size a b c ∧ ∃ l0 l1 l2, Row3 wr (w.heap.size + 1) l0 l1 l2) (fun i _ => (3 - intOf i).toNat)
  case atStart =>
    refine ⟨0, rfl, by omega, ?_, ?_, a, b, c, ?_⟩
    · exact ((Below.refl w.heap.size w).alloc (Nat.le_refl _) (vblk a b c)).alloc (by simp) (vblk a b c)
    · exact (Row3.new w a b c 23 _ rfl).alloc (vblk a b c)
    · exact Row3.new (w.alloc (vblk a b c)) a b c 23 _ (by simp)
  case round =>
    obtain ⟨n, rfl, hn3, hb, ra, l0, l1, l2, rl⟩ := hrel
    by_cases hlt : n ≤ 2
    · obtain ⟨za, a0, a1, a2, fa0, fa1, fa2⟩ := id ra
      go_wp2_with fail
      refine (next_bad a b c n _ HO.out).mono ?_
      rintro e w1 ⟨rfl, hb1⟩
      replace ra := ra.keep hb1
      replace rl := rl.keep hb1
      replace hb := hb.trans (hb1.mono hb.size)
      clear hb1
      clear za a0 a1 a2 fa0 fa1 fa2
      obtain ⟨za, a0, a1, a2, fa0, fa1, fa2⟩ := id ra
      go_wp2_with fail
      refine (valid_at _ _ _ false HO.out _).mono ?_
      rintro e w2 ⟨rfl, hb2⟩
      have rw' := Row3.new _ 0 0 0 23 _ (rfl : w1.heap.size = w1.heap.size)
      replace ra := ra.alloc (vblk 0 0 0)
      replace rl := rl.alloc (vblk 0 0 0)
      replace hb := hb.alloc hb.size (vblk 0 0 0)
      replace ra := ra.keep hb2
      replace rl := rl.keep hb2
      replace rw' := rw'.keep hb2
      replace hb := hb.trans (hb2.mono hb.size)
      clear hb2
      clear za a0 a1 a2 fa0 fa1 fa2
      obtain ⟨zb, b0, b1, b2, fb0, fb1, fb2⟩ := id rw'
      go_wp2_with fail
      go_roundw
      case rel => exact ⟨n + 1, by go_num, by omega, hb, ra, l0, l1, l2, rl⟩
      case measure => simp [intOf]; omega
    · clear q0
      go_wp2_with fail
      refine (example_any _ (HM.out.keep hb h3)).mono ?_
      rintro e w9 ⟨rfl, hb9⟩
      have HB := Lib.hid (hb.trans (hb9.mono hb.size))
      clear hb9
      go_wp2_with fail
      go_ret
      exact ⟨rfl, HB.out⟩
set_option maxRecDepth 100000 in
set_option maxHeartbeats 4000000 in
theorem nexts_ok (a b c : Int) (w : World) (hM : Mx w) (ho : okV a b c = true) :
    Calls Tryd.prog 9 #[vv a b c] w fun e w' => e = .returned (.bool true) ∧ Below w.heap.size w w' := by
  have q0 : ∀ w, (Op.equalIn 10000 23 (.agg #[.int .i64 0, .int .i64 0, .int .i64 0]) (.agg #[.int .i64 0, .int .i64 0, .int .i64 0])).run Tryd.prog w = .ok true w := fun w => by have := eqV 0 0 0 0 0 0 w; unfold vv at this; rw [this]; simp
  have HM := Lib.hid hM
  have h3 := hM.1
  have HO := Lib.hid ho
  clear hM ho
  unfold vv
  go_enter Tryd.func9, Tryd.ntmps9
  go_wp2_with fail
  go_loopw [4] (fun i wr => ∃ n : Nat, i = .int .i64 (n : Int) ∧ n ≤ 3 ∧ Below w.heap.size w wr ∧ Row3 wr w.heap.size a b c ∧ ∃ l0 l1 l2, Row3 wr (w.heap.size + 1) l0 l1 l2 ∧ Good a b c n l0 l1 l2) (fun i _ => (3 - intOf i).toNat)
  case atStart =>
    refine ⟨0, rfl, by omega, ?_, ?_, a, b, c, ?_, good_start a b c⟩
    · exact ((Below.refl w.heap.size w).alloc (Nat.le_refl _) (vblk a b c)).alloc (by simp) (vblk a b c)
    · exact (Row3.new w a b c 23 _ rfl).alloc (vblk a b c)
    · exact Row3.new (w.alloc (vblk a b c)) a b c 23 _ (by simp)
  case round =>
    obtain ⟨n, rfl, hn3, hb, ra, l0, l1, l2, rl, hg⟩ := hrel
    by_cases hlt : n ≤ 2
    · cases hv : okV (nt0 a n) (nt1 a b n) (nt2 a c n)
      · have HV := Lib.hid hv
        clear hv
        obtain ⟨za, a0, a1, a2, fa0, fa1, fa2⟩ := id ra
        go_wp2_with fail
        refine (next_o a b c n _ HO.out (by omega) (by omega) HV.out).mono ?_
        rintro e w1 ⟨rfl, hb1⟩
        replace ra := ra.keep hb1
        replace rl := rl.keep hb1
        replace hb := hb.trans (hb1.mono hb.size)
        clear hb1
        clear za a0 a1 a2 fa0 fa1 fa2
        obtain ⟨za, a0, a1, a2, fa0, fa1, fa2⟩ := id ra
        go_wp2_with fail
        refine (valid_at _ _ _ true HO.out _).mono ?_
        rintro e w2 ⟨rfl, hb2⟩
        have rw' := Row3.new _ 0 0 0 23 _ (rfl : w1.heap.size = w1.heap.size)
        replace ra := ra.alloc (vblk 0 0 0)
        replace rl := rl.alloc (vblk 0 0 0)
        replace hb := hb.alloc hb.size (vblk 0 0 0)
        replace ra := ra.keep hb2
        replace rl := rl.keep hb2
        replace rw' := rw'.keep hb2
        replace hb := hb.trans (hb2.mono hb.size)
        clear hb2
        clear za a0 a1 a2 fa0 fa1 fa2
        obtain ⟨zb, b0, b1, b2, fb0, fb1, fb2⟩ := id rw'
        go_wp2_with fail
        go_roundw
        case rel => exact ⟨n + 1, by go_num, by omega, hb, ra, l0, l1, l2, rl, good_keep hg⟩
        case measure => simp [intOf]; omega
      · have hgt := nt_gt a b c n (by omega) (by omega)
        have hle := hg n (by omega) (by omega)
        have hcm := nt_comp a b c n HO.out (by omega) (by omega) hv
        have hgn := good_next n HO.out (a := a) (b := b) (c := c)
        obtain ⟨p, hp⟩ : ∃ p, p = nt0 a n := ⟨_, rfl⟩
        obtain ⟨q, hq⟩ : ∃ q, q = nt1 a b n := ⟨_, rfl⟩
        obtain ⟨r, hr⟩ : ∃ r, r = nt2 a c n := ⟨_, rfl⟩
        rw [← hp, ← hq, ← hr] at hgt hle hcm hgn hv
        obtain ⟨m, hm⟩ : ∃ m, m = cmp3 l0 l1 l2 p q r := ⟨_, rfl⟩
        rw [← hm] at hle
        have dm : decide (0 < m) = false := by simp; omega
        obtain ⟨t, ht⟩ : ∃ t : Bool, t = ((n : Int) == 2) := ⟨_, rfl⟩
        rw [← ht] at hcm
        have HV := Lib.hid hv
        have HGT := Lib.hid hgt
        have HCM := Lib.hid hcm
        have HGN := Lib.hid hgn
        have HP := Lib.hid hp
        have HQ := Lib.hid hq
        have HR := Lib.hid hr
        have HMM := Lib.hid hm.symm
        have HT := Lib.hid ht
        have HG := Lib.hid hg
        clear hv hgt hcm hgn hp hq hr hm hle ht hg
        obtain ⟨za, a0, a1, a2, fa0, fa1, fa2⟩ := id ra
        go_wp2_with fail
        refine (next_t a b c n _ HO.out (by omega) (by omega) p q r HP.out HQ.out HR.out HV.out).mono ?_
        rintro e w1 ⟨rfl, hb1⟩
        replace ra := ra.keep hb1
        replace rl := rl.keep hb1
        replace hb := hb.trans (hb1.mono hb.size)
        clear hb1
        clear za a0 a1 a2 fa0 fa1 fa2
        obtain ⟨za, a0, a1, a2, fa0, fa1, fa2⟩ := id ra
        go_wp2_with fail
        refine (valid_at _ _ _ true HO.out _).mono ?_
        rintro e w2 ⟨rfl, hb2⟩
        have rw' := Row3.new _ p q r 23 _ (rfl : w1.heap.size = w1.heap.size)
        replace ra := ra.alloc (vblk p q r)
        replace rl := rl.alloc (vblk p q r)
        replace hb := hb.alloc hb.size (vblk p q r)
        replace ra := ra.keep hb2
        replace rl := rl.keep hb2
        replace rw' := rw'.keep hb2
        replace hb := hb.trans (hb2.mono hb.size)
        clear hb2
        clear za a0 a1 a2 fa0 fa1 fa2
        obtain ⟨zb, b0, b1, b2, fb0, fb1, fb2⟩ := id rw'
        go_wp2_with fail
        refine (valid_at _ _ _ true HV.out _).mono ?_
        rintro e w3 ⟨rfl, hb3⟩
        replace ra := ra.keep hb3
        replace rl := rl.keep hb3
        replace rw' := rw'.keep hb3
        replace hb := hb.trans (hb3.mono hb.size)
        clear hb3
        clear zb b0 b1 b2 fb0 fb1 fb2
        obtain ⟨za, a0, a1, a2, fa0, fa1, fa2⟩ := id ra
        obtain ⟨zb, b0, b1, b2, fb0, fb1, fb2⟩ := id rw'
        obtain ⟨zc, c0, c1, c2, fc0, fc1, fc2⟩ := id rl
        go_wp2_with fail
        refine (compare_at _ HGT.out _).mono ?_
        rintro e w4 ⟨rfl, hb4⟩
        replace ra := ra.keep hb4
        replace rl := rl.keep hb4
        replace rw' := rw'.keep hb4
        replace hb := hb.trans (hb4.mono hb.size)
        clear hb4
        clear za a0 a1 a2 fa0 fa1 fa2 zb b0 b1 b2 fb0 fb1 fb2 zc c0 c1 c2 fc0 fc1 fc2
        obtain ⟨za, a0, a1, a2, fa0, fa1, fa2⟩ := id ra
        obtain ⟨zb, b0, b1, b2, fb0, fb1, fb2⟩ := id rw'
        obtain ⟨zc, c0, c1, c2, fc0, fc1, fc2⟩ := id rl
        go_wp2_with fail
        refine (compare_at _ HMM.out _).mono ?_
        rintro e w5 ⟨rfl, hb5⟩
        replace ra := ra.keep hb5
        replace rl := rl.keep hb5
        replace rw' := rw'.keep hb5
        replace hb := hb.trans (hb5.mono hb.size)
        clear hb5
        clear za a0 a1 a2 fa0 fa1 fa2 zb b0 b1 b2 fb0 fb1 fb2 zc c0 c1 c2 fc0 fc1 fc2
        obtain ⟨za, a0, a1, a2, fa0, fa1, fa2⟩ := id ra
        obtain ⟨zb, b0, b1, b2, fb0, fb1, fb2⟩ := id rw'
        obtain ⟨zc, c0, c1, c2, fc0, fc1, fc2⟩ := id rl
        go_wp2_with fail
        refine (compat_at _ HCM.out _).mono ?_
        rintro e w6 ⟨rfl, hb6⟩
        replace ra := ra.keep hb6
        replace rl := rl.keep hb6
        replace rw' := rw'.keep hb6
        replace hb := hb.trans (hb6.mono hb.size)
        clear hb6
        clear za a0 a1 a2 fa0 fa1 fa2 zb b0 b1 b2 fb0 fb1 fb2 zc c0 c1 c2 fc0 fc1 fc2
        obtain ⟨za, a0, a1, a2, fa0, fa1, fa2⟩ := id ra
        obtain ⟨zb, b0, b1, b2, fb0, fb1, fb2⟩ := id rw'
        obtain ⟨zc, c0, c1, c2, fc0, fc1, fc2⟩ := id rl
        have dt : ((n : Int) != 2) = !t := by rw [HT.out]; rfl
        cases t <;> (simp only [Bool.not_true, Bool.not_false] at dt; go_wp2_with fail; go_roundw)
        all_goals first | exact ⟨n + 1, by go_num, by omega, ((hb.setCell (by simp) _).setCell (by simp) _).setCell (by simp) _, ((ra.set_other _ (by omega)).set_other _ (by omega)).set_other _ (by omega), p, q, r, ((rl.set0 p).set1 q).set2 r, HGN.out⟩ | (simp [intOf]; omega)
    · clear q0
      go_wp2_with fail
      refine (example_any _ (HM.out.keep hb h3)).mono ?_
      rintro e w9 ⟨rfl, hb9⟩
      have HB := Lib.hid (hb.trans (hb9.mono hb.size))
      clear hb9
      go_wp2_with fail
      go_ret
      exact ⟨rfl, HB.out⟩
theorem law_nexts (a b c : Int) (w : World) (hM : Mx w) :
    Calls Tryd.prog 9 #[vv a b c] w fun e w' => e = .returned (.bool true) ∧ Below w.heap.size w w' := by
  cases ho : okV a b c
  · exact nexts_bad a b c w hM ho
  · exact nexts_ok a b c w hM ho
end Go.Proofs.YteeagengliaakaaDoor
