/-
  The specification's reader: the test of one byte. Condition: the reader has not failed.
-/
import Derived.Test.YtaocgibfabofhaaDoorQ1
import Derived.RegionTactic
namespace Go.Proofs.YtaocgibfabofhaaDoor
open Go.RowKit
set_option linter.unusedSimpArgs false
set_option linter.unusedVariables false
set_option maxRecDepth 100000 in
set_option maxHeartbeats 2000000 in
theorem ris_any (g : Nat) (s : ByteArray) (p c : Nat) (w : World) (h : Rq w g s p false) (hp : p ≤ s.size) (hs : s.size ≤ 65536) (hc : 0 < c) :
    Calls Tryd.prog 50 #[.pointer (some ⟨g, 0, none⟩), .int .u8 (c : Int)] w fun e w' => e = .returned (.bool (ch s p == c)) ∧ RqP g s (if ch s p = c then p + 1 else p) false w w' := by
  have P := Lib.hid (RqP.start h)
  obtain ⟨z, c0, c1, c2, f1, f2⟩ := h.facts
  by_cases he : p = s.size
  · have e0 := ch_end s p (by omega)
    rw [e0, if_neg (by omega), show ((0 : Nat) == c) = false from beq_eq_false_iff_ne.2 (by omega)]
    have M := Lib.hid (more_q h false (by simp; omega))
    clear h he e0
    go_enter Tryd.func50, Tryd.ntmps50
    go_wp2_with fail
    go_quiet ((first | (go_at_call 69; with_reducible exact Calls.quiet_of (M.out _))))
    go_wp2_with fail
    go_ret
    exact ⟨rfl, P.out.below (bdrewN (Below.refl _ _) _)⟩
  · have hlt : p < s.size := by omega
    have M := Lib.hid (more_q h true (by simp; omega))
    have HV := Lib.hid (ch_at s p hlt)
    by_cases hq : ch s p = c
    · rw [if_pos hq, beq_iff_eq.2 hq]
      have q : ((s[p].toNat : Int) != (c : Int)) = false := by rw [HV.out]; simp; omega
      clear h he
      go_enter Tryd.func50, Tryd.ntmps50
      go_wp2_with fail
      go_quiet ((first | (go_at_call 69; with_reducible exact Calls.quiet_of (M.out _))))
      have P1 := Lib.hid (P.out.below (bdrewN (Below.refl _ _) nq))
      have P2 : Hid (RqP g s (p + 1) false w ((w.drewN nq).setCell ⟨g, 1, none⟩ (.int .i64 ((p : Int) + 1)))) := Lib.hid (P1.out.step (by omega))
      go_wp2_with fail
      go_ret
      exact ⟨rfl, P2.out⟩
    · rw [if_neg hq, beq_eq_false_iff_ne.2 hq]
      have q : ((s[p].toNat : Int) != (c : Int)) = true := by rw [HV.out]; simp; omega
      clear h he
      go_enter Tryd.func50, Tryd.ntmps50
      go_wp2_with fail
      go_quiet ((first | (go_at_call 69; with_reducible exact Calls.quiet_of (M.out _))))
      go_wp2_with fail
      go_ret
      exact ⟨rfl, P.out.below (bdrewN (Below.refl _ _) _)⟩
end Go.Proofs.YtaocgibfabofhaaDoor
