/-
  The specification's reader: an index. Condition: the reader has not failed.
-/
import Derived.Test.YtaocgibfabofhaaDoorQ3
namespace Go.Proofs.YtaocgibfabofhaaDoor
open Go.RowKit
set_option linter.unusedSimpArgs false
set_option linter.unusedVariables false
set_option maxRecDepth 100000 in
set_option maxHeartbeats 8000000 in
theorem rindex_any (g : Nat) (s : ByteArray) (a : Nat) (w : World) (h : Rq w g s a false) (ha : a ≤ s.size) (hs : s.size ≤ 65536) (R : Bool × Nat × Nat) (HR : Hid (idxF s a (s.size + 1) a 0 = R)) :
    Calls Tryd.prog 51 #[.pointer (some ⟨g, 0, none⟩)] w fun e w' => (∃ v : Int, e = .returned (.int .i64 v) ∧ (R.1 = true → v = (R.2.1 : Nat))) ∧ RqP g s R.2.2 (!R.1) w w' := by
  have P := Lib.hid (RqP.start h)
  clear h
  go_enter Tryd.func51, Tryd.ntmps51
  go_wp2_with fail
  go_loopw [3, 4, 5] (fun v3 v4 v5 wr => ∃ f k q n : Nat, v3 = .int .i64 (n : Int) ∧ v4 = .int .i64 (k : Int) ∧ Hid (q = a + k) ∧ q ≤ s.size ∧ n ≤ 1000000 ∧ s.size < q + f ∧ Hid (idxF s a f q n = R) ∧ Hid (RqP g s q false w wr)) (fun _ _ _ wr => s.size - (intOf ((wr.cell? ⟨g, 1, none⟩).getD undef)).toNat)
  case atStart => exact ⟨s.size + 1, 0, a, 0, rfl, rfl, Lib.hid rfl, by omega, by omega, by omega, HR, P⟩
  case round =>
    obtain ⟨f, k, q, n, rfl, rfl, HQ, hq2, hn, hf, HS, PR⟩ := hrel
    obtain ⟨f', rfl⟩ : ∃ f', f = f' + 1 := ⟨f - 1, by omega⟩
    obtain ⟨zr, r0, r1, r2, rf1, rf2⟩ := PR.out.2.facts
    by_cases hlt : q < s.size
    · have M := Lib.hid (more_q PR.out.2 true (by simp; omega))
      have HV0 := Lib.hid (ch_at s q hlt)
      by_cases h1 : 48 ≤ ch s q
      · by_cases h2 : ch s q ≤ 57
        · obtain ⟨d, hd⟩ : ∃ d, ch s q = 48 + d := ⟨ch s q - 48, by omega⟩
          have hd9 : d ≤ 9 := by omega
          have HB : Hid (s[q].toNat = 48 + d) := Lib.hid (by rw [HV0.out, hd])
          have q1 : decide ((48 : Int) ≤ (s[q].toNat : Int)) = true := decide_eq_true (by rw [HV0.out]; omega)
          have q2 : decide ((s[q].toNat : Int) ≤ 57) = true := decide_eq_true (by rw [HV0.out]; omega)
          have HX1 := Lib.hid (fun x => (idxF_1 (n := n) (a := a) hd hd9 x).symm.trans HS.out)
          have HX2 := Lib.hid (fun x => (idxF_2 (n := n) (a := a) hd hd9 x).symm.trans HS.out)
          have hk9 : k ≤ s.size := by have := HQ.out; omega
          clear h1 h2 hd HS HV0
          go_wp2_with fail
          go_quiet ((first | (go_at_call 69; with_reducible exact Calls.quiet_of (M.out _))))
          have P1 := Lib.hid (PR.out.below (bdrewN (Below.refl _ _) nq))
          clear PR zr r0 r2 rf1 rf2 M q1 q2
          generalize wr.drewN nq = w1 at *
          obtain ⟨z1, c0, c1, c2, f1, f2⟩ := P1.out.2.facts
          go_wp2_with fail
          go_quiet (fail)
          have HM : ((s[q].toNat : Int) - 48) % 256 = (d : Int) := by rw [HB.out]; omega
          rw [HM]
          clear HM
          have P2 := Lib.hid (P1.out.below (bdrewN (Below.refl _ _) nq))
          clear P1 z1 c0 c1 c2 f1 f2
          generalize w1.drewN nq = w2 at *
          obtain ⟨z1, c0, c1, c2, f1, f2⟩ := P2.out.2.facts
          by_cases hbig : 1000000 < n * 10 + d
          · have HV := Lib.hid (HX1.out (.inr hbig))
            have q4 : decide ((1000000 : Int) < (n : Int) * 10 + (d : Int)) = true := decide_eq_true (by omega)
            clear HX1 HX2
            have P3 := Lib.hid (P2.out.fail true)
            go_wp2_with fail
            go_ret
            exact ⟨⟨_, rfl, by rw [← HV.out]; intro h; cases h⟩, by rw [← HV.out]; exact P3.out⟩
          · have q4 : decide ((1000000 : Int) < (n : Int) * 10 + (d : Int)) = false := decide_eq_false (by omega)
            by_cases hk0 : 0 < k
            · have q5 : decide ((0 : Int) < (k : Int)) = true := decide_eq_true (by omega)
              by_cases hn0 : n = 0
              · have HV := Lib.hid (HX1.out (.inl ⟨hn0, by have := HQ.out; omega⟩))
                have q6 : ((n : Int) == 0) = true := by simp [hn0]
                clear HX1 HX2
                have P3 := Lib.hid (P2.out.fail true)
                go_wp2_with fail
                go_ret
                exact ⟨⟨_, rfl, by rw [← HV.out]; intro h; cases h⟩, by rw [← HV.out]; exact P3.out⟩
              · have HV := Lib.hid (HX2.out (fun hbad => by rcases hbad with hbad | hbad; exact hn0 hbad.1; omega))
                have q6 : ((n : Int) == 0) = false := by simp; omega
                clear HX1 HX2
                have P3 : Hid (RqP g s (q + 1) false w (w2.setCell ⟨g, 1, none⟩ (.int .i64 ((q : Int) + 1)))) := Lib.hid (P2.out.step (by omega))
                go_wp2_with fail
                go_roundw
                case rel => exact ⟨f', k + 1, q + 1, n * 10 + d, by go_num, by go_num, Lib.hid (by have := HQ.out; omega), by omega, by omega, by omega, HV, P3⟩
                case measure => have m1 := P3.out.2.facts.2.2.1; simp [intOf, r1, m1]; omega
            · have q5 : decide ((0 : Int) < (k : Int)) = false := decide_eq_false (by omega)
              have HV := Lib.hid (HX2.out (by have := HQ.out; omega))
              clear HX1 HX2
              have P3 : Hid (RqP g s (q + 1) false w (w2.setCell ⟨g, 1, none⟩ (.int .i64 ((q : Int) + 1)))) := Lib.hid (P2.out.step (by omega))
              go_wp2_with fail
              go_roundw
              case rel => exact ⟨f', k + 1, q + 1, n * 10 + d, by go_num, by go_num, Lib.hid (by have := HQ.out; omega), by omega, by omega, by omega, HV, P3⟩
              case measure => have m1 := P3.out.2.facts.2.2.1; simp [intOf, r1, m1]; omega
        · have hdg : ¬ (48 ≤ ch s q ∧ ch s q ≤ 57) := by omega
          have q1 : decide ((48 : Int) ≤ (s[q].toNat : Int)) = true := decide_eq_true (by rw [HV0.out]; omega)
          have q2 : decide ((s[q].toNat : Int) ≤ 57) = false := decide_eq_false (by rw [HV0.out]; omega)
          clear h1 h2
          by_cases hk0 : k = 0
          · subst hk0
            have HV := Lib.hid ((idxF_3 hdg (.inl (by have := HQ.out; omega))).symm.trans HS.out)
            clear HS
            go_wp2_with fail
            go_quiet ((first | (go_at_call 69; with_reducible exact Calls.quiet_of (M.out _))))
            have P1 := Lib.hid (PR.out.below (bdrewN (Below.refl _ _) nq))
            clear PR zr r0 r1 r2 rf1 rf2 M
            generalize wr.drewN nq = w1 at *
            obtain ⟨z1, c0, c1, c2, f1, f2⟩ := P1.out.2.facts
            have P2 := Lib.hid (P1.out.fail true)
            go_wp2_with fail
            go_ret
            exact ⟨⟨_, rfl, by rw [← HV.out]; first | (intro h; cases h; done) | (intro _; rfl)⟩, by rw [← HV.out]; exact P2.out⟩
          · have q9 : ((k : Int) == 0) = false := by simp; omega
            have HX := Lib.hid (fun (h93 : ch s q = 93) => (idxF_4 (n := n) (a := a) hdg (by have := HQ.out; omega)).symm.trans HS.out)
            have HY := Lib.hid (fun (h93 : ch s q ≠ 93) => (idxF_3 (n := n) (a := a) hdg (.inr h93)).symm.trans HS.out)
            clear HS
            go_wp2_with fail
            go_quiet ((first | (go_at_call 69; with_reducible exact Calls.quiet_of (M.out _))))
            have P1 := Lib.hid (PR.out.below (bdrewN (Below.refl _ _) nq))
            clear PR zr r0 r1 r2 rf1 rf2 M
            generalize wr.drewN nq = w1 at *
            obtain ⟨z1, c0, c1, c2, f1, f2⟩ := P1.out.2.facts
            go_wp2_with fail
            refine (ris_any g s q 93 w1 P1.out.2 hq2 hs (by omega)).mono ?_
            rintro e w2 ⟨rfl, hb2⟩
            by_cases h93 : ch s q = 93
            · rw [if_pos h93] at hb2
              rw [beq_iff_eq.2 h93]
              have P2 := Lib.hid (P1.out.trans hb2)
              have HV := Lib.hid (HX.out h93)
              clear h93 hb2 P1 z1 c0 c1 c2 f1 f2
              go_wp2_with fail
              go_ret
              exact ⟨⟨_, rfl, by rw [← HV.out]; first | (intro h; cases h; done) | (intro _; rfl)⟩, by rw [← HV.out]; exact P2.out⟩
            · rw [if_neg h93] at hb2
              rw [beq_eq_false_iff_ne.2 h93]
              have P2 := Lib.hid (P1.out.trans hb2)
              have P3 := Lib.hid (P2.out.fail true)
              have HV := Lib.hid (HY.out h93)
              clear h93 hb2 P1 z1 c0 c1 c2 f1 f2
              obtain ⟨z1, c0, c1, c2, f1, f2⟩ := P2.out.2.facts
              go_wp2_with fail
              go_ret
              exact ⟨⟨_, rfl, by rw [← HV.out]; intro h; cases h⟩, by rw [← HV.out]; exact P3.out⟩
      · have hdg : ¬ (48 ≤ ch s q ∧ ch s q ≤ 57) := by omega
        have q1 : decide ((48 : Int) ≤ (s[q].toNat : Int)) = false := decide_eq_false (by rw [HV0.out]; omega)
        clear h1
        by_cases hk0 : k = 0
        · subst hk0
          have HV := Lib.hid ((idxF_3 hdg (.inl (by have := HQ.out; omega))).symm.trans HS.out)
          clear HS
          go_wp2_with fail
          go_quiet ((first | (go_at_call 69; with_reducible exact Calls.quiet_of (M.out _))))
          have P1 := Lib.hid (PR.out.below (bdrewN (Below.refl _ _) nq))
          clear PR zr r0 r1 r2 rf1 rf2 M
          generalize wr.drewN nq = w1 at *
          obtain ⟨z1, c0, c1, c2, f1, f2⟩ := P1.out.2.facts
          have P2 := Lib.hid (P1.out.fail true)
          go_wp2_with fail
          go_ret
          exact ⟨⟨_, rfl, by rw [← HV.out]; first | (intro h; cases h; done) | (intro _; rfl)⟩, by rw [← HV.out]; exact P2.out⟩
        · have q9 : ((k : Int) == 0) = false := by simp; omega
          have HX := Lib.hid (fun (h93 : ch s q = 93) => (idxF_4 (n := n) (a := a) hdg (by have := HQ.out; omega)).symm.trans HS.out)
          have HY := Lib.hid (fun (h93 : ch s q ≠ 93) => (idxF_3 (n := n) (a := a) hdg (.inr h93)).symm.trans HS.out)
          clear HS
          go_wp2_with fail
          go_quiet ((first | (go_at_call 69; with_reducible exact Calls.quiet_of (M.out _))))
          have P1 := Lib.hid (PR.out.below (bdrewN (Below.refl _ _) nq))
          clear PR zr r0 r1 r2 rf1 rf2 M
          generalize wr.drewN nq = w1 at *
          obtain ⟨z1, c0, c1, c2, f1, f2⟩ := P1.out.2.facts
          go_wp2_with fail
          refine (ris_any g s q 93 w1 P1.out.2 hq2 hs (by omega)).mono ?_
          rintro e w2 ⟨rfl, hb2⟩
          by_cases h93 : ch s q = 93
          · rw [if_pos h93] at hb2
            rw [beq_iff_eq.2 h93]
            have P2 := Lib.hid (P1.out.trans hb2)
            have HV := Lib.hid (HX.out h93)
            clear h93 hb2 P1 z1 c0 c1 c2 f1 f2
            go_wp2_with fail
            go_ret
            exact ⟨⟨_, rfl, by rw [← HV.out]; first | (intro h; cases h; done) | (intro _; rfl)⟩, by rw [← HV.out]; exact P2.out⟩
          · rw [if_neg h93] at hb2
            rw [beq_eq_false_iff_ne.2 h93]
            have P2 := Lib.hid (P1.out.trans hb2)
            have P3 := Lib.hid (P2.out.fail true)
            have HV := Lib.hid (HY.out h93)
            clear h93 hb2 P1 z1 c0 c1 c2 f1 f2
            obtain ⟨z1, c0, c1, c2, f1, f2⟩ := P2.out.2.facts
            go_wp2_with fail
            go_ret
            exact ⟨⟨_, rfl, by rw [← HV.out]; intro h; cases h⟩, by rw [← HV.out]; exact P3.out⟩
    · have M := Lib.hid (more_q PR.out.2 false (by simp; omega))
      have e0 := ch_end s q (by omega)
      have hdg : ¬ (48 ≤ ch s q ∧ ch s q ≤ 57) := by omega
      clear e0
      by_cases hk0 : k = 0
      · subst hk0
        have HV := Lib.hid ((idxF_3 hdg (.inl (by have := HQ.out; omega))).symm.trans HS.out)
        clear HS
        go_wp2_with fail
        go_quiet ((first | (go_at_call 69; with_reducible exact Calls.quiet_of (M.out _))))
        have P1 := Lib.hid (PR.out.below (bdrewN (Below.refl _ _) nq))
        clear PR zr r0 r1 r2 rf1 rf2 M
        generalize wr.drewN nq = w1 at *
        obtain ⟨z1, c0, c1, c2, f1, f2⟩ := P1.out.2.facts
        have P2 := Lib.hid (P1.out.fail true)
        go_wp2_with fail
        go_ret
        exact ⟨⟨_, rfl, by rw [← HV.out]; first | (intro h; cases h; done) | (intro _; rfl)⟩, by rw [← HV.out]; exact P2.out⟩
      · have q9 : ((k : Int) == 0) = false := by simp; omega
        have HX := Lib.hid (fun (h93 : ch s q = 93) => (idxF_4 (n := n) (a := a) hdg (by have := HQ.out; omega)).symm.trans HS.out)
        have HY := Lib.hid (fun (h93 : ch s q ≠ 93) => (idxF_3 (n := n) (a := a) hdg (.inr h93)).symm.trans HS.out)
        clear HS
        go_wp2_with fail
        go_quiet ((first | (go_at_call 69; with_reducible exact Calls.quiet_of (M.out _))))
        have P1 := Lib.hid (PR.out.below (bdrewN (Below.refl _ _) nq))
        clear PR zr r0 r1 r2 rf1 rf2 M
        generalize wr.drewN nq = w1 at *
        obtain ⟨z1, c0, c1, c2, f1, f2⟩ := P1.out.2.facts
        go_wp2_with fail
        refine (ris_any g s q 93 w1 P1.out.2 hq2 hs (by omega)).mono ?_
        rintro e w2 ⟨rfl, hb2⟩
        by_cases h93 : ch s q = 93
        · rw [if_pos h93] at hb2
          rw [beq_iff_eq.2 h93]
          have P2 := Lib.hid (P1.out.trans hb2)
          have HV := Lib.hid (HX.out h93)
          clear h93 hb2 P1 z1 c0 c1 c2 f1 f2
          go_wp2_with fail
          go_ret
          exact ⟨⟨_, rfl, by rw [← HV.out]; first | (intro h; cases h; done) | (intro _; rfl)⟩, by rw [← HV.out]; exact P2.out⟩
        · rw [if_neg h93] at hb2
          rw [beq_eq_false_iff_ne.2 h93]
          have P2 := Lib.hid (P1.out.trans hb2)
          have P3 := Lib.hid (P2.out.fail true)
          have HV := Lib.hid (HY.out h93)
          clear h93 hb2 P1 z1 c0 c1 c2 f1 f2
          obtain ⟨z1, c0, c1, c2, f1, f2⟩ := P2.out.2.facts
          go_wp2_with fail
          go_ret
          exact ⟨⟨_, rfl, by rw [← HV.out]; intro h; cases h⟩, by rw [← HV.out]; exact P3.out⟩
end Go.Proofs.YtaocgibfabofhaaDoor
