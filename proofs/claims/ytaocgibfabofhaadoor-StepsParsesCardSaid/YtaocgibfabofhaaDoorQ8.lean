/-
  The specification's reader: a label. Condition: the text has at most 400 bytes.
-/
import Derived.Test.YtaocgibfabofhaaDoorQ7
import Derived.StillTailTactics
namespace Go.Proofs.YtaocgibfabofhaaDoor
open Go.RowKit
set_option linter.unusedSimpArgs false
set_option linter.unusedVariables false
theorem ch_ext (s : ByteArray) (p e j : Nat) (h : p + j < e) (he : e ≤ s.size) : ch (s.extract p e) j = ch s (p + j) := by
  have hz : (s.extract p e).size = e - p := by rw [ByteArray.size_extract]; omega
  rw [← ch_at (s.extract p e) j (by omega), ← ch_at s (p + j) (by omega), ByteArray.getElem_extract]
/-- where the first letter may stand -/
def Sgn (s : ByteArray) (p q : Nat) : Prop := q = p ∧ ¬ (ch s p = 35 ∨ ch s p = 95) ∨ q = p + 1 ∧ (ch s p = 35 ∨ ch s p = 95)
theorem id_run (s : ByteArray) (p q e : Nat) (hq : Sgn s p q) (h32 : e ≤ p + 32) (he : e ≤ s.size) (hqe : q < e) (hl : letB (ch s q) = true)
    (hin : ∀ j, q ≤ j → j < e → insB (ch s j) = true) : identB (s.extract p e) = !resB (s.extract p e) := by
  have hz : (s.extract p e).size = e - p := by rw [ByteArray.size_extract]; omega
  have hc := fun j h => ch_ext s p e j h he
  cases hr : resB (s.extract p e) with
  | true => exact id_res hr
  | false =>
    generalize s.extract p e = t at *
    rcases hq with ⟨rfl, hs⟩ | ⟨rfl, hs⟩
    · rw [id_plain (by omega) (by rw [hc 0 (by omega)]; exact hs) hr]
      refine tl_good (by omega) (by rw [ch_at, hc 0 (by omega)]; exact hl) ?_
      intro j h1 h2
      rw [hc j (by omega)]; exact hin _ (by omega) (by omega)
    · rw [id_sign (by omega) (by omega) (by rw [hc 0 (by omega)]; exact hs) hr]
      refine tl_good (by omega) (by rw [ch_at, hc 1 (by omega)]; exact hl) ?_
      intro j h1 h2
      rw [hc j (by omega)]; exact hin _ (by omega) (by omega)
/-- a label at p as the specification reads it: it fails where an identifier grows too long -/
def labX (s : ByteArray) (p : Nat) : Bool × ByteArray × Nat :=
  if (labS s p).1 = true ∧ ch s p ≠ 34 ∧ insB (ch s (labS s p).2.2) = true then (false, ⟨#[]⟩, (labS s p).2.2) else labS s p
theorem labX_1 {s : ByteArray} {p : Nat} (h : ch s p = 34) : labX s p = quoS s p := by unfold labX; rw [if_neg (fun h' => h'.2.1 h), labS_1 h]
theorem labX_2 {s : ByteArray} {p q : Nat} (h : labS s p = labT s p q) (hl : letB (ch s q) = false) : labX s p = (false, ⟨#[]⟩, q) := by
  unfold labX; rw [h, labT_2 hl, if_neg (by simp)]
theorem labX_3 {s : ByteArray} {p q F : Nat} (h34 : ch s p ≠ 34) (h : labS s p = labT s p q) (hl : letB (ch s q) = true) (hF : labF s p (s.size + 1) q = F) (hi : insB (ch s F) = true) : (labX s p).1 = false ∧ (labX s p).2.2 = F := by
  unfold labX; rw [h, labT_1 hl, hF]
  cases hI : identB (s.extract p F) with
  | true => rw [if_pos ⟨rfl, h34, hi⟩]; exact ⟨rfl, rfl⟩
  | false => rw [if_neg (fun h => by cases h.1)]; exact ⟨rfl, rfl⟩
theorem labX_4 {s : ByteArray} {p q F : Nat} (h : labS s p = labT s p q) (hl : letB (ch s q) = true) (hF : labF s p (s.size + 1) q = F) (hi : insB (ch s F) = false) : labX s p = (identB (s.extract p F), s.extract p F, F) := by
  unfold labX; rw [h, labT_1 hl, hF, if_neg (fun h => by rw [hi] at h; cases h.2.2)]
theorem letter_q (n : Nat) (v : Bool) (h : letB n = v) (W : World) : Calls Tryd.prog 64 #[.int .u8 (n : Int)] W fun e w' => e = .returned (.bool v) ∧ ∃ m, w' = W.drewN m := by
  refine (rletter_at n v h W).mono ?_
  rintro e w' ⟨rfl, rfl⟩; exact ⟨rfl, 0, rfl⟩
theorem digit_q (n : Nat) (v : Bool) (h : digB n = v) (W : World) : Calls Tryd.prog 65 #[.int .u8 (n : Int)] W fun e w' => e = .returned (.bool v) ∧ ∃ m, w' = W.drewN m := by
  refine (rdigit_at n v h W).mono ?_
  rintro e w' ⟨rfl, rfl⟩; exact ⟨rfl, 0, rfl⟩
set_option maxRecDepth 100000 in
set_option maxHeartbeats 8000000 in
theorem rlab_any (g : Nat) (s : ByteArray) (p : Nat) (w : World) (h : Rq w g s p false) (hp : p ≤ s.size) (hs : s.size ≤ 400) (R : Bool × ByteArray × Nat) (HR : Hid (labX s p = R)) :
    Calls Tryd.prog 52 #[.pointer (some ⟨g, 0, none⟩)] w fun e w' => (∃ v, e = .returned (.string v) ∧ (R.1 = true → v = R.2.1)) ∧ RqP g s R.2.2 (!R.1) w w' := by
  have P := Lib.hid (RqP.start h)
  have Y := Lib.hid (fun c w h hc he => is_yes g s p c w h hp (by omega) hc he)
  have NO := Lib.hid (fun c w h hc he => is_no g s p c w h hp (by omega) hc he)
  clear h
  by_cases c34 : ch s p = 34
  · have HR2 := Lib.hid ((labX_1 c34).symm.trans HR.out)
    have HN := Lib.hid c34
    clear c34 HR
    go_enter Tryd.func52, Tryd.ntmps52
    go_wp2_with fail
    refine (Y.out 34 _ P.out.2 (by omega) HN.out).mono ?_
    rintro e w1 ⟨rfl, hb1⟩
    have P1 := Lib.hid (P.out.trans hb1)
    clear hb1
    go_wp2_with fail
    refine (rquo_any g s p _ P1.out.2 HN.out hs R HR2).mono ?_
    rintro e w2 ⟨⟨v, rfl, hv⟩, hb2⟩
    have HV := Lib.hid hv
    have P2 := Lib.hid (P1.out.trans hb2)
    clear hv hb2
    go_wp2_with fail
    go_ret
    exact ⟨⟨_, rfl, HV.out⟩, P2.out⟩
  have HN34 := Lib.hid c34
  by_cases c95 : ch s p = 95
  · have HT := Lib.hid (labS_2 (s := s) (p := p) (.inr c95))
    have HQ : Hid (Sgn s p (p + 1)) := Lib.hid (.inr ⟨rfl, .inr c95⟩)
    have hpl := ch_in (s := s) (p := p) (by omega)
    have HN95 := Lib.hid c95
    clear c34 c95
    go_enter Tryd.func52, Tryd.ntmps52
    go_wp2_with fail
    refine (NO.out 34 _ P.out.2 (by omega) HN34.out).mono ?_
    rintro e w1 ⟨rfl, hb1⟩
    have P1 := Lib.hid (P.out.trans hb1)
    clear hb1
    obtain ⟨z, c0, c1, c2, f1, f2⟩ := P1.out.2.facts
    go_wp2_with fail
    refine (Y.out 95 _ P1.out.2 (by omega) HN95.out).mono ?_
    rintro e w2 ⟨rfl, hb2⟩
    have P2 := Lib.hid (P1.out.trans hb2)
    clear hb2
    clear z c0 c1 c2 f1 f2 P1 P Y NO
    obtain ⟨q, hqp⟩ : ∃ q, q = p + 1 := ⟨_, rfl⟩
    rw [← hqp] at HT HQ P2
    have hpq : p ≤ q := by omega
    have hpq1 : q ≤ p + 1 := by omega
    have HQP := Lib.hid hqp
    have hqq : q ≤ s.size := by omega
    clear hqp
    obtain ⟨z, c0, c1, c2, f1, f2⟩ := P2.out.2.facts
    have hqs : q ≤ s.size := hqq
    cases hl : letB (ch s (q)) with
    | false =>
      have HV := Lib.hid ((labX_2 HT.out hl).symm.trans HR.out)
      by_cases he : s.size = q
      · have M := Lib.hid (more_q P2.out.2 false (by simp; omega))
        clear HR hl he
        go_wp2_with fail
        go_quiet ((first | (go_at_call 69; with_reducible exact Calls.quiet_of (M.out _)) | (go_at_call 64; with_reducible exact Calls.quiet_of (L64.out _)) | (go_at_call 65; with_reducible exact Calls.quiet_of (L65.out _))))
        have PN := Lib.hid (P2.out.below (bdrewN (Below.refl _ _) nq))
        clear P2 z c0 c1 c2 f1 f2 M
        generalize w2.drewN nq = wn at *
        obtain ⟨z, c0, c1, c2, f1, f2⟩ := PN.out.2.facts
        have PF := Lib.hid (PN.out.fail true)
        go_wp2_with fail
        go_ret
        exact ⟨⟨_, rfl, by rw [← HV.out]; intro h; cases h⟩, by rw [← HV.out]; exact PF.out⟩
      · have hlt : q < s.size := by omega
        have M := Lib.hid (more_q P2.out.2 true (by simp; omega))
        have HC := Lib.hid (ch_at s (q) hlt)
        have L64 := Lib.hid (fun W => letter_q (s[q]).toNat false (by rw [HC.out]; exact hl) W)
        clear HR hl he
        go_wp2_with fail
        go_quiet ((first | (go_at_call 69; with_reducible exact Calls.quiet_of (M.out _)) | (go_at_call 64; with_reducible exact Calls.quiet_of (L64.out _)) | (go_at_call 65; with_reducible exact Calls.quiet_of (L65.out _))))
        have PN := Lib.hid (P2.out.below (bdrewN (Below.refl _ _) nq))
        clear P2 z c0 c1 c2 f1 f2 M
        generalize w2.drewN nq = wn at *
        obtain ⟨z, c0, c1, c2, f1, f2⟩ := PN.out.2.facts
        have PF := Lib.hid (PN.out.fail true)
        go_wp2_with fail
        go_ret
        exact ⟨⟨_, rfl, by rw [← HV.out]; intro h; cases h⟩, by rw [← HV.out]; exact PF.out⟩
    | true =>
      have hlt : q < s.size := let_in hl
      have M := Lib.hid (more_q P2.out.2 true (by simp; omega))
      have HC := Lib.hid (ch_at s (q) hlt)
      have L64 := Lib.hid (fun W => letter_q (s[q]).toNat true (by rw [HC.out]; exact hl) W)
      obtain ⟨F, hF⟩ : ∃ F, labF s p (s.size + 1) (q) = F := ⟨_, rfl⟩
      have HL := Lib.hid hl
      have HF := Lib.hid hF
      clear hl hF
      go_wp2_with fail
      go_quiet ((first | (go_at_call 69; with_reducible exact Calls.quiet_of (M.out _)) | (go_at_call 64; with_reducible exact Calls.quiet_of (L64.out _)) | (go_at_call 65; with_reducible exact Calls.quiet_of (L65.out _))))
      have PN := Lib.hid (P2.out.below (bdrewN (Below.refl _ _) nq))
      clear P2 z c0 c1 c2 f1 f2 M
      generalize w2.drewN nq = wn at *
      clear L64 HC
      go_wp2_with fail
      go_loopw [37] (fun v wr => ∃ f r : Nat, p ≤ r ∧ q ≤ r ∧ r ≤ s.size ∧ r ≤ p + 32 ∧ s.size < r + f ∧ Hid (labF s p f r = F) ∧ Hid (∀ j, q ≤ j → j < r → insB (ch s j) = true) ∧ Hid (RqP g s r false w wr)) (fun _ wr => s.size - (intOf ((wr.cell? ⟨g, 1, none⟩).getD undef)).toNat)
      case atStart => exact ⟨s.size + 1, q, by omega, by omega, by omega, by omega, by omega, HF, Lib.hid (by intro j h1 h2; omega), by simpa using PN⟩
      case round =>
        obtain ⟨f, r, hr1, hr3, hr2, hr4, hf, HS, HI, PR⟩ := hrel
        obtain ⟨f', rfl⟩ : ∃ f', f = f' + 1 := ⟨f - 1, by omega⟩
        obtain ⟨z, c0, c1, c2, f1, f2⟩ := PR.out.2.facts
        have m0 := c1
        cases hi : insB (ch s r) with
        | true =>
          have hrl := ins_in hi
          have M := Lib.hid (more_q PR.out.2 true (by simp; omega))
          have HC := Lib.hid (ch_at s r hrl)
          have HIN := Lib.hid hi
          clear hi
          by_cases h32 : r = p + 32
          · have HV := Lib.hid (labX_3 HN34.out HT.out HL.out HF.out (by rw [← HS.out, labF_2 (by omega)]; exact HIN.out))
            have HF2 : Hid (F = r) := Lib.hid (by rw [← HS.out, labF_2 (by omega)])
            have W1 : IntKind.i64.wrap ((r : Int) - (p : Int)) = (r : Int) - (p : Int) := by simp [IntKind.wrap, IntKind.bits, IntKind.signed]; omega
            have q1 : ((r : Int) - (p : Int) == 32) = true := by simp; omega
            rw [HR.out, HF2.out] at HV
            clear HR h32 HF2 HS HT HL HF
            cases h64 : letB (ch s r) with
            | true =>
              have L64 := Lib.hid (fun W => letter_q (s[r]).toNat true (by rw [HC.out]; exact h64) W)
              clear h64
              go_wp2_with fail
              go_quiet ((first | (go_at_call 69; with_reducible exact Calls.quiet_of (M.out _)) | (go_at_call 64; with_reducible exact Calls.quiet_of (L64.out _)) | (go_at_call 65; with_reducible exact Calls.quiet_of (L65.out _))))
              have PM := Lib.hid (PR.out.below (bdrewN (Below.refl _ _) nq))
              clear PR z c0 c1 c2 f1 f2 M
              generalize wr.drewN nq = wm at *
              obtain ⟨z, c0, c1, c2, f1, f2⟩ := PM.out.2.facts
              have PF := Lib.hid (PM.out.fail true)
              go_wp2_with fail
              go_ret
              exact ⟨⟨_, rfl, by rw [HV.out.1]; intro h; cases h⟩, by rw [HV.out.1, HV.out.2]; exact PF.out⟩
            | false =>
              have L64 := Lib.hid (fun W => letter_q (s[r]).toNat false (by rw [HC.out]; exact h64) W)
              cases h65 : digB (ch s r) with
              | true =>
                have L65 := Lib.hid (fun W => digit_q (s[r]).toNat true (by rw [HC.out]; exact h65) W)
                clear h64 h65
                go_wp2_with fail
                go_quiet ((first | (go_at_call 69; with_reducible exact Calls.quiet_of (M.out _)) | (go_at_call 64; with_reducible exact Calls.quiet_of (L64.out _)) | (go_at_call 65; with_reducible exact Calls.quiet_of (L65.out _))))
                have PM := Lib.hid (PR.out.below (bdrewN (Below.refl _ _) nq))
                clear PR z c0 c1 c2 f1 f2 M
                generalize wr.drewN nq = wm at *
                obtain ⟨z, c0, c1, c2, f1, f2⟩ := PM.out.2.facts
                have PF := Lib.hid (PM.out.fail true)
                go_wp2_with fail
                go_ret
                exact ⟨⟨_, rfl, by rw [HV.out.1]; intro h; cases h⟩, by rw [HV.out.1, HV.out.2]; exact PF.out⟩
              | false =>
                have L65 := Lib.hid (fun W => digit_q (s[r]).toNat false (by rw [HC.out]; exact h65) W)
                have hu : ch s r = 95 := by
                  rcases Nat.lt_or_ge (ch s r) 95 with h | h
                  · exact absurd (ins_no h64 h65 (by omega)) (by rw [HIN.out]; simp)
                  · rcases Nat.eq_or_lt_of_le h with h | h
                    · exact h.symm
                    · exact absurd (ins_no h64 h65 (by omega)) (by rw [HIN.out]; simp)
                have q2 : (((s[r]).toNat : Int) == 95) = true := by rw [HC.out, hu]; rfl
                clear h64 h65 hu
                go_wp2_with fail
                go_quiet ((first | (go_at_call 69; with_reducible exact Calls.quiet_of (M.out _)) | (go_at_call 64; with_reducible exact Calls.quiet_of (L64.out _)) | (go_at_call 65; with_reducible exact Calls.quiet_of (L65.out _))))
                have PM := Lib.hid (PR.out.below (bdrewN (Below.refl _ _) nq))
                clear PR z c0 c1 c2 f1 f2 M
                generalize wr.drewN nq = wm at *
                obtain ⟨z, c0, c1, c2, f1, f2⟩ := PM.out.2.facts
                have PF := Lib.hid (PM.out.fail true)
                go_wp2_with fail
                go_ret
                exact ⟨⟨_, rfl, by rw [HV.out.1]; intro h; cases h⟩, by rw [HV.out.1, HV.out.2]; exact PF.out⟩
          · have HS2 := Lib.hid ((labF_1 (f := f') (by omega) HIN.out).symm.trans HS.out)
            have W1 : IntKind.i64.wrap ((r : Int) - (p : Int)) = (r : Int) - (p : Int) := by simp [IntKind.wrap, IntKind.bits, IntKind.signed]; omega
            have q1 : ((r : Int) - (p : Int) == 32) = false := by simp; omega
            have HI2 : Hid (∀ j, q ≤ j → j < r + 1 → insB (ch s j) = true) := Lib.hid fun j h1 h2 => by
              by_cases hj : j = r
              · subst hj; exact HIN.out
              · exact HI.out j h1 (by omega)
            clear HS HI
            cases h64 : letB (ch s r) with
            | true =>
              have L64 := Lib.hid (fun W => letter_q (s[r]).toNat true (by rw [HC.out]; exact h64) W)
              clear h64
              go_wp2_with fail
              go_quiet ((first | (go_at_call 69; with_reducible exact Calls.quiet_of (M.out _)) | (go_at_call 64; with_reducible exact Calls.quiet_of (L64.out _)) | (go_at_call 65; with_reducible exact Calls.quiet_of (L65.out _))))
              have PM := Lib.hid (PR.out.below (bdrewN (Below.refl _ _) nq))
              clear PR z c0 c1 c2 f1 f2 M
              generalize wr.drewN nq = wm at *
              obtain ⟨z, c0, c1, c2, f1, f2⟩ := PM.out.2.facts
              have P6 : Hid (RqP g s (r + 1) false w (wm.setCell ⟨g, 1, none⟩ (.int .i64 ((r : Int) + 1)))) := Lib.hid (PM.out.step (by omega))
              go_wp2_with fail
              go_roundw
              case rel => exact ⟨f', r + 1, by omega, by omega, by omega, by omega, by omega, HS2, HI2, P6⟩
              case measure => have m1 := P6.out.2.facts.2.2.1; simp [intOf, m0, m1]; omega
            | false =>
              have L64 := Lib.hid (fun W => letter_q (s[r]).toNat false (by rw [HC.out]; exact h64) W)
              cases h65 : digB (ch s r) with
              | true =>
                have L65 := Lib.hid (fun W => digit_q (s[r]).toNat true (by rw [HC.out]; exact h65) W)
                clear h64 h65
                go_wp2_with fail
                go_quiet ((first | (go_at_call 69; with_reducible exact Calls.quiet_of (M.out _)) | (go_at_call 64; with_reducible exact Calls.quiet_of (L64.out _)) | (go_at_call 65; with_reducible exact Calls.quiet_of (L65.out _))))
                have PM := Lib.hid (PR.out.below (bdrewN (Below.refl _ _) nq))
                clear PR z c0 c1 c2 f1 f2 M
                generalize wr.drewN nq = wm at *
                obtain ⟨z, c0, c1, c2, f1, f2⟩ := PM.out.2.facts
                have P6 : Hid (RqP g s (r + 1) false w (wm.setCell ⟨g, 1, none⟩ (.int .i64 ((r : Int) + 1)))) := Lib.hid (PM.out.step (by omega))
                go_wp2_with fail
                go_roundw
                case rel => exact ⟨f', r + 1, by omega, by omega, by omega, by omega, by omega, HS2, HI2, P6⟩
                case measure => have m1 := P6.out.2.facts.2.2.1; simp [intOf, m0, m1]; omega
              | false =>
                have L65 := Lib.hid (fun W => digit_q (s[r]).toNat false (by rw [HC.out]; exact h65) W)
                have hu : ch s r = 95 := by
                  rcases Nat.lt_or_ge (ch s r) 95 with h | h
                  · exact absurd (ins_no h64 h65 (by omega)) (by rw [HIN.out]; simp)
                  · rcases Nat.eq_or_lt_of_le h with h | h
                    · exact h.symm
                    · exact absurd (ins_no h64 h65 (by omega)) (by rw [HIN.out]; simp)
                have q2 : (((s[r]).toNat : Int) == 95) = true := by rw [HC.out, hu]; rfl
                clear h64 h65 hu
                go_wp2_with fail
                go_quiet ((first | (go_at_call 69; with_reducible exact Calls.quiet_of (M.out _)) | (go_at_call 64; with_reducible exact Calls.quiet_of (L64.out _)) | (go_at_call 65; with_reducible exact Calls.quiet_of (L65.out _))))
                have PM := Lib.hid (PR.out.below (bdrewN (Below.refl _ _) nq))
                clear PR z c0 c1 c2 f1 f2 M
                generalize wr.drewN nq = wm at *
                obtain ⟨z, c0, c1, c2, f1, f2⟩ := PM.out.2.facts
                have P6 : Hid (RqP g s (r + 1) false w (wm.setCell ⟨g, 1, none⟩ (.int .i64 ((r : Int) + 1)))) := Lib.hid (PM.out.step (by omega))
                go_wp2_with fail
                go_roundw
                case rel => exact ⟨f', r + 1, by omega, by omega, by omega, by omega, by omega, HS2, HI2, P6⟩
                case measure => have m1 := P6.out.2.facts.2.2.1; simp [intOf, m0, m1]; omega
        | false =>
          have HF2 : Hid (labF s p (s.size + 1) (q) = r) := Lib.hid (by rw [HF.out, ← HS.out, labF_2 (by rw [hi]; simp)])
          have HV := Lib.hid ((labX_4 HT.out HL.out HF2.out hi).symm.trans HR.out)
          have hqr : q < r := by
            rcases Nat.lt_or_ge (q) r with h | h
            · exact h
            · have : r = q := by omega
              subst this
              exact absurd (ins_let HL.out) (by rw [hi]; simp)
          have HID := Lib.hid (id_run s p (q) r HQ.out hr4 hr2 hqr HL.out HI.out)
          obtain ⟨E, hE⟩ : ∃ E, s.extract p r = E := ⟨_, rfl⟩
          rw [hE] at HV HID
          have HE := Lib.hid hE
          have HIN := Lib.hid hi
          clear hi hE HF2 HR HS HT HL HF HI
          by_cases he : s.size = r
          · have M := Lib.hid (more_q PR.out.2 false (by simp; omega))
            clear he
            go_wp2_with fail
            go_quiet ((first | (go_at_call 69; with_reducible exact Calls.quiet_of (M.out _)) | (go_at_call 64; with_reducible exact Calls.quiet_of (L64.out _)) | (go_at_call 65; with_reducible exact Calls.quiet_of (L65.out _))))
            have PM := Lib.hid (PR.out.below (bdrewN (Below.refl _ _) nq))
            clear PR z c0 c1 c2 f1 f2 M
            generalize wr.drewN nq = wm at *
            obtain ⟨z, c0, c1, c2, f1, f2⟩ := PM.out.2.facts
            go_wp2_with fail
            go_still_tail 10, (by kernel_rfl)
            change wpList _ _ _ _ _ wm.drew
            have PK := Lib.hid (PM.out.below (Below.refl _ _).drew)
            clear PM z c0 c1 c2 f1 f2
            generalize wm.drew = wk at *
            cases hr : resB E with
            | true =>
              have CW := Lib.hid (rword_at E true hr)
              rw [HID.out, hr] at HV
              clear hr HID
              go_wp2_with fail
              try rw [HE.out]
              refine (CW.out _).mono ?_
              rintro e wv ⟨rfl, hbv⟩
              have PV := Lib.hid (PK.out.below hbv)
              clear hbv PK
              obtain ⟨z, c0, c1, c2, f1, f2⟩ := PV.out.2.facts
              have PF := Lib.hid (PV.out.fail true)
              go_wp2_with fail
              go_ret
              exact ⟨⟨_, rfl, by rw [← HV.out]; intro h; cases h⟩, by rw [← HV.out]; exact PF.out⟩
            | false =>
              have CW := Lib.hid (rword_at E false hr)
              rw [HID.out, hr] at HV
              clear hr HID
              go_wp2_with fail
              try rw [HE.out]
              refine (CW.out _).mono ?_
              rintro e wv ⟨rfl, hbv⟩
              have PV := Lib.hid (PK.out.below hbv)
              clear hbv PK
              obtain ⟨z, c0, c1, c2, f1, f2⟩ := PV.out.2.facts
              go_wp2_with fail
              go_quiet (fail)
              have PF := Lib.hid (PV.out.below (bdrewN (Below.refl _ _) nq))
              rw [HE.out]
              go_wp2_with fail
              go_ret
              exact ⟨⟨_, rfl, by rw [← HV.out]; intro _; rfl⟩, by rw [← HV.out]; exact PF.out⟩
          · have hrl : r < s.size := by omega
            have M := Lib.hid (more_q PR.out.2 true (by simp; omega))
            have HC := Lib.hid (ch_at s r hrl)
            have hl0 : letB (ch s r) = false := by cases h : letB (ch s r) with
              | false => rfl
              | true => exact absurd (ins_let h) (by rw [HIN.out]; simp)
            have hd0 : digB (ch s r) = false := by cases h : digB (ch s r) with
              | false => rfl
              | true => exact absurd (ins_dig h) (by rw [HIN.out]; simp)
            have hu0 : ch s r ≠ 95 := fun h => absurd (ins_und h) (by rw [HIN.out]; simp)
            have L64 := Lib.hid (fun W => letter_q (s[r]).toNat false (by rw [HC.out]; exact hl0) W)
            have L65 := Lib.hid (fun W => digit_q (s[r]).toNat false (by rw [HC.out]; exact hd0) W)
            have q2 : (((s[r]).toNat : Int) == 95) = false := by rw [HC.out]; simp; omega
            clear hl0 hd0 hu0 he
            go_wp2_with fail
            go_quiet ((first | (go_at_call 69; with_reducible exact Calls.quiet_of (M.out _)) | (go_at_call 64; with_reducible exact Calls.quiet_of (L64.out _)) | (go_at_call 65; with_reducible exact Calls.quiet_of (L65.out _))))
            have PM := Lib.hid (PR.out.below (bdrewN (Below.refl _ _) nq))
            clear PR z c0 c1 c2 f1 f2 M
            generalize wr.drewN nq = wm at *
            obtain ⟨z, c0, c1, c2, f1, f2⟩ := PM.out.2.facts
            go_wp2_with fail
            go_still_tail 10, (by kernel_rfl)
            change wpList _ _ _ _ _ wm.drew
            have PK := Lib.hid (PM.out.below (Below.refl _ _).drew)
            clear PM z c0 c1 c2 f1 f2
            generalize wm.drew = wk at *
            cases hr : resB E with
            | true =>
              have CW := Lib.hid (rword_at E true hr)
              rw [HID.out, hr] at HV
              clear hr HID
              go_wp2_with fail
              try rw [HE.out]
              refine (CW.out _).mono ?_
              rintro e wv ⟨rfl, hbv⟩
              have PV := Lib.hid (PK.out.below hbv)
              clear hbv PK
              obtain ⟨z, c0, c1, c2, f1, f2⟩ := PV.out.2.facts
              have PF := Lib.hid (PV.out.fail true)
              go_wp2_with fail
              go_ret
              exact ⟨⟨_, rfl, by rw [← HV.out]; intro h; cases h⟩, by rw [← HV.out]; exact PF.out⟩
            | false =>
              have CW := Lib.hid (rword_at E false hr)
              rw [HID.out, hr] at HV
              clear hr HID
              go_wp2_with fail
              try rw [HE.out]
              refine (CW.out _).mono ?_
              rintro e wv ⟨rfl, hbv⟩
              have PV := Lib.hid (PK.out.below hbv)
              clear hbv PK
              obtain ⟨z, c0, c1, c2, f1, f2⟩ := PV.out.2.facts
              go_wp2_with fail
              go_quiet (fail)
              have PF := Lib.hid (PV.out.below (bdrewN (Below.refl _ _) nq))
              rw [HE.out]
              go_wp2_with fail
              go_ret
              exact ⟨⟨_, rfl, by rw [← HV.out]; intro _; rfl⟩, by rw [← HV.out]; exact PF.out⟩
  have HN95 := Lib.hid c95
  by_cases c35 : ch s p = 35
  · have HT := Lib.hid (labS_2 (s := s) (p := p) (.inl c35))
    have HQ : Hid (Sgn s p (p + 1)) := Lib.hid (.inr ⟨rfl, .inl c35⟩)
    have hpl := ch_in (s := s) (p := p) (by omega)
    have HN35 := Lib.hid c35
    clear c34 c95 c35
    go_enter Tryd.func52, Tryd.ntmps52
    go_wp2_with fail
    refine (NO.out 34 _ P.out.2 (by omega) HN34.out).mono ?_
    rintro e w1 ⟨rfl, hb1⟩
    have P1 := Lib.hid (P.out.trans hb1)
    clear hb1
    obtain ⟨z, c0, c1, c2, f1, f2⟩ := P1.out.2.facts
    go_wp2_with fail
    refine (NO.out 95 _ P1.out.2 (by omega) HN95.out).mono ?_
    rintro e w2 ⟨rfl, hb2⟩
    have P2 := Lib.hid (P1.out.trans hb2)
    clear hb2
    clear z c0 c1 c2 f1 f2 P1 P
    go_wp2_with fail
    refine (Y.out 35 _ P2.out.2 (by omega) HN35.out).mono ?_
    rintro e w3 ⟨rfl, hb3⟩
    have P3 := Lib.hid (P2.out.trans hb3)
    clear hb3
    clear P2 Y NO
    obtain ⟨q, hqp⟩ : ∃ q, q = p + 1 := ⟨_, rfl⟩
    rw [← hqp] at HT HQ P3
    have hpq : p ≤ q := by omega
    have hpq1 : q ≤ p + 1 := by omega
    have HQP := Lib.hid hqp
    have hqq : q ≤ s.size := by omega
    clear hqp
    obtain ⟨z, c0, c1, c2, f1, f2⟩ := P3.out.2.facts
    have hqs : q ≤ s.size := hqq
    cases hl : letB (ch s (q)) with
    | false =>
      have HV := Lib.hid ((labX_2 HT.out hl).symm.trans HR.out)
      by_cases he : s.size = q
      · have M := Lib.hid (more_q P3.out.2 false (by simp; omega))
        clear HR hl he
        go_wp2_with fail
        go_quiet ((first | (go_at_call 69; with_reducible exact Calls.quiet_of (M.out _)) | (go_at_call 64; with_reducible exact Calls.quiet_of (L64.out _)) | (go_at_call 65; with_reducible exact Calls.quiet_of (L65.out _))))
        have PN := Lib.hid (P3.out.below (bdrewN (Below.refl _ _) nq))
        clear P3 z c0 c1 c2 f1 f2 M
        generalize w3.drewN nq = wn at *
        obtain ⟨z, c0, c1, c2, f1, f2⟩ := PN.out.2.facts
        have PF := Lib.hid (PN.out.fail true)
        go_wp2_with fail
        go_ret
        exact ⟨⟨_, rfl, by rw [← HV.out]; intro h; cases h⟩, by rw [← HV.out]; exact PF.out⟩
      · have hlt : q < s.size := by omega
        have M := Lib.hid (more_q P3.out.2 true (by simp; omega))
        have HC := Lib.hid (ch_at s (q) hlt)
        have L64 := Lib.hid (fun W => letter_q (s[q]).toNat false (by rw [HC.out]; exact hl) W)
        clear HR hl he
        go_wp2_with fail
        go_quiet ((first | (go_at_call 69; with_reducible exact Calls.quiet_of (M.out _)) | (go_at_call 64; with_reducible exact Calls.quiet_of (L64.out _)) | (go_at_call 65; with_reducible exact Calls.quiet_of (L65.out _))))
        have PN := Lib.hid (P3.out.below (bdrewN (Below.refl _ _) nq))
        clear P3 z c0 c1 c2 f1 f2 M
        generalize w3.drewN nq = wn at *
        obtain ⟨z, c0, c1, c2, f1, f2⟩ := PN.out.2.facts
        have PF := Lib.hid (PN.out.fail true)
        go_wp2_with fail
        go_ret
        exact ⟨⟨_, rfl, by rw [← HV.out]; intro h; cases h⟩, by rw [← HV.out]; exact PF.out⟩
    | true =>
      have hlt : q < s.size := let_in hl
      have M := Lib.hid (more_q P3.out.2 true (by simp; omega))
      have HC := Lib.hid (ch_at s (q) hlt)
      have L64 := Lib.hid (fun W => letter_q (s[q]).toNat true (by rw [HC.out]; exact hl) W)
      obtain ⟨F, hF⟩ : ∃ F, labF s p (s.size + 1) (q) = F := ⟨_, rfl⟩
      have HL := Lib.hid hl
      have HF := Lib.hid hF
      clear hl hF
      go_wp2_with fail
      go_quiet ((first | (go_at_call 69; with_reducible exact Calls.quiet_of (M.out _)) | (go_at_call 64; with_reducible exact Calls.quiet_of (L64.out _)) | (go_at_call 65; with_reducible exact Calls.quiet_of (L65.out _))))
      have PN := Lib.hid (P3.out.below (bdrewN (Below.refl _ _) nq))
      clear P3 z c0 c1 c2 f1 f2 M
      generalize w3.drewN nq = wn at *
      clear L64 HC
      go_wp2_with fail
      go_loopw [37] (fun v wr => ∃ f r : Nat, p ≤ r ∧ q ≤ r ∧ r ≤ s.size ∧ r ≤ p + 32 ∧ s.size < r + f ∧ Hid (labF s p f r = F) ∧ Hid (∀ j, q ≤ j → j < r → insB (ch s j) = true) ∧ Hid (RqP g s r false w wr)) (fun _ wr => s.size - (intOf ((wr.cell? ⟨g, 1, none⟩).getD undef)).toNat)
      case atStart => exact ⟨s.size + 1, q, by omega, by omega, by omega, by omega, by omega, HF, Lib.hid (by intro j h1 h2; omega), by simpa using PN⟩
      case round =>
        obtain ⟨f, r, hr1, hr3, hr2, hr4, hf, HS, HI, PR⟩ := hrel
        obtain ⟨f', rfl⟩ : ∃ f', f = f' + 1 := ⟨f - 1, by omega⟩
        obtain ⟨z, c0, c1, c2, f1, f2⟩ := PR.out.2.facts
        have m0 := c1
        cases hi : insB (ch s r) with
        | true =>
          have hrl := ins_in hi
          have M := Lib.hid (more_q PR.out.2 true (by simp; omega))
          have HC := Lib.hid (ch_at s r hrl)
          have HIN := Lib.hid hi
          clear hi
          by_cases h32 : r = p + 32
          · have HV := Lib.hid (labX_3 HN34.out HT.out HL.out HF.out (by rw [← HS.out, labF_2 (by omega)]; exact HIN.out))
            have HF2 : Hid (F = r) := Lib.hid (by rw [← HS.out, labF_2 (by omega)])
            have W1 : IntKind.i64.wrap ((r : Int) - (p : Int)) = (r : Int) - (p : Int) := by simp [IntKind.wrap, IntKind.bits, IntKind.signed]; omega
            have q1 : ((r : Int) - (p : Int) == 32) = true := by simp; omega
            rw [HR.out, HF2.out] at HV
            clear HR h32 HF2 HS HT HL HF
            cases h64 : letB (ch s r) with
            | true =>
              have L64 := Lib.hid (fun W => letter_q (s[r]).toNat true (by rw [HC.out]; exact h64) W)
              clear h64
              go_wp2_with fail
              go_quiet ((first | (go_at_call 69; with_reducible exact Calls.quiet_of (M.out _)) | (go_at_call 64; with_reducible exact Calls.quiet_of (L64.out _)) | (go_at_call 65; with_reducible exact Calls.quiet_of (L65.out _))))
              have PM := Lib.hid (PR.out.below (bdrewN (Below.refl _ _) nq))
              clear PR z c0 c1 c2 f1 f2 M
              generalize wr.drewN nq = wm at *
              obtain ⟨z, c0, c1, c2, f1, f2⟩ := PM.out.2.facts
              have PF := Lib.hid (PM.out.fail true)
              go_wp2_with fail
              go_ret
              exact ⟨⟨_, rfl, by rw [HV.out.1]; intro h; cases h⟩, by rw [HV.out.1, HV.out.2]; exact PF.out⟩
            | false =>
              have L64 := Lib.hid (fun W => letter_q (s[r]).toNat false (by rw [HC.out]; exact h64) W)
              cases h65 : digB (ch s r) with
              | true =>
                have L65 := Lib.hid (fun W => digit_q (s[r]).toNat true (by rw [HC.out]; exact h65) W)
                clear h64 h65
                go_wp2_with fail
                go_quiet ((first | (go_at_call 69; with_reducible exact Calls.quiet_of (M.out _)) | (go_at_call 64; with_reducible exact Calls.quiet_of (L64.out _)) | (go_at_call 65; with_reducible exact Calls.quiet_of (L65.out _))))
                have PM := Lib.hid (PR.out.below (bdrewN (Below.refl _ _) nq))
                clear PR z c0 c1 c2 f1 f2 M
                generalize wr.drewN nq = wm at *
                obtain ⟨z, c0, c1, c2, f1, f2⟩ := PM.out.2.facts
                have PF := Lib.hid (PM.out.fail true)
                go_wp2_with fail
                go_ret
                exact ⟨⟨_, rfl, by rw [HV.out.1]; intro h; cases h⟩, by rw [HV.out.1, HV.out.2]; exact PF.out⟩
              | false =>
                have L65 := Lib.hid (fun W => digit_q (s[r]).toNat false (by rw [HC.out]; exact h65) W)
                have hu : ch s r = 95 := by
                  rcases Nat.lt_or_ge (ch s r) 95 with h | h
                  · exact absurd (ins_no h64 h65 (by omega)) (by rw [HIN.out]; simp)
                  · rcases Nat.eq_or_lt_of_le h with h | h
                    · exact h.symm
                    · exact absurd (ins_no h64 h65 (by omega)) (by rw [HIN.out]; simp)
                have q2 : (((s[r]).toNat : Int) == 95) = true := by rw [HC.out, hu]; rfl
                clear h64 h65 hu
                go_wp2_with fail
                go_quiet ((first | (go_at_call 69; with_reducible exact Calls.quiet_of (M.out _)) | (go_at_call 64; with_reducible exact Calls.quiet_of (L64.out _)) | (go_at_call 65; with_reducible exact Calls.quiet_of (L65.out _))))
                have PM := Lib.hid (PR.out.below (bdrewN (Below.refl _ _) nq))
                clear PR z c0 c1 c2 f1 f2 M
                generalize wr.drewN nq = wm at *
                obtain ⟨z, c0, c1, c2, f1, f2⟩ := PM.out.2.facts
                have PF := Lib.hid (PM.out.fail true)
                go_wp2_with fail
                go_ret
                exact ⟨⟨_, rfl, by rw [HV.out.1]; intro h; cases h⟩, by rw [HV.out.1, HV.out.2]; exact PF.out⟩
          · have HS2 := Lib.hid ((labF_1 (f := f') (by omega) HIN.out).symm.trans HS.out)
            have W1 : IntKind.i64.wrap ((r : Int) - (p : Int)) = (r : Int) - (p : Int) := by simp [IntKind.wrap, IntKind.bits, IntKind.signed]; omega
            have q1 : ((r : Int) - (p : Int) == 32) = false := by simp; omega
            have HI2 : Hid (∀ j, q ≤ j → j < r + 1 → insB (ch s j) = true) := Lib.hid fun j h1 h2 => by
              by_cases hj : j = r
              · subst hj; exact HIN.out
              · exact HI.out j h1 (by omega)
            clear HS HI
            cases h64 : letB (ch s r) with
            | true =>
              have L64 := Lib.hid (fun W => letter_q (s[r]).toNat true (by rw [HC.out]; exact h64) W)
              clear h64
              go_wp2_with fail
              go_quiet ((first | (go_at_call 69; with_reducible exact Calls.quiet_of (M.out _)) | (go_at_call 64; with_reducible exact Calls.quiet_of (L64.out _)) | (go_at_call 65; with_reducible exact Calls.quiet_of (L65.out _))))
              have PM := Lib.hid (PR.out.below (bdrewN (Below.refl _ _) nq))
              clear PR z c0 c1 c2 f1 f2 M
              generalize wr.drewN nq = wm at *
              obtain ⟨z, c0, c1, c2, f1, f2⟩ := PM.out.2.facts
              have P6 : Hid (RqP g s (r + 1) false w (wm.setCell ⟨g, 1, none⟩ (.int .i64 ((r : Int) + 1)))) := Lib.hid (PM.out.step (by omega))
              go_wp2_with fail
              go_roundw
              case rel => exact ⟨f', r + 1, by omega, by omega, by omega, by omega, by omega, HS2, HI2, P6⟩
              case measure => have m1 := P6.out.2.facts.2.2.1; simp [intOf, m0, m1]; omega
            | false =>
              have L64 := Lib.hid (fun W => letter_q (s[r]).toNat false (by rw [HC.out]; exact h64) W)
              cases h65 : digB (ch s r) with
              | true =>
                have L65 := Lib.hid (fun W => digit_q (s[r]).toNat true (by rw [HC.out]; exact h65) W)
                clear h64 h65
                go_wp2_with fail
                go_quiet ((first | (go_at_call 69; with_reducible exact Calls.quiet_of (M.out _)) | (go_at_call 64; with_reducible exact Calls.quiet_of (L64.out _)) | (go_at_call 65; with_reducible exact Calls.quiet_of (L65.out _))))
                have PM := Lib.hid (PR.out.below (bdrewN (Below.refl _ _) nq))
                clear PR z c0 c1 c2 f1 f2 M
                generalize wr.drewN nq = wm at *
                obtain ⟨z, c0, c1, c2, f1, f2⟩ := PM.out.2.facts
                have P6 : Hid (RqP g s (r + 1) false w (wm.setCell ⟨g, 1, none⟩ (.int .i64 ((r : Int) + 1)))) := Lib.hid (PM.out.step (by omega))
                go_wp2_with fail
                go_roundw
                case rel => exact ⟨f', r + 1, by omega, by omega, by omega, by omega, by omega, HS2, HI2, P6⟩
                case measure => have m1 := P6.out.2.facts.2.2.1; simp [intOf, m0, m1]; omega
              | false =>
                have L65 := Lib.hid (fun W => digit_q (s[r]).toNat false (by rw [HC.out]; exact h65) W)
                have hu : ch s r = 95 := by
                  rcases Nat.lt_or_ge (ch s r) 95 with h | h
                  · exact absurd (ins_no h64 h65 (by omega)) (by rw [HIN.out]; simp)
                  · rcases Nat.eq_or_lt_of_le h with h | h
                    · exact h.symm
                    · exact absurd (ins_no h64 h65 (by omega)) (by rw [HIN.out]; simp)
                have q2 : (((s[r]).toNat : Int) == 95) = true := by rw [HC.out, hu]; rfl
                clear h64 h65 hu
                go_wp2_with fail
                go_quiet ((first | (go_at_call 69; with_reducible exact Calls.quiet_of (M.out _)) | (go_at_call 64; with_reducible exact Calls.quiet_of (L64.out _)) | (go_at_call 65; with_reducible exact Calls.quiet_of (L65.out _))))
                have PM := Lib.hid (PR.out.below (bdrewN (Below.refl _ _) nq))
                clear PR z c0 c1 c2 f1 f2 M
                generalize wr.drewN nq = wm at *
                obtain ⟨z, c0, c1, c2, f1, f2⟩ := PM.out.2.facts
                have P6 : Hid (RqP g s (r + 1) false w (wm.setCell ⟨g, 1, none⟩ (.int .i64 ((r : Int) + 1)))) := Lib.hid (PM.out.step (by omega))
                go_wp2_with fail
                go_roundw
                case rel => exact ⟨f', r + 1, by omega, by omega, by omega, by omega, by omega, HS2, HI2, P6⟩
                case measure => have m1 := P6.out.2.facts.2.2.1; simp [intOf, m0, m1]; omega
        | false =>
          have HF2 : Hid (labF s p (s.size + 1) (q) = r) := Lib.hid (by rw [HF.out, ← HS.out, labF_2 (by rw [hi]; simp)])
          have HV := Lib.hid ((labX_4 HT.out HL.out HF2.out hi).symm.trans HR.out)
          have hqr : q < r := by
            rcases Nat.lt_or_ge (q) r with h | h
            · exact h
            · have : r = q := by omega
              subst this
              exact absurd (ins_let HL.out) (by rw [hi]; simp)
          have HID := Lib.hid (id_run s p (q) r HQ.out hr4 hr2 hqr HL.out HI.out)
          obtain ⟨E, hE⟩ : ∃ E, s.extract p r = E := ⟨_, rfl⟩
          rw [hE] at HV HID
          have HE := Lib.hid hE
          have HIN := Lib.hid hi
          clear hi hE HF2 HR HS HT HL HF HI
          by_cases he : s.size = r
          · have M := Lib.hid (more_q PR.out.2 false (by simp; omega))
            clear he
            go_wp2_with fail
            go_quiet ((first | (go_at_call 69; with_reducible exact Calls.quiet_of (M.out _)) | (go_at_call 64; with_reducible exact Calls.quiet_of (L64.out _)) | (go_at_call 65; with_reducible exact Calls.quiet_of (L65.out _))))
            have PM := Lib.hid (PR.out.below (bdrewN (Below.refl _ _) nq))
            clear PR z c0 c1 c2 f1 f2 M
            generalize wr.drewN nq = wm at *
            obtain ⟨z, c0, c1, c2, f1, f2⟩ := PM.out.2.facts
            go_wp2_with fail
            go_still_tail 10, (by kernel_rfl)
            change wpList _ _ _ _ _ wm.drew
            have PK := Lib.hid (PM.out.below (Below.refl _ _).drew)
            clear PM z c0 c1 c2 f1 f2
            generalize wm.drew = wk at *
            cases hr : resB E with
            | true =>
              have CW := Lib.hid (rword_at E true hr)
              rw [HID.out, hr] at HV
              clear hr HID
              go_wp2_with fail
              try rw [HE.out]
              refine (CW.out _).mono ?_
              rintro e wv ⟨rfl, hbv⟩
              have PV := Lib.hid (PK.out.below hbv)
              clear hbv PK
              obtain ⟨z, c0, c1, c2, f1, f2⟩ := PV.out.2.facts
              have PF := Lib.hid (PV.out.fail true)
              go_wp2_with fail
              go_ret
              exact ⟨⟨_, rfl, by rw [← HV.out]; intro h; cases h⟩, by rw [← HV.out]; exact PF.out⟩
            | false =>
              have CW := Lib.hid (rword_at E false hr)
              rw [HID.out, hr] at HV
              clear hr HID
              go_wp2_with fail
              try rw [HE.out]
              refine (CW.out _).mono ?_
              rintro e wv ⟨rfl, hbv⟩
              have PV := Lib.hid (PK.out.below hbv)
              clear hbv PK
              obtain ⟨z, c0, c1, c2, f1, f2⟩ := PV.out.2.facts
              go_wp2_with fail
              go_quiet (fail)
              have PF := Lib.hid (PV.out.below (bdrewN (Below.refl _ _) nq))
              rw [HE.out]
              go_wp2_with fail
              go_ret
              exact ⟨⟨_, rfl, by rw [← HV.out]; intro _; rfl⟩, by rw [← HV.out]; exact PF.out⟩
          · have hrl : r < s.size := by omega
            have M := Lib.hid (more_q PR.out.2 true (by simp; omega))
            have HC := Lib.hid (ch_at s r hrl)
            have hl0 : letB (ch s r) = false := by cases h : letB (ch s r) with
              | false => rfl
              | true => exact absurd (ins_let h) (by rw [HIN.out]; simp)
            have hd0 : digB (ch s r) = false := by cases h : digB (ch s r) with
              | false => rfl
              | true => exact absurd (ins_dig h) (by rw [HIN.out]; simp)
            have hu0 : ch s r ≠ 95 := fun h => absurd (ins_und h) (by rw [HIN.out]; simp)
            have L64 := Lib.hid (fun W => letter_q (s[r]).toNat false (by rw [HC.out]; exact hl0) W)
            have L65 := Lib.hid (fun W => digit_q (s[r]).toNat false (by rw [HC.out]; exact hd0) W)
            have q2 : (((s[r]).toNat : Int) == 95) = false := by rw [HC.out]; simp; omega
            clear hl0 hd0 hu0 he
            go_wp2_with fail
            go_quiet ((first | (go_at_call 69; with_reducible exact Calls.quiet_of (M.out _)) | (go_at_call 64; with_reducible exact Calls.quiet_of (L64.out _)) | (go_at_call 65; with_reducible exact Calls.quiet_of (L65.out _))))
            have PM := Lib.hid (PR.out.below (bdrewN (Below.refl _ _) nq))
            clear PR z c0 c1 c2 f1 f2 M
            generalize wr.drewN nq = wm at *
            obtain ⟨z, c0, c1, c2, f1, f2⟩ := PM.out.2.facts
            go_wp2_with fail
            go_still_tail 10, (by kernel_rfl)
            change wpList _ _ _ _ _ wm.drew
            have PK := Lib.hid (PM.out.below (Below.refl _ _).drew)
            clear PM z c0 c1 c2 f1 f2
            generalize wm.drew = wk at *
            cases hr : resB E with
            | true =>
              have CW := Lib.hid (rword_at E true hr)
              rw [HID.out, hr] at HV
              clear hr HID
              go_wp2_with fail
              try rw [HE.out]
              refine (CW.out _).mono ?_
              rintro e wv ⟨rfl, hbv⟩
              have PV := Lib.hid (PK.out.below hbv)
              clear hbv PK
              obtain ⟨z, c0, c1, c2, f1, f2⟩ := PV.out.2.facts
              have PF := Lib.hid (PV.out.fail true)
              go_wp2_with fail
              go_ret
              exact ⟨⟨_, rfl, by rw [← HV.out]; intro h; cases h⟩, by rw [← HV.out]; exact PF.out⟩
            | false =>
              have CW := Lib.hid (rword_at E false hr)
              rw [HID.out, hr] at HV
              clear hr HID
              go_wp2_with fail
              try rw [HE.out]
              refine (CW.out _).mono ?_
              rintro e wv ⟨rfl, hbv⟩
              have PV := Lib.hid (PK.out.below hbv)
              clear hbv PK
              obtain ⟨z, c0, c1, c2, f1, f2⟩ := PV.out.2.facts
              go_wp2_with fail
              go_quiet (fail)
              have PF := Lib.hid (PV.out.below (bdrewN (Below.refl _ _) nq))
              rw [HE.out]
              go_wp2_with fail
              go_ret
              exact ⟨⟨_, rfl, by rw [← HV.out]; intro _; rfl⟩, by rw [← HV.out]; exact PF.out⟩
  have HN35 := Lib.hid c35
  have HT := Lib.hid (labS_3 (s := s) (p := p) c34 (by omega))
  have HQ : Hid (Sgn s p p) := Lib.hid (.inl ⟨rfl, by omega⟩)
  clear c34 c95 c35
  go_enter Tryd.func52, Tryd.ntmps52
  go_wp2_with fail
  refine (NO.out 34 _ P.out.2 (by omega) HN34.out).mono ?_
  rintro e w1 ⟨rfl, hb1⟩
  have P1 := Lib.hid (P.out.trans hb1)
  clear hb1
  obtain ⟨z, c0, c1, c2, f1, f2⟩ := P1.out.2.facts
  go_wp2_with fail
  refine (NO.out 95 _ P1.out.2 (by omega) HN95.out).mono ?_
  rintro e w2 ⟨rfl, hb2⟩
  have P2 := Lib.hid (P1.out.trans hb2)
  clear hb2
  clear z c0 c1 c2 f1 f2 P1 P
  go_wp2_with fail
  refine (NO.out 35 _ P2.out.2 (by omega) HN35.out).mono ?_
  rintro e w3 ⟨rfl, hb3⟩
  have P3 := Lib.hid (P2.out.trans hb3)
  clear hb3
  clear P2 Y NO
  obtain ⟨q, hqp, HTq, HQq, P3q⟩ : ∃ q, q = p ∧ Hid (labS s p = labT s p q) ∧ Hid (Sgn s p q) ∧ Hid (RqP g s q false w w3) := ⟨p, rfl, HT, HQ, P3⟩
  clear HT HQ P3
  have HT := HTq
  have HQ := HQq
  have P3 := P3q
  clear HTq HQq P3q
  have hpq : p ≤ q := by omega
  have hpq1 : q ≤ p + 1 := by omega
  have HQP := Lib.hid hqp
  have hqq : q ≤ s.size := by omega
  clear hqp
  obtain ⟨z, c0, c1, c2, f1, f2⟩ := P3.out.2.facts
  have hqs : q ≤ s.size := hqq
  cases hl : letB (ch s (q)) with
  | false =>
    have HV := Lib.hid ((labX_2 HT.out hl).symm.trans HR.out)
    by_cases he : s.size = q
    · have M := Lib.hid (more_q P3.out.2 false (by simp; omega))
      clear HR hl he
      go_wp2_with fail
      go_quiet ((first | (go_at_call 69; with_reducible exact Calls.quiet_of (M.out _)) | (go_at_call 64; with_reducible exact Calls.quiet_of (L64.out _)) | (go_at_call 65; with_reducible exact Calls.quiet_of (L65.out _))))
      have PN := Lib.hid (P3.out.below (bdrewN (Below.refl _ _) nq))
      clear P3 z c0 c1 c2 f1 f2 M
      generalize w3.drewN nq = wn at *
      obtain ⟨z, c0, c1, c2, f1, f2⟩ := PN.out.2.facts
      have PF := Lib.hid (PN.out.fail true)
      go_wp2_with fail
      go_ret
      exact ⟨⟨_, rfl, by rw [← HV.out]; intro h; cases h⟩, by rw [← HV.out]; exact PF.out⟩
    · have hlt : q < s.size := by omega
      have M := Lib.hid (more_q P3.out.2 true (by simp; omega))
      have HC := Lib.hid (ch_at s (q) hlt)
      have L64 := Lib.hid (fun W => letter_q (s[q]).toNat false (by rw [HC.out]; exact hl) W)
      clear HR hl he
      go_wp2_with fail
      go_quiet ((first | (go_at_call 69; with_reducible exact Calls.quiet_of (M.out _)) | (go_at_call 64; with_reducible exact Calls.quiet_of (L64.out _)) | (go_at_call 65; with_reducible exact Calls.quiet_of (L65.out _))))
      have PN := Lib.hid (P3.out.below (bdrewN (Below.refl _ _) nq))
      clear P3 z c0 c1 c2 f1 f2 M
      generalize w3.drewN nq = wn at *
      obtain ⟨z, c0, c1, c2, f1, f2⟩ := PN.out.2.facts
      have PF := Lib.hid (PN.out.fail true)
      go_wp2_with fail
      go_ret
      exact ⟨⟨_, rfl, by rw [← HV.out]; intro h; cases h⟩, by rw [← HV.out]; exact PF.out⟩
  | true =>
    have hlt : q < s.size := let_in hl
    have M := Lib.hid (more_q P3.out.2 true (by simp; omega))
    have HC := Lib.hid (ch_at s (q) hlt)
    have L64 := Lib.hid (fun W => letter_q (s[q]).toNat true (by rw [HC.out]; exact hl) W)
    obtain ⟨F, hF⟩ : ∃ F, labF s p (s.size + 1) (q) = F := ⟨_, rfl⟩
    have HL := Lib.hid hl
    have HF := Lib.hid hF
    clear hl hF
    go_wp2_with fail
    go_quiet ((first | (go_at_call 69; with_reducible exact Calls.quiet_of (M.out _)) | (go_at_call 64; with_reducible exact Calls.quiet_of (L64.out _)) | (go_at_call 65; with_reducible exact Calls.quiet_of (L65.out _))))
    have PN := Lib.hid (P3.out.below (bdrewN (Below.refl _ _) nq))
    clear P3 z c0 c1 c2 f1 f2 M
    generalize w3.drewN nq = wn at *
    clear L64 HC
    go_wp2_with fail
    go_loopw [37] (fun v wr => ∃ f r : Nat, p ≤ r ∧ q ≤ r ∧ r ≤ s.size ∧ r ≤ p + 32 ∧ s.size < r + f ∧ Hid (labF s p f r = F) ∧ Hid (∀ j, q ≤ j → j < r → insB (ch s j) = true) ∧ Hid (RqP g s r false w wr)) (fun _ wr => s.size - (intOf ((wr.cell? ⟨g, 1, none⟩).getD undef)).toNat)
    case atStart => exact ⟨s.size + 1, q, by omega, by omega, by omega, by omega, by omega, HF, Lib.hid (by intro j h1 h2; omega), by simpa using PN⟩
    case round =>
      obtain ⟨f, r, hr1, hr3, hr2, hr4, hf, HS, HI, PR⟩ := hrel
      obtain ⟨f', rfl⟩ : ∃ f', f = f' + 1 := ⟨f - 1, by omega⟩
      obtain ⟨z, c0, c1, c2, f1, f2⟩ := PR.out.2.facts
      have m0 := c1
      cases hi : insB (ch s r) with
      | true =>
        have hrl := ins_in hi
        have M := Lib.hid (more_q PR.out.2 true (by simp; omega))
        have HC := Lib.hid (ch_at s r hrl)
        have HIN := Lib.hid hi
        clear hi
        by_cases h32 : r = p + 32
        · have HV := Lib.hid (labX_3 HN34.out HT.out HL.out HF.out (by rw [← HS.out, labF_2 (by omega)]; exact HIN.out))
          have HF2 : Hid (F = r) := Lib.hid (by rw [← HS.out, labF_2 (by omega)])
          have W1 : IntKind.i64.wrap ((r : Int) - (p : Int)) = (r : Int) - (p : Int) := by simp [IntKind.wrap, IntKind.bits, IntKind.signed]; omega
          have q1 : ((r : Int) - (p : Int) == 32) = true := by simp; omega
          rw [HR.out, HF2.out] at HV
          clear HR h32 HF2 HS HT HL HF
          cases h64 : letB (ch s r) with
          | true =>
            have L64 := Lib.hid (fun W => letter_q (s[r]).toNat true (by rw [HC.out]; exact h64) W)
            clear h64
            go_wp2_with fail
            go_quiet ((first | (go_at_call 69; with_reducible exact Calls.quiet_of (M.out _)) | (go_at_call 64; with_reducible exact Calls.quiet_of (L64.out _)) | (go_at_call 65; with_reducible exact Calls.quiet_of (L65.out _))))
            have PM := Lib.hid (PR.out.below (bdrewN (Below.refl _ _) nq))
            clear PR z c0 c1 c2 f1 f2 M
            generalize wr.drewN nq = wm at *
            obtain ⟨z, c0, c1, c2, f1, f2⟩ := PM.out.2.facts
            have PF := Lib.hid (PM.out.fail true)
            go_wp2_with fail
            go_ret
            exact ⟨⟨_, rfl, by rw [HV.out.1]; intro h; cases h⟩, by rw [HV.out.1, HV.out.2]; exact PF.out⟩
          | false =>
            have L64 := Lib.hid (fun W => letter_q (s[r]).toNat false (by rw [HC.out]; exact h64) W)
            cases h65 : digB (ch s r) with
            | true =>
              have L65 := Lib.hid (fun W => digit_q (s[r]).toNat true (by rw [HC.out]; exact h65) W)
              clear h64 h65
              go_wp2_with fail
              go_quiet ((first | (go_at_call 69; with_reducible exact Calls.quiet_of (M.out _)) | (go_at_call 64; with_reducible exact Calls.quiet_of (L64.out _)) | (go_at_call 65; with_reducible exact Calls.quiet_of (L65.out _))))
              have PM := Lib.hid (PR.out.below (bdrewN (Below.refl _ _) nq))
              clear PR z c0 c1 c2 f1 f2 M
              generalize wr.drewN nq = wm at *
              obtain ⟨z, c0, c1, c2, f1, f2⟩ := PM.out.2.facts
              have PF := Lib.hid (PM.out.fail true)
              go_wp2_with fail
              go_ret
              exact ⟨⟨_, rfl, by rw [HV.out.1]; intro h; cases h⟩, by rw [HV.out.1, HV.out.2]; exact PF.out⟩
            | false =>
              have L65 := Lib.hid (fun W => digit_q (s[r]).toNat false (by rw [HC.out]; exact h65) W)
              have hu : ch s r = 95 := by
                rcases Nat.lt_or_ge (ch s r) 95 with h | h
                · exact absurd (ins_no h64 h65 (by omega)) (by rw [HIN.out]; simp)
                · rcases Nat.eq_or_lt_of_le h with h | h
                  · exact h.symm
                  · exact absurd (ins_no h64 h65 (by omega)) (by rw [HIN.out]; simp)
              have q2 : (((s[r]).toNat : Int) == 95) = true := by rw [HC.out, hu]; rfl
              clear h64 h65 hu
              go_wp2_with fail
              go_quiet ((first | (go_at_call 69; with_reducible exact Calls.quiet_of (M.out _)) | (go_at_call 64; with_reducible exact Calls.quiet_of (L64.out _)) | (go_at_call 65; with_reducible exact Calls.quiet_of (L65.out _))))
              have PM := Lib.hid (PR.out.below (bdrewN (Below.refl _ _) nq))
              clear PR z c0 c1 c2 f1 f2 M
              generalize wr.drewN nq = wm at *
              obtain ⟨z, c0, c1, c2, f1, f2⟩ := PM.out.2.facts
              have PF := Lib.hid (PM.out.fail true)
              go_wp2_with fail
              go_ret
              exact ⟨⟨_, rfl, by rw [HV.out.1]; intro h; cases h⟩, by rw [HV.out.1, HV.out.2]; exact PF.out⟩
        · have HS2 := Lib.hid ((labF_1 (f := f') (by omega) HIN.out).symm.trans HS.out)
          have W1 : IntKind.i64.wrap ((r : Int) - (p : Int)) = (r : Int) - (p : Int) := by simp [IntKind.wrap, IntKind.bits, IntKind.signed]; omega
          have q1 : ((r : Int) - (p : Int) == 32) = false := by simp; omega
          have HI2 : Hid (∀ j, q ≤ j → j < r + 1 → insB (ch s j) = true) := Lib.hid fun j h1 h2 => by
            by_cases hj : j = r
            · subst hj; exact HIN.out
            · exact HI.out j h1 (by omega)
          clear HS HI
          cases h64 : letB (ch s r) with
          | true =>
            have L64 := Lib.hid (fun W => letter_q (s[r]).toNat true (by rw [HC.out]; exact h64) W)
            clear h64
            go_wp2_with fail
            go_quiet ((first | (go_at_call 69; with_reducible exact Calls.quiet_of (M.out _)) | (go_at_call 64; with_reducible exact Calls.quiet_of (L64.out _)) | (go_at_call 65; with_reducible exact Calls.quiet_of (L65.out _))))
            have PM := Lib.hid (PR.out.below (bdrewN (Below.refl _ _) nq))
            clear PR z c0 c1 c2 f1 f2 M
            generalize wr.drewN nq = wm at *
            obtain ⟨z, c0, c1, c2, f1, f2⟩ := PM.out.2.facts
            have P6 : Hid (RqP g s (r + 1) false w (wm.setCell ⟨g, 1, none⟩ (.int .i64 ((r : Int) + 1)))) := Lib.hid (PM.out.step (by omega))
            go_wp2_with fail
            go_roundw
            case rel => exact ⟨f', r + 1, by omega, by omega, by omega, by omega, by omega, HS2, HI2, P6⟩
            case measure => have m1 := P6.out.2.facts.2.2.1; simp [intOf, m0, m1]; omega
          | false =>
            have L64 := Lib.hid (fun W => letter_q (s[r]).toNat false (by rw [HC.out]; exact h64) W)
            cases h65 : digB (ch s r) with
            | true =>
              have L65 := Lib.hid (fun W => digit_q (s[r]).toNat true (by rw [HC.out]; exact h65) W)
              clear h64 h65
              go_wp2_with fail
              go_quiet ((first | (go_at_call 69; with_reducible exact Calls.quiet_of (M.out _)) | (go_at_call 64; with_reducible exact Calls.quiet_of (L64.out _)) | (go_at_call 65; with_reducible exact Calls.quiet_of (L65.out _))))
              have PM := Lib.hid (PR.out.below (bdrewN (Below.refl _ _) nq))
              clear PR z c0 c1 c2 f1 f2 M
              generalize wr.drewN nq = wm at *
              obtain ⟨z, c0, c1, c2, f1, f2⟩ := PM.out.2.facts
              have P6 : Hid (RqP g s (r + 1) false w (wm.setCell ⟨g, 1, none⟩ (.int .i64 ((r : Int) + 1)))) := Lib.hid (PM.out.step (by omega))
              go_wp2_with fail
              go_roundw
              case rel => exact ⟨f', r + 1, by omega, by omega, by omega, by omega, by omega, HS2, HI2, P6⟩
              case measure => have m1 := P6.out.2.facts.2.2.1; simp [intOf, m0, m1]; omega
            | false =>
              have L65 := Lib.hid (fun W => digit_q (s[r]).toNat false (by rw [HC.out]; exact h65) W)
              have hu : ch s r = 95 := by
                rcases Nat.lt_or_ge (ch s r) 95 with h | h
                · exact absurd (ins_no h64 h65 (by omega)) (by rw [HIN.out]; simp)
                · rcases Nat.eq_or_lt_of_le h with h | h
                  · exact h.symm
                  · exact absurd (ins_no h64 h65 (by omega)) (by rw [HIN.out]; simp)
              have q2 : (((s[r]).toNat : Int) == 95) = true := by rw [HC.out, hu]; rfl
              clear h64 h65 hu
              go_wp2_with fail
              go_quiet ((first | (go_at_call 69; with_reducible exact Calls.quiet_of (M.out _)) | (go_at_call 64; with_reducible exact Calls.quiet_of (L64.out _)) | (go_at_call 65; with_reducible exact Calls.quiet_of (L65.out _))))
              have PM := Lib.hid (PR.out.below (bdrewN (Below.refl _ _) nq))
              clear PR z c0 c1 c2 f1 f2 M
              generalize wr.drewN nq = wm at *
              obtain ⟨z, c0, c1, c2, f1, f2⟩ := PM.out.2.facts
              have P6 : Hid (RqP g s (r + 1) false w (wm.setCell ⟨g, 1, none⟩ (.int .i64 ((r : Int) + 1)))) := Lib.hid (PM.out.step (by omega))
              go_wp2_with fail
              go_roundw
              case rel => exact ⟨f', r + 1, by omega, by omega, by omega, by omega, by omega, HS2, HI2, P6⟩
              case measure => have m1 := P6.out.2.facts.2.2.1; simp [intOf, m0, m1]; omega
      | false =>
        have HF2 : Hid (labF s p (s.size + 1) (q) = r) := Lib.hid (by rw [HF.out, ← HS.out, labF_2 (by rw [hi]; simp)])
        have HV := Lib.hid ((labX_4 HT.out HL.out HF2.out hi).symm.trans HR.out)
        have hqr : q < r := by
          rcases Nat.lt_or_ge (q) r with h | h
          · exact h
          · have : r = q := by omega
            subst this
            exact absurd (ins_let HL.out) (by rw [hi]; simp)
        have HID := Lib.hid (id_run s p (q) r HQ.out hr4 hr2 hqr HL.out HI.out)
        obtain ⟨E, hE⟩ : ∃ E, s.extract p r = E := ⟨_, rfl⟩
        rw [hE] at HV HID
        have HE := Lib.hid hE
        have HIN := Lib.hid hi
        clear hi hE HF2 HR HS HT HL HF HI
        by_cases he : s.size = r
        · have M := Lib.hid (more_q PR.out.2 false (by simp; omega))
          clear he
          go_wp2_with fail
          go_quiet ((first | (go_at_call 69; with_reducible exact Calls.quiet_of (M.out _)) | (go_at_call 64; with_reducible exact Calls.quiet_of (L64.out _)) | (go_at_call 65; with_reducible exact Calls.quiet_of (L65.out _))))
          have PM := Lib.hid (PR.out.below (bdrewN (Below.refl _ _) nq))
          clear PR z c0 c1 c2 f1 f2 M
          generalize wr.drewN nq = wm at *
          obtain ⟨z, c0, c1, c2, f1, f2⟩ := PM.out.2.facts
          go_wp2_with fail
          go_still_tail 10, (by kernel_rfl)
          change wpList _ _ _ _ _ wm.drew
          have PK := Lib.hid (PM.out.below (Below.refl _ _).drew)
          clear PM z c0 c1 c2 f1 f2
          generalize wm.drew = wk at *
          cases hr : resB E with
          | true =>
            have CW := Lib.hid (rword_at E true hr)
            rw [HID.out, hr] at HV
            clear hr HID
            go_wp2_with fail
            try rw [HE.out]
            refine (CW.out _).mono ?_
            rintro e wv ⟨rfl, hbv⟩
            have PV := Lib.hid (PK.out.below hbv)
            clear hbv PK
            obtain ⟨z, c0, c1, c2, f1, f2⟩ := PV.out.2.facts
            have PF := Lib.hid (PV.out.fail true)
            go_wp2_with fail
            go_ret
            exact ⟨⟨_, rfl, by rw [← HV.out]; intro h; cases h⟩, by rw [← HV.out]; exact PF.out⟩
          | false =>
            have CW := Lib.hid (rword_at E false hr)
            rw [HID.out, hr] at HV
            clear hr HID
            go_wp2_with fail
            try rw [HE.out]
            refine (CW.out _).mono ?_
            rintro e wv ⟨rfl, hbv⟩
            have PV := Lib.hid (PK.out.below hbv)
            clear hbv PK
            obtain ⟨z, c0, c1, c2, f1, f2⟩ := PV.out.2.facts
            go_wp2_with fail
            go_quiet (fail)
            have PF := Lib.hid (PV.out.below (bdrewN (Below.refl _ _) nq))
            rw [HE.out]
            go_wp2_with fail
            go_ret
            exact ⟨⟨_, rfl, by rw [← HV.out]; intro _; rfl⟩, by rw [← HV.out]; exact PF.out⟩
        · have hrl : r < s.size := by omega
          have M := Lib.hid (more_q PR.out.2 true (by simp; omega))
          have HC := Lib.hid (ch_at s r hrl)
          have hl0 : letB (ch s r) = false := by cases h : letB (ch s r) with
            | false => rfl
            | true => exact absurd (ins_let h) (by rw [HIN.out]; simp)
          have hd0 : digB (ch s r) = false := by cases h : digB (ch s r) with
            | false => rfl
            | true => exact absurd (ins_dig h) (by rw [HIN.out]; simp)
          have hu0 : ch s r ≠ 95 := fun h => absurd (ins_und h) (by rw [HIN.out]; simp)
          have L64 := Lib.hid (fun W => letter_q (s[r]).toNat false (by rw [HC.out]; exact hl0) W)
          have L65 := Lib.hid (fun W => digit_q (s[r]).toNat false (by rw [HC.out]; exact hd0) W)
          have q2 : (((s[r]).toNat : Int) == 95) = false := by rw [HC.out]; simp; omega
          clear hl0 hd0 hu0 he
          go_wp2_with fail
          go_quiet ((first | (go_at_call 69; with_reducible exact Calls.quiet_of (M.out _)) | (go_at_call 64; with_reducible exact Calls.quiet_of (L64.out _)) | (go_at_call 65; with_reducible exact Calls.quiet_of (L65.out _))))
          have PM := Lib.hid (PR.out.below (bdrewN (Below.refl _ _) nq))
          clear PR z c0 c1 c2 f1 f2 M
          generalize wr.drewN nq = wm at *
          obtain ⟨z, c0, c1, c2, f1, f2⟩ := PM.out.2.facts
          go_wp2_with fail
          go_still_tail 10, (by kernel_rfl)
          change wpList _ _ _ _ _ wm.drew
          have PK := Lib.hid (PM.out.below (Below.refl _ _).drew)
          clear PM z c0 c1 c2 f1 f2
          generalize wm.drew = wk at *
          cases hr : resB E with
          | true =>
            have CW := Lib.hid (rword_at E true hr)
            rw [HID.out, hr] at HV
            clear hr HID
            go_wp2_with fail
            try rw [HE.out]
            refine (CW.out _).mono ?_
            rintro e wv ⟨rfl, hbv⟩
            have PV := Lib.hid (PK.out.below hbv)
            clear hbv PK
            obtain ⟨z, c0, c1, c2, f1, f2⟩ := PV.out.2.facts
            have PF := Lib.hid (PV.out.fail true)
            go_wp2_with fail
            go_ret
            exact ⟨⟨_, rfl, by rw [← HV.out]; intro h; cases h⟩, by rw [← HV.out]; exact PF.out⟩
          | false =>
            have CW := Lib.hid (rword_at E false hr)
            rw [HID.out, hr] at HV
            clear hr HID
            go_wp2_with fail
            try rw [HE.out]
            refine (CW.out _).mono ?_
            rintro e wv ⟨rfl, hbv⟩
            have PV := Lib.hid (PK.out.below hbv)
            clear hbv PK
            obtain ⟨z, c0, c1, c2, f1, f2⟩ := PV.out.2.facts
            go_wp2_with fail
            go_quiet (fail)
            have PF := Lib.hid (PV.out.below (bdrewN (Below.refl _ _) nq))
            rw [HE.out]
            go_wp2_with fail
            go_ret
            exact ⟨⟨_, rfl, by rw [← HV.out]; intro _; rfl⟩, by rw [← HV.out]; exact PF.out⟩
end Go.Proofs.YtaocgibfabofhaaDoor
