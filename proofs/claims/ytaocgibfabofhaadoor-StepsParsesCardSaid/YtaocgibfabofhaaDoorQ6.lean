/-
  The specification's reader: a label in quotes, behind the first one. Condition: the text has at most 400 bytes.
-/
import Derived.Test.YtaocgibfabofhaaDoorQ5
import Derived.Test.YtaocgibfabofhaaDoorM5
import Derived.Test.YtaocgibfabofhaaDoorRF
namespace Go.Proofs.YtaocgibfabofhaaDoor
open Go.RowKit
set_option linter.unusedSimpArgs false
set_option linter.unusedVariables false
/-- the byte that stands at q, plain or as an escape -/
def chB (s : ByteArray) (q : Nat) : UInt8 := if ch s q = 92 then escB s (q + 1) else UInt8.ofNat (ch s q)
theorem chunk_is {s : ByteArray} {q : Nat} (h34 : ch s q ≠ 34) (h : (chrS s q).1 = true) : dr s q = wrB (chB s q) ++ dr s (chrS s q).2 := by
  by_cases hlo : ch s q < 32 ∨ 126 < ch s q
  · rw [chrS_1 hlo] at h; cases h
  have l0 := ch_in (s := s) (p := q) (by omega)
  by_cases h92 : ch s q = 92
  · rw [chrS_3 h92] at h ⊢
    have hB : chB s q = escB s (q + 1) := by unfold chB; rw [if_pos h92]
    rw [hB]
    by_cases hs : ch s (q + 1) = 34 ∨ ch s (q + 1) = 92 ∨ ch s (q + 1) = 110 ∨ ch s (q + 1) = 116 ∨ ch s (q + 1) = 114
    · rw [escS_1 hs]
      rcases hs with hs | hs | hs | hs | hs
      · rw [show escB s (q + 1) = 34 by unfold escB; simp [hs]]; exact esc_inv 34 (by decide +kernel) h92 hs (by omega) (by omega)
      · rw [show escB s (q + 1) = 92 by unfold escB; simp [hs]]; exact esc_inv 92 (by decide +kernel) h92 hs (by omega) (by omega)
      · rw [show escB s (q + 1) = 10 by unfold escB; simp [hs]]; exact esc_inv 10 (by decide +kernel) h92 hs (by omega) (by omega)
      · rw [show escB s (q + 1) = 9 by unfold escB; simp [hs]]; exact esc_inv 9 (by decide +kernel) h92 hs (by omega) (by omega)
      · rw [show escB s (q + 1) = 13 by unfold escB; simp [hs]]; exact esc_inv 13 (by decide +kernel) h92 hs (by omega) (by omega)
    · by_cases h120 : ch s (q + 1) = 120
      · have hE : escB s (q + 1) = UInt8.ofNat (16 * (digV (ch s (q + 2))).toNat + (digV (ch s (q + 2 + 1))).toNat) := by
          unfold escB; simp [h120]
        rw [hE]
        rw [escS_2 h120] at h ⊢
        rw [show q + 1 + 1 = q + 2 by omega] at h ⊢
        by_cases hb : badHi (digV (ch s (q + 2))) = true
        · rw [digS_1 hb] at h; cases h
        by_cases hl : digV (ch s (q + 2 + 1)) < 0
        · rw [digS_2 hb hl] at h; cases h
        by_cases hw : wrt (16 * (digV (ch s (q + 2))).toNat + (digV (ch s (q + 2 + 1))).toNat) = true
        · rw [digS_3 hb hl hw]
          have hx0 : ¬ digV (ch s (q + 2)) < 0 := fun h => hb (by unfold badHi; exact decide_eq_true (.inl h))
          have l1 := ch_in (s := s) (p := q + 1) (by omega)
          have l2 := digV_in hx0
          have l3 := digV_in hl
          have d1 := digV_hi (ch s (q + 2))
          have d2 := digV_hi (ch s (q + 2 + 1))
          obtain ⟨x, hx⟩ := Int.eq_ofNat_of_zero_le (show 0 ≤ digV (ch s (q + 2)) by omega)
          obtain ⟨y, hy⟩ := Int.eq_ofNat_of_zero_le (show 0 ≤ digV (ch s (q + 2 + 1)) by omega)
          have ex := digV_ch _ (ch_lt s (q + 2)) x hx
          have ey := digV_ch _ (ch_lt s (q + 2 + 1)) y hy
          rw [hx, hy] at hw ⊢
          simp only [Int.toNat_natCast] at hw ⊢
          rw [hx] at d1
          rw [hy] at d2
          have hwb := (wrB_iff ⟨16 * x + y, by omega⟩).1 hw
          have e1 : (16 * x + y) / 16 = x := by omega
          have e2 : (16 * x + y) % 16 = y := by omega
          simp only [e1, e2] at hwb
          rw [hwb, dr_cons h92 l0 (by omega), dr_cons h120 l1 (by omega), dr_cons (q := q + 1 + 1) (n := ch s (q + 2)) rfl l2 (ch_lt s _), dr_cons (q := q + 1 + 1 + 1) (n := ch s (q + 2 + 1)) rfl l3 (ch_lt s _), ex, ey]
          rfl
        · rw [digS_4 hb hl hw] at h; cases h
      · rw [escS_3 hs h120] at h; cases h
  · have hB : chB s q = UInt8.ofNat (ch s q) := by unfold chB; rw [if_neg h92]
    rw [hB]
    rw [chrS_2 hlo h92] at h ⊢
    have hlt := ch_lt s q
    have e : (UInt8.ofNat (ch s q)).toNat = ch s q := by simp; omega
    rw [wr_c (by rw [e]; exact h34) (by rw [e]; exact h92) (by rw [e]; omega), dr_cons rfl l0 hlt]
    rfl
/-- what has been read of the label behind the quote at p, up to q -/
def Acc (s : ByteArray) (p q : Nat) (l : List UInt8) : Prop := dr s (p + 1) = body l ++ dr s q
theorem Acc.step {s : ByteArray} {p q : Nat} {l : List UInt8} (h : Acc s p q l) (h34 : ch s q ≠ 34) (h1 : (chrS s q).1 = true) : Acc s p (chrS s q).2 (l ++ [chB s q]) := by
  unfold Acc at h ⊢
  rw [h, chunk_is h34 h1, body_snoc, List.append_assoc]
theorem Acc.len {s : ByteArray} {p q : Nat} {l : List UInt8} (h : Acc s p q l) : l.length ≤ s.size := by
  unfold Acc at h
  have := congrArg List.length h
  rw [List.length_append, dr_len, dr_len] at this
  have := body_ge l
  omega
theorem Acc.val {s : ByteArray} {p q : Nat} {l : List UInt8} (h : Acc s p q l) (hs : s.size ≤ 400) (hc : ch s p = 34) (c34 : ch s q = 34) (hpq : p < q) : quoV s p q = ⟨l.toArray⟩ := by
  have hp := ch_in (s := s) (p := p) (by omega)
  have lq := ch_in (s := s) (p := q) (by omega)
  have e0 : dr s p = UInt8.ofNat 34 :: dr s (p + 1) := dr_cons (n := 34) hc hp (by decide)
  have e1 : dr s q = UInt8.ofNat 34 :: dr s (q + 1) := dr_cons (n := 34) c34 lq (by decide)
  have hln := h.len
  unfold Acc at h
  have hb : (body l).length = q - (p + 1) := by
    have := congrArg List.length h
    rw [List.length_append, dr_len, dr_len] at this; omega
  have eall : dr s p = quoteL l ++ dr s (q + 1) := by
    rw [e0, h, e1]; unfold quoteL; simp
  have hx := dr_ext (by omega) eall (by rw [quoteL_len]; omega)
  unfold quoV
  rw [hx, unq_quote _ (by omega)]
set_option maxRecDepth 100000 in
set_option maxHeartbeats 8000000 in
theorem rquo_any (g : Nat) (s : ByteArray) (p : Nat) (w : World) (h : Rq w g s (p + 1) false) (hc : ch s p = 34) (hs : s.size ≤ 400) (R : Bool × ByteArray × Nat) (HR : Hid (quoS s p = R)) :
    Calls Tryd.prog 70 #[.pointer (some ⟨g, 0, none⟩)] w fun e w' => (∃ v, e = .returned (.string v) ∧ (R.1 = true → v = R.2.1)) ∧ RqP g s R.2.2 (!R.1) w w' := by
  have P := Lib.hid (RqP.start h)
  have hp := ch_in (s := s) (p := p) (by omega)
  have HC := Lib.hid hc
  obtain ⟨F, hF⟩ : ∃ F, F = quoF s s.size (p + 1) := ⟨_, rfl⟩
  have HF : Hid (quoF s s.size (p + 1) = F) := Lib.hid hF.symm
  have Q1 := Lib.hid (fun (q : Nat) (h : F = (false, q)) => (quoS_1 q (h.symm.trans hF)).symm.trans HR.out)
  have Q2 := Lib.hid (fun (q : Nat) (h : F = (true, q)) h' => (quoS_2 q (h.symm.trans hF) h').symm.trans HR.out)
  have Q3 := Lib.hid (fun (q : Nat) (h : F = (true, q)) h' => (quoS_3 q (h.symm.trans hF) h').symm.trans HR.out)
  clear hF h hc HR
  go_enter Tryd.func70, Tryd.ntmps70
  go_wp2_with fail
  go_loopw [3, 4] (fun v _ wr => ∃ f q l x, v = .string l ∧ q ≤ s.size ∧ p < q ∧ Hid (RqP g s q x w wr) ∧ (x = false → ∃ acc : List UInt8, l = ⟨acc.toArray⟩ ∧ acc.length ≤ 400 ∧ s.size ≤ q + f ∧ Hid (quoF s f q = F) ∧ Hid (Acc s p q acc)) ∧ (x = true → F = (false, q))) (fun _ _ wr => s.size - (intOf ((wr.cell? ⟨g, 1, none⟩).getD undef)).toNat)
  case atStart => exact ⟨s.size, p + 1, _, false, rfl, by omega, by omega, P, fun _ => ⟨[], rfl, by simp, by omega, HF, Lib.hid rfl⟩, fun h => by cases h⟩
  case round =>
    obtain ⟨f, q, lv, x, rfl, hq2, hpq, PR, hA, hB⟩ := hrel
    clear HF P
    cases x with
    | true =>
      clear hA
      have hF := hB rfl
      clear hB
      have HQ := Lib.hid (Q1.out q hF)
      clear hF Q1 Q2 Q3
      have M := Lib.hid (more_r PR.out.2 false (by simp))
      go_wp2_with fail
      refine (M.out).mono ?_
      rintro e w1 ⟨rfl, hb1⟩
      have P1 := Lib.hid (PR.out.below hb1)
      clear hb1 M
      obtain ⟨z, c0, c1, c2, f1, f2⟩ := P1.out.2.facts
      have PF := Lib.hid (P1.out.fail true)
      go_wp2_with fail
      go_ret
      exact ⟨⟨_, rfl, by rw [← HQ.out]; intro h; cases h⟩, by rw [← HQ.out]; exact PF.out⟩
    | false =>
      clear hB
      obtain ⟨acc, rfl, hlen, hf, HS, HA⟩ := hA rfl
      clear hA
      by_cases hend : q = s.size
      · have e0 := ch_end s q (by omega)
        have M := Lib.hid (more_r PR.out.2 false (by simp; omega))
        have HQ : Hid ((false, (⟨#[]⟩ : ByteArray), q) = R) := by
          refine Lib.hid (Q1.out q ?_)
          rw [← HS.out]
          cases f with
          | zero => rfl
          | succ f => rw [quoF_3 (by omega) (by rw [chrS_1 (by omega)]), chrS_1 (by omega)]
        clear Q1 Q2 Q3 e0 hend HS
        go_wp2_with fail
        refine (M.out).mono ?_
        rintro e w1 ⟨rfl, hb1⟩
        have P1 := Lib.hid (PR.out.below hb1)
        clear hb1 M
        obtain ⟨z, c0, c1, c2, f1, f2⟩ := P1.out.2.facts
        have PF := Lib.hid (P1.out.fail true)
        go_wp2_with fail
        go_ret
        exact ⟨⟨_, rfl, by rw [← HQ.out]; intro h; cases h⟩, by rw [← HQ.out]; exact PF.out⟩
      have hlt : q < s.size := by omega
      obtain ⟨f', rfl⟩ : ∃ f', f = f' + 1 := ⟨f - 1, by omega⟩
      have M := Lib.hid (more_r PR.out.2 true (by simp; omega))
      have HV := Lib.hid (ch_at s q hlt)
      have hAz : (⟨acc.toArray⟩ : ByteArray).size ≤ 400 := by show acc.toArray.size ≤ _; simpa using hlen
      by_cases h34 : ch s q = 34
      · have HX := Lib.hid (HA.out.val hs HC.out h34 hpq)
        have HFt := Lib.hid (HS.out.symm.trans (quoF_1 h34))
        have q1 : ((s[q].toNat : Int) == 34) = true := by rw [HV.out]; simp [h34]
        clear HS HA h34 hend
        generalize (⟨acc.toArray⟩ : ByteArray) = V at *
        by_cases hz : V.size = 0
        · obtain ⟨e1, e2⟩ := empty_facts V hz
          have HQ := Lib.hid (Q2.out q HFt.out (.inl (by rw [HX.out]; exact hz)))
          clear Q1 Q2 Q3 hz
          go_wp2_with fail
          refine (M.out).mono ?_
          rintro e w1 ⟨rfl, hb1⟩
          have P1 := Lib.hid (PR.out.below hb1)
          clear hb1 M
          obtain ⟨z, c0, c1, c2, f1, f2⟩ := P1.out.2.facts
          go_wp2_with fail
          go_quiet (fail)
          have PB := Lib.hid (P1.out.below (bdrewN (Below.refl _ _) nq))
          clear P1 z c0 c1 c2 f1 f2
          generalize w1.drewN nq = w1b at *
          have P1 := PB
          clear PB
          obtain ⟨z, c0, c1, c2, f1, f2⟩ := P1.out.2.facts
          have PF := Lib.hid (P1.out.fail true)
          go_wp2_with fail
          go_ret
          exact ⟨⟨_, rfl, by rw [← HQ.out]; intro h; cases h⟩, by rw [← HQ.out]; exact PF.out⟩
        · obtain ⟨e1, e2⟩ := str_ne V hz
          cases hid : identB V with
          | true =>
            have HQ := Lib.hid (Q2.out q HFt.out (.inr (by rw [HX.out]; exact hid)))
            have CI := Lib.hid (rident_at V true hid)
            clear Q1 Q2 Q3 hz hid
            go_wp2_with fail
            refine (M.out).mono ?_
            rintro e w1 ⟨rfl, hb1⟩
            have P1 := Lib.hid (PR.out.below hb1)
            clear hb1 M
            obtain ⟨z, c0, c1, c2, f1, f2⟩ := P1.out.2.facts
            go_wp2_with fail
            go_quiet (fail)
            have PB := Lib.hid (P1.out.below (bdrewN (Below.refl _ _) nq))
            clear P1 z c0 c1 c2 f1 f2
            generalize w1.drewN nq = w1b at *
            have P1 := PB
            clear PB
            obtain ⟨z, c0, c1, c2, f1, f2⟩ := P1.out.2.facts
            go_wp2_with fail
            refine (CI.out _).mono ?_
            rintro e w2 ⟨rfl, hb2⟩
            have P2 := Lib.hid (P1.out.below hb2)
            clear hb2 P1 z c0 c1 c2 f1 f2
            obtain ⟨z, c0, c1, c2, f1, f2⟩ := P2.out.2.facts
            have PF := Lib.hid (P2.out.fail true)
            go_wp2_with fail
            go_ret
            exact ⟨⟨_, rfl, by rw [← HQ.out]; intro h; cases h⟩, by rw [← HQ.out]; exact PF.out⟩
          | false =>
            have HQ := Lib.hid (Q3.out q HFt.out (by rw [HX.out, hid]; simpa using hz))
            have CI := Lib.hid (rident_at V false hid)
            clear Q1 Q2 Q3 hz hid
            go_wp2_with fail
            refine (M.out).mono ?_
            rintro e w1 ⟨rfl, hb1⟩
            have P1 := Lib.hid (PR.out.below hb1)
            clear hb1 M
            obtain ⟨z, c0, c1, c2, f1, f2⟩ := P1.out.2.facts
            go_wp2_with fail
            go_quiet (fail)
            have PB := Lib.hid (P1.out.below (bdrewN (Below.refl _ _) nq))
            clear P1 z c0 c1 c2 f1 f2
            generalize w1.drewN nq = w1b at *
            have P1 := PB
            clear PB
            obtain ⟨z, c0, c1, c2, f1, f2⟩ := P1.out.2.facts
            go_wp2_with fail
            refine (CI.out _).mono ?_
            rintro e w2 ⟨rfl, hb2⟩
            have P2 := Lib.hid (P1.out.below hb2)
            clear hb2 P1 z c0 c1 c2 f1 f2
            obtain ⟨z, c0, c1, c2, f1, f2⟩ := P2.out.2.facts
            have PF : Hid (RqP g s (q + 1) false w (w2.setCell ⟨g, 1, none⟩ (.int .i64 ((q : Int) + 1)))) := Lib.hid (P2.out.step (by omega))
            go_wp2_with fail
            go_ret
            exact ⟨⟨_, rfl, by rw [← HQ.out]; intro _; exact HX.out.symm⟩, by rw [← HQ.out]; exact PF.out⟩
      · have q1 : ((s[q].toNat : Int) == 34) = false := by rw [HV.out]; simp; omega
        by_cases hlo : ch s q < 32 ∨ 126 < ch s q
        · have HQ : Hid ((false, (⟨#[]⟩ : ByteArray), q) = R) := Lib.hid (Q1.out q (by rw [← HS.out, quoF_3 h34 (by rw [chrS_1 hlo]), chrS_1 hlo]))
          have HX := HV.out
          by_cases hlo1 : ch s q < 32
          · have q2 : decide ((s[q].toNat : Int) < 32) = true := decide_eq_true (by omega)
            clear Q1 Q2 Q3 hlo hlo1 HX HS h34 hend
            go_wp2_with fail
            refine (M.out).mono ?_
            rintro e w1 ⟨rfl, hb1⟩
            have P1 := Lib.hid (PR.out.below hb1)
            clear hb1 M
            obtain ⟨z, c0, c1, c2, f1, f2⟩ := P1.out.2.facts
            go_wp2_with fail
            go_quiet (fail)
            have PB := Lib.hid (P1.out.below (bdrewN (Below.refl _ _) nq))
            clear P1 z c0 c1 c2 f1 f2
            generalize w1.drewN nq = w1b at *
            have P1 := PB
            clear PB
            obtain ⟨z, c0, c1, c2, f1, f2⟩ := P1.out.2.facts
            have PF := Lib.hid (P1.out.fail true)
            go_wp2_with fail
            go_ret
            exact ⟨⟨_, rfl, by rw [← HQ.out]; intro h; cases h⟩, by rw [← HQ.out]; exact PF.out⟩
          · have q2 : decide ((s[q].toNat : Int) < 32) = false := decide_eq_false (by omega)
            have q3 : decide ((126 : Int) < (s[q].toNat : Int)) = true := decide_eq_true (by omega)
            clear Q1 Q2 Q3 hlo hlo1 HX HS h34 hend
            go_wp2_with fail
            refine (M.out).mono ?_
            rintro e w1 ⟨rfl, hb1⟩
            have P1 := Lib.hid (PR.out.below hb1)
            clear hb1 M
            obtain ⟨z, c0, c1, c2, f1, f2⟩ := P1.out.2.facts
            go_wp2_with fail
            go_quiet (fail)
            have PB := Lib.hid (P1.out.below (bdrewN (Below.refl _ _) nq))
            clear P1 z c0 c1 c2 f1 f2
            generalize w1.drewN nq = w1b at *
            have P1 := PB
            clear PB
            obtain ⟨z, c0, c1, c2, f1, f2⟩ := P1.out.2.facts
            have PF := Lib.hid (P1.out.fail true)
            go_wp2_with fail
            go_ret
            exact ⟨⟨_, rfl, by rw [← HQ.out]; intro h; cases h⟩, by rw [← HQ.out]; exact PF.out⟩
        · have HX := HV.out
          have q2 : decide ((s[q].toNat : Int) < 32) = false := decide_eq_false (by omega)
          have q3 : decide ((126 : Int) < (s[q].toNat : Int)) = false := decide_eq_false (by omega)
          clear HX
          by_cases h92 : ch s q = 92
          · have q4 : ((s[q].toNat : Int) == 92) = true := by rw [HV.out]; simp [h92]
            have E := Lib.hid (fun w h => resc_any g s (q + 1) w h (by omega) (by omega))
            have hch := chrS_3 h92
            have HG := Lib.hid (escS_go (s := s) (p := q + 1) (by omega))
            cases hE : (escS s (q + 1)).1 with
            | false =>
              have HN := Lib.hid (HS.out.symm.trans (quoF_3 h34 (by rw [hch, hE])))
              rw [hch] at HN
              rw [hE] at E
              generalize (escS s (q + 1)).2 = q' at *
              clear HS HA hch hE h92 hlo h34 hend HV
              go_wp2_with fail
              refine (M.out).mono ?_
              rintro e w1 ⟨rfl, hb1⟩
              have P1 := Lib.hid (PR.out.below hb1)
              clear hb1 M
              obtain ⟨z, c0, c1, c2, f1, f2⟩ := P1.out.2.facts
              go_wp2_with fail
              go_quiet (fail)
              have PB := Lib.hid (P1.out.below (bdrewN (Below.refl _ _) nq))
              clear P1 z c0 c1 c2 f1 f2
              generalize w1.drewN nq = w1b at *
              have P1 := PB
              clear PB
              obtain ⟨z, c0, c1, c2, f1, f2⟩ := P1.out.2.facts
              have P2 : Hid (RqP g s (q + 1) false w (w1b.setCell ⟨g, 1, none⟩ (.int .i64 ((q : Int) + 1)))) := Lib.hid (P1.out.step (by omega))
              have m0 := PR.out.2.facts.2.2.1
              go_wp2_with fail
              generalize w1b.setCell ⟨g, 1, none⟩ (.int .i64 ((q : Int) + 1)) = w2 at *
              refine (E.out _ P2.out.2).mono ?_
              rintro e w3 ⟨⟨v, rfl, hvz, hv⟩, hb3⟩
              have P3 := Lib.hid (P2.out.trans hb3)
              have hAz3 : ¬ (9223372036854775807 < (⟨acc.toArray⟩ : ByteArray).size + v.size) := by omega
              clear hv hvz hb3 z c0 c1 c2 f1 f2 P1
              go_wp2_with fail
              go_roundw
              case rel => exact ⟨0, q', _, true, rfl, by have := HG.out; omega, by have := HG.out; omega, P3, fun h => (by cases h), fun _ => HN.out⟩
              case measure => have m1 := P3.out.2.facts.2.2.1; have := HG.out; simp [intOf, m0, m1]; omega
            | true =>
              have HN := Lib.hid ((quoF_2 h34 (by rw [hch, hE])).symm.trans HS.out)
              have HA2 := Lib.hid (HA.out.step h34 (by rw [hch, hE]))
              have hB : chB s q = escB s (q + 1) := by unfold chB; rw [if_pos h92]
              rw [hch] at HN HA2
              rw [hB] at HA2
              rw [hE] at E
              have hl2 := HA2.out.len
              generalize (escS s (q + 1)).2 = q' at *
              generalize escB s (q + 1) = cc at *
              have HP := Lib.hid (app_lists acc [cc])
              have hAz2 : ¬ (9223372036854775807 < (⟨acc.toArray⟩ : ByteArray).size + (⟨#[cc]⟩ : ByteArray).size) := by show ¬ (9223372036854775807 < _ + 1); omega
              have HL2 := Lib.hid hl2
              clear HS HA hch hE h92 hlo h34 hend HV hB hl2
              go_wp2_with fail
              refine (M.out).mono ?_
              rintro e w1 ⟨rfl, hb1⟩
              have P1 := Lib.hid (PR.out.below hb1)
              clear hb1 M
              obtain ⟨z, c0, c1, c2, f1, f2⟩ := P1.out.2.facts
              go_wp2_with fail
              go_quiet (fail)
              have PB := Lib.hid (P1.out.below (bdrewN (Below.refl _ _) nq))
              clear P1 z c0 c1 c2 f1 f2
              generalize w1.drewN nq = w1b at *
              have P1 := PB
              clear PB
              obtain ⟨z, c0, c1, c2, f1, f2⟩ := P1.out.2.facts
              have P2 : Hid (RqP g s (q + 1) false w (w1b.setCell ⟨g, 1, none⟩ (.int .i64 ((q : Int) + 1)))) := Lib.hid (P1.out.step (by omega))
              have m0 := PR.out.2.facts.2.2.1
              go_wp2_with fail
              generalize w1b.setCell ⟨g, 1, none⟩ (.int .i64 ((q : Int) + 1)) = w2 at *
              refine (E.out _ P2.out.2).mono ?_
              rintro e w3 ⟨⟨v, rfl, hvz, hv⟩, hb3⟩
              obtain rfl := hv (by trivial)
              have P3 : Hid (RqP g s q' false w w3) := Lib.hid (P2.out.trans hb3)
              clear hv hvz hb3 z c0 c1 c2 f1 f2 P1
              go_wp2_with fail
              go_roundw
              case rel => exact ⟨f', q', _, false, rfl, by have := HG.out; omega, by have := HG.out; omega, P3, fun _ => ⟨acc ++ [cc], HP.out, by have := HL2.out; omega, by have := HG.out; omega, HN, HA2⟩, fun h => by cases h⟩
              case measure => have m1 := P3.out.2.facts.2.2.1; have := HG.out; simp [intOf, m0, m1]; omega
          · have q4 : ((s[q].toNat : Int) == 92) = false := by rw [HV.out]; simp; omega
            have hch := chrS_2 hlo h92
            have HN := Lib.hid ((quoF_2 h34 (by rw [hch])).symm.trans HS.out)
            have HA2 := Lib.hid (HA.out.step h34 (by rw [hch]))
            have hB : chB s q = s[q] := by unfold chB; rw [if_neg h92, ← HV.out]; simp
            rw [hch] at HN HA2
            rw [hB] at HA2
            have hl2 := HA2.out.len
            have HP := Lib.hid (app_lists acc [s[q]])
            have HL2 := Lib.hid hl2
            have hAz2 : ¬ (9223372036854775807 < (⟨acc.toArray⟩ : ByteArray).size + (⟨#[s[q]]⟩ : ByteArray).size) := by show ¬ (9223372036854775807 < _ + 1); omega
            clear HS HA hch h92 hlo h34 hend HV hB hl2
            go_wp2_with fail
            refine (M.out).mono ?_
            rintro e w1 ⟨rfl, hb1⟩
            have P1 := Lib.hid (PR.out.below hb1)
            clear hb1 M
            obtain ⟨z, c0, c1, c2, f1, f2⟩ := P1.out.2.facts
            go_wp2_with fail
            go_quiet (fail)
            have PB := Lib.hid (P1.out.below (bdrewN (Below.refl _ _) nq))
            clear P1 z c0 c1 c2 f1 f2
            generalize w1.drewN nq = w1b at *
            have P1 := PB
            clear PB
            obtain ⟨z, c0, c1, c2, f1, f2⟩ := P1.out.2.facts
            have P2 : Hid (RqP g s (q + 1) false w (w1b.setCell ⟨g, 1, none⟩ (.int .i64 ((q : Int) + 1)))) := Lib.hid (P1.out.step (by omega))
            have m0 := PR.out.2.facts.2.2.1
            have HC := conv1 (s[q].toNat : Int) s[q] rfl (w1b.setCell ⟨g, 1, none⟩ (.int .i64 ((q : Int) + 1))) w1b.heap.size (by simp)
            have P3 := Lib.hid (P2.out.below ((Below.refl _ _).alloc (by simp) (.cells #[.int .u8 (s[q].toNat : Int)] 5)))
            go_wp2_with fail
            go_roundw
            case rel => exact ⟨f', q + 1, _, false, rfl, by omega, by omega, P3, fun _ => ⟨acc ++ [s[q]], HP.out, by have := HL2.out; omega, by omega, HN, HA2⟩, fun h => by cases h⟩
            case measure => have m1 := P3.out.2.facts.2.2.1; simp [intOf, m0, m1]; omega
end Go.Proofs.YtaocgibfabofhaaDoor
