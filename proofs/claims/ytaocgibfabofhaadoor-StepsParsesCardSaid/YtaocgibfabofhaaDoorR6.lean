/-
  The reader's label: a step with a label. Condition: the reader stands within its text, or at its end.
-/
import Derived.Test.YtaocgibfabofhaaDoorR5
namespace Go.Proofs.YtaocgibfabofhaaDoor
open Go.RowKit
set_option linter.unusedSimpArgs false
set_option linter.unusedVariables false
/-- where the bytes of an identifier end that begins at a -/
def labF (s : ByteArray) (a : Nat) : Nat → Nat → Nat
  | 0, q => q
  | f + 1, q => if q - a < 32 ∧ insB (ch s q) = true then labF s a f (q + 1) else q
theorem labF_1 {s : ByteArray} {a f q : Nat} (h : q - a < 32) (h' : insB (ch s q) = true) : labF s a (f + 1) q = labF s a f (q + 1) := by rw [labF, if_pos ⟨h, h'⟩]
theorem labF_2 {s : ByteArray} {a f q : Nat} (h : ¬ (q - a < 32 ∧ insB (ch s q) = true)) : labF s a (f + 1) q = q := by rw [labF, if_neg h]
theorem ins_in {s : ByteArray} {p : Nat} (h : insB (ch s p) = true) : p < s.size := by
  rcases Nat.lt_or_ge p s.size with h' | h'
  · exact h'
  · rw [ch_end s p h'] at h; exact absurd h (by decide)
theorem labF_go {s : ByteArray} {a : Nat} : ∀ (f q : Nat), q ≤ s.size → q ≤ labF s a f q ∧ labF s a f q ≤ s.size
  | 0, q, h => ⟨Nat.le_refl _, h⟩
  | f + 1, q, h => by
    by_cases hc : q - a < 32 ∧ insB (ch s q) = true
    · rw [labF_1 hc.1 hc.2]
      have := ins_in (s := s) hc.2
      have := labF_go (s := s) (a := a) f (q + 1) (by omega)
      exact ⟨by omega, this.2⟩
    · rw [labF_2 hc]; exact ⟨Nat.le_refl _, h⟩
/-- where the first letter of an identifier at p may stand -/
def labQ (s : ByteArray) (p : Nat) : Nat := if ch s p = 35 ∨ ch s p = 95 then p + 1 else p
def labT (s : ByteArray) (p q : Nat) : Bool × ByteArray × Nat :=
  if letB (ch s q) = true then (identB (s.extract p (labF s p (s.size + 1) q)), s.extract p (labF s p (s.size + 1) q), labF s p (s.size + 1) q) else (false, ⟨#[]⟩, q)
theorem labT_1 {s : ByteArray} {p q : Nat} (h : letB (ch s q) = true) : labT s p q = (identB (s.extract p (labF s p (s.size + 1) q)), s.extract p (labF s p (s.size + 1) q), labF s p (s.size + 1) q) := by unfold labT; rw [if_pos h]
theorem labT_2 {s : ByteArray} {p q : Nat} (h : letB (ch s q) = false) : labT s p q = (false, ⟨#[]⟩, q) := by unfold labT; rw [if_neg (by rw [h]; simp)]
/-- a label at p: whether it is read, the label, and where the reader stands then -/
def labS (s : ByteArray) (p : Nat) : Bool × ByteArray × Nat := if ch s p = 34 then quoS s p else labT s p (labQ s p)
theorem labS_1 {s : ByteArray} {p : Nat} (h : ch s p = 34) : labS s p = quoS s p := by unfold labS; rw [if_pos h]
theorem labS_2 {s : ByteArray} {p : Nat} (h : ch s p = 35 ∨ ch s p = 95) : labS s p = labT s p (p + 1) := by unfold labS; rw [if_neg (by omega)]; unfold labQ; rw [if_pos h]
theorem labS_3 {s : ByteArray} {p : Nat} (h : ch s p ≠ 34) (h' : ¬ (ch s p = 35 ∨ ch s p = 95)) : labS s p = labT s p p := by unfold labS; rw [if_neg h]; unfold labQ; rw [if_neg h']
theorem let_in {s : ByteArray} {p : Nat} (h : letB (ch s p) = true) : p < s.size := by
  rcases Nat.lt_or_ge p s.size with h' | h'
  · exact h'
  · rw [ch_end s p h'] at h; exact absurd h (by decide)
set_option maxRecDepth 100000 in
set_option maxHeartbeats 8000000 in
theorem labelR_any (g : Nat) (s : ByteArray) (p : Nat) (w : World) (h : Rdr w g s (p : Nat)) (hp : p ≤ s.size) (hs : s.size ≤ 65536) :
    Calls Tryd.prog 32 #[.pointer (some ⟨g, 0, none⟩)] w fun e w' => e = .returned (.tuple #[sv (labS s p).2.1 0, .bool (labS s p).1]) ∧ RdP g s ((labS s p).2.2 : Nat) w w' := by
  have C1 := Lib.hid (fun w q => peek_any g s q w)
  have hg := h.facts.1
  have P := Lib.hid ((RdP.start h).below ((Below.refl _ _).alloc (Nat.le_refl _) (.cells #[.string ⟨#[]⟩, .int .i64 0] 37)))
  have B : Hid (Res (w.alloc (.cells #[.string ⟨#[]⟩, .int .i64 0] 37)) w.heap.size) := Lib.hid (World.alloc_heap_new w (.cells #[.string ⟨#[]⟩, .int .i64 0] 37))
  have D0 := Lib.hid (fun w h => C1.out w p h hp hs)
  have DQ := Lib.hid (fun hlt w h => quotedR_any g s p w h hlt hs)
  clear h
  by_cases c34 : ch s p = 34
  · have hlt := ch_in (s := s) (p := p) (by omega)
    rw [labS_1 c34]
    have DQ' := Lib.hid (DQ.out hlt)
    rw [c34] at D0
    generalize quoS s p = R at *
    obtain ⟨r, v, q⟩ := R
    clear c34 DQ
    go_enter Tryd.func32, Tryd.ntmps32
    go_wp2_with fail
    generalize w.alloc (.cells #[.string ⟨#[]⟩, .int .i64 0] 37) = w0 at *
    refine (D0.out _ P.out.2).mono ?_
    rintro e w1 ⟨rfl, hb1⟩
    have P1 := Lib.hid (P.out.below hb1)
    have B1 := Lib.hid (B.out.below hb1)
    clear hb1
    go_wp2_with fail
    refine (DQ'.out _ P1.out.2).mono ?_
    rintro e w2 ⟨rfl, h2⟩
    have P2 := Lib.hid (P1.out.trans h2)
    have B2 := Lib.hid (B1.out.keep h2.1 (by omega))
    clear h2
    obtain ⟨z5, b0, b1, bf0, bf1⟩ := B2.out.facts
    have P6 := Lib.hid ((P2.out.new ⟨w.heap.size, 0, none⟩ (.string v) (Nat.le_refl _) hg).new ⟨w.heap.size, 1, none⟩ (.int .i64 0) (Nat.le_refl _) hg)
    go_wp2_with fail
    refine bodyPost_ret (v := .tuple #[sv v 0, .bool r]) (by simp [results, Tryd.results32, go_sem, z5, b0, b1]) rfl ⟨rfl, P6.out⟩
  have q34 : ((ch s p : Int) == 34) = false := by simp; omega
  clear DQ
  by_cases c35 : ch s p = 35
  · have hlt := ch_in (s := s) (p := p) (by omega)
    rw [labS_2 (.inl c35)]
    generalize hR : labT s p (p + 1) = R
    have HR := Lib.hid hR
    clear hR
    rw [c35] at D0 q34
    have DP := Lib.hid (fun w h => C1.out w (p + 1) h (by omega) hs)
    clear c35
    go_enter Tryd.func32, Tryd.ntmps32
    go_wp2_with fail
    generalize w.alloc (.cells #[.string ⟨#[]⟩, .int .i64 0] 37) = w0 at *
    refine (D0.out _ P.out.2).mono ?_
    rintro e w1 ⟨rfl, hb1⟩
    have P1 := Lib.hid (P.out.below hb1)
    have B1 := Lib.hid (B.out.below hb1)
    clear hb1 P B
    obtain ⟨zz, c0, c1, f1⟩ := P1.out.2.facts
    go_wp2_with fail
    refine (D0.out _ P1.out.2).mono ?_
    rintro e w2 ⟨rfl, hb2⟩
    have P2 := Lib.hid (P1.out.below hb2)
    have B2 := Lib.hid (B1.out.below hb2)
    clear hb2 P1 B1 zz c0 c1 f1
    obtain ⟨zz, c0, c1, f1⟩ := P2.out.2.facts
    have P5 := Lib.hid P2.out.step
    have B5 := Lib.hid (B2.out.set ⟨g, 1, none⟩ (.int .i64 ((p : Int) + 1)) (by show w.heap.size ≠ g; omega))
    cases hl : letB (ch s (p + 1)) with
    | false =>
      have HV := Lib.hid ((labT_2 (p := p) hl).symm.trans HR.out)
      have CL := Lib.hid (sletter_at _ _ hl)
      go_wp2_with fail
      generalize w2.setCell ⟨g, 1, none⟩ (.int .i64 ((p : Int) + 1)) = w5 at *
      clear zz c0 c1 f1
      refine (DP.out _ P5.out.2).mono ?_
      rintro e wy ⟨rfl, hby⟩
      have Py := Lib.hid (P5.out.below hby)
      have By := Lib.hid (B5.out.below hby)
      clear hby
      obtain ⟨z5, b0, b1, bf0, bf1⟩ := By.out.facts
      have P6 := Lib.hid ((Py.out.new ⟨w.heap.size, 0, none⟩ (.string ⟨#[]⟩) (Nat.le_refl _) hg).new ⟨w.heap.size, 1, none⟩ (.int .i64 0) (Nat.le_refl _) hg)
      go_wp2_with fail
      refine (CL.out _).mono ?_
      rintro e wz ⟨rfl, rfl⟩
      go_wp2_with fail
      refine bodyPost_ret (v := .tuple #[sv ⟨#[]⟩ 0, .bool false]) (by simp [results, Tryd.results32, go_sem, z5, b0, b1]) rfl ⟨by rw [← HV.out], by rw [← HV.out]; exact P6.out⟩
    | true =>
      have hT := (labT_1 (p := p) hl).symm.trans HR.out
      have CL := Lib.hid (sletter_at _ _ hl)
      have hql := let_in hl
      generalize hF : labF s p (s.size + 1) (p + 1) = F at *
      have HF := Lib.hid hF
      have HR1 := Lib.hid hT
      clear hF hT hl
      go_wp2_with fail
      generalize w2.setCell ⟨g, 1, none⟩ (.int .i64 ((p : Int) + 1)) = w5 at *
      clear zz c0 c1 f1
      refine (DP.out _ P5.out.2).mono ?_
      rintro e wy ⟨rfl, hby⟩
      have Py := Lib.hid (P5.out.below hby)
      have By := Lib.hid (B5.out.below hby)
      clear hby
      go_wp2_with fail
      refine (CL.out _).mono ?_
      rintro e wz ⟨rfl, rfl⟩
      go_wp2_with fail
      clear DP CL P5 B5
      go_loopw [37] (fun v wr => ∃ f r : Nat, p ≤ r ∧ r ≤ s.size ∧ s.size < r + f ∧ Hid (labF s p f r = F) ∧ Hid (RdP g s (r : Nat) w wr) ∧ Hid (Res wr w.heap.size)) (fun _ wr => s.size - (intOf ((wr.cell? ⟨g, 1, none⟩).getD undef)).toNat)
      case atStart => exact ⟨s.size + 1, (p + 1), by omega, by omega, by omega, HF, by simpa using Py, By⟩
      case round =>
        obtain ⟨f, r, hr1, hr2, hf, HS, PR, BR⟩ := hrel
        obtain ⟨f', rfl⟩ : ∃ f', f = f' + 1 := ⟨f - 1, by omega⟩
        obtain ⟨zr, r0, r1, rf⟩ := PR.out.2.facts
        have W1 : IntKind.i64.wrap ((r : Int) - (p : Int)) = (r : Int) - (p : Int) := by simp [IntKind.wrap, IntKind.bits, IntKind.signed]; omega
        have D1 := Lib.hid (fun w h => C1.out w r h hr2 hs)
        clear HF
        by_cases h32 : r - p < 32
        · have q1 : decide ((r : Int) - (p : Int) < 32) = true := decide_eq_true (by omega)
          cases hi : insB (ch s r) with
          | true =>
            have hrl := ins_in hi
            have HS2 := Lib.hid ((labF_1 (f := f') h32 hi).symm.trans HS.out)
            have CN := Lib.hid (inside_at _ _ hi)
            clear HS h32 hi
            go_wp2_with fail
            refine (D1.out _ PR.out.2).mono ?_
            rintro e w2 ⟨rfl, hb2⟩
            have P2 := Lib.hid (PR.out.below hb2)
            have B2 := Lib.hid (BR.out.below hb2)
            clear hb2
            obtain ⟨z4, c0, c1, f1⟩ := P2.out.2.facts
            go_wp2_with fail
            refine (CN.out _).mono ?_
            rintro e w3 ⟨rfl, rfl⟩
            have P6 := Lib.hid P2.out.step
            have B6 := Lib.hid (B2.out.set ⟨g, 1, none⟩ (.int .i64 ((r : Int) + 1)) (by show w.heap.size ≠ g; omega))
            go_wp2_with fail
            go_roundw
            case rel => exact ⟨f', r + 1, by omega, by omega, by omega, HS2, P6, B6⟩
            case measure => have m1 := P6.out.2.facts.2.2.1; simp [intOf, r1, m1]; omega
          | false =>
            have HV : Hid ((identB (s.extract p r), s.extract p r, r) = R) := Lib.hid (by rw [← HR1.out, ← HS.out, labF_2 (by rw [hi]; simp)])
            have CI := Lib.hid (ident_at (s.extract p r) _ rfl)
            have CN := Lib.hid (inside_at _ _ hi)
            clear HS h32 hi
            go_wp2_with fail
            refine (D1.out _ PR.out.2).mono ?_
            rintro e w2 ⟨rfl, hb2⟩
            have P2 := Lib.hid (PR.out.below hb2)
            have B2 := Lib.hid (BR.out.below hb2)
            clear hb2
            go_wp2_with fail
            refine (CN.out _).mono ?_
            rintro e w3 ⟨rfl, rfl⟩
            obtain ⟨z4, c0, c1, f1⟩ := P2.out.2.facts
            obtain ⟨z5, b0, b1, bf0, bf1⟩ := B2.out.facts
            go_wp2_with fail
            go_quiet (fail)
            go_wp2_with fail
            refine (CI.out _).mono ?_
            rintro e wx ⟨rfl, rfl⟩
            have P9 := Lib.hid ((P2.out.below (bdrewN (Below.refl _ _) nq)).new ⟨w.heap.size, 0, none⟩ (.string (s.extract p r)) (Nat.le_refl _) hg)
            have P10 := Lib.hid (P9.out.new ⟨w.heap.size, 1, none⟩ (.int .i64 0) (Nat.le_refl _) hg)
            go_wp2_with fail
            refine bodyPost_ret (v := .tuple #[sv (s.extract p r) 0, .bool (identB (s.extract p r))]) (by simp [results, Tryd.results32, go_sem, z5, b0, b1]) rfl ⟨by rw [← HV.out], by rw [← HV.out]; exact P10.out⟩
        · have q1 : decide ((r : Int) - (p : Int) < 32) = false := decide_eq_false (by omega)
          have HV : Hid ((identB (s.extract p r), s.extract p r, r) = R) := Lib.hid (by rw [← HR1.out, ← HS.out, labF_2 (by omega)])
          have CI := Lib.hid (ident_at (s.extract p r) _ rfl)
          clear HS h32 D1
          obtain ⟨z4, c0, c1, f1⟩ := PR.out.2.facts
          obtain ⟨z5, b0, b1, bf0, bf1⟩ := BR.out.facts
          go_wp2_with fail
          go_quiet (fail)
          go_wp2_with fail
          refine (CI.out _).mono ?_
          rintro e wx ⟨rfl, rfl⟩
          have P9 := Lib.hid ((PR.out.below (bdrewN (Below.refl _ _) nq)).new ⟨w.heap.size, 0, none⟩ (.string (s.extract p r)) (Nat.le_refl _) hg)
          have P10 := Lib.hid (P9.out.new ⟨w.heap.size, 1, none⟩ (.int .i64 0) (Nat.le_refl _) hg)
          go_wp2_with fail
          refine bodyPost_ret (v := .tuple #[sv (s.extract p r) 0, .bool (identB (s.extract p r))]) (by simp [results, Tryd.results32, go_sem, z5, b0, b1]) rfl ⟨by rw [← HV.out], by rw [← HV.out]; exact P10.out⟩
  by_cases c95 : ch s p = 95
  · have hlt := ch_in (s := s) (p := p) (by omega)
    rw [labS_2 (.inr c95)]
    generalize hR : labT s p (p + 1) = R
    have HR := Lib.hid hR
    clear hR
    rw [c95] at D0 q34
    have DP := Lib.hid (fun w h => C1.out w (p + 1) h (by omega) hs)
    clear c95 c35
    go_enter Tryd.func32, Tryd.ntmps32
    go_wp2_with fail
    generalize w.alloc (.cells #[.string ⟨#[]⟩, .int .i64 0] 37) = w0 at *
    refine (D0.out _ P.out.2).mono ?_
    rintro e w1 ⟨rfl, hb1⟩
    have P1 := Lib.hid (P.out.below hb1)
    have B1 := Lib.hid (B.out.below hb1)
    clear hb1 P B
    obtain ⟨zz, c0, c1, f1⟩ := P1.out.2.facts
    go_wp2_with fail
    refine (D0.out _ P1.out.2).mono ?_
    rintro e w2 ⟨rfl, hb2⟩
    have P2 := Lib.hid (P1.out.below hb2)
    have B2 := Lib.hid (B1.out.below hb2)
    clear hb2 P1 B1 zz c0 c1 f1
    go_wp2_with fail
    refine (D0.out _ P2.out.2).mono ?_
    rintro e w3 ⟨rfl, hb3⟩
    have P3 := Lib.hid (P2.out.below hb3)
    have B3 := Lib.hid (B2.out.below hb3)
    clear hb3 P2 B2
    obtain ⟨zz, c0, c1, f1⟩ := P3.out.2.facts
    have P5 := Lib.hid P3.out.step
    have B5 := Lib.hid (B3.out.set ⟨g, 1, none⟩ (.int .i64 ((p : Int) + 1)) (by show w.heap.size ≠ g; omega))
    cases hl : letB (ch s (p + 1)) with
    | false =>
      have HV := Lib.hid ((labT_2 (p := p) hl).symm.trans HR.out)
      have CL := Lib.hid (sletter_at _ _ hl)
      go_wp2_with fail
      generalize w3.setCell ⟨g, 1, none⟩ (.int .i64 ((p : Int) + 1)) = w5 at *
      clear zz c0 c1 f1
      refine (DP.out _ P5.out.2).mono ?_
      rintro e wy ⟨rfl, hby⟩
      have Py := Lib.hid (P5.out.below hby)
      have By := Lib.hid (B5.out.below hby)
      clear hby
      obtain ⟨z5, b0, b1, bf0, bf1⟩ := By.out.facts
      have P6 := Lib.hid ((Py.out.new ⟨w.heap.size, 0, none⟩ (.string ⟨#[]⟩) (Nat.le_refl _) hg).new ⟨w.heap.size, 1, none⟩ (.int .i64 0) (Nat.le_refl _) hg)
      go_wp2_with fail
      refine (CL.out _).mono ?_
      rintro e wz ⟨rfl, rfl⟩
      go_wp2_with fail
      refine bodyPost_ret (v := .tuple #[sv ⟨#[]⟩ 0, .bool false]) (by simp [results, Tryd.results32, go_sem, z5, b0, b1]) rfl ⟨by rw [← HV.out], by rw [← HV.out]; exact P6.out⟩
    | true =>
      have hT := (labT_1 (p := p) hl).symm.trans HR.out
      have CL := Lib.hid (sletter_at _ _ hl)
      have hql := let_in hl
      generalize hF : labF s p (s.size + 1) (p + 1) = F at *
      have HF := Lib.hid hF
      have HR1 := Lib.hid hT
      clear hF hT hl
      go_wp2_with fail
      generalize w3.setCell ⟨g, 1, none⟩ (.int .i64 ((p : Int) + 1)) = w5 at *
      clear zz c0 c1 f1
      refine (DP.out _ P5.out.2).mono ?_
      rintro e wy ⟨rfl, hby⟩
      have Py := Lib.hid (P5.out.below hby)
      have By := Lib.hid (B5.out.below hby)
      clear hby
      go_wp2_with fail
      refine (CL.out _).mono ?_
      rintro e wz ⟨rfl, rfl⟩
      go_wp2_with fail
      clear DP CL P5 B5
      go_loopw [37] (fun v wr => ∃ f r : Nat, p ≤ r ∧ r ≤ s.size ∧ s.size < r + f ∧ Hid (labF s p f r = F) ∧ Hid (RdP g s (r : Nat) w wr) ∧ Hid (Res wr w.heap.size)) (fun _ wr => s.size - (intOf ((wr.cell? ⟨g, 1, none⟩).getD undef)).toNat)
      case atStart => exact ⟨s.size + 1, (p + 1), by omega, by omega, by omega, HF, by simpa using Py, By⟩
      case round =>
        obtain ⟨f, r, hr1, hr2, hf, HS, PR, BR⟩ := hrel
        obtain ⟨f', rfl⟩ : ∃ f', f = f' + 1 := ⟨f - 1, by omega⟩
        obtain ⟨zr, r0, r1, rf⟩ := PR.out.2.facts
        have W1 : IntKind.i64.wrap ((r : Int) - (p : Int)) = (r : Int) - (p : Int) := by simp [IntKind.wrap, IntKind.bits, IntKind.signed]; omega
        have D1 := Lib.hid (fun w h => C1.out w r h hr2 hs)
        clear HF
        by_cases h32 : r - p < 32
        · have q1 : decide ((r : Int) - (p : Int) < 32) = true := decide_eq_true (by omega)
          cases hi : insB (ch s r) with
          | true =>
            have hrl := ins_in hi
            have HS2 := Lib.hid ((labF_1 (f := f') h32 hi).symm.trans HS.out)
            have CN := Lib.hid (inside_at _ _ hi)
            clear HS h32 hi
            go_wp2_with fail
            refine (D1.out _ PR.out.2).mono ?_
            rintro e w2 ⟨rfl, hb2⟩
            have P2 := Lib.hid (PR.out.below hb2)
            have B2 := Lib.hid (BR.out.below hb2)
            clear hb2
            obtain ⟨z4, c0, c1, f1⟩ := P2.out.2.facts
            go_wp2_with fail
            refine (CN.out _).mono ?_
            rintro e w3 ⟨rfl, rfl⟩
            have P6 := Lib.hid P2.out.step
            have B6 := Lib.hid (B2.out.set ⟨g, 1, none⟩ (.int .i64 ((r : Int) + 1)) (by show w.heap.size ≠ g; omega))
            go_wp2_with fail
            go_roundw
            case rel => exact ⟨f', r + 1, by omega, by omega, by omega, HS2, P6, B6⟩
            case measure => have m1 := P6.out.2.facts.2.2.1; simp [intOf, r1, m1]; omega
          | false =>
            have HV : Hid ((identB (s.extract p r), s.extract p r, r) = R) := Lib.hid (by rw [← HR1.out, ← HS.out, labF_2 (by rw [hi]; simp)])
            have CI := Lib.hid (ident_at (s.extract p r) _ rfl)
            have CN := Lib.hid (inside_at _ _ hi)
            clear HS h32 hi
            go_wp2_with fail
            refine (D1.out _ PR.out.2).mono ?_
            rintro e w2 ⟨rfl, hb2⟩
            have P2 := Lib.hid (PR.out.below hb2)
            have B2 := Lib.hid (BR.out.below hb2)
            clear hb2
            go_wp2_with fail
            refine (CN.out _).mono ?_
            rintro e w3 ⟨rfl, rfl⟩
            obtain ⟨z4, c0, c1, f1⟩ := P2.out.2.facts
            obtain ⟨z5, b0, b1, bf0, bf1⟩ := B2.out.facts
            go_wp2_with fail
            go_quiet (fail)
            go_wp2_with fail
            refine (CI.out _).mono ?_
            rintro e wx ⟨rfl, rfl⟩
            have P9 := Lib.hid ((P2.out.below (bdrewN (Below.refl _ _) nq)).new ⟨w.heap.size, 0, none⟩ (.string (s.extract p r)) (Nat.le_refl _) hg)
            have P10 := Lib.hid (P9.out.new ⟨w.heap.size, 1, none⟩ (.int .i64 0) (Nat.le_refl _) hg)
            go_wp2_with fail
            refine bodyPost_ret (v := .tuple #[sv (s.extract p r) 0, .bool (identB (s.extract p r))]) (by simp [results, Tryd.results32, go_sem, z5, b0, b1]) rfl ⟨by rw [← HV.out], by rw [← HV.out]; exact P10.out⟩
        · have q1 : decide ((r : Int) - (p : Int) < 32) = false := decide_eq_false (by omega)
          have HV : Hid ((identB (s.extract p r), s.extract p r, r) = R) := Lib.hid (by rw [← HR1.out, ← HS.out, labF_2 (by omega)])
          have CI := Lib.hid (ident_at (s.extract p r) _ rfl)
          clear HS h32 D1
          obtain ⟨z4, c0, c1, f1⟩ := PR.out.2.facts
          obtain ⟨z5, b0, b1, bf0, bf1⟩ := BR.out.facts
          go_wp2_with fail
          go_quiet (fail)
          go_wp2_with fail
          refine (CI.out _).mono ?_
          rintro e wx ⟨rfl, rfl⟩
          have P9 := Lib.hid ((PR.out.below (bdrewN (Below.refl _ _) nq)).new ⟨w.heap.size, 0, none⟩ (.string (s.extract p r)) (Nat.le_refl _) hg)
          have P10 := Lib.hid (P9.out.new ⟨w.heap.size, 1, none⟩ (.int .i64 0) (Nat.le_refl _) hg)
          go_wp2_with fail
          refine bodyPost_ret (v := .tuple #[sv (s.extract p r) 0, .bool (identB (s.extract p r))]) (by simp [results, Tryd.results32, go_sem, z5, b0, b1]) rfl ⟨by rw [← HV.out], by rw [← HV.out]; exact P10.out⟩
  rw [labS_3 c34 (by omega)]
  generalize hR : labT s p p = R
  have HR := Lib.hid hR
  clear hR
  have q35 : ((ch s p : Int) == 35) = false := by simp; omega
  have q95 : ((ch s p : Int) == 95) = false := by simp; omega
  have DP := D0
  clear c34 c35 c95
  go_enter Tryd.func32, Tryd.ntmps32
  go_wp2_with fail
  generalize w.alloc (.cells #[.string ⟨#[]⟩, .int .i64 0] 37) = w0 at *
  refine (D0.out _ P.out.2).mono ?_
  rintro e w1 ⟨rfl, hb1⟩
  have P1 := Lib.hid (P.out.below hb1)
  have B1 := Lib.hid (B.out.below hb1)
  clear hb1 P B
  obtain ⟨zz, c0, c1, f1⟩ := P1.out.2.facts
  go_wp2_with fail
  refine (D0.out _ P1.out.2).mono ?_
  rintro e w2 ⟨rfl, hb2⟩
  have P2 := Lib.hid (P1.out.below hb2)
  have B2 := Lib.hid (B1.out.below hb2)
  clear hb2 P1 B1 zz c0 c1 f1
  go_wp2_with fail
  refine (D0.out _ P2.out.2).mono ?_
  rintro e w3 ⟨rfl, hb3⟩
  have P3 := Lib.hid (P2.out.below hb3)
  have B3 := Lib.hid (B2.out.below hb3)
  clear hb3 P2 B2
  cases hl : letB (ch s p) with
  | false =>
    have HV := Lib.hid ((labT_2 (p := p) hl).symm.trans HR.out)
    have CL := Lib.hid (sletter_at _ _ hl)
    go_wp2_with fail
    refine (DP.out _ P3.out.2).mono ?_
    rintro e wy ⟨rfl, hby⟩
    have Py := Lib.hid (P3.out.below hby)
    have By := Lib.hid (B3.out.below hby)
    clear hby
    obtain ⟨z5, b0, b1, bf0, bf1⟩ := By.out.facts
    have P6 := Lib.hid ((Py.out.new ⟨w.heap.size, 0, none⟩ (.string ⟨#[]⟩) (Nat.le_refl _) hg).new ⟨w.heap.size, 1, none⟩ (.int .i64 0) (Nat.le_refl _) hg)
    go_wp2_with fail
    refine (CL.out _).mono ?_
    rintro e wz ⟨rfl, rfl⟩
    go_wp2_with fail
    refine bodyPost_ret (v := .tuple #[sv ⟨#[]⟩ 0, .bool false]) (by simp [results, Tryd.results32, go_sem, z5, b0, b1]) rfl ⟨by rw [← HV.out], by rw [← HV.out]; exact P6.out⟩
  | true =>
    have hT := (labT_1 (p := p) hl).symm.trans HR.out
    have CL := Lib.hid (sletter_at _ _ hl)
    have hql := let_in hl
    generalize hF : labF s p (s.size + 1) p = F at *
    have HF := Lib.hid hF
    have HR1 := Lib.hid hT
    clear hF hT hl
    go_wp2_with fail
    refine (DP.out _ P3.out.2).mono ?_
    rintro e wy ⟨rfl, hby⟩
    have Py := Lib.hid (P3.out.below hby)
    have By := Lib.hid (B3.out.below hby)
    clear hby
    go_wp2_with fail
    refine (CL.out _).mono ?_
    rintro e wz ⟨rfl, rfl⟩
    go_wp2_with fail
    clear DP CL P3 B3
    go_loopw [37] (fun v wr => ∃ f r : Nat, p ≤ r ∧ r ≤ s.size ∧ s.size < r + f ∧ Hid (labF s p f r = F) ∧ Hid (RdP g s (r : Nat) w wr) ∧ Hid (Res wr w.heap.size)) (fun _ wr => s.size - (intOf ((wr.cell? ⟨g, 1, none⟩).getD undef)).toNat)
    case atStart => exact ⟨s.size + 1, p, by omega, by omega, by omega, HF, Py, By⟩
    case round =>
      obtain ⟨f, r, hr1, hr2, hf, HS, PR, BR⟩ := hrel
      obtain ⟨f', rfl⟩ : ∃ f', f = f' + 1 := ⟨f - 1, by omega⟩
      obtain ⟨zr, r0, r1, rf⟩ := PR.out.2.facts
      have W1 : IntKind.i64.wrap ((r : Int) - (p : Int)) = (r : Int) - (p : Int) := by simp [IntKind.wrap, IntKind.bits, IntKind.signed]; omega
      have D1 := Lib.hid (fun w h => C1.out w r h hr2 hs)
      clear HF
      by_cases h32 : r - p < 32
      · have q1 : decide ((r : Int) - (p : Int) < 32) = true := decide_eq_true (by omega)
        cases hi : insB (ch s r) with
        | true =>
          have hrl := ins_in hi
          have HS2 := Lib.hid ((labF_1 (f := f') h32 hi).symm.trans HS.out)
          have CN := Lib.hid (inside_at _ _ hi)
          clear HS h32 hi
          go_wp2_with fail
          refine (D1.out _ PR.out.2).mono ?_
          rintro e w2 ⟨rfl, hb2⟩
          have P2 := Lib.hid (PR.out.below hb2)
          have B2 := Lib.hid (BR.out.below hb2)
          clear hb2
          obtain ⟨z4, c0, c1, f1⟩ := P2.out.2.facts
          go_wp2_with fail
          refine (CN.out _).mono ?_
          rintro e w3 ⟨rfl, rfl⟩
          have P6 := Lib.hid P2.out.step
          have B6 := Lib.hid (B2.out.set ⟨g, 1, none⟩ (.int .i64 ((r : Int) + 1)) (by show w.heap.size ≠ g; omega))
          go_wp2_with fail
          go_roundw
          case rel => exact ⟨f', r + 1, by omega, by omega, by omega, HS2, P6, B6⟩
          case measure => have m1 := P6.out.2.facts.2.2.1; simp [intOf, r1, m1]; omega
        | false =>
          have HV : Hid ((identB (s.extract p r), s.extract p r, r) = R) := Lib.hid (by rw [← HR1.out, ← HS.out, labF_2 (by rw [hi]; simp)])
          have CI := Lib.hid (ident_at (s.extract p r) _ rfl)
          have CN := Lib.hid (inside_at _ _ hi)
          clear HS h32 hi
          go_wp2_with fail
          refine (D1.out _ PR.out.2).mono ?_
          rintro e w2 ⟨rfl, hb2⟩
          have P2 := Lib.hid (PR.out.below hb2)
          have B2 := Lib.hid (BR.out.below hb2)
          clear hb2
          go_wp2_with fail
          refine (CN.out _).mono ?_
          rintro e w3 ⟨rfl, rfl⟩
          obtain ⟨z4, c0, c1, f1⟩ := P2.out.2.facts
          obtain ⟨z5, b0, b1, bf0, bf1⟩ := B2.out.facts
          go_wp2_with fail
          go_quiet (fail)
          go_wp2_with fail
          refine (CI.out _).mono ?_
          rintro e wx ⟨rfl, rfl⟩
          have P9 := Lib.hid ((P2.out.below (bdrewN (Below.refl _ _) nq)).new ⟨w.heap.size, 0, none⟩ (.string (s.extract p r)) (Nat.le_refl _) hg)
          have P10 := Lib.hid (P9.out.new ⟨w.heap.size, 1, none⟩ (.int .i64 0) (Nat.le_refl _) hg)
          go_wp2_with fail
          refine bodyPost_ret (v := .tuple #[sv (s.extract p r) 0, .bool (identB (s.extract p r))]) (by simp [results, Tryd.results32, go_sem, z5, b0, b1]) rfl ⟨by rw [← HV.out], by rw [← HV.out]; exact P10.out⟩
      · have q1 : decide ((r : Int) - (p : Int) < 32) = false := decide_eq_false (by omega)
        have HV : Hid ((identB (s.extract p r), s.extract p r, r) = R) := Lib.hid (by rw [← HR1.out, ← HS.out, labF_2 (by omega)])
        have CI := Lib.hid (ident_at (s.extract p r) _ rfl)
        clear HS h32 D1
        obtain ⟨z4, c0, c1, f1⟩ := PR.out.2.facts
        obtain ⟨z5, b0, b1, bf0, bf1⟩ := BR.out.facts
        go_wp2_with fail
        go_quiet (fail)
        go_wp2_with fail
        refine (CI.out _).mono ?_
        rintro e wx ⟨rfl, rfl⟩
        have P9 := Lib.hid ((PR.out.below (bdrewN (Below.refl _ _) nq)).new ⟨w.heap.size, 0, none⟩ (.string (s.extract p r)) (Nat.le_refl _) hg)
        have P10 := Lib.hid (P9.out.new ⟨w.heap.size, 1, none⟩ (.int .i64 0) (Nat.le_refl _) hg)
        go_wp2_with fail
        refine bodyPost_ret (v := .tuple #[sv (s.extract p r) 0, .bool (identB (s.extract p r))]) (by simp [results, Tryd.results32, go_sem, z5, b0, b1]) rfl ⟨by rw [← HV.out], by rw [← HV.out]; exact P10.out⟩
end Go.Proofs.YtaocgibfabofhaaDoor
