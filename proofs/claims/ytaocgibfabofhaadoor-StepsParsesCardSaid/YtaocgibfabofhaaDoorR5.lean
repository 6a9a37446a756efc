/-
  The reader's index: a step with an index. Condition: the reader stands at a bracket.
-/
import Derived.Test.YtaocgibfabofhaaDoorR4
namespace Go.Proofs.YtaocgibfabofhaaDoor
open Go.RowKit
set_option linter.unusedSimpArgs false
set_option linter.unusedVariables false
/-- the digits from a on: whether they are an index, the number, and where the reader stands then -/
def idxF (s : ByteArray) (a : Nat) : Nat → Nat → Nat → Bool × Nat × Nat
  | 0, p, _ => (false, 0, p)
  | f + 1, p, n =>
    if 48 ≤ ch s p ∧ ch s p ≤ 57 then
      if (n = 0 ∧ a < p) ∨ 1000000 < n * 10 + (ch s p - 48) then (false, 0, p) else idxF s a f (p + 1) (n * 10 + (ch s p - 48))
    else if p = a ∨ ch s p ≠ 93 then (false, 0, p) else (true, n, p + 1)
theorem idxF_1 {s : ByteArray} {a f p n d : Nat} (h : ch s p = 48 + d) (hd : d ≤ 9) (h' : (n = 0 ∧ a < p) ∨ 1000000 < n * 10 + d) : idxF s a (f + 1) p n = (false, 0, p) := by
  rw [idxF, if_pos (by omega), if_pos (by omega)]
theorem idxF_2 {s : ByteArray} {a f p n d : Nat} (h : ch s p = 48 + d) (hd : d ≤ 9) (h' : ¬ ((n = 0 ∧ a < p) ∨ 1000000 < n * 10 + d)) : idxF s a (f + 1) p n = idxF s a f (p + 1) (n * 10 + d) := by
  rw [idxF, if_pos (by omega), if_neg (by omega), h, show 48 + d - 48 = d by omega]
theorem idxF_3 {s : ByteArray} {a f p n : Nat} (h : ¬ (48 ≤ ch s p ∧ ch s p ≤ 57)) (h' : p = a ∨ ch s p ≠ 93) : idxF s a (f + 1) p n = (false, 0, p) := by rw [idxF, if_neg h, if_pos h']
theorem idxF_4 {s : ByteArray} {a f p n : Nat} (h : ¬ (48 ≤ ch s p ∧ ch s p ≤ 57)) (h' : ¬ (p = a ∨ ch s p ≠ 93)) : idxF s a (f + 1) p n = (true, n, p + 1) := by rw [idxF, if_neg h, if_neg h']
def idxS (s : ByteArray) (p : Nat) : Bool × Nat × Nat := idxF s (p + 1) (s.size + 1) (p + 1) 0
set_option maxRecDepth 100000 in
set_option maxHeartbeats 8000000 in
theorem indexR_any (g : Nat) (s : ByteArray) (p : Nat) (w : World) (h : Rdr w g s (p : Nat)) (hp : p < s.size) (hs : s.size ≤ 65536) :
    Calls Tryd.prog 34 #[.pointer (some ⟨g, 0, none⟩)] w fun e w' => e = .returned (.tuple #[sv ⟨#[]⟩ ((idxS s p).2.1 : Nat), .bool (idxS s p).1]) ∧ RdP g s ((idxS s p).2.2 : Nat) w w' := by
  have C1 := Lib.hid (fun w q => peek_any g s q w)
  have hg := h.facts.1
  have P := Lib.hid ((RdP.start h).below ((Below.refl _ _).alloc (Nat.le_refl _) (.cells #[.string ⟨#[]⟩, .int .i64 0] 37)))
  obtain ⟨z, c0, c1, f1⟩ := P.out.2.facts
  have P1 := Lib.hid (((RdP.start h).step).below ((Below.refl _ _).alloc (Nat.le_refl _) (.cells #[.string ⟨#[]⟩, .int .i64 0] 37)))
  have B1 : Hid (Res ((w.setCell ⟨g, 1, none⟩ (.int .i64 ((p : Int) + 1))).alloc (.cells #[.string ⟨#[]⟩, .int .i64 0] 37)) w.heap.size) := by
    have := World.alloc_heap_new (w.setCell ⟨g, 1, none⟩ (.int .i64 ((p : Int) + 1))) (.cells #[.string ⟨#[]⟩, .int .i64 0] 37)
    rw [show (w.setCell ⟨g, 1, none⟩ (.int .i64 ((p : Int) + 1))).heap.size = w.heap.size by simp [World.setCell]] at this
    exact Lib.hid this
  have HR : Hid (idxF s (p + 1) (s.size + 1) (p + 1) 0 = idxS s p) := Lib.hid rfl
  generalize idxS s p = R at *
  clear h
  obtain ⟨z', c0', c1', f1'⟩ := P1.out.2.facts
  go_enter Tryd.func34, Tryd.ntmps34
  go_wp2_with fail
  generalize (w.setCell ⟨g, 1, none⟩ (.int .i64 ((p : Int) + 1))).alloc (.cells #[.string ⟨#[]⟩, .int .i64 0] 37) = w1 at *
  clear z c0 c1 f1 P z' c0' c1' f1'
  go_loopw [5] (fun v wr => ∃ f q n : Nat, v = .int .i64 (n : Int) ∧ p + 1 ≤ q ∧ q ≤ s.size ∧ n ≤ 1000000 ∧ s.size < q + f ∧ Hid (idxF s (p + 1) f q n = R) ∧ Hid (RdP g s (q : Nat) w wr) ∧ Hid (Res wr w.heap.size)) (fun _ wr => s.size - (intOf ((wr.cell? ⟨g, 1, none⟩).getD undef)).toNat)
  case atStart => exact ⟨s.size + 1, p + 1, 0, rfl, by omega, by omega, by omega, by omega, HR, P1, B1⟩
  case round =>
    obtain ⟨f, q, n, rfl, hq1, hq2, hn, hf, HS, PR, BR⟩ := hrel
    obtain ⟨f', rfl⟩ : ∃ f', f = f' + 1 := ⟨f - 1, by omega⟩
    obtain ⟨zr, r0, r1, rf⟩ := PR.out.2.facts
    by_cases hdg : 48 ≤ ch s q ∧ ch s q ≤ 57
    · obtain ⟨d, hd⟩ : ∃ d, ch s q = 48 + d := ⟨ch s q - 48, by omega⟩
      have hql := ch_in (s := s) (p := q) (by omega)
      have D1 : Hid (∀ w, Rdr w g s (q : Nat) → Calls Tryd.prog 33 #[.pointer (some ⟨g, 0, none⟩)] w fun e w' => e = .returned (.int .u8 ((48 + d : Nat) : Int)) ∧ Below w.heap.size w w') :=
        Lib.hid fun w h => by have := C1.out w q h hq2 hs; rw [hd] at this; exact this
      have hd9 : d ≤ 9 := by omega
      have q1 : decide ((48 : Int) ≤ ((48 + d : Nat) : Int)) = true := decide_eq_true (by omega)
      have q2 : decide (((48 + d : Nat) : Int) ≤ 57) = true := decide_eq_true (by omega)
      have HX1 := Lib.hid (fun x => (idxF_1 (n := n) hd hd9 x).symm.trans HS.out)
      have HX2 := Lib.hid (fun x => (idxF_2 (n := n) hd hd9 x).symm.trans HS.out)
      have HW : 48 + (d : Int) - 48 = (d : Int) := by omega
      clear hd hdg C1 HS
      by_cases hn0 : n = 0
      · subst hn0
        by_cases hlq : p + 1 < q
        · have HV := Lib.hid (HX1.out (.inl ⟨rfl, hlq⟩))
          have q3 : decide ((p : Int) + 1 < (q : Int)) = true := decide_eq_true (by omega)
          clear HX1 HX2
          go_wp2_with fail
          refine (D1.out _ PR.out.2).mono ?_
          rintro e w2 ⟨rfl, hb2⟩
          have P2 := Lib.hid (PR.out.below hb2)
          have B2 := Lib.hid (BR.out.below hb2)
          clear hb2
          go_wp2_with fail
          refine (D1.out _ P2.out.2).mono ?_
          rintro e w3 ⟨rfl, hb3⟩
          have P3 := Lib.hid (P2.out.below hb3)
          have B3 := Lib.hid (B2.out.below hb3)
          clear hb3 P2 B2
          go_wp2_with fail
          refine (D1.out _ P3.out.2).mono ?_
          rintro e w4 ⟨rfl, hb4⟩
          have P4 := Lib.hid (P3.out.below hb4)
          have B4 := Lib.hid (B3.out.below hb4)
          clear hb4 P3 B3
          obtain ⟨z4, c0, c1, f1⟩ := P4.out.2.facts
          obtain ⟨z5, b0, b1, bf0, bf1⟩ := B4.out.facts
          have P6 := Lib.hid ((P4.out.new ⟨w.heap.size, 0, none⟩ (.string ⟨#[]⟩) (Nat.le_refl _) hg).new ⟨w.heap.size, 1, none⟩ (.int .i64 0) (Nat.le_refl _) hg)
          go_wp2_with fail
          refine bodyPost_ret (v := .tuple #[sv ⟨#[]⟩ 0, .bool false]) (by simp [results, Tryd.results34, go_sem, z5, b0, b1]) rfl ⟨by rw [← HV.out]; rfl, by rw [← HV.out]; exact P6.out⟩
        · have HV := Lib.hid (HX2.out (by omega))
          have q3 : decide ((p : Int) + 1 < (q : Int)) = false := decide_eq_false (by omega)
          have q4 : decide ((1000000 : Int) < (d : Int)) = false := decide_eq_false (by omega)
          clear HX1 HX2
          rw [show 0 * 10 + d = d by omega] at HV
          go_wp2_with fail
          refine (D1.out _ PR.out.2).mono ?_
          rintro e w2 ⟨rfl, hb2⟩
          have P2 := Lib.hid (PR.out.below hb2)
          have B2 := Lib.hid (BR.out.below hb2)
          clear hb2
          go_wp2_with fail
          refine (D1.out _ P2.out.2).mono ?_
          rintro e w3 ⟨rfl, hb3⟩
          have P3 := Lib.hid (P2.out.below hb3)
          have B3 := Lib.hid (B2.out.below hb3)
          clear hb3 P2 B2
          go_wp2_with fail
          refine (D1.out _ P3.out.2).mono ?_
          rintro e w4 ⟨rfl, hb4⟩
          have P4 := Lib.hid (P3.out.below hb4)
          have B4 := Lib.hid (B3.out.below hb4)
          clear hb4 P3 B3
          obtain ⟨z4, c0, c1, f1⟩ := P4.out.2.facts
          obtain ⟨z5, b0, b1, bf0, bf1⟩ := B4.out.facts
          have P6 := Lib.hid P4.out.step
          have B6 := Lib.hid (B4.out.set ⟨g, 1, none⟩ (.int .i64 ((q : Int) + 1)) (by show w.heap.size ≠ g; omega))
          go_wp2_with fail
          go_roundw
          case rel => exact ⟨f', q + 1, d, by go_num, by omega, by omega, by omega, by omega, HV, P6, B6⟩
          case measure => have m1 := P6.out.2.facts.2.2.1; simp [intOf, r1, m1]; omega
      · have q3 : ((n : Int) == 0) = false := by simp; omega
        by_cases hbig : 1000000 < n * 10 + d
        · have HV := Lib.hid (HX1.out (.inr hbig))
          have q4 : decide ((1000000 : Int) < (n : Int) * 10 + (d : Int)) = true := decide_eq_true (by omega)
          clear HX1 HX2
          go_wp2_with fail
          refine (D1.out _ PR.out.2).mono ?_
          rintro e w2 ⟨rfl, hb2⟩
          have P2 := Lib.hid (PR.out.below hb2)
          have B2 := Lib.hid (BR.out.below hb2)
          clear hb2
          go_wp2_with fail
          refine (D1.out _ P2.out.2).mono ?_
          rintro e w3 ⟨rfl, hb3⟩
          have P3 := Lib.hid (P2.out.below hb3)
          have B3 := Lib.hid (B2.out.below hb3)
          clear hb3 P2 B2
          go_wp2_with fail
          refine (D1.out _ P3.out.2).mono ?_
          rintro e w4 ⟨rfl, hb4⟩
          have P4 := Lib.hid (P3.out.below hb4)
          have B4 := Lib.hid (B3.out.below hb4)
          clear hb4 P3 B3
          obtain ⟨z4, c0, c1, f1⟩ := P4.out.2.facts
          obtain ⟨z5, b0, b1, bf0, bf1⟩ := B4.out.facts
          have P6 := Lib.hid ((P4.out.new ⟨w.heap.size, 0, none⟩ (.string ⟨#[]⟩) (Nat.le_refl _) hg).new ⟨w.heap.size, 1, none⟩ (.int .i64 0) (Nat.le_refl _) hg)
          go_wp2_with fail
          refine bodyPost_ret (v := .tuple #[sv ⟨#[]⟩ 0, .bool false]) (by simp [results, Tryd.results34, go_sem, z5, b0, b1]) rfl ⟨by rw [← HV.out]; rfl, by rw [← HV.out]; exact P6.out⟩
        · have HV := Lib.hid (HX2.out (by omega))
          have q4 : decide ((1000000 : Int) < (n : Int) * 10 + (d : Int)) = false := decide_eq_false (by omega)
          clear HX1 HX2
          go_wp2_with fail
          refine (D1.out _ PR.out.2).mono ?_
          rintro e w2 ⟨rfl, hb2⟩
          have P2 := Lib.hid (PR.out.below hb2)
          have B2 := Lib.hid (BR.out.below hb2)
          clear hb2
          go_wp2_with fail
          refine (D1.out _ P2.out.2).mono ?_
          rintro e w3 ⟨rfl, hb3⟩
          have P3 := Lib.hid (P2.out.below hb3)
          have B3 := Lib.hid (B2.out.below hb3)
          clear hb3 P2 B2
          go_wp2_with fail
          refine (D1.out _ P3.out.2).mono ?_
          rintro e w4 ⟨rfl, hb4⟩
          have P4 := Lib.hid (P3.out.below hb4)
          have B4 := Lib.hid (B3.out.below hb4)
          clear hb4 P3 B3
          obtain ⟨z4, c0, c1, f1⟩ := P4.out.2.facts
          obtain ⟨z5, b0, b1, bf0, bf1⟩ := B4.out.facts
          have P6 := Lib.hid P4.out.step
          have B6 := Lib.hid (B4.out.set ⟨g, 1, none⟩ (.int .i64 ((q : Int) + 1)) (by show w.heap.size ≠ g; omega))
          go_wp2_with fail
          go_roundw
          case rel => exact ⟨f', q + 1, n * 10 + d, by go_num, by omega, by omega, by omega, by omega, HV, P6, B6⟩
          case measure => have m1 := P6.out.2.facts.2.2.1; simp [intOf, r1, m1]; omega
    · have D1 := Lib.hid (fun w h => C1.out w q h hq2 hs)
      clear C1
      by_cases h48 : 48 ≤ ch s q
      · have q1 : decide ((48 : Int) ≤ (ch s q : Int)) = true := decide_eq_true (by omega)
        have q2 : decide ((ch s q : Int) ≤ 57) = false := decide_eq_false (by omega)
        by_cases hqa : q = p + 1
        · have HV := Lib.hid ((idxF_3 (a := p + 1) (n := n) (f := f') hdg (.inl hqa)).symm.trans HS.out)
          have e1 : ((q : Int) == (p : Int) + 1) = true := by simp; omega
          have e2 : (q : Int) = (p : Int) + 1 := by omega
          subst hqa
          clear hdg HS
          go_wp2_with fail
          refine (D1.out _ PR.out.2).mono ?_
          rintro e w2 ⟨rfl, hb2⟩
          have P2 := Lib.hid (PR.out.below hb2)
          have B2 := Lib.hid (BR.out.below hb2)
          clear hb2
          go_wp2_with fail
          refine (D1.out _ P2.out.2).mono ?_
          rintro e w3 ⟨rfl, hb3⟩
          have P3 := Lib.hid (P2.out.below hb3)
          have B3 := Lib.hid (B2.out.below hb3)
          clear hb3
          obtain ⟨y4, y0, y1, yf⟩ := P3.out.2.facts
          obtain ⟨z4, c0, c1, f1⟩ := P3.out.2.facts
          obtain ⟨z5, b0, b1, bf0, bf1⟩ := B3.out.facts
          have P6 := Lib.hid ((P3.out.new ⟨w.heap.size, 0, none⟩ (.string ⟨#[]⟩) (Nat.le_refl _) hg).new ⟨w.heap.size, 1, none⟩ (.int .i64 0) (Nat.le_refl _) hg)
          go_wp2_with fail
          refine bodyPost_ret (v := .tuple #[sv ⟨#[]⟩ 0, .bool false]) (by simp [results, Tryd.results34, go_sem, z5, b0, b1]) rfl ⟨by rw [← HV.out]; rfl, by rw [← HV.out]; exact P6.out⟩
        · have e1 : ((q : Int) == (p : Int) + 1) = false := by simp; omega
          by_cases h93 : ch s q = 93
          · have HV := Lib.hid ((idxF_4 (a := p + 1) (n := n) (f := f') hdg (by omega)).symm.trans HS.out)
            have e3 : ((ch s q : Int) != 93) = false := by simp; omega
            have hql := ch_in (s := s) (p := q) (by omega)
            clear hdg HS h93 hqa
            go_wp2_with fail
            refine (D1.out _ PR.out.2).mono ?_
            rintro e w2 ⟨rfl, hb2⟩
            have P2 := Lib.hid (PR.out.below hb2)
            have B2 := Lib.hid (BR.out.below hb2)
            clear hb2
            go_wp2_with fail
            refine (D1.out _ P2.out.2).mono ?_
            rintro e w3 ⟨rfl, hb3⟩
            have P3 := Lib.hid (P2.out.below hb3)
            have B3 := Lib.hid (B2.out.below hb3)
            clear hb3
            obtain ⟨y4, y0, y1, yf⟩ := P3.out.2.facts
            go_wp2_with fail
            refine (D1.out _ P3.out.2).mono ?_
            rintro e w7 ⟨rfl, hb7⟩
            have P7 := Lib.hid (P3.out.below hb7)
            have B7 := Lib.hid (B3.out.below hb7)
            clear hb7
            clear y4 y0 y1 yf
            obtain ⟨z4, c0, c1, f1⟩ := P7.out.2.facts
            obtain ⟨z5, b0, b1, bf0, bf1⟩ := B7.out.facts
            have P6 := Lib.hid (((P7.out.step).new ⟨w.heap.size, 0, none⟩ (.string ⟨#[]⟩) (Nat.le_refl _) hg).new ⟨w.heap.size, 1, none⟩ (.int .i64 (n : Int)) (Nat.le_refl _) hg)
            go_wp2_with fail
            refine bodyPost_ret (v := .tuple #[sv ⟨#[]⟩ (n : Int), .bool true]) (by simp [results, Tryd.results34, go_sem, z5, b0, b1]) rfl ⟨by rw [← HV.out], by rw [← HV.out]; exact P6.out⟩
          · have HV := Lib.hid ((idxF_3 (a := p + 1) (n := n) (f := f') hdg (.inr h93)).symm.trans HS.out)
            have e3 : ((ch s q : Int) != 93) = true := by simp; omega
            clear hdg HS h93 hqa
            go_wp2_with fail
            refine (D1.out _ PR.out.2).mono ?_
            rintro e w2 ⟨rfl, hb2⟩
            have P2 := Lib.hid (PR.out.below hb2)
            have B2 := Lib.hid (BR.out.below hb2)
            clear hb2
            go_wp2_with fail
            refine (D1.out _ P2.out.2).mono ?_
            rintro e w3 ⟨rfl, hb3⟩
            have P3 := Lib.hid (P2.out.below hb3)
            have B3 := Lib.hid (B2.out.below hb3)
            clear hb3
            obtain ⟨y4, y0, y1, yf⟩ := P3.out.2.facts
            go_wp2_with fail
            refine (D1.out _ P3.out.2).mono ?_
            rintro e w7 ⟨rfl, hb7⟩
            have P7 := Lib.hid (P3.out.below hb7)
            have B7 := Lib.hid (B3.out.below hb7)
            clear hb7
            clear y4 y0 y1 yf
            obtain ⟨z4, c0, c1, f1⟩ := P7.out.2.facts
            obtain ⟨z5, b0, b1, bf0, bf1⟩ := B7.out.facts
            have P6 := Lib.hid ((P7.out.new ⟨w.heap.size, 0, none⟩ (.string ⟨#[]⟩) (Nat.le_refl _) hg).new ⟨w.heap.size, 1, none⟩ (.int .i64 0) (Nat.le_refl _) hg)
            go_wp2_with fail
            refine bodyPost_ret (v := .tuple #[sv ⟨#[]⟩ 0, .bool false]) (by simp [results, Tryd.results34, go_sem, z5, b0, b1]) rfl ⟨by rw [← HV.out]; rfl, by rw [← HV.out]; exact P6.out⟩
      · have q1 : decide ((48 : Int) ≤ (ch s q : Int)) = false := decide_eq_false (by omega)
        by_cases hqa : q = p + 1
        · have HV := Lib.hid ((idxF_3 (a := p + 1) (n := n) (f := f') hdg (.inl hqa)).symm.trans HS.out)
          have e1 : ((q : Int) == (p : Int) + 1) = true := by simp; omega
          have e2 : (q : Int) = (p : Int) + 1 := by omega
          subst hqa
          clear hdg HS
          go_wp2_with fail
          refine (D1.out _ PR.out.2).mono ?_
          rintro e w2 ⟨rfl, hb2⟩
          have P2 := Lib.hid (PR.out.below hb2)
          have B2 := Lib.hid (BR.out.below hb2)
          clear hb2
          obtain ⟨y4, y0, y1, yf⟩ := P2.out.2.facts
          obtain ⟨z4, c0, c1, f1⟩ := P2.out.2.facts
          obtain ⟨z5, b0, b1, bf0, bf1⟩ := B2.out.facts
          have P6 := Lib.hid ((P2.out.new ⟨w.heap.size, 0, none⟩ (.string ⟨#[]⟩) (Nat.le_refl _) hg).new ⟨w.heap.size, 1, none⟩ (.int .i64 0) (Nat.le_refl _) hg)
          go_wp2_with fail
          refine bodyPost_ret (v := .tuple #[sv ⟨#[]⟩ 0, .bool false]) (by simp [results, Tryd.results34, go_sem, z5, b0, b1]) rfl ⟨by rw [← HV.out]; rfl, by rw [← HV.out]; exact P6.out⟩
        · have e1 : ((q : Int) == (p : Int) + 1) = false := by simp; omega
          by_cases h93 : ch s q = 93
          · have HV := Lib.hid ((idxF_4 (a := p + 1) (n := n) (f := f') hdg (by omega)).symm.trans HS.out)
            have e3 : ((ch s q : Int) != 93) = false := by simp; omega
            have hql := ch_in (s := s) (p := q) (by omega)
            clear hdg HS h93 hqa
            go_wp2_with fail
            refine (D1.out _ PR.out.2).mono ?_
            rintro e w2 ⟨rfl, hb2⟩
            have P2 := Lib.hid (PR.out.below hb2)
            have B2 := Lib.hid (BR.out.below hb2)
            clear hb2
            obtain ⟨y4, y0, y1, yf⟩ := P2.out.2.facts
            go_wp2_with fail
            refine (D1.out _ P2.out.2).mono ?_
            rintro e w7 ⟨rfl, hb7⟩
            have P7 := Lib.hid (P2.out.below hb7)
            have B7 := Lib.hid (B2.out.below hb7)
            clear hb7
            clear y4 y0 y1 yf
            obtain ⟨z4, c0, c1, f1⟩ := P7.out.2.facts
            obtain ⟨z5, b0, b1, bf0, bf1⟩ := B7.out.facts
            have P6 := Lib.hid (((P7.out.step).new ⟨w.heap.size, 0, none⟩ (.string ⟨#[]⟩) (Nat.le_refl _) hg).new ⟨w.heap.size, 1, none⟩ (.int .i64 (n : Int)) (Nat.le_refl _) hg)
            go_wp2_with fail
            refine bodyPost_ret (v := .tuple #[sv ⟨#[]⟩ (n : Int), .bool true]) (by simp [results, Tryd.results34, go_sem, z5, b0, b1]) rfl ⟨by rw [← HV.out], by rw [← HV.out]; exact P6.out⟩
          · have HV := Lib.hid ((idxF_3 (a := p + 1) (n := n) (f := f') hdg (.inr h93)).symm.trans HS.out)
            have e3 : ((ch s q : Int) != 93) = true := by simp; omega
            clear hdg HS h93 hqa
            go_wp2_with fail
            refine (D1.out _ PR.out.2).mono ?_
            rintro e w2 ⟨rfl, hb2⟩
            have P2 := Lib.hid (PR.out.below hb2)
            have B2 := Lib.hid (BR.out.below hb2)
            clear hb2
            obtain ⟨y4, y0, y1, yf⟩ := P2.out.2.facts
            go_wp2_with fail
            refine (D1.out _ P2.out.2).mono ?_
            rintro e w7 ⟨rfl, hb7⟩
            have P7 := Lib.hid (P2.out.below hb7)
            have B7 := Lib.hid (B2.out.below hb7)
            clear hb7
            clear y4 y0 y1 yf
            obtain ⟨z4, c0, c1, f1⟩ := P7.out.2.facts
            obtain ⟨z5, b0, b1, bf0, bf1⟩ := B7.out.facts
            have P6 := Lib.hid ((P7.out.new ⟨w.heap.size, 0, none⟩ (.string ⟨#[]⟩) (Nat.le_refl _) hg).new ⟨w.heap.size, 1, none⟩ (.int .i64 0) (Nat.le_refl _) hg)
            go_wp2_with fail
            refine bodyPost_ret (v := .tuple #[sv ⟨#[]⟩ 0, .bool false]) (by simp [results, Tryd.results34, go_sem, z5, b0, b1]) rfl ⟨by rw [← HV.out]; rfl, by rw [← HV.out]; exact P6.out⟩
end Go.Proofs.YtaocgibfabofhaaDoor
