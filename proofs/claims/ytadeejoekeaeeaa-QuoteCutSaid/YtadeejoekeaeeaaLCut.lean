/-
  A literal with a rest behind it, or cut short, is no literal: the law QuoteCut. No condition.
-/
import Derived.Test.YtadeejoekeaeeaaLLabels
import Derived.Test.YtadeejoekeaeeaaK2
namespace Go.Proofs.Ytadeejoekeaeeaa
open Go.RowKit
set_option linter.unusedSimpArgs false
set_option linter.unusedVariables false
theorem wf_u16 {x : Int} (h : (Lit.int .u16 x).wf = true) : 0 ≤ x ∧ x ≤ 65535 := by
  simpa [Lit.wf, IntKind.min, IntKind.max, IntKind.signed, IntKind.bits] using h
set_option maxRecDepth 100000 in
set_option maxHeartbeats 2000000 in
theorem law_cut (s u : ByteArray) (x : Int) (hx : (Lit.int .u16 x).wf = true) (w : World) : Calls Try.prog 11 #[.string s, .string u, .int .u16 x] w fun e w' => e = .returned (.bool true) ∧ Below w.heap.size w w' := by
  obtain ⟨x0, x1⟩ := wf_u16 hx
  clear hx
  obtain ⟨N, rfl⟩ := Int.eq_ofNat_of_zero_le x0
  by_cases hs : s.size ≤ 300
  · by_cases hu : u.size ≤ 300
    · by_cases hz : u.size = 0
      · go_enter Try.func11, Try.ntmps11
        go_wp2_with fail
        refine (alive_any _).mono ?_
        rintro e w3 ⟨rfl, hb3⟩
        have HB := Lib.hid hb3
        clear hb3
        go_wp2_with fail
        go_ret
        exact ⟨rfl, HB.out⟩
      · obtain ⟨Q, hQ⟩ : ∃ Q : ByteArray, quoteL s.data.toList = Q.data.toList := ⟨⟨(quoteL s.data.toList).toArray⟩, rfl⟩
        have hlen : (quoteL s.data.toList).length = Q.size := by rw [hQ]; simp
        have q2 : 2 ≤ Q.size ∧ Q.size ≤ 1202 := by
          have h1 := quoteL_len s.data.toList; have h2 := body_len s.data.toList; simp at h1 h2; omega
        have hune : u.data.toList ≠ [] := by intro e; apply hz; have := congrArg List.length e; simpa using this
        have hr := unq_rest s.data.toList u.data.toList (by simp; omega) hune (by simp; omega)
        rw [hlen, hQ] at hr
        have hr' : unq (Q ++ u).data.toList = ([], 8, Q.size) := by rw [show (Q ++ u).data.toList = Q.data.toList ++ u.data.toList by simp]; exact hr
        obtain ⟨k, hk⟩ : ∃ k, k = N % Q.size := ⟨_, rfl⟩
        have hkq : k < Q.size := by rw [hk]; exact Nat.mod_lt _ (by omega)
        obtain ⟨g, hg, hgk⟩ := unq_cut s.data.toList k (by simp; omega) (by omega)
        rw [hQ] at hg hgk
        have hE : unq (Q.extract 0 k).data.toList = ((⟨#[]⟩ : ByteArray).data.toList, 8, g) := by
          rw [show (Q.extract 0 k).data.toList = Q.data.toList.take k by simp]; exact hg
        have C1 := Lib.hid (quote_at s Q (by omega) hQ)
        have C2 := Lib.hid (fails_true (Q ++ u) Q.size hr')
        have C3 := Lib.hid (unquote_at (Q.extract 0 k) ⟨#[]⟩ 8 g hE)
        have m1 : Int.tmod (N : Int) (Q.size : Int) = (k : Int) := by rw [hk]; rfl
        have m2 : (N : Int) % (Q.size : Int) = (k : Int) := by rw [hk]; rfl
        have m3 : ((Q.size : Int) == 0) = false := beq_eq_false_iff_ne.2 (by omega)
        have m4 : ¬ (Q.size : Int) = 0 := by omega
        have e2 : IntKind.i64.wrap (k : Int) = (k : Int) := by simp [IntKind.wrap, IntKind.bits, IntKind.signed]; omega
        have z1 : ¬ 9223372036854775807 < Q.size + u.size := by omega
        have kle : (k : Int) ≤ (Q.size : Int) := by omega
        have u0 : ((u.size : Int) == 0) = false := beq_eq_false_iff_ne.2 (by omega)
        obtain ⟨q2, q3⟩ := q2
        clear hQ hlen hune hr hr' hg hE hk hz
        by_cases hgk1 : g = k
        · subst hgk1
          clear hgk
          go_enter Try.func11, Try.ntmps11
          go_wp2_with fail
          refine (C1.out _).mono ?_
          rintro e w1 ⟨rfl, hb1⟩
          go_wp2_with fail
          refine (C2.out _).mono ?_
          rintro e w2 ⟨rfl, hb2⟩
          have B2 := hb1.trans (hb2.mono hb1.size)
          clear hb1 hb2
          go_wp2_with fail
          refine (C3.out _).mono ?_
          rintro e w3 ⟨rfl, hb3⟩
          have B3 := (B2.trans (hb3.mono B2.size)).alloc (Nat.le_trans B2.size hb3.size) (.cells #[.int .i64 8, .int .i64 (g : Int)] 27)
          have F2 := World.alloc_heap_new w3 (.cells #[.int .i64 8, .int .i64 (g : Int)] 27)
          obtain ⟨z2, c2, d2⟩ := fcells F2
          clear B2 hb3 F2
          go_wp2_with fail
          refine (alive_any _).mono ?_
          rintro e w4 ⟨rfl, hb4⟩
          have HB := Lib.hid (B3.trans (hb4.mono B3.size))
          clear hb4 B3
          go_wp2_with fail
          go_ret
          exact ⟨rfl, HB.out⟩
        · obtain ⟨k1, k2, k3, k4⟩ : g < k ∧ 0 < k ∧ Q.data.toList.getD g 0 = 92 ∧ k ≤ g + 3 := by
            rcases hgk with h | h
            · exact absurd h hgk1
            · exact h
          have gq : g < Q.size := by omega
          have X0 : ((g : Int) == (k : Int)) = false := by simp; omega
          have X2 : (((Q[g]).toNat : Int) == 92) = true := by
            rw [ch_at Q g gq]; unfold ch; rw [k3]; rfl
          have X3 : IntKind.i64.wrap ((k : Int) - 3) = (k : Int) - 3 := by simp [IntKind.wrap, IntKind.bits, IntKind.signed]; omega
          have X4 : (k : Int) - 3 ≤ (g : Int) := by omega
          have X5 : g ≤ k := by omega
          clear hgk hgk1 k3
          go_enter Try.func11, Try.ntmps11
          go_wp2_with fail
          refine (C1.out _).mono ?_
          rintro e w1 ⟨rfl, hb1⟩
          go_wp2_with fail
          refine (C2.out _).mono ?_
          rintro e w2 ⟨rfl, hb2⟩
          have B2 := hb1.trans (hb2.mono hb1.size)
          clear hb1 hb2
          go_wp2_with fail
          refine (C3.out _).mono ?_
          rintro e w3 ⟨rfl, hb3⟩
          have B3 := (B2.trans (hb3.mono B2.size)).alloc (Nat.le_trans B2.size hb3.size) (.cells #[.int .i64 8, .int .i64 (g : Int)] 27)
          have F2 := World.alloc_heap_new w3 (.cells #[.int .i64 8, .int .i64 (g : Int)] 27)
          obtain ⟨z2, c2, d2⟩ := fcells F2
          clear B2 hb3 F2
          go_wp2_with fail
          refine (alive_any _).mono ?_
          rintro e w4 ⟨rfl, hb4⟩
          have HB := Lib.hid (B3.trans (hb4.mono B3.size))
          clear hb4 B3
          go_wp2_with fail
          go_ret
          exact ⟨rfl, HB.out⟩
    · go_enter Try.func11, Try.ntmps11
      go_wp2_with fail
      refine (alive_any _).mono ?_
      rintro e w3 ⟨rfl, hb3⟩
      have HB := Lib.hid hb3
      clear hb3
      go_wp2_with fail
      go_ret
      exact ⟨rfl, HB.out⟩
  · go_enter Try.func11, Try.ntmps11
    go_wp2_with fail
    refine (alive_any _).mono ?_
    rintro e w3 ⟨rfl, hb3⟩
    have HB := Lib.hid hb3
    clear hb3
    go_wp2_with fail
    go_ret
    exact ⟨rfl, HB.out⟩
end Go.Proofs.Ytadeejoekeaeeaa
