/-
  Different strings have different literals and labels: the law QuoteApart. No condition.
-/
import Derived.Test.YtadeejoekeaeeaaLLabels
namespace Go.Proofs.Ytadeejoekeaeeaa
open Go.RowKit
set_option linter.unusedSimpArgs false
set_option linter.unusedVariables false
theorem ba_ne {a b : ByteArray} (h : a ≠ b) : a.data.toList ≠ b.data.toList := by
  intro e; apply h; apply ByteArray.ext; exact Array.ext' e
theorem label_ne {a b : ByteArray} (ha : a.size ≤ 1000) (hb : b.size ≤ 1000) (h : a ≠ b) : labelV a ≠ labelV b := by
  unfold labelV
  intro e
  cases h1 : identB a <;> cases h2 : identB b <;> simp only [h1, h2, if_true, Bool.false_eq_true, if_false] at e
  · have := congrArg (fun x : ByteArray => x.data.toList) e
    exact ba_ne h (quote_inj (by simp; omega) (by simp; omega) this)
  · have := ident_quote b a.data.toList (by rw [← e])
    rw [h2] at this; cases this
  · have := ident_quote a b.data.toList (by rw [e])
    rw [h1] at this; cases this
  · exact h e
set_option maxRecDepth 100000 in
set_option maxHeartbeats 2000000 in
theorem law_apart (a b : ByteArray) (w : World) : Calls Try.prog 9 #[.string a, .string b] w fun e w' => e = .returned (.bool true) ∧ Below w.heap.size w w' := by
  by_cases ha : a.size ≤ 1000
  · by_cases hb : b.size ≤ 1000
    · obtain ⟨P, hP⟩ : ∃ P : ByteArray, quoteL a.data.toList = P.data.toList := ⟨⟨(quoteL a.data.toList).toArray⟩, rfl⟩
      obtain ⟨Q, hQ⟩ : ∃ Q : ByteArray, quoteL b.data.toList = Q.data.toList := ⟨⟨(quoteL b.data.toList).toArray⟩, rfl⟩
      have c1 := quote_at a P (by omega) hP
      have c2 := quote_at b Q (by omega) hQ
      have c3 := label_any a (by omega)
      have c4 := label_any b (by omega)
      obtain ⟨L, hL⟩ : ∃ L, L = labelV a := ⟨_, rfl⟩
      obtain ⟨M, hM⟩ : ∃ M, M = labelV b := ⟨_, rfl⟩
      rw [← hL] at c3
      rw [← hM] at c4
      have C1 := Lib.hid c1; have C2 := Lib.hid c2; have C3 := Lib.hid c3; have C4 := Lib.hid c4
      clear c1 c2 c3 c4
      by_cases hab : a = b
      · subst hab
        have e1 : P = Q := by apply ByteArray.ext; apply Array.ext'; rw [← hP, ← hQ]
        have e2 : L = M := by rw [hL, hM]
        subst e1 e2
        clear hP hQ hL hM
        go_enter Try.func9, Try.ntmps9
        go_wp2_with fail
        refine (C1.out _).mono ?_
        rintro e w1 ⟨rfl, hb1⟩
        go_wp2_with fail
        refine (C2.out _).mono ?_
        rintro e w2 ⟨rfl, hb2⟩
        have B2 := hb1.trans (hb2.mono hb1.size)
        clear hb1 hb2
        go_wp2_with fail
        refine (C3.out _).mono ?_
        rintro e w3 ⟨rfl, hb3⟩
        have B3 := B2.trans (hb3.mono B2.size)
        clear hb3 B2
        go_wp2_with fail
        refine (C4.out _).mono ?_
        rintro e w4 ⟨rfl, hb4⟩
        have B4 := B3.trans (hb4.mono B3.size)
        clear hb4 B3
        go_wp2_with fail
        refine (alive_any _).mono ?_
        rintro e w5 ⟨rfl, hb5⟩
        have HB := Lib.hid (B4.trans (hb5.mono B4.size))
        clear hb5 B4
        go_wp2_with fail
        go_ret
        exact ⟨rfl, HB.out⟩
      · have n1 : P ≠ Q := by
          intro e; subst e; exact ba_ne hab (quote_inj (by simp; omega) (by simp; omega) (hP.trans hQ.symm))
        have n2 : L ≠ M := by rw [hL, hM]; exact label_ne ha hb hab
        have q1 := toList_beq n1
        have q2 := toList_beq n2
        have q3 := toList_beq hab
        clear hP hQ hL hM n1 n2 hab
        go_enter Try.func9, Try.ntmps9
        go_wp2_with fail
        refine (C1.out _).mono ?_
        rintro e w1 ⟨rfl, hb1⟩
        go_wp2_with fail
        refine (C2.out _).mono ?_
        rintro e w2 ⟨rfl, hb2⟩
        have B2 := hb1.trans (hb2.mono hb1.size)
        clear hb1 hb2
        go_wp2_with fail
        refine (C3.out _).mono ?_
        rintro e w3 ⟨rfl, hb3⟩
        have B3 := B2.trans (hb3.mono B2.size)
        clear hb3 B2
        go_wp2_with fail
        refine (C4.out _).mono ?_
        rintro e w4 ⟨rfl, hb4⟩
        have B4 := B3.trans (hb4.mono B3.size)
        clear hb4 B3
        go_wp2_with fail
        refine (alive_any _).mono ?_
        rintro e w5 ⟨rfl, hb5⟩
        have HB := Lib.hid (B4.trans (hb5.mono B4.size))
        clear hb5 B4
        go_wp2_with fail
        go_ret
        exact ⟨rfl, HB.out⟩
    · go_enter Try.func9, Try.ntmps9
      go_wp2_with fail
      refine (alive_any _).mono ?_
      rintro e w3 ⟨rfl, hb3⟩
      have HB := Lib.hid hb3
      clear hb3
      go_wp2_with fail
      go_ret
      exact ⟨rfl, HB.out⟩
  · go_enter Try.func9, Try.ntmps9
    go_wp2_with fail
    refine (alive_any _).mono ?_
    rintro e w3 ⟨rfl, hb3⟩
    have HB := Lib.hid hb3
    clear hb3
    go_wp2_with fail
    go_ret
    exact ⟨rfl, HB.out⟩
end Go.Proofs.Ytadeejoekeaeeaa
