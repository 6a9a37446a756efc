/-
  Reading a label undoes writing it, and exactly the strings that are no identifiers are changed: the law QuoteLabels. No condition.
-/
import Derived.Test.YtadeejoekeaeeaaJ
import Derived.Test.YtadeejoekeaeeaaK
namespace Go.Proofs.Ytadeejoekeaeeaa
open Go.RowKit
set_option linter.unusedSimpArgs false
set_option linter.unusedVariables false
theorem wrB_pos (c : UInt8) : 1 ≤ (wrB c).length := by
  rcases wrB_cases c with ⟨e, _⟩ | ⟨r, e, _⟩ <;> rw [e] <;> simp
theorem body_ge (l : List UInt8) : l.length ≤ (body l).length := by
  induction l with
  | nil => simp [body]
  | cons c t ih => have := wrB_pos c; simp [body] at ih ⊢; omega
theorem quote_ne (l : List UInt8) : quoteL l ≠ l := by
  intro e
  have h1 := congrArg List.length e
  have h2 := body_ge l
  rw [quoteL_len] at h1
  omega
/-- a literal is no identifier -/
theorem ident_quote (Q : ByteArray) (l : List UInt8) (h : quoteL l = Q.data.toList) : identB Q = false := by
  have hsz : 0 < Q.size := by
    have := congrArg List.length h
    rw [quoteL_len] at this
    simp at this
    omega
  have h0 : (Q[0]).toNat = 34 := by
    rw [ch_at Q 0 hsz]; unfold ch; rw [← h]; rfl
  have hid : idT Q = Q := by
    unfold idT
    rw [if_neg]
    rintro ⟨_, h | h⟩ <;> (rw [← ch_at Q 0 hsz, h0] at h; omega)
  unfold identB
  rw [hid, tail_first Q hsz, h0]
  simp [show letB 34 = false from by decide]
theorem toList_ne {a b : ByteArray} (h : a ≠ b) : ¬ a.toList = b.toList := by
  rw [Go.ByteArray.toList_eq, Go.ByteArray.toList_eq]
  intro e
  exact h (ByteArray.ext (Array.ext' e))
theorem toList_beq {a b : ByteArray} (h : a ≠ b) : (a.toList == b.toList) = false := by
  simpa using toList_ne h
set_option maxRecDepth 100000 in
set_option maxHeartbeats 2000000 in
theorem law_labels (s : ByteArray) (w : World) : Calls Try.prog 8 #[.string s] w fun e w' => e = .returned (.bool true) ∧ Below w.heap.size w w' := by
  by_cases hs : s.size ≤ 1000
  · have q0 : ∀ w, (Op.equalIn 10000 27 (.agg #[.int .i64 0, .int .i64 0]) (.agg #[.int .i64 0, .int .i64 0])).run Try.prog w = .ok true w := fun w => by rw [eqF]; simp
    cases hid : identB s with
    | true =>
      have HL := Lib.hid (label_at s s (by omega) (by unfold labelV; rw [hid, if_pos rfl]) w)
      have HU := Lib.hid (unlabel_at s s 0 0 (by unfold unl; rw [hid, if_pos rfl]))
      have HI := Lib.hid hid
      clear hid
      go_enter Try.func8, Try.ntmps8
      go_wp2_with fail
      refine HL.out.mono ?_
      rintro e w1 ⟨rfl, hb1⟩
      go_wp2_with fail
      refine (HU.out _).mono ?_
      rintro e w2 ⟨rfl, hb2⟩
      have B2 := (hb1.trans (hb2.mono hb1.size)).alloc (Nat.le_trans hb1.size hb2.size) (.cells #[.int .i64 0, .int .i64 0] 27)
      clear hb1 hb2 HU HL
      go_wp2_with fail
      refine (ident_at s true HI.out _).mono ?_
      rintro e w3 ⟨rfl, rfl⟩
      go_wp2_with fail
      refine (alive_any _).mono ?_
      rintro e w3 ⟨rfl, hb3⟩
      have HB := Lib.hid (B2.trans (hb3.mono B2.size))
      clear hb3 B2
      go_wp2_with fail
      go_ret
      exact ⟨rfl, HB.out⟩
    | false =>
      obtain ⟨Q, hQ⟩ : ∃ Q : ByteArray, quoteL s.data.toList = Q.data.toList := ⟨⟨(quoteL s.data.toList).toArray⟩, rfl⟩
      have hu : unq Q.data.toList = (s.data.toList, 0, 0) := by rw [← hQ]; exact unq_quote _ (by simp; omega)
      have hne : Q ≠ s := by intro e; rw [e] at hQ; exact quote_ne _ hQ
      have hiq := ident_quote Q _ hQ
      have HL := Lib.hid (label_at s Q (by omega) (by unfold labelV; rw [hid, if_neg (by simp)]; rw [hQ]) w)
      have HU := Lib.hid (unlabel_at Q s 0 0 (by unfold unl; rw [hiq, if_neg (by simp)]; exact hu))
      have HQ := Lib.hid (quote_at s Q (by omega) hQ)
      have HI := Lib.hid hid
      have qs := toList_beq hne
      clear hid hu hne hiq hQ
      go_enter Try.func8, Try.ntmps8
      go_wp2_with fail
      refine HL.out.mono ?_
      rintro e w1 ⟨rfl, hb1⟩
      go_wp2_with fail
      refine (HU.out _).mono ?_
      rintro e w2 ⟨rfl, hb2⟩
      have B2 := (hb1.trans (hb2.mono hb1.size)).alloc (Nat.le_trans hb1.size hb2.size) (.cells #[.int .i64 0, .int .i64 0] 27)
      clear hb1 hb2 HU HL
      go_wp2_with fail
      refine (ident_at s false HI.out _).mono ?_
      rintro e w3 ⟨rfl, rfl⟩
      go_wp2_with fail
      refine (HQ.out _).mono ?_
      rintro e w4 ⟨rfl, hb4⟩
      have B4 := B2.trans (hb4.mono B2.size)
      clear hb4 B2
      go_wp2_with fail
      refine (alive_any _).mono ?_
      rintro e w3 ⟨rfl, hb3⟩
      have HB := Lib.hid (B4.trans (hb3.mono B4.size))
      clear hb3 B4
      go_wp2_with fail
      go_ret
      exact ⟨rfl, HB.out⟩
  · go_enter Try.func8, Try.ntmps8
    go_wp2_with fail
    refine (alive_any _).mono ?_
    rintro e w3 ⟨rfl, hb3⟩
    have HB := Lib.hid hb3
    clear hb3
    go_wp2_with fail
    go_ret
    exact ⟨rfl, HB.out⟩
end Go.Proofs.Ytadeejoekeaeeaa
