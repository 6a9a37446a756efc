/-
  Reading a literal undoes writing it: the law QuoteBack. No condition.
-/
import Derived.Test.YtadeejoekeaeeaaJ
import Derived.Test.YtadeejoekeaeeaaK
namespace Go.Proofs.Ytadeejoekeaeeaa
open Go.RowKit
set_option linter.unusedSimpArgs false
set_option linter.unusedVariables false
theorem elem_mem (Q : ByteArray) (k : Nat) (h : k < Q.size) : Q[k] ∈ Q.data.toList :=
  List.mem_of_getElem? (i := k) (by rw [List.getElem?_eq_getElem (by simpa using h)]; rfl)
set_option maxRecDepth 100000 in
set_option maxHeartbeats 2000000 in
theorem law_back (s : ByteArray) (w : World) : Calls Try.prog 6 #[.string s] w fun e w' => e = .returned (.bool true) ∧ Below w.heap.size w w' := by
  by_cases hs : s.size ≤ 1000
  · obtain ⟨Q, hQ⟩ : ∃ Q : ByteArray, quoteL s.data.toList = Q.data.toList := ⟨⟨(quoteL s.data.toList).toArray⟩, rfl⟩
    have hu : unq Q.data.toList = (s.data.toList, 0, 0) := by rw [← hQ]; exact unq_quote _ (by simp; omega)
    have hpr : ∀ k (h : k < Q.size), 32 ≤ (Q[k]).toNat ∧ (Q[k]).toNat ≤ 126 := fun k h => quoteL_pr _ _ (by rw [hQ]; exact elem_mem Q k h)
    have hlq : Q.size ≤ 4002 := by
      have h1 := quoteL_len s.data.toList
      have h2 := body_len s.data.toList
      rw [hQ] at h1
      simp at h1 h2
      omega
    have HU := Lib.hid (unquote_at Q s 0 0 hu)
    have HQ := Lib.hid (quote_at s Q (by omega) hQ w)
    have HPR := Lib.hid hpr
    have q0 : ∀ w, (Op.equalIn 10000 27 (.agg #[.int .i64 0, .int .i64 0]) (.agg #[.int .i64 0, .int .i64 0])).run Try.prog w = .ok true w := fun w => by rw [eqF]; simp
    clear hQ hu hpr
    go_enter Try.func6, Try.ntmps6
    go_wp2_with fail
    refine HQ.out.mono ?_
    rintro e w1 ⟨rfl, hb1⟩
    go_wp2_with fail
    refine (HU.out _).mono ?_
    rintro e w2 ⟨rfl, hb2⟩
    have B2 := (hb1.trans (hb2.mono hb1.size)).alloc (Nat.le_trans hb1.size hb2.size) (.cells #[.int .i64 0, .int .i64 0] 27)
    have F2 := World.alloc_heap_new w2 (.cells #[.int .i64 0, .int .i64 0] 27)
    obtain ⟨z2, c2, d2⟩ := fcells F2
    clear hb1 hb2 HU HQ F2
    go_wp2_with fail
    go_loop [6] (fun i => ∃ k : Nat, k ≤ Q.size ∧ i = .int .i64 (k : Int)) (fun i => Q.size - (intOf i).toNat)
    case atStart => exact ⟨0, Nat.zero_le _, rfl⟩
    case round =>
      obtain ⟨k, hk, rfl⟩ := hrel
      by_cases hlt : k < Q.size
      · obtain ⟨p1, p2⟩ := HPR.out k hlt
        have P1 : decide (((Q[k]).toNat : Int) < 32) = false := by simp; omega
        have P2 : decide ((126 : Int) < ((Q[k]).toNat : Int)) = false := by simp; omega
        go_wp2_with fail
        go_round
        case rel => exact ⟨k + 1, by omega, by go_num⟩
        case measure => simp [intOf]; omega
      · go_wp2_with fail
        refine (alive_any _).mono ?_
        rintro e w3 ⟨rfl, hb3⟩
        have HB := Lib.hid (B2.trans (hb3.mono B2.size))
        clear hb3 B2
        go_wp2_with fail
        go_ret
        exact ⟨rfl, HB.out⟩
  · go_enter Try.func6, Try.ntmps6
    go_wp2_with fail
    refine (alive_any _).mono ?_
    rintro e w3 ⟨rfl, hb3⟩
    have HB := Lib.hid hb3
    clear hb3
    go_wp2_with fail
    go_ret
    exact ⟨rfl, HB.out⟩
end Go.Proofs.Ytadeejoekeaeeaa
