/-
  The literal is the one that the rules describe, byte by byte: the law QuoteWrites. No condition.
-/
import Derived.Test.YtadeejoekeaeeaaJ
import Derived.Test.YtadeejoekeaeeaaRA
namespace Go.Proofs.Ytadeejoekeaeeaa
open Go.RowKit
set_option linter.unusedSimpArgs false
set_option linter.unusedVariables false
theorem rquote_at (s r : ByteArray) (hs : s.size ≤ 1099511627776) (h : quoteL s.data.toList = r.data.toList) (w : World) :
    Calls Try.prog 14 #[.string s] w fun e w' => e = .returned (.string r) ∧ Below w.heap.size w w' := by
  have := rquote_any s hs w
  rw [ba_of h.symm] at this
  exact this
set_option maxRecDepth 100000 in
set_option maxHeartbeats 2000000 in
theorem law_writes (s : ByteArray) (w : World) : Calls Try.prog 3 #[.string s] w fun e w' => e = .returned (.bool true) ∧ Below w.heap.size w w' := by
  by_cases hs : s.size ≤ 2000
  · obtain ⟨Q, hQ⟩ : ∃ Q : ByteArray, quoteL s.data.toList = Q.data.toList := ⟨⟨(quoteL s.data.toList).toArray⟩, rfl⟩
    have C1 := Lib.hid (quote_at s Q (by omega) hQ)
    have C2 := Lib.hid (rquote_at s Q (by omega) hQ)
    clear hQ
    go_enter Try.func3, Try.ntmps3
    go_wp2_with fail
    refine (C1.out _).mono ?_
    rintro e w1 ⟨rfl, hb1⟩
    go_wp2_with fail
    refine (C2.out _).mono ?_
    rintro e w2 ⟨rfl, hb2⟩
    have B2 := hb1.trans (hb2.mono hb1.size)
    clear hb1 hb2
    go_wp2_with fail
    refine (alive_any _).mono ?_
    rintro e w3 ⟨rfl, hb3⟩
    have HB := Lib.hid (B2.trans (hb3.mono B2.size))
    clear hb3 B2
    go_wp2_with fail
    go_ret
    exact ⟨rfl, HB.out⟩
  · go_enter Try.func3, Try.ntmps3
    go_wp2_with fail
    refine (alive_any _).mono ?_
    rintro e w3 ⟨rfl, hb3⟩
    have HB := Lib.hid hb3
    clear hb3
    go_wp2_with fail
    go_ret
    exact ⟨rfl, HB.out⟩
end Go.Proofs.Ytadeejoekeaeeaa
