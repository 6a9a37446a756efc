/-
  What a literal denotes, and the faults of other texts, are as the rules describe: the law QuoteReads. No condition.
-/
import Derived.Test.YtadeejoekeaeeaaJ
import Derived.Test.YtadeejoekeaeeaaRD
namespace Go.Proofs.Ytadeejoekeaeeaa
open Go.RowKit
set_option linter.unusedSimpArgs false
set_option linter.unusedVariables false
theorem runquote_at (s r : ByteArray) (n at_ : Nat) (h : unq s.data.toList = (r.data.toList, n, at_)) (w : World) :
    Calls Try.prog 16 #[.string s] w fun e w' => e = .returned (.tuple #[.string r, .agg #[.int .i64 (n : Int), .int .i64 (at_ : Int)]]) ∧ Below w.heap.size w w' := by
  have := runquote_any s w
  rw [h] at this
  exact this
theorem unq_form (l : List UInt8) : ∃ (r : ByteArray) (n a : Nat), unq l = (r.data.toList, n, a) := ⟨⟨(unq l).1.toArray⟩, (unq l).2.1, (unq l).2.2, rfl⟩
set_option maxRecDepth 100000 in
set_option maxHeartbeats 2000000 in
theorem law_reads (s : ByteArray) (w : World) : Calls Try.prog 4 #[.string s] w fun e w' => e = .returned (.bool true) ∧ Below w.heap.size w w' := by
  by_cases hs : s.size ≤ 2000
  · obtain ⟨r, n, a, hR⟩ := unq_form s.data.toList
    have C1 := Lib.hid (unquote_at s r n a hR)
    have C2 := Lib.hid (runquote_at s r n a hR)
    have q0 : ∀ w, (Op.equalIn 10000 27 (.agg #[.int .i64 (n : Int), .int .i64 (a : Int)]) (.agg #[.int .i64 (n : Int), .int .i64 (a : Int)])).run Try.prog w = .ok true w := fun w => by rw [eqF]; simp
    clear hR
    go_enter Try.func4, Try.ntmps4
    go_wp2_with fail
    refine (C1.out _).mono ?_
    rintro e w1 ⟨rfl, hb1⟩
    have B1 := hb1.alloc hb1.size (.cells #[.int .i64 (n : Int), .int .i64 (a : Int)] 27)
    have F1 := World.alloc_heap_new w1 (.cells #[.int .i64 (n : Int), .int .i64 (a : Int)] 27)
    clear hb1
    go_wp2_with fail
    refine (C2.out _).mono ?_
    rintro e w3 ⟨rfl, hb3⟩
    have F3 := blk_keep F1 hb3
    have B3 := B1.trans (hb3.mono B1.size)
    have F4 := blk_alloc F3 (.cells #[.int .i64 (n : Int), .int .i64 (a : Int)] 27)
    have F5 := World.alloc_heap_new w3 (.cells #[.int .i64 (n : Int), .int .i64 (a : Int)] 27)
    have B4 := B3.alloc B3.size (.cells #[.int .i64 (n : Int), .int .i64 (a : Int)] 27)
    obtain ⟨z1, c1, d1⟩ := fcells F4
    obtain ⟨z2, c2, d2⟩ := fcells F5
    clear B1 F1 hb3 F3 B3 F4 F5 C1 C2
    go_wp2_with fail
    refine (alive_any _).mono ?_
    rintro e w5 ⟨rfl, hb5⟩
    have HB := Lib.hid (B4.trans (hb5.mono B4.size))
    clear hb5 B4
    go_wp2_with fail
    go_ret
    exact ⟨rfl, HB.out⟩
  · go_enter Try.func4, Try.ntmps4
    go_wp2_with fail
    refine (alive_any _).mono ?_
    rintro e w3 ⟨rfl, hb3⟩
    have HB := Lib.hid hb3
    clear hb3
    go_wp2_with fail
    go_ret
    exact ⟨rfl, HB.out⟩
end Go.Proofs.Ytadeejoekeaeeaa
