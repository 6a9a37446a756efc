/-
  Identifiers, labels and what labels denote are as the rules describe: the law QuoteNames. No condition.
-/
import Derived.Test.YtadeejoekeaeeaaJ
import Derived.Test.YtadeejoekeaeeaaRF
namespace Go.Proofs.Ytadeejoekeaeeaa
open Go.RowKit
set_option linter.unusedSimpArgs false
set_option linter.unusedVariables false
theorem unl_form (s : ByteArray) : ∃ (r : ByteArray) (n a : Nat), unl s = (r.data.toList, n, a) := ⟨⟨(unl s).1.toArray⟩, (unl s).2.1, (unl s).2.2, rfl⟩
set_option maxRecDepth 100000 in
set_option maxHeartbeats 2000000 in
theorem law_names (s : ByteArray) (w : World) : Calls Try.prog 7 #[.string s] w fun e w' => e = .returned (.bool true) ∧ Below w.heap.size w w' := by
  by_cases hs : s.size ≤ 2000
  · obtain ⟨r, n, a, hR⟩ := unl_form s
    obtain ⟨L, hL⟩ : ∃ L, labelV s = L := ⟨_, rfl⟩
    obtain ⟨v, hv⟩ : ∃ v, identB s = v := ⟨_, rfl⟩
    have C1 := Lib.hid (unlabel_at s r n a hR)
    have C2 := Lib.hid (runlabel_at s r n a hR)
    have C3 := Lib.hid (ident_at s v hv)
    have C4 := Lib.hid (rident_at s v hv)
    have C5 := Lib.hid (label_at s L (by omega) hL)
    have C6 := Lib.hid (rlabel_at s L (by omega) hL)
    have q0 : ∀ w, (Op.equalIn 10000 27 (.agg #[.int .i64 (n : Int), .int .i64 (a : Int)]) (.agg #[.int .i64 (n : Int), .int .i64 (a : Int)])).run Try.prog w = .ok true w := fun w => by rw [eqF]; simp
    clear hR hL hv
    go_enter Try.func7, Try.ntmps7
    go_wp2_with fail
    refine (C1.out _).mono ?_
    rintro e w1 ⟨rfl, hb1⟩
    have B1 := hb1.alloc hb1.size (.cells #[.int .i64 (n : Int), .int .i64 (a : Int)] 27)
    have F1 := World.alloc_heap_new w1 (.cells #[.int .i64 (n : Int), .int .i64 (a : Int)] 27)
    clear hb1
    go_wp2_with fail
    refine (C2.out _).mono ?_
    rintro e w3 ⟨rfl, hb3⟩
    have F3 := blk_keep F1 hb3
    have B3 := B1.trans (hb3.mono B1.size)
    have F4 := blk_alloc F3 (.cells #[.int .i64 (n : Int), .int .i64 (a : Int)] 27)
    have F5 := World.alloc_heap_new w3 (.cells #[.int .i64 (n : Int), .int .i64 (a : Int)] 27)
    have B4 := B3.alloc B3.size (.cells #[.int .i64 (n : Int), .int .i64 (a : Int)] 27)
    clear B1 F1 hb3 F3 B3 C1 C2
    go_wp2_with fail
    refine (C3.out _).mono ?_
    rintro e w4 ⟨rfl, rfl⟩
    generalize w1.heap.size = g1 at *
    generalize w3.heap.size = g3 at *
    generalize w3.alloc (.cells #[.int .i64 (n : Int), .int .i64 (a : Int)] 27) = w4 at *
    go_wp2_with fail
    refine (C4.out _).mono ?_
    rintro e w5 ⟨rfl, hb5⟩
    have B5 := B4.trans (hb5.mono B4.size)
    have F6 := blk_keep F4 hb5
    have F7 := blk_keep F5 hb5
    clear hb5 B4 F4 F5 C3 C4
    go_wp2_with fail
    refine (C5.out _).mono ?_
    rintro e w6 ⟨rfl, hb6⟩
    have B6 := B5.trans (hb6.mono B5.size)
    have F8 := blk_keep F6 hb6
    have F9 := blk_keep F7 hb6
    clear hb6 B5 F6 F7 C5
    go_wp2_with fail
    refine (C6.out _).mono ?_
    rintro e w7 ⟨rfl, hb7⟩
    have B7 := B6.trans (hb7.mono B6.size)
    have FA := blk_keep F8 hb7
    have FB := blk_keep F9 hb7
    clear hb7 B6 F8 F9 C6
    obtain ⟨z1, c1, d1⟩ := fcells FA
    obtain ⟨z2, c2, d2⟩ := fcells FB
    clear FA FB
    go_wp2_with fail
    refine (alive_any _).mono ?_
    rintro e w8 ⟨rfl, hb8⟩
    have HB := Lib.hid (B7.trans (hb8.mono B7.size))
    clear hb8 B7
    go_wp2_with fail
    go_ret
    exact ⟨rfl, HB.out⟩
  · go_enter Try.func7, Try.ntmps7
    go_wp2_with fail
    refine (alive_any _).mono ?_
    rintro e w3 ⟨rfl, hb3⟩
    have HB := Lib.hid hb3
    clear hb3
    go_wp2_with fail
    go_ret
    exact ⟨rfl, HB.out⟩
end Go.Proofs.Ytadeejoekeaeeaa
