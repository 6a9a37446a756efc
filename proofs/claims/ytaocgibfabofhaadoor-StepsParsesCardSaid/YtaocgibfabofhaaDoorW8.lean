/-
  Parse answers as the specification does: the law StepsParses. Condition: the table of powers of ten holds what it holds.
-/
import Derived.Test.YtaocgibfabofhaaDoorQ11
import Derived.Test.YtaocgibfabofhaaDoorM5
import Derived.Test.YtaocgibfabofhaaDoorW5
namespace Go.Proofs.YtaocgibfabofhaaDoor
open Go.RowKit
set_option linter.unusedSimpArgs false
set_option linter.unusedVariables false
theorem parS_fit {s : ByteArray} (hs : s.size ≤ 400) : ∃ L n a, parS s = (L, n, a) ∧ L.length ≤ 1000 := by
  rcases parS_inv (s := s) (by omega) with ⟨a, e, ha⟩ | ⟨L, e, hv, hl, hn, ht⟩
  · exact ⟨_, _, _, e, by simp⟩
  · exact ⟨_, _, _, e, by omega⟩
set_option maxRecDepth 100000 in
set_option maxHeartbeats 4000000 in
theorem law_parses (s : ByteArray) (w : World) (hT : P10 w) :
    Calls Tryd.prog 4 #[.string s] w fun e w' => e = .returned (.bool true) ∧ Below w.heap.size w w' := by
  have CE : Hid (∀ W, Below w.heap.size w W → Calls Tryd.prog 12 #[] W fun e w' => e = .returned (.bool true) ∧ Below W.heap.size W w') := Lib.hid fun W h => example_any W (hT.below h)
  by_cases hs : 400 < s.size
  · have q : decide ((400 : Int) < (s.size : Int)) = true := decide_eq_true (by omega)
    clear hT hs
    go_enter Tryd.func4, Tryd.ntmps4
    go_wp2_with fail
    refine (CE.out _ (Below.refl _ _)).mono ?_
    rintro e w1 ⟨rfl, hb1⟩
    go_wp2_with fail
    go_ret
    exact ⟨rfl, hb1⟩
  have q : decide ((400 : Int) < (s.size : Int)) = false := decide_eq_false (by omega)
  obtain ⟨L, n, a, e, hL⟩ := parS_fit (s := s) (by omega)
  have CP := Lib.hid (parse_any s w)
  have CR := Lib.hid (fun W => rparse_any s (by omega) W)
  rw [e] at CP CR
  have hcm : (cmpL L L == 0) = true := by rw [(cmpL_0 L L).2 rfl]; rfl
  have HC := Lib.hid hcm
  clear hT hs e hcm
  go_enter Tryd.func4, Tryd.ntmps4
  go_wp2_with fail
  refine CP.out.mono ?_
  rintro e w2 ⟨v2, rfl, hown, hb2⟩
  obtain ⟨A2, k2, rfl, _, rd2⟩ := rd_own hown
  have B2 := Lib.hid (hb2.alloc hb2.size (.cells #[.int .i64 (n : Int), .int .i64 (a : Int)] 28))
  have F2 := Lib.hid (World.alloc_heap_new w2 (.cells #[.int .i64 (n : Int), .int .i64 (a : Int)] 28))
  have R2 := Lib.hid (rd_keep rd2 ((Below.refl _ _).alloc (Nat.le_refl _) (.cells #[.int .i64 (n : Int), .int .i64 (a : Int)] 28)))
  clear hown hb2 rd2 CP
  simp only at F2 B2 R2
  go_wp2_with fail
  generalize w2.alloc (.cells #[.int .i64 (n : Int), .int .i64 (a : Int)] 28) = x2 at *
  refine (CR.out _).mono ?_
  rintro e w3 ⟨v3, rfl, hown, hb3⟩
  obtain ⟨A3, k3, rfl, _, rd3⟩ := rd_own hown
  have B3 := Lib.hid ((B2.out.trans (hb3.mono B2.out.size)).alloc (by have := B2.out.size; have := hb3.size; omega) (.cells #[.int .i64 (n : Int), .int .i64 (a : Int)] 28))
  have F3 := Lib.hid (blkK (blkK F2.out hb3) ((Below.refl _ _).alloc (Nat.le_refl _) (.cells #[.int .i64 (n : Int), .int .i64 (a : Int)] 28)))
  have G3 := Lib.hid (World.alloc_heap_new w3 (.cells #[.int .i64 (n : Int), .int .i64 (a : Int)] 28))
  have R3 := Lib.hid (rd_keep (rd_keep R2.out hb3) ((Below.refl _ _).alloc (Nat.le_refl _) (.cells #[.int .i64 (n : Int), .int .i64 (a : Int)] 28)))
  have S3 := Lib.hid (rd_keep rd3 ((Below.refl _ _).alloc (Nat.le_refl _) (.cells #[.int .i64 (n : Int), .int .i64 (a : Int)] 28)))
  clear hown hb3 rd3 CR F2 R2 B2
  simp only at F3 G3 B3 R3 S3
  obtain ⟨z1, c10, c11⟩ := fcells F3.out
  obtain ⟨z2, c20, c21⟩ := fcells G3.out
  go_wp2_with fail
  clear z1 c10 c11 z2 c20 c21
  generalize w3.alloc (.cells #[.int .i64 (n : Int), .int .i64 (a : Int)] 28) = x3 at *
  have CS := Lib.hid (same_any A2 A3 k2 k3 L L hL hL x3 R3.out S3.out)
  rw [HC.out] at CS
  refine CS.out.mono ?_
  rintro e w4 ⟨rfl, hb4⟩
  have B4 := Lib.hid (B3.out.trans (hb4.mono B3.out.size))
  clear hb4
  go_wp2_with fail
  refine (CE.out _ B4.out).mono ?_
  rintro e w5 ⟨rfl, hb5⟩
  have B5 := Lib.hid (B4.out.trans (hb5.mono B4.out.size))
  clear hb5
  go_wp2_with fail
  go_ret
  exact ⟨rfl, B5.out⟩
end Go.Proofs.YtaocgibfabofhaaDoor
