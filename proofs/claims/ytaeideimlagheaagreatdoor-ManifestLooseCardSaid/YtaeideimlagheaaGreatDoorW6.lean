/-
  Parse of the program, every text. Conditions: the table of powers of ten, internal/bytealg.MaxLen holds some number, the two error variables of strconv hold interface values.
-/
import Derived.Test.YtaeideimlagheaaGreatDoorW5
namespace Go.Proofs.YtaeideimlagheaaGreatDoor
open Go.RowKit Go.Sort Go.Shelf Go.Proofs
set_option linter.unusedSimpArgs false
set_option linter.unnecessarySimpa false
set_option linter.unusedVariables false
set_option maxRecDepth 100000 in
set_option maxHeartbeats 1000000 in
theorem parse_big (s : ByteArray) (hs : 65536 < s.size) (w : World) : Calls Tryz.prog 20 #[.string s] w (ParseIs s w) := by
  have hns : (65536 : Int) < (s.size : Int) := by omega
  have HE := Lib.hid (show parseL verV s.data.toList = .inl (2, 0) by unfold parseL; rw [if_pos (by simpa using hs)])
  go_enter Tryz.func20, Tryz.ntmps20
  go_wp2_with fail
  refine bodyPost_ret (v := .tuple #[mf zeroMd none 0 0, .agg #[.int .i64 2, .int .i64 0]]) (by simp [results, Tryz.results20, go_sem]) rfl ?_
  unfold ParseIs; rw [HE.out]
  exact ⟨rfl, ((Below.refl _ _).alloc (Nat.le_refl _) _).alloc (by simp) _⟩
theorem parse_any (s : ByteArray) (w : World) (hC : Cond w) : Calls Tryz.prog 20 #[.string s] w (ParseIs s w) := by
  by_cases h : s.size ≤ 65536
  · exact parse_loop s h w hC
  · exact parse_big s (by omega) w
end Go.Proofs.YtaeideimlagheaaGreatDoor
