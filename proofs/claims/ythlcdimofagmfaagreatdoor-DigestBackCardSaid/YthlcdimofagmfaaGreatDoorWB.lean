/-
  The laws DigestParse and DigestBack. Conditions: the table of powers of ten, internal/bytealg.MaxLen holds some number.
-/
import Derived.Test.YthlcdimofagmfaaGreatDoorWS
import Derived.Test.YthlcdimofagmfaaGreatDoorPL
namespace Go.Proofs.YthlcdimofagmfaaGreatDoor
open Go.RowKit
theorem lawParse (n : Nat) (hn : n < 18446744073709551616) (s : ByteArray) (w : World) (hT : P10 w) (hM : Mx w) : Calls Tryz.prog 4 #[.int .u64 (n : Int), .string s] w fun e w' => e = .returned (.bool true) ∧ Below w.heap.size w w' := Dg.law_parse n hn s w (alive_at w hM hT)
theorem lawBack (n : Nat) (hn : n < 18446744073709551616) (s : ByteArray) (w : World) (hT : P10 w) (hM : Mx w) : Calls Tryz.prog 5 #[.int .u64 (n : Int), .string s] w fun e w' => e = .returned (.bool true) ∧ Below w.heap.size w w' := Dg.law_back n hn s w (alive_at w hM hT)
end Go.Proofs.YthlcdimofagmfaaGreatDoor
