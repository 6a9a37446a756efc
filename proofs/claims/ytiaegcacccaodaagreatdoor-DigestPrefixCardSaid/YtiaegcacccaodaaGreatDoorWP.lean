/-
  The law DigestPrefix. Conditions: the table of powers of ten, internal/bytealg.MaxLen holds some number.
-/
import Derived.Test.YtiaegcacccaodaaGreatDoorWS
import Derived.Test.YtiaegcacccaodaaGreatDoorLX
namespace Go.Proofs.YtiaegcacccaodaaGreatDoor
open Go.RowKit
theorem lawPrefix (s t : ByteArray) (a b : UInt8) (w : World) (hT : P10 w) (hM : Mx w) : Calls Tryz.prog 9 #[.string s, .string t, .agg #[.int .u8 (a.toNat : Int), .int .u8 (b.toNat : Int)]] w fun e w' => e = .returned (.bool true) ∧ Below w.heap.size w w' := Dg.law_prefix s t a b w (alive_at w hM hT)
end Go.Proofs.YtiaegcacccaodaaGreatDoor
