/-
  The law DigestSum. Conditions: the table of powers of ten, internal/bytealg.MaxLen holds some number.
-/
import Derived.Test.YthlcdimofagmfaaGreatDoorAL
import Derived.Test.YthlcdimofagmfaaGreatDoorD45
namespace Go.Proofs.YthlcdimofagmfaaGreatDoor
open Go.RowKit
theorem alive_at (w : World) (hM : Mx w) (hT : P10 w) : Dg.Alive w := fun w' hb => alive_any w' (hM.keep hb hM.1) (P10.keep hT hb)
theorem lawSum (s : ByteArray) (w : World) (hT : P10 w) (hM : Mx w) : Calls Tryz.prog 3 #[.string s] w fun e w' => e = .returned (.bool true) ∧ Below w.heap.size w w' := Dg.law_sum s w (alive_at w hM hT)
end Go.Proofs.YthlcdimofagmfaaGreatDoor
