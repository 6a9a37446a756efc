import Derived.Test.YtcdogfaiaddkcaaDoorAwake
namespace Go.Proofs.YtcdogfaiaddkcaaDoor
open Go.RowKit
set_option maxRecDepth 100000 in
set_option maxHeartbeats 2000000 in
theorem law_of (lo hi : Int) (l0 : 0 ≤ lo) (l1 : lo ≤ 255) (u0 : 0 ≤ hi) (u1 : hi ≤ 255) (w : World) (hT : Tab w) :
    Calls Tryd.prog 3 #[.int .u8 lo, .int .u8 hi] w fun e w' => e = .returned (.bool true) ∧ Below w.heap.size w w' := by
  have HT := Lib.hid hT
  have h0 := hT.1
  have q : ∀ w, (Op.equalIn 10000 24 (st (rgo lo.toNat hi.toNat)) (st (rgo lo.toNat hi.toNat))).run Tryd.prog w = .ok true w := fun w => by rw [eqS]; simp
  unfold st at q
  clear hT
  go_enter Tryd.func3, Tryd.ntmps3
  go_wp2_with fail
  refine (of_any lo hi l0 l1 u0 u1 _).mono ?_
  rintro e w1 ⟨rfl, hb1⟩
  go_wp2_with fail
  refine (rof_any lo hi l0 l1 u0 u1 _).mono ?_
  rintro e w2 ⟨rfl, hb2⟩
  have B2 := hb1.trans (hb2.mono hb1.size)
  clear hb1 hb2
  go_wp2_with fail
  refine (awake_any _ (HT.out.below B2 h0)).mono ?_
  rintro e w3 ⟨rfl, hb3⟩
  have HB := Lib.hid (B2.trans (hb3.mono B2.size))
  clear hb3 B2
  go_wp2_with fail
  go_ret
  exact ⟨rfl, HB.out⟩
end Go.Proofs.YtcdogfaiaddkcaaDoor
