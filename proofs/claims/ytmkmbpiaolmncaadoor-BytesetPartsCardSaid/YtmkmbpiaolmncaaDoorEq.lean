import Derived.Test.YtmkmbpiaolmncaaDoorLeast
import Derived.Laws.StructEq
namespace Go.Proofs.YtmkmbpiaolmncaaDoor
open Go.RowKit
theorem eq43 (a0 a1 b0 b1 : Int) (w : World) : (Op.equalIn 10000 43 (.agg #[.int .u8 a0, .int .u8 a1]) (.agg #[.int .u8 b0, .int .u8 b1])).run Tryd.prog w = .ok (a0 == b0 && a1 == b1) w := by
  have h : ∀ a b w, (Op.equalIn 9999 5 (.int .u8 a) (.int .u8 b)).run Tryd.prog w = .ok (a == b) w := fun a b w => run_equalIn_int w 9998 5 .u8 .u8 a b Tryd.underlying5
  have p0 : ∀ (x y : Value) w, (part 5 #[x, y] 0).run Tryd.prog w = .ok x w := fun _ _ _ => by kernel_rfl
  have p1 : ∀ (x y : Value) w, (part 5 #[x, y] 1).run Tryd.prog w = .ok y w := fun _ _ _ => by kernel_rfl
  unfold Op.equalIn
  simp [run_underlying Tryd.underlying43]
  rw [show List.range' 0 2 = [0, 1] from rfl]
  cases h0 : a0 == b0 <;> cases h1 : a1 == b1 <;> simp [h, p0, p1, h0, h1]
theorem eq24 (a0 a1 a2 a3 b0 b1 b2 b3 : Int) (w : World) : (Op.equalIn 10000 24 (.agg #[.int .u64 a0, .int .u64 a1, .int .u64 a2, .int .u64 a3]) (.agg #[.int .u64 b0, .int .u64 b1, .int .u64 b2, .int .u64 b3])).run Tryd.prog w = .ok (a0 == b0 && (a1 == b1 && (a2 == b2 && a3 == b3))) w := by
  have h : ∀ a b w, (Op.equalIn 9999 22 (.int .u64 a) (.int .u64 b)).run Tryd.prog w = .ok (a == b) w := fun a b w => run_equalIn_int w 9998 22 .u64 .u64 a b Tryd.underlying22
  have p0 : ∀ (x y z t : Value) w, (part 22 #[x, y, z, t] 0).run Tryd.prog w = .ok x w := fun _ _ _ _ _ => by kernel_rfl
  have p1 : ∀ (x y z t : Value) w, (part 22 #[x, y, z, t] 1).run Tryd.prog w = .ok y w := fun _ _ _ _ _ => by kernel_rfl
  have p2 : ∀ (x y z t : Value) w, (part 22 #[x, y, z, t] 2).run Tryd.prog w = .ok z w := fun _ _ _ _ _ => by kernel_rfl
  have p3 : ∀ (x y z t : Value) w, (part 22 #[x, y, z, t] 3).run Tryd.prog w = .ok t w := fun _ _ _ _ _ => by kernel_rfl
  unfold Op.equalIn
  simp [run_underlying Tryd.underlying24]
  rw [show List.range' 0 4 = [0, 1, 2, 3] from rfl]
  cases h0 : a0 == b0 <;> cases h1 : a1 == b1 <;> cases h2 : a2 == b2 <;> cases h3 : a3 == b3 <;> simp [h, p0, p1, p2, p3, h0, h1, h2, h3]
/-- two sets are equal exactly if their words are -/
theorem eqS (a b : BS) (w : World) : (Op.equalIn 10000 24 (st a) (st b)).run Tryd.prog w = .ok (a == b) w := by
  rw [eq24]
  congr 1
  rw [Bool.eq_iff_iff]
  simp only [Bool.and_eq_true, beq_iff_eq]
  exact ⟨fun ⟨h0, h1, h2, h3⟩ => wd_inj h0 h1 h2 h3, fun h => by subst h; exact ⟨rfl, rfl, rfl, rfl⟩⟩
end Go.Proofs.YtmkmbpiaolmncaaDoor
