import Derived.Test.YtmkmbpiaolmncaaDoorSort1
import Derived.Laws.Bits64b
namespace Go.Proofs.YtmkmbpiaolmncaaDoor
open Go.RowKit

/-- the library's table, in its variable -/
def Tab (w : World) : Prop := 0 < w.heap.size ∧ ∀ j, j < 64 → w.cell? ⟨0, j, none⟩ = some (.int .u8 (Lib.deBruijn64tab.getD j 0))
theorem Tab.below {w w' : World} {N : Nat} (h : Tab w) (hb : Below N w w') (hN : 0 < N) : Tab w' :=
  ⟨Nat.lt_of_lt_of_le h.1 hb.size, fun j hj => by rw [hb.cell hN]; exact h.2 j hj⟩

theorem tz_key (x a : Nat) (hx : x < 18446744073709551616) (hx0 : x ≠ 0) (hlow : x &&& (18446744073709551616 - x) = a) :
    IntKind.u64.wrap (bits BinOp.and IntKind.u64 (x : Int) (IntKind.u64.wrap (-(x : Int))) * 285870213051353865) / 288230376151711744 = ((a * 285870213051353865 % 18446744073709551616 / 288230376151711744 : Nat) : Int) := by
  have e1 : IntKind.u64.wrap (-(x : Int)) = ((18446744073709551616 - x : Nat) : Int) := by rw [IntKind.wrap_u64]; omega
  rw [e1, u64_and_nat x _ hx (by omega), hlow, IntKind.wrap_u64]
  omega

set_option maxHeartbeats 1000000 in
theorem tz_core (x k idx : Nat) (w : World) (hx0 : ((x : Int) == 0) = false)
    (key : IntKind.u64.wrap (bits BinOp.and IntKind.u64 (x : Int) (IntKind.u64.wrap (-(x : Int))) * 285870213051353865) / 288230376151711744 = (idx : Int))
    (hi : idx < 64) (hk : k < 64) (hcell : w.cell? ⟨0, idx, none⟩ = some (.int .u8 k)) :
    Calls Tryd.prog 34 #[.int .u64 x] w fun e w' => e = .returned (.int .i64 k) ∧ w = w' := by
  go_enter Tryd.func34, Tryd.ntmps34
  go_wp2_with (simp only [key])
  go_ret
  exact ⟨rfl, rfl⟩

theorem tz_any (x : Int) (h0 : 0 < x) (h1 : x ≤ 18446744073709551615) (w : World) (hT : Tab w) :
    Calls Tryd.prog 34 #[.int .u64 x] w fun e w' => e = .returned (.int .i64 (Lib.ctz 64 x.toNat)) ∧ w = w' := by
  obtain ⟨n, rfl⟩ := Int.eq_ofNat_of_zero_le (Int.le_of_lt h0)
  rw [Int.toNat_natCast]
  obtain ⟨hlow, hk⟩ := Lib.lowest_bit 64 n (by omega) (by omega)
  obtain ⟨hi, htab⟩ := Lib.deBruijn64_at _ hk
  have hcell := hT.2 _ hi
  rw [htab] at hcell
  exact tz_core n _ _ w (by simp; omega) (tz_key n _ (by omega) (by omega) hlow) hi hk hcell

def isLeast (s : BS) (b : Nat) : Prop := s.getLsbD b = true ∧ ∀ j, j < b → s.getLsbD j = false

theorem ctz_bits (x : Nat) (h0 : x ≠ 0) (h1 : x < 18446744073709551616) : Lib.ctz 64 x < 64 ∧ x.testBit (Lib.ctz 64 x) = true ∧ ∀ j, j < Lib.ctz 64 x → x.testBit j = false := by
  have hc : Lib.ctz 64 x = Lib.ctzFrom 64 x := by unfold Lib.ctz; rw [if_neg h0]
  obtain ⟨m, hm, hlt⟩ := Lib.ctzFrom_spec 64 x (by omega) (by omega)
  rw [hc]
  generalize Lib.ctzFrom 64 x = c at *
  subst hm
  refine ⟨hlt, ?_, ?_⟩
  · rw [Nat.testBit_two_pow_mul]; simp
  · intro j hj
    rw [Nat.testBit_two_pow_mul]; simp; omega

theorem wd_toNat (i : Nat) (s : BS) : (wd i s).toNat = (s.extractLsb' (64 * i) 64).toNat := Int.toNat_natCast _
theorem wd_testBit (i j : Nat) (s : BS) (hj : j < 64) : (wd i s).toNat.testBit j = s.getLsbD (64 * i + j) := by
  rw [wd_toNat, ← BitVec.getLsbD]
  simp [hj]
theorem wd_zero_bits {i : Nat} {s : BS} (h : wd i s = 0) (j : Nat) (hj : j < 64) : s.getLsbD (64 * i + j) = false := by
  rw [← wd_testBit i j s hj, h]; simp

theorem least_of (i : Nat) (s : BS) (hz : ∀ q, q < i → wd q s = 0) (hn : wd i s ≠ 0) : Lib.ctz 64 (wd i s).toNat < 64 ∧ isLeast s (64 * i + Lib.ctz 64 (wd i s).toNat) := by
  have l := wd_lo i s
  have u := wd_hi i s
  obtain ⟨h1, h2, h3⟩ := ctz_bits (wd i s).toNat (by omega) (by omega)
  refine ⟨h1, ?_, ?_⟩
  · rw [← wd_testBit i _ s h1]; exact h2
  · intro j hj
    by_cases hq : j / 64 < i
    · have := wd_zero_bits (hz _ hq) (j % 64) (by omega)
      rw [show 64 * (j / 64) + j % 64 = j by omega] at this
      exact this
    · have e : j = 64 * i + (j - 64 * i) := by omega
      rw [e, ← wd_testBit i _ s (by omega)]
      exact h3 _ (by omega)

theorem z1 {s : BS} (h0 : wd 0 s = 0) : ∀ q, q < 1 → wd q s = 0 := by
  intro q hq
  have : q = 0 := by omega
  subst this; exact h0
theorem z2 {s : BS} (h0 : wd 0 s = 0) (h1 : wd 1 s = 0) : ∀ q, q < 2 → wd q s = 0 := by
  intro q hq
  have : q = 0 ∨ q = 1 := by omega
  rcases this with rfl | rfl <;> assumption
theorem z3 {s : BS} (h0 : wd 0 s = 0) (h1 : wd 1 s = 0) (h2 : wd 2 s = 0) : ∀ q, q < 3 → wd q s = 0 := by
  intro q hq
  have : q = 0 ∨ q = 1 ∨ q = 2 := by omega
  rcases this with rfl | rfl | rfl <;> assumption

/-- what the least byte of a set is, and whether there is one -/
def LeastIs (s : BS) (w : World) (e : Ending) (w' : World) : Prop :=
  (s = 0#256 ∧ e = .returned (.tuple #[.int .u8 0, .bool false]) ∨ ∃ b : Nat, b < 256 ∧ isLeast s b ∧ e = .returned (.tuple #[.int .u8 (b : Int), .bool true])) ∧ Below w.heap.size w w'

set_option maxRecDepth 100000 in
set_option maxHeartbeats 2000000 in
theorem least_any (s : BS) (w : World) (hT : Tab w) : Calls Tryd.prog 24 #[st s] w (LeastIs s w) := by
  have i0 : ∀ w : World, (Instr.index 24 (.agg #[.int .u64 (wd 0 s), .int .u64 (wd 1 s), .int .u64 (wd 2 s), .int .u64 (wd 3 s)]) (.int .i64 0)).run Tryd.prog w = .ok (.int .u64 (wd 0 s)) w := fun _ => by kernel_rfl
  have i1 : ∀ w : World, (Instr.index 24 (.agg #[.int .u64 (wd 0 s), .int .u64 (wd 1 s), .int .u64 (wd 2 s), .int .u64 (wd 3 s)]) (.int .i64 1)).run Tryd.prog w = .ok (.int .u64 (wd 1 s)) w := fun _ => by kernel_rfl
  have i2 : ∀ w : World, (Instr.index 24 (.agg #[.int .u64 (wd 0 s), .int .u64 (wd 1 s), .int .u64 (wd 2 s), .int .u64 (wd 3 s)]) (.int .i64 2)).run Tryd.prog w = .ok (.int .u64 (wd 2 s)) w := fun _ => by kernel_rfl
  have i3 : ∀ w : World, (Instr.index 24 (.agg #[.int .u64 (wd 0 s), .int .u64 (wd 1 s), .int .u64 (wd 2 s), .int .u64 (wd 3 s)]) (.int .i64 3)).run Tryd.prog w = .ok (.int .u64 (wd 3 s)) w := fun _ => by kernel_rfl
  have hT1 : Tab (w.alloc (.cells #[.int .u64 (wd 0 s), .int .u64 (wd 1 s), .int .u64 (wd 2 s), .int .u64 (wd 3 s)] 24)) := hT.below ((Below.refl w.heap.size _).alloc (Nat.le_refl _) _) hT.1
  have HT := Lib.hid hT1
  clear hT hT1
  have l0 := wd_lo 0 s
  have l1 := wd_lo 1 s
  have l2 := wd_lo 2 s
  have l3 := wd_lo 3 s
  have u0 := wd_hi 0 s
  have u1 := wd_hi 1 s
  have u2 := wd_hi 2 s
  have u3 := wd_hi 3 s
  unfold st
  by_cases n0 : wd 0 s = 0
  · have d0 : (wd 0 s != 0) = false := by simp [n0]
    have d0' : (wd 0 s == 0) = true := by simp [n0]
    by_cases n1 : wd 1 s = 0
    · have d1 : (wd 1 s != 0) = false := by simp [n1]
      have d1' : (wd 1 s == 0) = true := by simp [n1]
      by_cases n2 : wd 2 s = 0
      · have d2 : (wd 2 s != 0) = false := by simp [n2]
        have d2' : (wd 2 s == 0) = true := by simp [n2]
        by_cases n3 : wd 3 s = 0
        · have d3 : (wd 3 s != 0) = false := by simp [n3]
          have d3' : (wd 3 s == 0) = true := by simp [n3]
          have Hs : Hid (s = 0#256) := wd_inj (by rw [n0, wd_zero]) (by rw [n1, wd_zero]) (by rw [n2, wd_zero]) (by rw [n3, wd_zero])
          clear n0 n1 n2 n3
          go_enter Tryd.func24, Tryd.ntmps24
          go_wp2_with fail
          refine wp_loop_rounds 5 ?_
          rw [rounds_succ]; go_wp2_with fail
          rw [rounds_succ]; go_wp2_with fail
          rw [rounds_succ]; go_wp2_with fail
          rw [rounds_succ]; go_wp2_with fail
          rw [rounds_succ]; go_wp2_with fail
          go_ret2
          exact ⟨.inl ⟨Hs.out, rfl⟩, (Below.refl _ _).alloc (Nat.le_refl _) _⟩
        · have d3 : (wd 3 s != 0) = true := by rw [bne_iff_ne]; exact n3
          have d3' : (wd 3 s == 0) = false := by simp [n3]
          have HL := Lib.hid (least_of 3 s (z3 n0 n1 n2) n3)
          have hlt := HL.out.1
          have hp : 0 < wd 3 s := by omega
          clear n0 n1 n2 n3
          go_enter Tryd.func24, Tryd.ntmps24
          go_wp2_with fail
          refine wp_loop_rounds 4 ?_
          rw [rounds_succ]; go_wp2_with fail
          rw [rounds_succ]; go_wp2_with fail
          rw [rounds_succ]; go_wp2_with fail
          rw [rounds_succ]; go_wp2_with fail
          refine (tz_any _ hp (by omega) _ HT.out).mono ?_
          rintro e w1 ⟨rfl, rfl⟩
          go_wp2_with fail
          go_ret2
          exact ⟨.inr ⟨192 + Lib.ctz 64 (wd 3 s).toNat, by omega, HL.out.2, by simp⟩, (Below.refl _ _).alloc (Nat.le_refl _) _⟩
      · have d2 : (wd 2 s != 0) = true := by rw [bne_iff_ne]; exact n2
        have d2' : (wd 2 s == 0) = false := by simp [n2]
        have HL := Lib.hid (least_of 2 s (z2 n0 n1) n2)
        have hlt := HL.out.1
        have hp : 0 < wd 2 s := by omega
        clear n0 n1 n2
        go_enter Tryd.func24, Tryd.ntmps24
        go_wp2_with fail
        refine wp_loop_rounds 3 ?_
        rw [rounds_succ]; go_wp2_with fail
        rw [rounds_succ]; go_wp2_with fail
        rw [rounds_succ]; go_wp2_with fail
        refine (tz_any _ hp (by omega) _ HT.out).mono ?_
        rintro e w1 ⟨rfl, rfl⟩
        go_wp2_with fail
        go_ret2
        exact ⟨.inr ⟨128 + Lib.ctz 64 (wd 2 s).toNat, by omega, HL.out.2, by simp⟩, (Below.refl _ _).alloc (Nat.le_refl _) _⟩
    · have d1 : (wd 1 s != 0) = true := by rw [bne_iff_ne]; exact n1
      have d1' : (wd 1 s == 0) = false := by simp [n1]
      have HL := Lib.hid (least_of 1 s (z1 n0) n1)
      have hlt := HL.out.1
      have hp : 0 < wd 1 s := by omega
      clear n0 n1
      go_enter Tryd.func24, Tryd.ntmps24
      go_wp2_with fail
      refine wp_loop_rounds 2 ?_
      rw [rounds_succ]; go_wp2_with fail
      rw [rounds_succ]; go_wp2_with fail
      refine (tz_any _ hp (by omega) _ HT.out).mono ?_
      rintro e w1 ⟨rfl, rfl⟩
      go_wp2_with fail
      go_ret2
      exact ⟨.inr ⟨64 + Lib.ctz 64 (wd 1 s).toNat, by omega, HL.out.2, by simp⟩, (Below.refl _ _).alloc (Nat.le_refl _) _⟩
  · have d0 : (wd 0 s != 0) = true := by rw [bne_iff_ne]; exact n0
    have d0' : (wd 0 s == 0) = false := by simp [n0]
    have HL := Lib.hid (least_of 0 s (fun q hq => by omega) n0)
    have hlt := HL.out.1
    have hp : 0 < wd 0 s := by omega
    clear n0
    go_enter Tryd.func24, Tryd.ntmps24
    go_wp2_with fail
    refine wp_loop_rounds 1 ?_
    rw [rounds_succ]; go_wp2_with fail
    refine (tz_any _ hp (by omega) _ HT.out).mono ?_
    rintro e w1 ⟨rfl, rfl⟩
    go_wp2_with fail
    go_ret2
    exact ⟨.inr ⟨0 + Lib.ctz 64 (wd 0 s).toNat, by omega, by simpa using HL.out.2, by simp⟩, (Below.refl _ _).alloc (Nat.le_refl _) _⟩
end Go.Proofs.YtmkmbpiaolmncaaDoor
