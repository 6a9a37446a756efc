/-
  PLAIN: strings that differ in one byte have different sums.
-/
import Derived.Test.YtiaegcacccaodaaGreatDoorD1
namespace Go.Proofs.YtiaegcacccaodaaGreatDoor.Dg
set_option linter.unusedSimpArgs false
set_option linter.unusedVariables false
theorem mul_inj {a b : Nat} (ha : a < 18446744073709551616) (hb : b < 18446744073709551616) (h : a * 1099511628211 % 18446744073709551616 = b * 1099511628211 % 18446744073709551616) : a = b := by
  have hp : (1099511628211 * 14886173955864302971 : Nat) = 18446744073709551616 * 887285111055 + 1 := by decide +kernel
  have key : ∀ x : Nat, x < 18446744073709551616 → (x * 1099511628211 % 18446744073709551616) * 14886173955864302971 % 18446744073709551616 = x := fun x hx => by
    rw [Nat.mod_mul_mod, Nat.mul_assoc, hp, Nat.mul_add, Nat.mul_one, Nat.mul_left_comm, Nat.mul_add_mod]
    exact Nat.mod_eq_of_lt hx
  have h1 := key a ha
  have h2 := key b hb
  rw [h] at h1
  exact h1.symm.trans h2
theorem hstep_inj {h h' : Nat} {c c' : UInt8} (hh : h < 18446744073709551616) (hh' : h' < 18446744073709551616) (e : hstep h c = hstep h' c') : h ^^^ c.toNat = h' ^^^ c'.toNat := by
  have hc : c.toNat < 256 := c.toNat_lt
  have hc' : c'.toNat < 256 := c'.toNat_lt
  have b1 : h ^^^ c.toNat < 2 ^ 64 := Nat.xor_lt_two_pow (by omega) (by omega)
  have b2 : h' ^^^ c'.toNat < 2 ^ 64 := Nat.xor_lt_two_pow (by omega) (by omega)
  unfold hstep at e
  exact mul_inj (by omega) (by omega) e
theorem hstep_inj_h {h h' : Nat} {c : UInt8} (hh : h < 18446744073709551616) (hh' : h' < 18446744073709551616) (e : hstep h c = hstep h' c) : h = h' := by
  have := hstep_inj hh hh' e
  have h2 := congrArg (· ^^^ c.toNat) this
  simpa [Nat.xor_assoc] using h2
theorem hstep_inj_c {h : Nat} {c c' : UInt8} (hh : h < 18446744073709551616) (e : hstep h c = hstep h c') : c = c' := by
  have := hstep_inj hh hh e
  have h2 := congrArg (h ^^^ ·) this
  simp only [← Nat.xor_assoc, Nat.xor_self, Nat.zero_xor] at h2
  exact UInt8.toNat_inj.1 h2
theorem hsum_inj : ∀ (l : List UInt8) (h h' : Nat), h < 18446744073709551616 → h' < 18446744073709551616 → hsum h l = hsum h' l → h = h'
  | [], h, h', _, _, e => by rw [hsum_nil, hsum_nil] at e; exact e
  | c :: t, h, h', hh, hh', e => by
    rw [hsum_cons, hsum_cons] at e
    exact hstep_inj_h hh hh' (hsum_inj t _ _ (hstep_lt h c) (hstep_lt h' c) e)
/-- one byte makes the difference -/
theorem one_byte (n : Nat) (hn : n < 18446744073709551616) (s t : List UInt8) (c c' : UInt8) :
    (hsum n (s ++ c :: t) = hsum n (s ++ c' :: t)) ↔ c = c' := by
  constructor
  · intro e
    rw [hsum_append, hsum_append, hsum_cons, hsum_cons] at e
    have hb := hsum_lt s n hn
    exact hstep_inj_c hb (hsum_inj t _ _ (hstep_lt _ _) (hstep_lt _ _) e)
  · rintro rfl; rfl
end Go.Proofs.YtiaegcacccaodaaGreatDoor.Dg
