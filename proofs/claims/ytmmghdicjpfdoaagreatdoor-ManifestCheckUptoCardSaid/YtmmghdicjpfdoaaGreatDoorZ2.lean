/-
  PLAIN: the reader of numerals reads what the writer writes. Lists only.
-/
import Derived.Test.YtmmghdicjpfdoaaGreatDoorZ1
import Derived.Lib.Atoi
namespace Go.Proofs.YtmmghdicjpfdoaaGreatDoor.ZSemverMath
open Go
theorem decFrom_snoc (l : List UInt8) (b : UInt8) (d : Nat) (hd : Lib.digitVal b = some d) : ∀ (acc n : Nat), Lib.decFrom acc l = some n → Lib.decFrom acc (l ++ [b]) = some (n * 10 + d) := by
  intro acc n h
  have h1 : Lib.decFrom acc ((l ++ [b]).take l.length) = some n := by rw [List.take_left' rfl]; exact h
  have := Lib.decFrom_take (l ++ [b]) l.length acc n b d h1 (by simp) hd
  rw [List.take_of_length_le (by simp)] at this
  exact this
theorem digit_of (d : Nat) (h : d < 10) : Lib.digitVal (UInt8.ofNat (48 + d)) = some d := by
  have : ∀ d : Fin 10, Lib.digitVal (UInt8.ofNat (48 + d.val)) = some d.val := by decide +kernel
  exact this ⟨d, h⟩
theorem decFrom_dec (u : Nat) : Lib.decFrom 0 (Lib.decDigits u) = some u := by
  induction u using Nat.strongRecOn with
  | ind u ih =>
    by_cases h : u < 10
    · rw [Lib.decDigits_one h]
      have := decFrom_snoc [] (UInt8.ofNat (48 + u)) u (digit_of u h) 0 0 (by rfl)
      simpa using this
    · rw [dec_more h]
      have := decFrom_snoc _ (UInt8.ofNat (48 + u % 10)) (u % 10) (digit_of _ (by omega)) 0 (u / 10) (ih (u / 10) (by omega))
      rw [this]
      congr 1
      omega
theorem atoi_dec (u : Nat) : Lib.atoi (Lib.decDigits u) = some (u : Int) := by
  have hd := dec_dig u
  have hf := decFrom_dec u
  cases e : Lib.decDigits u with
  | nil => rw [e] at hf; exfalso; have h0 := val_dec u; rw [e] at h0; subst h0; rw [Lib.decDigits_one (by decide)] at e; cases e
  | cons b r =>
    rw [e] at hf hd
    have hb := hd b (by simp)
    have n45 : (b == 45) = false := by rw [beq_eq_false_iff_ne]; intro h; subst h; revert hb; decide
    have n43 : (b == 43) = false := by rw [beq_eq_false_iff_ne]; intro h; subst h; revert hb; decide
    unfold Lib.atoi
    simp only [n45, n43, Bool.false_eq_true, if_false]
    have : Lib.decNat (b :: r) = some u := by unfold Lib.decNat; first | exact hf | simpa using hf
    rw [this]; rfl
end Go.Proofs.YtmmghdicjpfdoaaGreatDoor.ZSemverMath
