/-
  PLAIN: decimal numerals: their bytes are digits, a numeral has one number, texts of versions differ. Lists only.
-/
import Derived.Lib.ItoaNum
namespace Go.Proofs.YtmmghdicjpfdoaaGreatDoor.ZSemverMath
open Go
theorem dec_more {m : Nat} (h : ¬ m < 10) : Lib.decDigits m = Lib.decDigits (m / 10) ++ [UInt8.ofNat (48 + m % 10)] := by
  rw [Lib.decDigits, dif_neg h]
def valL (l : List UInt8) : Nat := l.foldl (fun a x => a * 10 + (x.toNat - 48)) 0
theorem valL_snoc (l : List UInt8) (c : UInt8) : valL (l ++ [c]) = valL l * 10 + (c.toNat - 48) := by simp [valL]
theorem dig_nat (d : Nat) (h : d < 10) : (UInt8.ofNat (48 + d)).toNat = 48 + d := by
  rw [UInt8.toNat_ofNat']; omega
theorem val_dec (u : Nat) : valL (Lib.decDigits u) = u := by
  induction u using Nat.strongRecOn with
  | ind u ih =>
    by_cases h : u < 10
    · rw [Lib.decDigits_one h]
      have := dig_nat u h
      simp only [valL, List.foldl_cons, List.foldl_nil]
      rw [this]; omega
    · rw [dec_more h, valL_snoc, ih (u / 10) (by omega), dig_nat _ (by omega)]; omega
theorem dec_inj {u v : Nat} (h : Lib.decDigits u = Lib.decDigits v) : u = v := by
  rw [← val_dec u, h, val_dec v]
theorem dec_dig (u : Nat) : ∀ x ∈ Lib.decDigits u, 48 ≤ x.toNat ∧ x.toNat ≤ 57 := by
  induction u using Nat.strongRecOn with
  | ind u ih =>
    intro x hx
    by_cases h : u < 10
    · rw [Lib.decDigits_one h] at hx
      simp only [List.mem_singleton] at hx
      subst hx
      rw [dig_nat u h]; omega
    · rw [dec_more h, List.mem_append, List.mem_singleton] at hx
      rcases hx with hx | rfl
      · exact ih (u / 10) (by omega) x hx
      · rw [dig_nat _ (by omega)]; omega
theorem dec_nodot (u : Nat) : (46 : UInt8) ∉ Lib.decDigits u := by
  intro h
  have := dec_dig u 46 h
  simp at this
theorem split_one {c : UInt8} : ∀ {l1 l2 r1 r2 : List UInt8}, c ∉ l1 → c ∉ l2 → l1 ++ c :: r1 = l2 ++ c :: r2 → l1 = l2 ∧ r1 = r2 := by
  intro l1
  induction l1 with
  | nil =>
    intro l2 r1 r2 _ h2 e
    cases l2 with
    | nil => simp at e; exact ⟨rfl, e⟩
    | cons a t => simp at e; exact absurd (by rw [e.1]; simp) h2
  | cons a t ih =>
    intro l2 r1 r2 h1 h2 e
    cases l2 with
    | nil => simp at e; exact absurd (by rw [← e.1]; simp) h1
    | cons b s =>
      simp only [List.cons_append, List.cons.injEq] at e
      obtain ⟨rfl, e⟩ := e
      obtain ⟨e1, e2⟩ := ih (fun h => h1 (by simp [h])) (fun h => h2 (by simp [h])) e
      exact ⟨by rw [e1], e2⟩
theorem texts_inj {a b c a' b' c' : Nat} (h : [118] ++ Lib.decDigits a ++ [46] ++ Lib.decDigits b ++ [46] ++ Lib.decDigits c = [118] ++ Lib.decDigits a' ++ [46] ++ Lib.decDigits b' ++ [46] ++ Lib.decDigits c') : a = a' ∧ b = b' ∧ c = c' := by
  replace h : Lib.decDigits a ++ 46 :: (Lib.decDigits b ++ 46 :: Lib.decDigits c) = Lib.decDigits a' ++ 46 :: (Lib.decDigits b' ++ 46 :: Lib.decDigits c') := by simpa using h
  obtain ⟨h1, h2⟩ := split_one (dec_nodot a) (dec_nodot a') h
  obtain ⟨h3, h4⟩ := split_one (dec_nodot b) (dec_nodot b') h2
  exact ⟨dec_inj h1, dec_inj h3, dec_inj h4⟩
end Go.Proofs.YtmmghdicjpfdoaaGreatDoor.ZSemverMath
