/-
  PLAIN: the texts of versions, their bytes and sizes.
-/
import Derived.Test.YthlcdimofagmfaaGreatDoorVA
namespace Go.Proofs.YthlcdimofagmfaaGreatDoor
open Go.RowKit
set_option linter.unusedSimpArgs false
set_option linter.unnecessarySimpa false
set_option linter.unusedVariables false
theorem istr_dec {n : Int} (h : 0 ≤ n) : (istr n).data.toList = Lib.decDigits n.toNat := by
  show Lib.itoa n = _
  unfold Lib.itoa; rw [if_neg (by omega)]
theorem dec_len : ∀ (k u : Nat), u < 10 ^ (k + 1) → (Lib.decDigits u).length ≤ k + 1
  | 0, u, h => by rw [Lib.decDigits_one (by simpa using h)]; simp
  | k + 1, u, h => by
    by_cases h1 : u < 10
    · rw [Lib.decDigits_one h1]; simp
    · rw [dec_more h1, List.length_append, List.length_singleton]
      have := dec_len k (u / 10) (by rw [Nat.pow_succ] at h; omega)
      omega
theorem dec_pos (u : Nat) : 1 ≤ (Lib.decDigits u).length := by
  by_cases h : u < 10
  · rw [Lib.decDigits_one h]; simp
  · rw [dec_more h]; simp
theorem txt_list {a b c : Int} (h : okV a b c = true) : (txtS a b c).data.toList = 118 :: (Lib.decDigits a.toNat ++ 46 :: (Lib.decDigits b.toNat ++ 46 :: Lib.decDigits c.toNat)) := by
  obtain ⟨⟨a0, a1⟩, ⟨b0, b1⟩, ⟨c0, c1⟩⟩ := okV_parts h
  simp [txtS, istr_dec a0, istr_dec b0, istr_dec c0]
theorem txt_sizes {a b c : Int} (h : okV a b c = true) : 6 ≤ (txtS a b c).size ∧ (txtS a b c).size ≤ 15 := by
  obtain ⟨⟨a0, a1⟩, ⟨b0, b1⟩, ⟨c0, c1⟩⟩ := okV_parts h
  have e : (txtS a b c).size = (txtS a b c).data.toList.length := by simp
  rw [e, txt_list h]
  have x1 := dec_pos a.toNat; have x2 := dec_pos b.toNat; have x3 := dec_pos c.toNat
  have y1 := dec_len 3 a.toNat (by omega); have y2 := dec_len 3 b.toNat (by omega); have y3 := dec_len 3 c.toNat (by omega)
  simp only [List.length_cons, List.length_append]
  omega
end Go.Proofs.YthlcdimofagmfaaGreatDoor
