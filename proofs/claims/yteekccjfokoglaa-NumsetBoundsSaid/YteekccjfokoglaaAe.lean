/-
  few. No condition.
-/
import Derived.Test.YteekccjfokoglaaAc
namespace Go.Proofs.Yteekccjfokoglaa
open Go.RowKit Go.Sort Go.Lib Go.Proofs
set_option linter.unusedSimpArgs false
set_option linter.unnecessarySimpa false
set_option linter.unusedVariables false
/-- a slice's address, length and capacity, twice -/
structure Sl2 where
  a : Option Addr
  n : Nat
  c : Nat
  a' : Option Addr
  n' : Nat
  c' : Nat
def fewX (x : Sl2) : Bool := decide (x.n ≤ 8) && decide (x.n' ≤ 8)
def fewL (X : List Sl2) : Bool := X.all fewX
theorem few_no {X : List Sl2} {k : Nat} (h : k < X.length) (hx : fewX X[k] = false) : fewL X = false := by
  unfold fewL; rw [List.all_eq_false]; exact ⟨X[k], List.getElem_mem h, by simp [hx]⟩
theorem few_yes {X : List Sl2} (h : ∀ j (hj : j < X.length), fewX X[j] = true) : fewL X = true := by
  unfold fewL; rw [List.all_eq_true]; intro x hx; obtain ⟨j, hj, rfl⟩ := List.getElem_of_mem hx; exact h j hj
set_option maxRecDepth 100000 in
set_option maxHeartbeats 1000000 in
theorem few_any (b o : Nat) (X : List Sl2) (d : Nat) (w : World) (hX : ∀ i (h : i < X.length), w.cell? ⟨b, o + i * 2, none⟩ = some (.slice X[i].a X[i].n X[i].c) ∧ w.cell? ⟨b, o + i * 2 + 1, none⟩ = some (.slice X[i].a' X[i].n' X[i].c')) (hb : b < w.heap.size) (hl : X.length ≤ 1000000) :
    Calls Try.prog 12 #[.slice (some ⟨b, o, none⟩) X.length d] w (EqIs (fewL X) w) := by
  have HX := Lib.hid hX
  clear hX
  go_enter Try.func12, Try.ntmps12
  go_wp2_with fail
  go_loopw [4, 7] (fun _ sI wr => ∃ k : Nat, sI = .int .i64 (k : Int) ∧ k ≤ X.length ∧ Hid (∀ j (h1 : j < X.length), j < k → fewX X[j] = true) ∧ Hid (Below w.heap.size w wr)) (fun _ sI _ => (X.length - intOf sI).toNat)
  case atStart => exact ⟨0, rfl, by omega, Lib.hid fun j _ h => absurd h (Nat.not_lt_zero _), Lib.hid (Below.refl _ _)⟩
  case round =>
    obtain ⟨k, rfl, hk, HE, HBw⟩ := hrel
    by_cases hlt : k < X.length
    · obtain ⟨x0, x1⟩ := HX.out k hlt
      rw [← HBw.out.cell (p := ⟨b, o + k * 2, none⟩) hb] at x0
      rw [← HBw.out.cell (p := ⟨b, o + k * 2 + 1, none⟩) hb] at x1
      have hwr := HBw.out.size
      have hb1' : b < wr.heap.size := by omega
      have HQ := Lib.hid (fun h => few_no hlt h)
      have HS := Lib.hid (show ∀ h : fewX X[k] = true, ∀ j (h1 : j < X.length), j < k + 1 → fewX X[j] = true from fun h j h1 h3 => by
        by_cases e : j = k
        · subst e; exact h
        · exact HE.out j h1 (by omega))
      obtain ⟨x, hx⟩ : ∃ x, x = X[k] := ⟨_, rfl⟩
      rw [← hx] at x0 x1 HQ HS
      have i1 : (0 : Int) ≤ (k : Int) := by omega
      have i2 : (k : Int) < (X.length : Int) := by omega
      clear hx
      obtain ⟨a, n, c, a', n', c'⟩ := x
      simp only at x0 x1
      by_cases h1 : n ≤ 8
      · by_cases h2 : n' ≤ 8
        · have HF := Lib.hid (HS.out (by simp [fewX, h1, h2]))
          have g1 : decide ((8 : Int) < (n : Int)) = false := by simp; omega
          have g2 : decide ((8 : Int) < (n' : Int)) = false := by simp; omega
          clear h1 h2
          go_wp2_with fail
          go_roundw
          case rel => exact ⟨k + 1, by go_num, by omega, HF, Lib.hid (HBw.out.alloc hwr _)⟩
          case measure => simp [intOf]; omega
        · have HF := Lib.hid (HQ.out (by simp [fewX]; omega))
          have g1 : decide ((8 : Int) < (n : Int)) = false := by simp; omega
          have g2 : decide ((8 : Int) < (n' : Int)) = true := by simp; omega
          clear h1 h2
          go_wp2_with fail
          go_ret
          exact ⟨ret_bool HF.out.symm, HBw.out.alloc hwr _⟩
      · have HF := Lib.hid (HQ.out (by simp [fewX]; omega))
        have g1 : decide ((8 : Int) < (n : Int)) = true := by simp; omega
        clear h1
        go_wp2_with fail
        go_ret
        exact ⟨ret_bool HF.out.symm, HBw.out.alloc hwr _⟩
    · obtain rfl : k = X.length := by omega
      go_wp2_with fail
      go_ret
      exact ⟨ret_bool (few_yes fun j h1 => HE.out j h1 h1).symm, HBw.out⟩
end Go.Proofs.Yteekccjfokoglaa
