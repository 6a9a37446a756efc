/-
  The edited text: plain mathematics. No condition.
-/
import Derived.Test.YtlanjfjmffcgdaaD
namespace Go.Proofs.Ytlanjfjmffcgdaa
open Go.RowKit
set_option linter.unusedSimpArgs false
set_option linter.unusedVariables false
/-- the edited text, from place p of b on -/
def appL (b : List UInt8) : Nat → List Ed → List UInt8
  | p, [] => b.drop p
  | p, x :: t => (b.drop p).take (x.1.toNat - p) ++ (x.2.2.data.toList ++ appL b x.2.1.toNat t)
def sumG : List Ed → Int
  | [] => 0
  | x :: t => grw x + sumG t
def stP (p : Nat) : List Ed → Prop
  | [] => True
  | x :: _ => (p : Int) ≤ x.1
theorem ordB_mem {xs : List Ed} (h : ordB xs = true) {k : Nat} (hk : k + 1 < xs.length) : xs[k].2.1 ≤ xs[k + 1].1 := by
  have key : ∀ (j : Nat), j ≤ k → ordB (xs.drop j) = true := by
    intro j
    induction j with
    | zero => intro _; simpa using h
    | succ j ih =>
      intro hj
      have := ih (by omega)
      rw [ordB_at (by omega : j + 1 < xs.length), Bool.and_eq_true] at this
      exact this.2
  have := key k (Nat.le_refl _)
  rw [ordB_at hk, Bool.and_eq_true, decide_eq_true_eq] at this
  exact this.1
theorem insA_cons {n : Int} {x : Ed} {t : List Ed} (h : insA n (x :: t) = true) : (0 ≤ x.1 ∧ x.1 ≤ x.2.1 ∧ x.2.1 ≤ n) ∧ insA n t = true := by
  have e : insA n (x :: t) = (insB n x && insA n t) := rfl
  rw [e, Bool.and_eq_true] at h
  refine ⟨?_, h.2⟩
  have := h.1
  unfold insB at this
  simp only [Bool.and_eq_true, decide_eq_true_eq] at this
  omega
theorem ordB_cons {x : Ed} {t : List Ed} (h : ordB (x :: t) = true) : ordB t = true ∧ (x.2.1 ≤ 0 ∨ 0 ≤ x.2.1 → stP x.2.1.toNat t ∨ x.2.1 < 0) := by
  cases t with
  | nil => exact ⟨rfl, fun _ => .inl trivial⟩
  | cons y t =>
    have e : ordB (x :: y :: t) = (decide (x.2.1 ≤ y.1) && ordB (y :: t)) := rfl
    rw [e, Bool.and_eq_true, decide_eq_true_eq] at h
    refine ⟨h.2, fun _ => ?_⟩
    by_cases h0 : x.2.1 < 0
    · exact .inr h0
    · left; show ((x.2.1.toNat : Nat) : Int) ≤ y.1; omega
theorem appL_len (b : List UInt8) : ∀ (xs : List Ed) (p : Nat), insA (b.length : Int) xs = true → ordB xs = true → p ≤ b.length → stP p xs → ((appL b p xs).length : Int) = (b.length : Int) - p + sumG xs
  | [], p, _, _, hp, _ => by simp [appL, sumG]; omega
  | x :: t, p, hi, ho, hp, hs => by
    obtain ⟨⟨i0, i1, i2⟩, hi'⟩ := insA_cons hi
    obtain ⟨ho', hst⟩ := ordB_cons ho
    have hst' := (hst (by omega)).resolve_right (by omega)
    have hs' : (p : Int) ≤ x.1 := hs
    have ih := appL_len b t x.2.1.toNat hi' ho' (by omega) hst'
    have e1 : ((b.drop p).take (x.1.toNat - p)).length = x.1.toNat - p := by rw [List.length_take, List.length_drop]; omega
    have e2 : x.2.2.data.toList.length = x.2.2.size := by simp
    simp only [appL, sumG, List.length_append, e1, e2, grw]
    omega
theorem appL_at {b : List UInt8} {p : Nat} {xs : List Ed} {k : Nat} (h : k < xs.length) : appL b p (xs.drop k) = (b.drop p).take (xs[k].1.toNat - p) ++ (xs[k].2.2.data.toList ++ appL b xs[k].2.1.toNat (xs.drop (k + 1))) := by
  rw [List.drop_eq_getElem_cons h]; rfl
theorem appL_end {b : List UInt8} {p : Nat} {xs : List Ed} {k : Nat} (h : xs.length ≤ k) : appL b p (xs.drop k) = b.drop p := by
  rw [List.drop_eq_nil_of_le h]; rfl
theorem sumG_at {xs : List Ed} {k : Nat} (h : k < xs.length) : sumG (xs.drop k) = grw xs[k] + sumG (xs.drop (k + 1)) := by
  rw [List.drop_eq_getElem_cons h]; rfl
theorem sumG_end {xs : List Ed} {k : Nat} (h : xs.length ≤ k) : sumG (xs.drop k) = 0 := by
  rw [List.drop_eq_nil_of_le h]; rfl
/-- the bytes of a piece -/
theorem ext_list (s : ByteArray) (p q : Nat) (h : q ≤ s.size) : (s.extract p q).data.toList = (s.data.toList.drop p).take (q - p) := by
  simp [ByteArray.data_extract, Array.toList_extract]
theorem ext_size (s : ByteArray) (p q : Nat) (h : q ≤ s.size) : (s.extract p q).size = q - p := by
  rw [ByteArray.size_extract]; omega
theorem str_len (s : ByteArray) : s.data.toList.length = s.size := by simp
/-- what Apply returns -/
def totV (s : ByteArray) (xs : List Ed) : Int := (s.size : Int) + sumG xs
def aply (s : ByteArray) (xs : List Ed) : ByteArray := ⟨(appL s.data.toList 0 xs).toArray⟩
def appE (s : ByteArray) (xs : List Ed) : Int := if chkL (s.size : Int) xs ≠ 0 then chkL (s.size : Int) xs else if 65536 < totV s xs then 2 else 0
def appS (s : ByteArray) (xs : List Ed) : ByteArray := if appE s xs ≠ 0 then ⟨#[]⟩ else aply s xs
theorem stP_0 {n : Int} {xs : List Ed} (h : insA n xs = true) : stP 0 xs := by
  cases xs with
  | nil => trivial
  | cons x t => exact (insA_cons h).1.1
theorem aply_size {s : ByteArray} {xs : List Ed} (h : chkL (s.size : Int) xs = 0) : ((aply s xs).size : Int) = totV s xs := by
  obtain ⟨hi, ho⟩ := chk_zero h
  have := appL_len s.data.toList xs 0 (by rw [str_len]; exact hi) ho (Nat.zero_le _) (stP_0 hi)
  rw [str_len] at this
  have e : (aply s xs).size = (appL s.data.toList 0 xs).length := by simp [aply, ByteArray.size]
  rw [e, this]; unfold totV; omega
theorem appE_1 {s : ByteArray} {xs : List Ed} (h : chkL (s.size : Int) xs ≠ 0) : appE s xs = chkL (s.size : Int) xs ∧ appS s xs = ⟨#[]⟩ := by
  have e : appE s xs = chkL (s.size : Int) xs := by unfold appE; rw [if_pos h]
  exact ⟨e, by unfold appS; rw [e, if_pos h]⟩
theorem appE_2 {s : ByteArray} {xs : List Ed} (h : chkL (s.size : Int) xs = 0) (h2 : 65536 < totV s xs) : appE s xs = 2 ∧ appS s xs = ⟨#[]⟩ := by
  have e : appE s xs = 2 := by unfold appE; rw [if_neg (by omega), if_pos h2]
  exact ⟨e, by unfold appS; rw [e, if_pos (by omega)]⟩
theorem appE_3 {s : ByteArray} {xs : List Ed} (h : chkL (s.size : Int) xs = 0) (h2 : ¬ 65536 < totV s xs) : appE s xs = 0 ∧ appS s xs = aply s xs := by
  have e : appE s xs = 0 := by unfold appE; rw [if_neg (by omega), if_neg h2]
  exact ⟨e, by unfold appS; rw [e, if_neg (by omega)]⟩
end Go.Proofs.Ytlanjfjmffcgdaa
