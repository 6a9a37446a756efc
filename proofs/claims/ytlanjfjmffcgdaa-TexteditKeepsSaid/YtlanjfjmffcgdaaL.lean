/-
  Same of the specification. Conditions: the slices read as lists.
-/
import Derived.Test.YtlanjfjmffcgdaaJ
import Derived.Laws.StructEq
namespace Go.Proofs.Ytlanjfjmffcgdaa
open Go.RowKit
set_option linter.unusedSimpArgs false
set_option linter.unusedVariables false
/-- two edits are the same -/
def eqE (x y : Ed) : Bool := decide (x.1 = y.1) && decide (x.2.1 = y.2.1) && decide (x.2.2 = y.2.2)
theorem eqE_iff (x y : Ed) : eqE x y = true ↔ x = y := by
  unfold eqE
  obtain ⟨a, b, c⟩ := x
  obtain ⟨d, e, f⟩ := y
  simp [and_assoc]
def samB : List Ed → List Ed → Bool
  | [], [] => true
  | x :: xs, y :: ys => eqE x y && samB xs ys
  | _, _ => false
theorem samB_iff : ∀ xs ys : List Ed, samB xs ys = true ↔ xs = ys
  | [], [] => by simp [samB]
  | [], y :: ys => by simp [samB]
  | x :: xs, [] => by simp [samB]
  | x :: xs, y :: ys => by simp only [samB, Bool.and_eq_true, eqE_iff, samB_iff xs ys, List.cons.injEq]
theorem samB_at {xs ys : List Ed} {k : Nat} (h : k < xs.length) (h' : k < ys.length) : samB (xs.drop k) (ys.drop k) = (eqE xs[k] ys[k] && samB (xs.drop (k + 1)) (ys.drop (k + 1))) := by
  rw [List.drop_eq_getElem_cons h, List.drop_eq_getElem_cons h']; rfl
theorem samB_end {xs ys : List Ed} {k : Nat} (h : xs.length ≤ k) (h' : ys.length ≤ k) : samB (xs.drop k) (ys.drop k) = true := by
  rw [List.drop_eq_nil_of_le h, List.drop_eq_nil_of_le h']; rfl
theorem samB_len {xs ys : List Ed} (h : xs.length ≠ ys.length) : samB xs ys = false := by
  cases hb : samB xs ys with
  | false => rfl
  | true => exact absurd (congrArg List.length ((samB_iff xs ys).1 hb)) h
theorem beq_list (a b : ByteArray) : (a.toList == b.toList) = decide (a = b) := by
  by_cases h : a = b
  · subst h; simp
  · rw [decide_eq_false h]
    rw [beq_eq_false_iff_ne]
    intro e
    apply h
    apply ByteArray.ext
    apply Array.ext'
    rw [ByteArray.toList_eq, ByteArray.toList_eq] at e
    exact e
theorem eqEd (a b : Int) (s : ByteArray) (c d : Int) (t : ByteArray) (w : World) : (Op.equalIn 10000 35 (.agg #[.int .i64 a, .int .i64 b, .string s]) (.agg #[.int .i64 c, .int .i64 d, .string t])).run Try.prog w = .ok (eqE (a, b, s) (c, d, t)) w := by
  unfold eqE
  simp only
  rw [← beq_list]
  go_simp
  by_cases h0 : s.toList = t.toList <;> by_cases h1 : a = c <;> by_cases h2 : b = d <;> simp [h0, h1, h2]
set_option maxRecDepth 100000 in
set_option maxHeartbeats 4000000 in
theorem same_any (A A' : Option Addr) (c c' : Nat) (xs ys : List Ed) (hx : xs.length ≤ 1000) (hy : ys.length ≤ 1000) (w : World) (h : Re w w.heap.size A xs) (h' : Re w w.heap.size A' ys) :
    Calls Try.prog 21 #[.slice A xs.length c, .slice A' ys.length c'] w fun e w' => e = .returned (.bool (samB xs ys)) ∧ Below w.heap.size w w' := by
  by_cases hle : xs.length = ys.length
  · have HR : Hid (samB (xs.drop 0) (ys.drop 0) = samB xs ys) := by show samB (xs.drop 0) (ys.drop 0) = samB xs ys; simp
    generalize samB xs ys = R at *
    have H := Lib.hid h
    have H' := Lib.hid h'
    have HL := Lib.hid hle
    have q0 : ((xs.length : Int) != (ys.length : Int)) = false := by simp [hle]
    clear h h' hle
    go_enter Try.func21, Try.ntmps21
    go_wp2_with fail
    go_loopw [5] (fun i wr => ∃ k : Nat, i = .int .i64 (k : Int) ∧ k ≤ xs.length ∧ Hid (samB (xs.drop k) (ys.drop k) = R) ∧ Hid (Below w.heap.size w wr)) (fun i _ => xs.length - (intOf i).toNat)
    case atStart => exact ⟨0, rfl, by omega, HR, Lib.hid (Below.refl _ _)⟩
    case round =>
      obtain ⟨k, rfl, hk, HS, HB⟩ := hrel
      by_cases hlt : k < xs.length
      · have hlt' : k < ys.length := by have := HL.out; omega
        obtain ⟨ad, rfl, hl, c0, c1, c2⟩ := (H.out.below HB.out).at_ k hlt
        obtain ⟨ad', rfl, hl', d0, d1, d2⟩ := (H'.out.below HB.out).at_ k hlt'
        have q8 : (k : Int) < (xs.length : Int) := by omega
        have q9 : (k : Int) < (ys.length : Int) := by omega
        have HSa := samB_at hlt hlt'
        generalize xs[k] = x at *
        generalize ys[k] = y at *
        obtain ⟨a, b, s⟩ := x
        obtain ⟨a', b', s'⟩ := y
        cases hq : eqE (a, b, s) (a', b', s') with
        | true =>
          have HS2 : Hid (samB (xs.drop (k + 1)) (ys.drop (k + 1)) = R) := by have := HS.out; rw [HSa, hq, Bool.true_and] at this; exact this
          have E : ∀ w, (Op.equalIn 10000 35 (.agg #[.int .i64 a, .int .i64 b, .string s]) (.agg #[.int .i64 a', .int .i64 b', .string s'])).run Try.prog w = .ok true w := fun w => by rw [eqEd, hq]
          clear hq HS HSa
          go_wp2_with fail
          go_quiet (fail)
          go_wp2_with fail
          go_roundw
          case rel => exact ⟨k + 1, by go_num, by omega, HS2, Lib.hid (bdrewN HB.out _)⟩
          case measure => simp [intOf]; omega
        | false =>
          have HS2 : Hid (false = R) := by have := HS.out; rw [HSa, hq, Bool.false_and] at this; exact this
          have E : ∀ w, (Op.equalIn 10000 35 (.agg #[.int .i64 a, .int .i64 b, .string s]) (.agg #[.int .i64 a', .int .i64 b', .string s'])).run Try.prog w = .ok false w := fun w => by rw [eqEd, hq]
          clear hq HS HSa
          go_wp2_with fail
          go_quiet (fail)
          go_wp2_with fail
          go_ret
          exact ⟨ret_bool HS2.out, bdrewN HB.out _⟩
      · obtain rfl : k = xs.length := by omega
        have HX : Hid (true = R) := Lib.hid (by rw [← HS.out, samB_end (Nat.le_refl _) (by have := HL.out; omega)])
        clear HS
        go_wp2_with fail
        go_ret
        exact ⟨ret_bool HX.out, HB.out⟩
  · rw [samB_len hle]
    have q0 : ((xs.length : Int) != (ys.length : Int)) = true := bne_iff_ne.2 (by omega)
    clear h h' hle
    go_enter Try.func21, Try.ntmps21
    go_wp2_with fail
    go_ret
    exact ⟨rfl, Below.refl _ _⟩
