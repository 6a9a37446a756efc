/-
  Label, Unlabel and the chapter's examples. No condition but a bound on the length for Label.
-/
import Derived.Test.YtaocgibfabofhaaDoorH
namespace Go.Proofs.YtaocgibfabofhaaDoor
open Go.RowKit
set_option linter.unusedSimpArgs false
set_option linter.unusedVariables false
theorem unquote_any (s : ByteArray) (w : World) : Calls Tryd.prog 68 #[.string s] w fun e w' => e = .returned (uv (unq s.data.toList)) ∧ Below w.heap.size w w' := by
  by_cases h : 65536 < s.size
  · exact unquote_big s h w
  · by_cases h' : s.size = 0 ∨ ch s 0 ≠ 34
    · exact unquote_no s h h' w
    · exact unquote_yes s h h' w
theorem ba_of {s : ByteArray} {l : List UInt8} (h : s.data.toList = l) : (⟨l.toArray⟩ : ByteArray) = s := by
  subst h; rfl
theorem unquote_at (s r : ByteArray) (n at_ : Nat) (h : unq s.data.toList = (r.data.toList, n, at_)) (w : World) :
    Calls Tryd.prog 68 #[.string s] w fun e w' => e = .returned (.tuple #[.string r, .agg #[.int .i64 (n : Int), .int .i64 (at_ : Int)]]) ∧ Below w.heap.size w w' := by
  have := unquote_any s w
  rw [h] at this
  exact this
theorem quote_at (s r : ByteArray) (hs : s.size ≤ 1099511627776) (h : quoteL s.data.toList = r.data.toList) (w : World) :
    Calls Tryd.prog 43 #[.string s] w fun e w' => e = .returned (.string r) ∧ Below w.heap.size w w' := by
  have := quote_any s hs w
  rw [h] at this
  exact this
theorem ident_at (s : ByteArray) (v : Bool) (h : identB s = v) (w : World) : Calls Tryd.prog 42 #[.string s] w fun e w' => e = .returned (.bool v) ∧ w = w' := by subst h; exact ident_any s w
def labelV (s : ByteArray) : ByteArray := if identB s = true then s else ⟨(quoteL s.data.toList).toArray⟩
set_option maxHeartbeats 1000000 in
theorem label_any (s : ByteArray) (hs : s.size ≤ 1099511627776) (w : World) :
    Calls Tryd.prog 27 #[.string s] w fun e w' => e = .returned (.string (labelV s)) ∧ Below w.heap.size w w' := by
  unfold labelV
  cases h : identB s with
  | true =>
    rw [if_pos rfl]
    have H := Lib.hid h
    clear h
    go_enter Tryd.func27, Tryd.ntmps27
    go_wp2_with fail
    refine (ident_at s true H.out _).mono ?_
    rintro e w1 ⟨rfl, rfl⟩
    go_wp2_with fail
    go_ret
    exact ⟨rfl, Below.refl _ _⟩
  | false =>
    rw [if_neg (by simp)]
    have H := Lib.hid h
    clear h
    go_enter Tryd.func27, Tryd.ntmps27
    go_wp2_with fail
    refine (ident_at s false H.out _).mono ?_
    rintro e w1 ⟨rfl, rfl⟩
    go_wp2_with fail
    refine (quote_any s hs _).mono ?_
    rintro e w2 ⟨rfl, hb⟩
    have HB := Lib.hid hb
    clear hb
    go_wp2_with fail
    go_ret
    exact ⟨rfl, HB.out⟩
theorem label_at (s r : ByteArray) (hs : s.size ≤ 1099511627776) (h : labelV s = r) (w : World) :
    Calls Tryd.prog 27 #[.string s] w fun e w' => e = .returned (.string r) ∧ Below w.heap.size w w' := by subst h; exact label_any s hs w
theorem eqF (a b c d : Int) (w : World) : (Op.equalIn 10000 28 (.agg #[.int .i64 a, .int .i64 b]) (.agg #[.int .i64 c, .int .i64 d])).run Tryd.prog w = .ok (a == c && b == d) w := by
  go_simp
  by_cases h0 : a = c <;> by_cases h1 : b = d <;> simp [h0, h1]
/-- 'fails' of the statements -/
abbrev A1 : ByteArray := ⟨#[34, 97, 92, 110, 92, 34, 92, 120, 52, 65, 34]⟩
theorem ex1 : unq A1.data.toList = ([97, 10, 34, 74], 0, 0) := by decide +kernel
theorem ex4 : quoteL [97, 10, 34] = [34, 97, 92, 110, 92, 34, 34] := by decide +kernel
theorem ex5 : quoteL [0, 255] = [34, 92, 120, 48, 48, 92, 120, 102, 102, 34] := by decide +kernel
theorem ex6 : identB ⟨#[97, 45, 98]⟩ = false ∧ quoteL [97, 45, 98] = [34, 97, 45, 98, 34] := by decide +kernel
theorem ex7 : identB ⟨#[95, 120, 49]⟩ = true := by decide +kernel
theorem ex8 : identB ⟨#[105, 110, 116]⟩ = false ∧ quoteL [105, 110, 116] = [34, 105, 110, 116, 34] := by decide +kernel
theorem ex9 : unq [34, 97, 92, 113, 34] = ([], 8, 2) := by decide +kernel
theorem ex10 : unq [34, 97, 34, 98] = ([], 8, 3) := by decide +kernel
theorem ex11 : unq [34, 97] = ([], 8, 2) := by decide +kernel
theorem ex12 : unq [97] = ([], 8, 0) := by decide +kernel
theorem ex13 : identB ⟨#[35, 97, 95, 49]⟩ = true ∧ identB ⟨#[95]⟩ = false ∧ identB ⟨#[95, 95, 97]⟩ = false := by decide +kernel
end Go.Proofs.YtaocgibfabofhaaDoor
