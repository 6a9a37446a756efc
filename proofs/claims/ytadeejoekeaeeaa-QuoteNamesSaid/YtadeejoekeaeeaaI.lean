/-
  Label, Unlabel and the chapter's examples. No condition but a bound on the length for Label.
-/
import Derived.Test.YtadeejoekeaeeaaH
namespace Go.Proofs.Ytadeejoekeaeeaa
open Go.RowKit
set_option linter.unusedSimpArgs false
set_option linter.unusedVariables false
theorem unquote_any (s : ByteArray) (w : World) : Calls Try.prog 15 #[.string s] w fun e w' => e = .returned (uv (unq s.data.toList)) ∧ Below w.heap.size w w' := by
  by_cases h : 65536 < s.size
  · exact unquote_big s h w
  · by_cases h' : s.size = 0 ∨ ch s 0 ≠ 34
    · exact unquote_no s h h' w
    · exact unquote_yes s h h' w
theorem ba_of {s : ByteArray} {l : List UInt8} (h : s.data.toList = l) : (⟨l.toArray⟩ : ByteArray) = s := by
  subst h; rfl
theorem unquote_at (s r : ByteArray) (n at_ : Nat) (h : unq s.data.toList = (r.data.toList, n, at_)) (w : World) :
    Calls Try.prog 15 #[.string s] w fun e w' => e = .returned (.tuple #[.string r, .agg #[.int .i64 (n : Int), .int .i64 (at_ : Int)]]) ∧ Below w.heap.size w w' := by
  have := unquote_any s w
  rw [h] at this
  exact this
theorem quote_at (s r : ByteArray) (hs : s.size ≤ 1099511627776) (h : quoteL s.data.toList = r.data.toList) (w : World) :
    Calls Try.prog 13 #[.string s] w fun e w' => e = .returned (.string r) ∧ Below w.heap.size w w' := by
  have := quote_any s hs w
  rw [h] at this
  exact this
theorem ident_at (s : ByteArray) (v : Bool) (h : identB s = v) (w : World) : Calls Try.prog 19 #[.string s] w fun e w' => e = .returned (.bool v) ∧ w = w' := by subst h; exact ident_any s w
def labelV (s : ByteArray) : ByteArray := if identB s = true then s else ⟨(quoteL s.data.toList).toArray⟩
set_option maxHeartbeats 1000000 in
theorem label_any (s : ByteArray) (hs : s.size ≤ 1099511627776) (w : World) :
    Calls Try.prog 21 #[.string s] w fun e w' => e = .returned (.string (labelV s)) ∧ Below w.heap.size w w' := by
  unfold labelV
  cases h : identB s with
  | true =>
    rw [if_pos rfl]
    have H := Lib.hid h
    clear h
    go_enter Try.func21, Try.ntmps21
    go_wp2_with fail
    refine (ident_at s true H.out _).mono ?_
    rintro e w1 ⟨rfl, rfl⟩
    go_wp2_with fail
    go_ret
    exact ⟨rfl, Below.refl _ _⟩
  | false =>
    rw [if_neg (by simp)]
    have H := Lib.hid h
    clear h
    go_enter Try.func21, Try.ntmps21
    go_wp2_with fail
    refine (ident_at s false H.out _).mono ?_
    rintro e w1 ⟨rfl, rfl⟩
    go_wp2_with fail
    refine (quote_any s hs _).mono ?_
    rintro e w2 ⟨rfl, hb⟩
    have HB := Lib.hid hb
    clear hb
    go_wp2_with fail
    go_ret
    exact ⟨rfl, HB.out⟩
theorem label_at (s r : ByteArray) (hs : s.size ≤ 1099511627776) (h : labelV s = r) (w : World) :
    Calls Try.prog 21 #[.string s] w fun e w' => e = .returned (.string r) ∧ Below w.heap.size w w' := by subst h; exact label_any s hs w
def unl (s : ByteArray) : List UInt8 × Nat × Nat := if identB s = true then (s.data.toList, 0, 0) else unq s.data.toList
set_option maxRecDepth 100000 in
set_option maxHeartbeats 1000000 in
theorem unlabel_any (s : ByteArray) (w : World) :
    Calls Try.prog 17 #[.string s] w fun e w' => e = .returned (uv (unl s)) ∧ Below w.heap.size w w' := by
  unfold unl
  cases h : identB s with
  | true =>
    rw [if_pos rfl]
    have H := Lib.hid h
    clear h
    unfold uv
    go_enter Try.func17, Try.ntmps17
    go_wp2_with fail
    refine (ident_at s true H.out _).mono ?_
    rintro e w1 ⟨rfl, rfl⟩
    go_wp2_with fail
    refine bodyPost_ret (v := .tuple #[.string s, .agg #[.int .i64 0, .int .i64 0]]) (by simp [results, Try.results17, go_sem]) rfl ⟨by rw [ba_of rfl]; rfl, ?_⟩
    exact (Below.refl w.heap.size w).alloc (Nat.le_refl _) _
  | false =>
    rw [if_neg (by simp)]
    have H := Lib.hid h
    clear h
    have hu := unquote_any s
    unfold uv at hu ⊢
    generalize unq s.data.toList = R at *
    obtain ⟨r1, r2, r3⟩ := R
    have HU := Lib.hid hu
    clear hu
    go_enter Try.func17, Try.ntmps17
    go_wp2_with fail
    refine (ident_at s false H.out _).mono ?_
    rintro e w1 ⟨rfl, rfl⟩
    go_wp2_with fail
    refine (HU.out _).mono ?_
    rintro e w2 ⟨rfl, hb⟩
    have hrc := res_keep (World.alloc_heap_new w (.cells #[.int .i64 0, .int .i64 0] 27)) hb
    obtain ⟨z9, c0, c1, f0, f1⟩ := res_facts hrc
    have hB := ((Below.refl w.heap.size w).alloc (Nat.le_refl _) (.cells #[.int .i64 0, .int .i64 0] 27)).trans (hb.mono (by simp))
    have HB := Lib.hid ((hB.setCell (p := ⟨w.heap.size, 0, none⟩) (Nat.le_refl _) (.int .i64 (r2 : Int))).setCell (p := ⟨w.heap.size, 1, none⟩) (Nat.le_refl _) (.int .i64 (r3 : Int)))
    clear hb hB hrc
    go_wp2_with fail
    refine bodyPost_ret (v := .tuple #[.string ⟨r1.toArray⟩, .agg #[.int .i64 (r2 : Int), .int .i64 (r3 : Int)]]) (by simp [results, Try.results17, go_sem, c0, c1, z9]) rfl ⟨rfl, HB.out⟩
theorem unlabel_at (s r : ByteArray) (n at_ : Nat) (h : unl s = (r.data.toList, n, at_)) (w : World) :
    Calls Try.prog 17 #[.string s] w fun e w' => e = .returned (.tuple #[.string r, .agg #[.int .i64 (n : Int), .int .i64 (at_ : Int)]]) ∧ Below w.heap.size w w' := by
  have := unlabel_any s w
  rw [h] at this
  exact this
theorem eqF (a b c d : Int) (w : World) : (Op.equalIn 10000 27 (.agg #[.int .i64 a, .int .i64 b]) (.agg #[.int .i64 c, .int .i64 d])).run Try.prog w = .ok (a == c && b == d) w := by
  go_simp
  by_cases h0 : a = c <;> by_cases h1 : b = d <;> simp [h0, h1]
/-- 'fails' of the statements -/
theorem fails_true (s : ByteArray) (n : Nat) (h : unq s.data.toList = ([], 8, n)) (w : World) :
    Calls Try.prog 23 #[.string s, .int .i64 (n : Int)] w fun e w' => e = .returned (.bool true) ∧ Below w.heap.size w w' := by
  have HU := Lib.hid (unquote_at s ⟨#[]⟩ 8 n h)
  have q : ∀ w, (Op.equalIn 10000 27 (.agg #[.int .i64 8, .int .i64 (n : Int)]) (.agg #[.int .i64 8, .int .i64 (n : Int)])).run Try.prog w = .ok true w := fun w => by rw [eqF]; simp
  clear h
  go_enter Try.func23, Try.ntmps23
  go_wp2_with fail
  refine (HU.out _).mono ?_
  rintro e w1 ⟨rfl, hb⟩
  have HB := Lib.hid (hb.alloc hb.size (.cells #[.int .i64 8, .int .i64 (n : Int)] 27))
  clear hb
  go_wp2_with fail
  go_ret
  exact ⟨rfl, HB.out⟩
abbrev A1 : ByteArray := ⟨#[34, 97, 92, 110, 92, 34, 92, 120, 52, 65, 34]⟩
theorem ex1 : unq A1.data.toList = ([97, 10, 34, 74], 0, 0) := by decide +kernel
theorem ex2 : unl ⟨#[95, 120, 49]⟩ = ([95, 120, 49], 0, 0) := by decide +kernel
theorem ex3 : unl ⟨#[49, 97]⟩ = ([], 8, 0) := by decide +kernel
theorem ex4 : quoteL [97, 10, 34] = [34, 97, 92, 110, 92, 34, 34] := by decide +kernel
theorem ex5 : quoteL [0, 255] = [34, 92, 120, 48, 48, 92, 120, 102, 102, 34] := by decide +kernel
theorem ex6 : identB ⟨#[97, 45, 98]⟩ = false ∧ quoteL [97, 45, 98] = [34, 97, 45, 98, 34] := by decide +kernel
theorem ex7 : identB ⟨#[95, 120, 49]⟩ = true := by decide +kernel
theorem ex8 : identB ⟨#[105, 110, 116]⟩ = false ∧ quoteL [105, 110, 116] = [34, 105, 110, 116, 34] := by decide +kernel
theorem ex9 : unq [34, 97, 92, 113, 34] = ([], 8, 2) := by decide +kernel
theorem ex10 : unq [34, 97, 34, 98] = ([], 8, 3) := by decide +kernel
theorem ex11 : unq [34, 97] = ([], 8, 2) := by decide +kernel
theorem ex12 : unq [97] = ([], 8, 0) := by decide +kernel
theorem ex13 : identB ⟨#[35, 97, 95, 49]⟩ = true ∧ identB ⟨#[95]⟩ = false ∧ identB ⟨#[95, 95, 97]⟩ = false := by decide +kernel
end Go.Proofs.Ytadeejoekeaeeaa
