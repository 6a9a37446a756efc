/-
  Sorting a row of the call's own: a permutation, by the lower ends. No condition but the bounds on the list.
-/
import Derived.Test.YteekccjfokoglaaF
import Derived.Shelf.SlSortCmp.NoneTotal
namespace Go.Proofs.Yteekccjfokoglaa
open Go.RowKit Go.Sort Go.Lib Go.Shelf Go.Proofs
set_option linter.unusedSimpArgs false
set_option linter.unnecessarySimpa false
set_option linter.unusedVariables false
def cmpN (a b : Int) : Int := if a < b then -1 else if b < a then 1 else 0
theorem isNaN_any (x : Int) (w : World) : Calls Try.prog 92 #[.int .i64 x] w fun e w' => e = .returned (.bool false) ∧ w = w' := by
  go_enter Try.func92, Try.ntmps92
  go_wp2
  go_ret
  exact ⟨ret_bool (by simp), rfl⟩
theorem cmp_any (a b : Int) (w : World) : Calls Try.prog 78 #[.int .i64 a, .int .i64 b] w fun e w' => e = .returned (.int .i64 (cmpN a b)) ∧ w = w' := by
  by_cases h1 : a < b
  · have hc := Lib.hid (show cmpN a b = -1 by simp [cmpN, h1])
    go_enter Try.func78, Try.ntmps78
    go_wp2_with (go_at_call 92; with_reducible refine (isNaN_any _ _).mono ?_; rintro e w' ⟨rfl, rfl⟩)
    go_ret
    exact ⟨ret_int hc.out.symm, rfl⟩
  · by_cases h2 : b < a
    · have hc := Lib.hid (show cmpN a b = 1 by simp [cmpN, h1, h2])
      go_enter Try.func78, Try.ntmps78
      go_wp2_with (go_at_call 92; with_reducible refine (isNaN_any _ _).mono ?_; rintro e w' ⟨rfl, rfl⟩)
      go_ret
      exact ⟨ret_int hc.out.symm, rfl⟩
    · have hc := Lib.hid (show cmpN a b = 0 by simp [cmpN, h1, h2])
      go_enter Try.func78, Try.ntmps78
      go_wp2_with (go_at_call 92; with_reducible refine (isNaN_any _ _).mono ?_; rintro e w' ⟨rfl, rfl⟩)
      go_ret
      exact ⟨ret_int hc.out.symm, rfl⟩
theorem closure77 (a b : Sp) (W : World) : Calls Try.prog 77 #[sv a, sv b] W fun e w' => e = .returned (.int .i64 (cmpN a.1 b.1)) ∧ ∃ q os', w' = grow (W.drewN q) os' := by
  have H3 := Lib.hid (fun w => cmp_any a.1 b.1 w)
  generalize cmpN a.1 b.1 = r at *
  go_enter Try.func77, Try.ntmps77
  go_wp2_with fail
  refine (H3.out _).mono ?_
  rintro e w1 ⟨rfl, rfl⟩
  go_wp2_with fail
  go_ret
  exact ⟨rfl, 0, _, by rw [alloc_eq_grow, alloc_eq_grow, grow_grow]; rfl⟩
def enc2 (s : Sp) : List Value := [.int .i64 s.1, .int .i64 s.2]
theorem ltC (x y : Sp) : ltOf (fun a b : Sp => cmpN a.1 b.1) x y = decide (x.1 < y.1) := by
  unfold ltOf cmpN
  by_cases h1 : x.1 < y.1
  · simp [h1]
  · by_cases h2 : y.1 < x.1 <;> simp [h1, h2]
theorem swoC : SWO (ltOf fun a b : Sp => cmpN a.1 b.1) where
  irrefl x := by rw [ltC]; simp
  trans x y z h1 h2 := by rw [ltC] at *; simp at *; omega
  ntrans x y z h1 h2 := by rw [ltC] at *; simp at *; omega
theorem enc2_one (x : Sp) : ∀ v ∈ enc2 x, v.oneCell' = true := by
  intro v hv; simp [enc2] at hv; rcases hv with rfl | rfl <;> rfl
theorem holds_row {w : World} {g : Nat} {R : List Sp} {rest : List Value} (h : Row w g (flat R ++ rest)) : HoldsK enc2 2 w g 0 R.toArray := by
  intro j hj
  have hj' : j < R.length * 2 := by simpa using hj
  rw [get_flatK _ _ _ _ (by simpa using hj')]
  have hq : j / 2 < R.length := by omega
  have hf := flat_at R (j / 2) hq
  have hl := flat_len R
  have e : (R.toArray[j / 2]!) = R[j / 2] := by simp [hq]
  rw [e, Nat.zero_add]
  refine ⟨?_, h.frozen j⟩
  rw [h.cell, List.getElem?_append_left (by omega)]
  rcases (show j = j / 2 * 2 ∨ j = j / 2 * 2 + 1 by omega) with hh | hh
  · rw [← hh] at hf
    rw [hf.1, show j % 2 = 0 by omega]; rfl
  · rw [← hh] at hf
    rw [hf.2, show j % 2 = 1 by omega]; rfl
theorem below_sort {w : World} {B g n : Nat} {d : Array Sp} {os : Array Obj} (hB : B ≤ g) (hg : g < w.heap.size) : Below B w (sortWorldK enc2 2 w g 0 n d os) := by
  refine ⟨rfl, rfl, rfl, by simp [sortWorldK, putRowK, putRow, mapBlock, Sort.ahead], fun k hk => ?_⟩
  unfold sortWorldK
  have hne : g ≠ k := by omega
  have hlt : k < w.heap.size := by omega
  rw [heap_grow_old _ _ (by simpa [putRowK, putRow, mapBlock, Sort.ahead] using hlt)]
  simp [putRowK, putRow, mapBlock, Sort.ahead, Array.getElem?_modify, hne]
def SortIs (R : List Sp) (g B : Nat) (w : World) (e : Ending) (w' : World) : Prop :=
  e = .returned (.tuple #[]) ∧ ∃ R' : List Sp, R'.Perm R ∧ R'.Pairwise (fun s t => s.1 ≤ t.1) ∧ Re w' w'.heap.size (some ⟨g, 0, none⟩) R' ∧ Below B w w'
set_option maxRecDepth 100000 in
theorem sort_own (R : List Sp) (g cap B : Nat) (rest : List Value) (w : World) (hB : B ≤ g) (hR : R.length ≤ 1000000) (hrow : Row w g (flat R ++ rest)) :
    Calls Try.prog 76 #[.slice (some ⟨g, 0, none⟩) R.length cap, .func (.func 77) #[] #[]] w (SortIs R g B w) := by
  have hg := hrow.lt
  have hH := holds_row hrow
  have eg : ∀ args w, (callFunc 77 args).run Try.prog w = .ok (.enter 77 args) w := enters_of Try.func77 (by kernel_rfl) rfl
  have hcon := AnyQ.slices_SortFunc Try.sortB 2 Try.isAgg46 Try.sizeOf46 enc2 (fun _ => rfl) enc2_one (fun a b => cmpN a.1 b.1) swoC 77 #[] g 0 cap R.toArray w eg
    (fun m os dk _ x y => closure77 x y _) hH hg (by simp; omega)
  rw [List.size_toArray] at hcon
  refine Calls.mono hcon ?_
  rintro e w' ⟨rfl, d', n, os, hp, hs, rfl⟩
  have hsz : d'.size = R.length := by simpa using hp.1
  refine ⟨rfl, d'.toList, ?_, ?_, ⟨fun i hi => ⟨g, 0, rfl, ?_, ?_⟩⟩, below_sort hB hg⟩
  · have := hp.2.2
    rw [← hsz, Array.extract_size, hsz, show R.toArray.extract 0 R.length = R.toArray by simp] at this
    simpa using this
  · rw [List.pairwise_iff_getElem]
    intro i j hi hj hij
    have hi' : i < d'.size := by simpa using hi
    have hj' : j < d'.size := by simpa using hj
    have := hs i j (Nat.zero_le _) hij (by simpa [hsz] using hj')
    rw [ltC] at this
    simpa [hi', hj'] using this
  · simp [sortWorldK, putRowK, putRow, mapBlock, Sort.ahead]; omega
  · have hi' : i < d'.size := by simpa using hi
    have h0 := (holdsK_sortWorldK enc2 2 w g 0 n R.toArray d' os hg hH (by simpa using hsz)).cell (i := i) (c := 0) hi' (by omega)
    have h1 := (holdsK_sortWorldK enc2 2 w g 0 n R.toArray d' os hg hH (by simpa using hsz)).cell (i := i) (c := 1) hi' (by omega)
    have e : d'[i]! = d'.toList[i] := by simp [hi']
    rw [e] at h0 h1
    refine ⟨?_, ?_⟩
    · rw [Nat.zero_add]; rw [Nat.zero_add] at h0; exact h0.1
    · rw [Nat.zero_add] at h1 ⊢; exact h1.1
theorem sort_none (A : Option Addr) (c : Nat) (w : World) : Calls Try.prog 76 #[.slice A 0 c, .func (.func 77) #[] #[]] w fun e w' => e = .returned (.tuple #[]) ∧ w' = w :=
  AnyF.slices_SortFunc_none (P := Try.prog) Try.sortB A c (.func (.func 77) #[] #[]) w
end Go.Proofs.Yteekccjfokoglaa
