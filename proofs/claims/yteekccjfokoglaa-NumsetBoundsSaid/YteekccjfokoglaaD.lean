/-
  A block of the call's own by its cells; Clone at spans. No condition but the bounds on the list.
-/
import Derived.Test.YteekccjfokoglaaC
import Derived.Test.YteekccjfokoglaaSoL
namespace Go.Proofs.Yteekccjfokoglaa
open Go.RowKit Go.Sort Go.Lib Go.Proofs
set_option linter.unusedSimpArgs false
set_option linter.unnecessarySimpa false
set_option linter.unusedVariables false
/-- block g holds just the cells cs -/
def Row (w : World) (g : Nat) (cs : List Value) : Prop := w.heap[g]? = some (.cells cs.toArray 46 (0, 0))
theorem Row.lt {w : World} {g : Nat} {cs : List Value} (h : Row w g cs) : g < w.heap.size := by
  unfold Row at h
  exact (Array.getElem?_eq_some_iff.1 h).1
theorem Row.cell {w : World} {g : Nat} {cs : List Value} (h : Row w g cs) (j : Nat) : w.cell? ⟨g, j, none⟩ = cs[j]? := by
  unfold Row at h
  simp [World.cell?, h]
theorem Row.frozen {w : World} {g : Nat} {cs : List Value} (h : Row w g cs) (j : Nat) : w.frozen? ⟨g, j, none⟩ = false := by
  unfold Row at h
  simp [World.frozen?, h]
theorem Row.set {w : World} {g : Nat} {cs : List Value} (h : Row w g cs) (j : Nat) (v : Value) : Row (w.setCell ⟨g, j, none⟩ v) g (cs.set j v) := by
  unfold Row at *
  simp [World.setCell, Array.getElem?_modify, h]
theorem Row.other {w : World} {g b j : Nat} {cs : List Value} (h : Row w g cs) (hne : b ≠ g) (v : Value) : Row (w.setCell ⟨b, j, none⟩ v) g cs := by
  unfold Row at *
  simp [World.setCell, Array.getElem?_modify, hne, h]
theorem Row.below {w w' : World} {g N : Nat} {cs : List Value} (h : Row w g cs) (hb : Below N w w') (hg : g < N) : Row w' g cs := by
  unfold Row at *
  rw [hb.block g hg]; exact h
theorem Row.grow {w : World} {g : Nat} {cs : List Value} (h : Row w g cs) (os : Array Obj) : Row (grow w os) g cs := h.below (below_grow w os _ (Nat.le_refl _)) h.lt
theorem Row.up {w w' : World} {g : Nat} {cs : List Value} (h : Row w g cs) (hb : Below w.heap.size w w') : Row w' g cs := h.below hb h.lt
theorem Row.sets {g : Nat} : ∀ (vs Y X Z : List Value) (w : World), Row w g (X ++ Y ++ Z) → Y.length = vs.length → Row (w.setCells g X.length vs) g (X ++ vs ++ Z)
  | [], Y, X, Z, w, h, hl => by
    obtain rfl : Y = [] := List.length_eq_zero_iff.1 hl
    simpa [World.setCells] using h
  | v :: vs, [], X, Z, w, h, hl => by simp at hl
  | v :: vs, y :: Y, X, Z, w, h, hl => by
    have h1 := h.set X.length v
    have e : (X ++ y :: Y ++ Z).set X.length v = (X ++ [v]) ++ Y ++ Z := by simp [List.set_append]
    rw [e] at h1
    have := Row.sets vs Y (X ++ [v]) Z (w.setCell ⟨g, X.length, none⟩ v) h1 (by simpa using hl)
    rw [World.setCells]
    simpa using this
/-- the cells of a list of spans -/
def flat (l : List Sp) : List Value := l.flatMap fun s => [.int .i64 s.1, .int .i64 s.2]
theorem flat_nil : flat [] = [] := rfl
theorem flat_cons (s : Sp) (l : List Sp) : flat (s :: l) = .int .i64 s.1 :: .int .i64 s.2 :: flat l := rfl
theorem flat_append (l m : List Sp) : flat (l ++ m) = flat l ++ flat m := by simp [flat]
theorem flat_len (l : List Sp) : (flat l).length = l.length * 2 := by
  induction l with
  | nil => rfl
  | cons s l ih => simp only [flat_cons, List.length_cons, ih]; omega
theorem flat_at (l : List Sp) (i : Nat) (h : i < l.length) : (flat l)[i * 2]? = some (.int .i64 l[i].1) ∧ (flat l)[i * 2 + 1]? = some (.int .i64 l[i].2) := by
  induction l generalizing i with
  | nil => simp at h
  | cons s l ih =>
    cases i with
    | zero => exact ⟨rfl, rfl⟩
    | succ i =>
      have := ih i (by simpa using h)
      rw [flat_cons, show (i + 1) * 2 = i * 2 + 1 + 1 by omega]
      simpa using this
theorem flat_one (l : List Sp) : ∀ v ∈ flat l, v.oneCell' = true := by
  intro v hv
  simp only [flat, List.mem_flatMap] at hv
  obtain ⟨s, _, hs⟩ := hv
  simp at hs
  rcases hs with rfl | rfl <;> rfl
theorem info46 : (Try.prog.info? 46).map (fun i => (i.zero, i.size, i.bytes)) = some (some (.agg #[.int .i64 0, .int .i64 0]), 2, 16) := by kernel_rfl
/-- a slice's address is plain -/
def Plain (A : Option Addr) (c : Nat) : Prop := (A = none ∧ c = 0) ∨ ∃ b o, A = some ⟨b, o, none⟩
theorem row_of_own {w : World} {B g c n : Nat} {xs : List Value} (h : w.ownsRow B 46 2 (.slice (some ⟨g, 0, none⟩) n c) n xs) : B ≤ g ∧ n ≤ c ∧ c ≤ maxLen ∧ ∃ rest, Row w g (xs ++ rest) := by
  rcases h.2 with ⟨h1, _⟩ | ⟨g', c', cur, h1, h2, h3, h4, h5, h6, h7⟩
  · simp at h1
  · simp only [Value.slice.injEq, Option.some.injEq, Addr.mk.injEq] at h1
    obtain ⟨⟨rfl, _, _⟩, _, rfl⟩ := h1
    refine ⟨h2, h4, h5, cur.toList.drop (n * 2), ?_⟩
    unfold Row
    rw [h3, ← h7]
    simp
def CloneIs (A : Option Addr) (l : List Sp) (w : World) (e : Ending) (w' : World) : Prop :=
  (A = none ∧ e = .returned (.slice none 0 0) ∧ w = w') ∨ ∃ g c rest, e = .returned (.slice (some ⟨g, 0, none⟩) l.length c) ∧ l.length ≤ c ∧ c ≤ maxLen ∧ Row w' g (flat l ++ rest) ∧ w.heap.size ≤ g ∧ Below w.heap.size w w'
theorem clone_any (A : Option Addr) (cap : Nat) (l : List Sp) (w : World) (hR : Re w w.heap.size A l) (hl : okL l) (hf : Plain A cap) :
    Calls Try.prog 73 #[.slice A l.length cap] w (CloneIs A l w) := by
  rcases hf with ⟨rfl, _⟩ | ⟨b, o, rfl⟩
  · exact (AnyE.slices_Clone_nil Try.cloneB l.length cap w).mono fun e w' ⟨h1, h2⟩ => .inl ⟨rfl, h1, h2.symm⟩
  · obtain ⟨i0, hi, hz0, hz1, hz2⟩ := info_parts info46
    have hc : ∀ j u, (flat l)[j]? = some u → w.cell? ⟨b, o + j, none⟩ = some u := by
      intro j u hj
      have hjl : j < l.length * 2 := by have := (List.getElem?_eq_some_iff.1 hj).1; rwa [flat_len] at this
      obtain ⟨b', o', e, _, c0, c1⟩ := hR.at_ (j / 2) (by omega)
      simp only [Option.some.injEq, Addr.mk.injEq] at e
      obtain ⟨rfl, rfl, _⟩ := e
      have hfl := flat_at l (j / 2) (by omega)
      rcases (show j = j / 2 * 2 ∨ j = j / 2 * 2 + 1 by omega) with hh | hh
      · rw [← hh] at hfl c0
        rw [c0, ← hfl.1, hj]
      · rw [← hh, hj] at hfl
        rw [show o + j / 2 * 2 + 1 = o + j by omega] at c1
        rw [c1, ← hfl.2]
    refine (AnyE.slices_Clone Try.cloneB i0 _ 2 16 hi hz0 hz1 hz2 rfl (by decide) Try.sizeOf46 b o l.length cap (flat l) w (flat_len l) (by have := hl.1; unfold maxLen; omega) (by have := hl.1; omega) hc (flat_one l)).mono ?_
    rintro e w' ⟨v', rfl, hown, hne, hb⟩
    have hform := hown.2
    rcases hform with ⟨h1, _⟩ | ⟨g, c, cur, rfl, h2, _⟩
    · exact absurd h1 hne
    · obtain ⟨h3, h4, h5, rest, h6⟩ := row_of_own hown
      exact .inr ⟨g, c, rest, rfl, h4, h5, h6, h3, hb⟩
end Go.Proofs.Yteekccjfokoglaa
