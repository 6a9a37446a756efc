/-
  The specification's reader: what 'path' leaves. No condition.
-/
import Derived.Test.YtaocgibfabofhaaDoorQ8
import Derived.Test.YtaocgibfabofhaaDoorR9
namespace Go.Proofs.YtaocgibfabofhaaDoor
open Go.RowKit
set_option linter.unusedSimpArgs false
set_option linter.unusedVariables false
/-- the steps behind a step that ends at q -/
def contF (s : ByteArray) (f q : Nat) (acc : List St) : List St × Nat × Nat :=
  if q = s.size then (acc, 0, 0) else if ch s q = 46 then parF s f false (q + 1) acc else if ch s q = 91 then parF s f true q acc else ([], 8, q)
theorem parF_go {s : ByteArray} {f p : Nat} {m : Bool} {acc : List St} (h : (stepS s m p).1 = true) : parF s (f + 1) m p acc = contF s f (stepS s m p).2.2 (acc ++ [(stepS s m p).2.1]) := by
  rw [parF, if_pos h]; rfl
theorem parF_no {s : ByteArray} {f p : Nat} {m : Bool} {acc : List St} (h : (stepS s m p).1 = false) : parF s (f + 1) m p acc = ([], 8, (stepS s m p).2.2) := by
  rw [parF, if_neg (by rw [h]; simp)]
/-- an index: what the walk wants -/
theorem idx_go {s : ByteArray} {f p : Nat} {acc : List St} (r : Bool) (n q : Nat) (h : idxF s (p + 1) (s.size + 1) (p + 1) 0 = (r, n, q)) :
    (r = true → parF s (f + 1) true p acc = contF s f q (acc ++ [(⟨#[]⟩, (n : Int))])) ∧ (r = false → parF s (f + 1) true p acc = ([], 8, q)) := by
  have e : stepS s true p = (r, ((⟨#[]⟩ : ByteArray), (n : Int)), q) := by
    unfold stepS idxS; rw [if_pos rfl, h]
  constructor
  · rintro rfl; rw [parF_go (by rw [e]), e]
  · rintro rfl; rw [parF_no (by rw [e]), e]
theorem ins_46 {n : Nat} (h : insB n = true) : n ≠ 46 ∧ n ≠ 91 := by
  constructor
  · rintro rfl; exact absurd h (by decide)
  · rintro rfl; exact absurd h (by decide)
/-- a label: what the walk wants -/
theorem lab_go {s : ByteArray} {f p : Nat} {acc : List St} (r : Bool) (v : ByteArray) (q : Nat) (h : labX s p = (r, v, q)) :
    (r = true → parF s (f + 1) false p acc = contF s f q (acc ++ [(v, (0 : Int))])) ∧ (r = false → parF s (f + 1) false p acc = ([], 8, q)) := by
  have e : stepS s false p = ((labS s p).1, ((labS s p).2.1, (0 : Int)), (labS s p).2.2) := by
    unfold stepS; rw [if_neg (by simp)]
  unfold labX at h
  split at h
  · rename_i hc
    injection h with h1 h2
    injection h2 with h2 h3
    subst h1 h2 h3
    refine ⟨fun h => (by cases h), fun _ => ?_⟩
    have hi := ins_46 hc.2.2
    have hlt := ins_in hc.2.2
    rw [parF_go (by rw [e]; exact hc.1), e]
    unfold contF
    rw [if_neg (by show (labS s p).2.2 ≠ s.size; omega), if_neg hi.1, if_neg hi.2]
  · rw [h] at e
    constructor
    · rintro rfl; rw [parF_go (by rw [e]), e]
    · rintro rfl; rw [parF_no (by rw [e]), e]
theorem labX_go {s : ByteArray} {p : Nat} (h : p ≤ s.size) : p ≤ (labX s p).2.2 ∧ (labX s p).2.2 ≤ s.size ∧ ((labX s p).1 = true → p < (labX s p).2.2) := by
  have := labS_go h
  unfold labX
  split
  · exact ⟨this.1, this.2.1, fun h => by cases h⟩
  · exact this
/-- what path leaves: a list, or the place where it failed -/
def PathP (g : Nat) (s : ByteArray) (R : List St × Nat × Nat) (w : World) (e : Ending) (w' : World) : Prop :=
  ∃ v, e = .returned v ∧ ((R.2 = (0, 0) ∧ ∃ q, RqP g s q false w w' ∧ w'.ownsRow w.heap.size 37 2 v R.1.length (flat R.1)) ∨ (∃ q, R = ([], 8, q) ∧ RqP g s q true w w'))
theorem own_len {w : World} {B : Nat} {v : Value} {n : Nat} {xs : List Value} (h : w.ownsRow B 37 2 v n xs) : ∃ A c, v = .slice A n c := by
  rcases h.2 with ⟨rfl, rfl⟩ | ⟨g, cap, cur, hv, _⟩
  · exact ⟨_, _, rfl⟩
  · exact ⟨_, _, hv⟩
end Go.Proofs.YtaocgibfabofhaaDoor
