/-
  Parse returns what 'parS' says of its text. No condition.
-/
import Derived.Test.YtaocgibfabofhaaDoorR6
import Derived.OwnWalk
import Derived.Laws.OwnMore
import Derived.RegionTactic
namespace Go.Proofs.YtaocgibfabofhaaDoor
open Go.RowKit
set_option linter.unusedSimpArgs false
set_option linter.unusedVariables false
/-- a step at p, an index or a label: whether it is read, the step, and where the reader stands then -/
def stepS (s : ByteArray) (m : Bool) (p : Nat) : Bool × St × Nat :=
  if m = true then ((idxS s p).1, (⟨#[]⟩, ((idxS s p).2.1 : Int)), (idxS s p).2.2) else ((labS s p).1, ((labS s p).2.1, 0), (labS s p).2.2)
/-- the steps from p on: the list, the error, its offset -/
def parF (s : ByteArray) : Nat → Bool → Nat → List St → List St × Nat × Nat
  | 0, _, p, _ => ([], 8, p)
  | f + 1, m, p, acc =>
    if (stepS s m p).1 = true then
      if (stepS s m p).2.2 = s.size then (acc ++ [(stepS s m p).2.1], 0, 0)
      else if ch s (stepS s m p).2.2 = 46 then parF s f false ((stepS s m p).2.2 + 1) (acc ++ [(stepS s m p).2.1])
      else if ch s (stepS s m p).2.2 = 91 then parF s f true (stepS s m p).2.2 (acc ++ [(stepS s m p).2.1])
      else ([], 8, (stepS s m p).2.2)
    else ([], 8, (stepS s m p).2.2)
theorem parF_0 {s : ByteArray} {f p q : Nat} {m : Bool} {acc : List St} {x : St} (h : (false, x, q) = stepS s m p) : parF s (f + 1) m p acc = ([], 8, q) := by rw [parF, ← h]; rfl
theorem parF_1 {s : ByteArray} {f p q : Nat} {m : Bool} {acc : List St} {x : St} (h : (true, x, q) = stepS s m p) (h' : q = s.size) : parF s (f + 1) m p acc = (acc ++ [x], 0, 0) := by rw [parF, ← h, if_pos rfl, if_pos h']
theorem parF_2 {s : ByteArray} {f p q : Nat} {m : Bool} {acc : List St} {x : St} (h : (true, x, q) = stepS s m p) (h' : q ≠ s.size) (h2 : ch s q = 46) : parF s (f + 1) m p acc = parF s f false (q + 1) (acc ++ [x]) := by
  rw [parF, ← h, if_pos rfl, if_neg h', if_pos h2]
theorem parF_3 {s : ByteArray} {f p q : Nat} {m : Bool} {acc : List St} {x : St} (h : (true, x, q) = stepS s m p) (h' : q ≠ s.size) (h2 : ch s q = 91) : parF s (f + 1) m p acc = parF s f true q (acc ++ [x]) := by
  rw [parF, ← h, if_pos rfl, if_neg h', if_neg (by show ch s q ≠ 46; omega), if_pos h2]
theorem parF_4 {s : ByteArray} {f p q : Nat} {m : Bool} {acc : List St} {x : St} (h : (true, x, q) = stepS s m p) (h' : q ≠ s.size) (h2 : ch s q ≠ 46) (h3 : ch s q ≠ 91) : parF s (f + 1) m p acc = ([], 8, q) := by
  rw [parF, ← h, if_pos rfl, if_neg h', if_neg h2, if_neg h3]
def parS (s : ByteArray) : List St × Nat × Nat :=
  if 65536 < s.size then ([], 2, 0) else if s = ⟨#[46]⟩ then ([], 0, 0) else if ch s 0 = 46 then ([], 8, 1) else parF s (s.size + 1) (ch s 0 == 91) 0 []
def flat (l : List St) : List Value := l.flatMap fun x => [.string x.1, .int .i64 x.2]
theorem flat_len (l : List St) : (flat l).length = l.length * 2 := by
  induction l with
  | nil => rfl
  | cons x l ih => unfold flat at *; simp [ih]; omega
theorem flat_snoc (l : List St) (x : St) : flat (l ++ [x]) = flat l ++ [.string x.1, .int .i64 x.2] := by unfold flat; simp
/-- what Parse leaves: the list in memory of the call's own, and the fault -/
def ParP (w : World) (R : List St × Nat × Nat) (e : Ending) (w' : World) : Prop :=
  ∃ v, e = .returned (.tuple #[v, .agg #[.int .i64 (R.2.1 : Int), .int .i64 (R.2.2 : Int)]]) ∧ w'.ownsRow w.heap.size 37 2 v R.1.length (flat R.1) ∧ Below w.heap.size w w'
theorem labT_go {s : ByteArray} {p q : Nat} (h : q ≤ s.size) : q ≤ (labT s p q).2.2 ∧ (labT s p q).2.2 ≤ s.size := by
  unfold labT
  split
  · exact labF_go _ _ h
  · exact ⟨Nat.le_refl _, h⟩
theorem identB_pos {s : ByteArray} (h : identB s = true) : s.size ≠ 0 := by
  intro h0
  have : s = ⟨#[]⟩ := size0 h0
  subst this
  exact absurd h (by decide +kernel)
theorem labS_go {s : ByteArray} {p : Nat} (h : p ≤ s.size) : p ≤ (labS s p).2.2 ∧ (labS s p).2.2 ≤ s.size ∧ ((labS s p).1 = true → p < (labS s p).2.2) := by
  unfold labS
  split
  · have hlt := ch_in (s := s) (p := p) (by omega)
    have hq := quoF_go (s := s) s.size (p + 1) (by omega)
    unfold quoS
    split
    · rename_i ht
      have := ch_in (s := s) (p := (quoF s s.size (p + 1)).2) (by rw [hq.2.2 ht]; omega)
      split
      · exact ⟨by show p ≤ (quoF s s.size (p + 1)).2; omega, hq.2.1, fun h => by cases h⟩
      · exact ⟨by show p ≤ (quoF s s.size (p + 1)).2 + 1; omega, by show (quoF s s.size (p + 1)).2 + 1 ≤ _; omega, fun _ => by show p < (quoF s s.size (p + 1)).2 + 1; omega⟩
    · exact ⟨by show p ≤ (quoF s s.size (p + 1)).2; omega, hq.2.1, fun h => by cases h⟩
  · have hq : p ≤ labQ s p ∧ labQ s p ≤ s.size := by
      unfold labQ
      split
      · have := ch_in (s := s) (p := p) (by omega); omega
      · exact ⟨Nat.le_refl _, h⟩
    have := labT_go (s := s) (p := p) hq.2
    refine ⟨by omega, this.2, fun ht => ?_⟩
    rcases Nat.lt_or_ge p (labT s p (labQ s p)).2.2 with h1 | h1
    · exact h1
    · exfalso
      unfold labT at ht h1
      split at ht
      · rename_i hl
        rw [if_pos hl] at h1
        have := identB_pos ht
        apply this
        show (s.extract p (labF s p (s.size + 1) (labQ s p))).size = 0
        rw [ByteArray.size_extract]
        have h1' : labF s p (s.size + 1) (labQ s p) ≤ p := h1
        omega
      · cases ht
theorem idxF_go {s : ByteArray} {a : Nat} : ∀ (f q n : Nat), q ≤ s.size → q ≤ (idxF s a f q n).2.2 ∧ (idxF s a f q n).2.2 ≤ s.size
  | 0, q, n, h => ⟨Nat.le_refl _, h⟩
  | f + 1, q, n, h => by
    rw [idxF]
    split
    · have := ch_in (s := s) (p := q) (by omega)
      split
      · exact ⟨Nat.le_refl _, h⟩
      · have := idxF_go (s := s) (a := a) f (q + 1) (n * 10 + (ch s q - 48)) (by omega)
        exact ⟨by omega, this.2⟩
    · split
      · exact ⟨Nat.le_refl _, h⟩
      · have := ch_in (s := s) (p := q) (by omega)
        exact ⟨by show q ≤ q + 1; omega, by show q + 1 ≤ _; omega⟩
theorem stepS_go {s : ByteArray} {m : Bool} {p : Nat} (h : p ≤ s.size) (hm : m = true → p < s.size) : p ≤ (stepS s m p).2.2 ∧ (stepS s m p).2.2 ≤ s.size ∧ ((stepS s m p).1 = true → p < (stepS s m p).2.2) := by
  cases m with
  | true =>
    have hlt := hm rfl
    have := idxF_go (s := s) (a := p + 1) (s.size + 1) (p + 1) 0 (by omega)
    exact ⟨by show p ≤ (idxF s (p + 1) (s.size + 1) (p + 1) 0).2.2; omega, this.2, fun _ => by show p < (idxF s (p + 1) (s.size + 1) (p + 1) 0).2.2; omega⟩
  | false => exact labS_go h
end Go.Proofs.YtaocgibfabofhaaDoor
