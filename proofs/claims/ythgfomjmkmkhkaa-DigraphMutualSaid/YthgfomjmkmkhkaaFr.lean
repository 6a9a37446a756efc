/-
  What the rows need: graphs and lists that came in. No condition.
-/
import Derived.Test.YthgfomjmkmkhkaaRows
import Derived.Test.YthgfomjmkmkhkaaA
import Derived.ProofKit
import Derived.OpenShut
import Derived.ShutString
import Derived.ChangeOld
import Derived.ChangeMaps5
import Derived.Lib.SmallJoins
import Derived.Deep.Slices
import Derived.Deep.Fields
import Derived.ChangeSame
namespace Go.Proofs.Ythgfomjmkmkhkaa
open Go.ChangeShapes Go.WideShapes Go.ChangeAt Go.RowKit Go.Deep
set_option linter.unusedSimpArgs false
set_option linter.unusedVariables false
theorem own : ownKnob Try.prog.godebug = none := by kernel_rfl
theorem laidOut : laidOutB Try.prog = true := by kernel_rfl
theorem cells3 : Try.prog.cellsOf 3 = 1 := by kernel_rfl
theorem cells23 : Try.prog.cellsOf 23 = 1 := by kernel_rfl
theorem maxLen_le : maxLen ≤ 9223372036854775807 := by unfold maxLen; omega
set_option maxRecDepth 100000 in
/-- a list of numbers that came in -/
theorem open_row {H : Type} {enc : TypeId × Value → H} {W : World} {m : Nat} {v : Value} {x : DataW H × List MemPlace}
    (hf : DataW.trod enc Try.prog W 0 (fun _ => true) true m 23 [v] = some x) :
    ∃ (A : Option Addr) (c : Nat) (xs : List Int), v = .slice A xs.length c ∧ xs.length ≤ 9223372036854775807 ∧ RI W W.heap.size A xs := by
  rcases open_slice Try.underlying23 hf with ⟨h0, _⟩ | ⟨a, len, cap, m', n, D, Pl, hcs, hb, hl, hm, hmm, hx, hi⟩
  · injection h0 with h0
    subst h0
    exact ⟨none, 0, [], rfl, by simp, ⟨fun k hk => by simp at hk⟩⟩
  · injection hcs with hcs
    subst hcs
    have hmm' : m' = cap := by simpa using hmm
    subst hmm'
    have hall : ∀ i : Nat, ∃ y : Int, i < len → W.cell? (a.add i) = some (.int .i64 y) := by
      intro i
      by_cases hlt : i < len
      · obtain ⟨cs', hc, ht⟩ := hi i (by omega)
        obtain ⟨y, e0, _, _⟩ := DataW.trod_int Try.underlying3 (cs := cs') ht
        subst e0
        rw [cells3] at hc
        obtain ⟨_, _, hat⟩ := World.cells?_some hc
        have a0 := hat 0 (by omega)
        rw [add_of_add, Nat.mul_one, Nat.add_zero] at a0
        exact ⟨y, fun _ => a0⟩
      · exact ⟨0, fun h => absurd h hlt⟩
    obtain ⟨F, hch⟩ := Classical.axiomOfChoice hall
    refine ⟨some a, m', (List.range len).map F, by simp, by have := maxLen_le; simp; omega, ⟨fun k hk => ?_⟩⟩
    have hkl : k < len := by simpa using hk
    have hc := hch k hkl
    refine ⟨a, rfl, ?_, by simpa using hc⟩
    have := World.block_lt_of_cell? W _ hc
    rw [block_of_add] at this; exact this
set_option maxRecDepth 100000 in
/-- A LIST OF NUMBERS THAT CAME IN -/
theorem open_list {H : Type} {enc : TypeId × Value → H} {W : World} {base : Nat} {v : Value} {d : DataW H} {p : List MemPlace}
    (hv : Value.okWide Try.prog W .any base 23 v) (h : DataW.Trod enc Try.prog W 0 (fun _ => true) true 23 v d p) :
    ∃ (A : Option Addr) (c : Nat) (xs : List Int), v = .slice A xs.length c ∧ xs.length ≤ 9223372036854775807 ∧ RI W W.heap.size A xs := by
  obtain ⟨A0, l0, k0, rfl⟩ := okWide_slice Try.underlying23 hv
  obtain ⟨fuel, hf⟩ := h
  exact open_row (v := .slice A0 l0 k0) hf
set_option maxRecDepth 100000 in
/-- A GRAPH THAT CAME IN -/
theorem open_graph {H : Type} {enc : TypeId × Value → H} {W : World} {base : Nat} {v : Value} {d : DataW H} {p : List MemPlace}
    (hv : Value.okWide Try.prog W .any base 22 v) (h : DataW.Trod enc Try.prog W 0 (fun _ => true) true 22 v d p) :
    ∃ (A : Option Addr) (c : Nat) (gs : Gr), v = .slice A gs.length c ∧ gs.length ≤ 9223372036854775807 ∧ (∀ l ∈ gs, l.length ≤ 9223372036854775807) ∧ RG W W.heap.size A gs := by
  obtain ⟨A0, l0, k0, rfl⟩ := okWide_slice Try.underlying22 hv
  obtain ⟨fuel, hf⟩ := h
  rcases open_slice Try.underlying22 hf with ⟨h0, _⟩ | ⟨a, len, cap, m, n, D, Pl, hcs, hb, hl, hm, hmm, hx, hi⟩
  · have e : (Value.slice A0 l0 k0) = .slice none 0 0 := by simpa [Value.cells] using h0
    injection e with e1 e2 e3
    subst e1 e2 e3
    exact ⟨none, 0, [], rfl, by simp, by simp, ⟨fun k hk => by simp at hk⟩⟩
  · have e : (Value.slice A0 l0 k0) = .slice (some a) len cap := by simpa [Value.cells] using hcs
    injection e with e1 e2 e3
    subst e1 e2 e3
    have hmm' : m = k0 := by simpa using hmm
    subst hmm'
    have hall : ∀ i : Nat, ∃ y : Option Addr × Nat × List Int, i < l0 → W.cell? (a.add i) = some (.slice y.1 y.2.2.length y.2.1) ∧ y.2.2.length ≤ 9223372036854775807 ∧ RI W W.heap.size y.1 y.2.2 := by
      intro i
      by_cases hlt : i < l0
      · obtain ⟨cs', hc, ht⟩ := hi i (by omega)
        rw [cells23] at hc
        obtain ⟨hlen, _, hat⟩ := World.cells?_some hc
        have a0 := hat 0 (by omega)
        rw [add_of_add, Nat.mul_one, Nat.add_zero] at a0
        match cs', hlen with
        | [u], _ =>
          obtain ⟨A1, c1, xs, rfl, h1, h2⟩ := open_row ht
          exact ⟨(A1, c1, xs), fun _ => ⟨by simpa using a0, h1, h2⟩⟩
      · exact ⟨(none, 0, []), fun h => absurd h hlt⟩
    obtain ⟨F, hch⟩ := Classical.axiomOfChoice hall
    refine ⟨some a, m, (List.range l0).map (fun i => (F i).2.2), by simp, by have := maxLen_le; simp; omega, fun l hl' => ?_, ⟨fun k hk => ?_⟩⟩
    · obtain ⟨k, hk, rfl⟩ := List.mem_map.1 hl'
      exact (hch k (by simpa using hk)).2.1
    · have hkl : k < l0 := by simpa using hk
      obtain ⟨h1, _, h3⟩ := hch k hkl
      refine ⟨a, (F k).1, (F k).2.1, rfl, ?_, by simpa using h1, by simpa using h3⟩
      have := World.block_lt_of_cell? W _ h1
      rw [block_of_add] at this; exact this
end Go.Proofs.Ythgfomjmkmkhkaa
