/-
  DeleteFunc on a row of the call's own: the spans with numbers stay. No condition but the bounds on the list.
-/
import Derived.Test.YteekccjfokoglaaD
import Derived.Deep.LoopGhost
namespace Go.Proofs.Yteekccjfokoglaa
open Go.RowKit Go.Sort Go.Lib Go.Proofs
set_option linter.unusedSimpArgs false
set_option linter.unnecessarySimpa false
set_option linter.unusedVariables false
theorem re_row {w : World} {g c : Nat} {l : List Sp} {rest : List Value} (h : Row w g (flat l ++ rest)) : Re w w.heap.size (some ⟨g, 0, none⟩) l :=
  ⟨fun i hi => by
    have hf := flat_at l i hi
    have hl := flat_len l
    refine ⟨g, 0, rfl, h.lt, ?_, ?_⟩
    · rw [h.cell, List.getElem?_append_left (by omega), Nat.zero_add, hf.1]
    · rw [h.cell, List.getElem?_append_left (by omega), Nat.zero_add, hf.2]⟩
theorem zero_flat (n : Nat) : (Builtin.zeroCells (Value.agg #[.int .i64 0, .int .i64 0]).cells n).toList = List.replicate (n * 2) (.int .i64 0) := by
  simp only [Builtin.zeroCells, Value.cells]
  apply List.ext_getElem
  · simp
  · intro i h1 h2
    simp
    rcases Nat.mod_two_eq_zero_or_one i with h | h <;> rw [h] <;> rfl
theorem run_clear46 (w : World) (ty : TypeId) (g o n c : Nat) (hn : 0 < n) (cs : List Value) (hr : Row w g cs) (hc : o + n * 2 ≤ cs.length) :
    (Builtin.clear_ #[22] ty #[.slice (some ⟨g, o, none⟩) n c]).run Try.prog w = .ok (.tuple #[]) (w.setCells g o (List.replicate (n * 2) (.int .i64 0))) := by
  have hst := run_storeCells_cells (P := Try.prog) g o (List.replicate (n * 2) (.int .i64 0)) 0 w (fun j hj => by rw [hr.cell]; simp at hj ⊢; omega) (fun j _ => hr.frozen _) (by intro v hv'; rw [List.eq_of_mem_replicate hv']; rfl)
  simp only [Nat.add_zero] at hst
  obtain ⟨m, rfl⟩ : ∃ m, n = m + 1 := ⟨n - 1, by omega⟩
  have hv : (zeroValue 46).run Try.prog w = .ok (.agg #[.int .i64 0, .int .i64 0]) w := Try.zeroValue46 w
  simp [Builtin.clear_, run_underlying Try.underlying22, hv, zero_flat, hst]
theorem set_flat (X Y : List Sp) (m s : Sp) (rest : List Value) : ((flat (X ++ m :: Y) ++ rest).set (X.length * 2) (.int .i64 s.1)).set (X.length * 2 + 1) (.int .i64 s.2) = flat (X ++ s :: Y) ++ rest := by
  have h := flat_len X
  simp only [flat_append, flat_cons, List.append_assoc]
  rw [List.set_append_right _ _ (by omega), show X.length * 2 - (flat X).length = 0 by omega, List.set_append_right _ _ (by omega), show X.length * 2 + 1 - (flat X).length = 1 by omega]
  rfl
theorem row_at {w : World} {g : Nat} {X Y : List Sp} {s : Sp} {rest : List Value} (h : Row w g (flat (X ++ s :: Y) ++ rest)) : w.cell? ⟨g, X.length * 2, none⟩ = some (.int .i64 s.1) ∧ w.cell? ⟨g, X.length * 2 + 1, none⟩ = some (.int .i64 s.2) := by
  have hi : X.length < (X ++ s :: Y).length := by simp
  obtain ⟨b, o, e, _, c0, c1⟩ := (re_row (c := 0) h).at_ X.length hi
  simp only [Option.some.injEq, Addr.mk.injEq] at e
  obtain ⟨rfl, rfl, _⟩ := e
  simpa using And.intro c0 c1
def kp (b : Bool) (l : List Sp) : List Sp := l.filter fun s => !wo b s
theorem kp_all (b : Bool) (l : List Sp) (h : ∀ j (h : j < l.length), wo b l[j] = false) : kp b l = l := by
  unfold kp
  rw [List.filter_eq_self]
  intro s hs
  obtain ⟨j, hj, rfl⟩ := List.getElem_of_mem hs
  rw [h j hj]; rfl
theorem kp_snoc (b : Bool) (l : List Sp) (s : Sp) : kp b (l ++ [s]) = if wo b s = true then kp b l else kp b l ++ [s] := by
  unfold kp
  rw [List.filter_append]
  cases h : wo b s <;> simp [h]
theorem take_snoc (l : List Sp) (k : Nat) (h : k < l.length) : l.take (k + 1) = l.take k ++ [l[k]] := (List.take_append_getElem h).symm
/-- what the row holds in the middle of the second loop -/
structure Mid (b : Bool) (l : List Sp) (rest : List Value) (w : World) (g i j : Nat) : Prop where
  mid : ∃ (m : Sp) (M : List Sp), Row w g (flat (kp b (l.take j) ++ (m :: M ++ l.drop j)) ++ rest) ∧ i = (kp b (l.take j)).length ∧ i + 1 + M.length = j
  le : j ≤ l.length
theorem Mid.up {b : Bool} {l : List Sp} {rest : List Value} {w w' : World} {g i j : Nat} (h : Mid b l rest w g i j) (hb : Below w.heap.size w w') : Mid b l rest w' g i j := by
  obtain ⟨m, M, h1, h2, h3⟩ := h.mid
  exact ⟨⟨m, M, h1.up hb, h2, h3⟩, h.le⟩
theorem Mid.lt {b : Bool} {l : List Sp} {rest : List Value} {w : World} {g i j : Nat} (h : Mid b l rest w g i j) : i < j ∧ g < w.heap.size := by
  obtain ⟨m, M, h1, h2, h3⟩ := h.mid
  exact ⟨by omega, h1.lt⟩
theorem Mid.read {b : Bool} {l : List Sp} {rest : List Value} {w : World} {g i j : Nat} (h : Mid b l rest w g i j) (hj : j < l.length) :
    (w.cell? ⟨g, j * 2, none⟩ = some (.int .i64 l[j].1) ∧ w.cell? ⟨g, j * 2 + 1, none⟩ = some (.int .i64 l[j].2)) ∧
    (∃ m : Sp, w.cell? ⟨g, i * 2, none⟩ = some (.int .i64 m.1) ∧ w.cell? ⟨g, i * 2 + 1, none⟩ = some (.int .i64 m.2)) ∧ w.frozen? ⟨g, i * 2, none⟩ = false ∧ w.frozen? ⟨g, i * 2 + 1, none⟩ = false := by
  obtain ⟨m, M, h1, h2, h3⟩ := h.mid
  refine ⟨?_, ⟨m, ?_⟩, h1.frozen _, h1.frozen _⟩
  · rw [List.drop_eq_getElem_cons hj] at h1
    have := row_at (X := kp b (l.take j) ++ m :: M) (s := l[j]) (Y := l.drop (j + 1)) (w := w) (g := g) (rest := rest) (by simpa using h1)
    rw [show (kp b (l.take j) ++ m :: M).length = j by simp; omega] at this
    exact this
  · have := row_at (X := kp b (l.take j)) (s := m) (Y := M ++ l.drop j) (w := w) (g := g) (rest := rest) (by simpa using h1)
    rw [← h2] at this
    exact this
theorem Mid.skip {b : Bool} {l : List Sp} {rest : List Value} {w : World} {g i j : Nat} (h : Mid b l rest w g i j) (hj : j < l.length) (hw : wo b l[j] = true) : Mid b l rest w g i (j + 1) := by
  obtain ⟨m, M, h1, h2, h3⟩ := h.mid
  have e : kp b (l.take (j + 1)) = kp b (l.take j) := by rw [take_snoc l j hj, kp_snoc, if_pos hw]
  refine ⟨⟨m, M ++ [l[j]], ?_, by rw [e]; exact h2, by simp; omega⟩, by omega⟩
  rw [e]
  rw [List.drop_eq_getElem_cons hj] at h1
  simpa using h1
theorem Mid.keep {b : Bool} {l : List Sp} {rest : List Value} {w : World} {g i j : Nat} (h : Mid b l rest w g i j) (hj : j < l.length) (hw : wo b l[j] = false) :
    Mid b l rest ((w.setCell ⟨g, i * 2, none⟩ (.int .i64 l[j].1)).setCell ⟨g, i * 2 + 1, none⟩ (.int .i64 l[j].2)) g (i + 1) (j + 1) := by
  obtain ⟨m, M, h1, h2, h3⟩ := h.mid
  have e : kp b (l.take (j + 1)) = kp b (l.take j) ++ [l[j]] := by rw [take_snoc l j hj, kp_snoc, if_neg (by simp [hw])]
  rw [List.drop_eq_getElem_cons hj] at h1
  have h4 := (h1.set (i * 2) (.int .i64 l[j].1)).set (i * 2 + 1) (.int .i64 l[j].2)
  rw [h2, List.cons_append, set_flat] at h4
  rw [← h2] at h4
  cases M with
  | nil =>
    refine ⟨⟨l[j], [], ?_, by rw [e]; simp; omega, by simp at h3 ⊢; omega⟩, by omega⟩
    rw [e]
    simpa using h4
  | cons m' M =>
    refine ⟨⟨m', M ++ [l[j]], ?_, by rw [e]; simp; omega, by simp at h3 ⊢; omega⟩, by omega⟩
    rw [e]
    simpa using h4
theorem Mid.done {b : Bool} {l : List Sp} {rest : List Value} {w : World} {g i : Nat} (h : Mid b l rest w g i l.length) :
    i = (kp b l).length ∧ i < l.length ∧ ∃ cs, Row w g cs ∧ i * 2 + (l.length - i) * 2 ≤ cs.length ∧ ∃ rest', Row (w.setCells g (i * 2) (List.replicate ((l.length - i) * 2) (.int .i64 0))) g (flat (kp b l) ++ rest') := by
  obtain ⟨m, M, h1, h2, h3⟩ := h.mid
  rw [List.take_length, List.drop_length, List.append_nil] at *
  refine ⟨h2, by omega, _, h1, by simp [flat_len]; omega, ?_⟩
  have h4 := Row.sets (g := g) (List.replicate ((l.length - i) * 2) (.int .i64 0)) (flat (m :: M)) (flat (kp b l)) rest w (by simpa [flat_append] using h1) (by simp [flat_len]; omega)
  rw [flat_len, ← h2] at h4
  exact ⟨_, by simpa using h4⟩
end Go.Proofs.Yteekccjfokoglaa
