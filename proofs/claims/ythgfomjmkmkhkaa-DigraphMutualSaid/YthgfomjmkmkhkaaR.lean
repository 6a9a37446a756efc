/-
  Rows of numbers that a call owns: made by make([]int, n), read and set at an index. No condition.
-/
import Derived.Test.YthgfomjmkmkhkaaB
import Derived.Test.YthgfomjmkmkhkaaM4
import Derived.Laws.OwnMore
import Derived.Laws.MakeOwn
import Derived.OwnWalk
namespace Go.Proofs.Ythgfomjmkmkhkaa
open Go.RowKit
set_option linter.unusedSimpArgs false
set_option linter.unusedVariables false
theorem Try.info3 : (Try.prog.info? 3).map (fun i => (i.zero, i.size, i.bytes)) = some (some (.int .i64 0), 1, 8) := by kernel_rfl
def icells (xs : List Int) : List Value := xs.map (Value.int .i64)
/-- a row of numbers at the head of a block -/
def IRow (w : World) (g n : Nat) (xs : List Int) : Prop := w.ownsRow g 3 1 (.slice (some ⟨g, 0, none⟩) n n) n (icells xs)
theorem ir_len {w : World} {g n : Nat} {xs : List Int} (h : IRow w g n xs) : xs.length = n := by
  have := h.1; simpa [icells] using this
theorem ir_lt {w : World} {g n : Nat} {xs : List Int} (h : IRow w g n xs) (hn : 0 < n) : g < w.heap.size := by
  rcases h.2 with ⟨hv, _⟩ | ⟨g', cap, cur, hv, _, hg, _⟩
  · cases hv
  · cases hv; exact (Array.getElem?_eq_some_iff.1 hg).1
theorem ir_at {w : World} {g n : Nat} {xs : List Int} (h : IRow w g n xs) (j : Nat) (hj : j < n) (x : Int) (hx : xs[j]? = some x) :
    g < w.heap.size ∧ w.cell? ⟨g, j, none⟩ = some (.int .i64 x) ∧ w.frozen? ⟨g, j, none⟩ = false := by
  have hl := ir_len h
  refine ⟨ir_lt h (by omega), ?_, World.ownsRow.frozenAt h j⟩
  rw [World.ownsRow.cellAt h j (by omega)]
  simp [icells, List.getD_eq_getElem?_getD, hx]
theorem ir_set {w : World} {g n : Nat} {xs : List Int} (h : IRow w g n xs) (j : Nat) (x : Int) : IRow (w.setCell ⟨g, j, none⟩ (.int .i64 x)) g n (xs.set j x) := by
  have := (World.ownsRow.stored h j (.int .i64 x)).1
  unfold IRow
  rw [show icells (xs.set j x) = (icells xs).set j (.int .i64 x) by simp [icells, List.map_set]]
  exact this
theorem Try.make23 (n : Nat) (hn : n ≤ 100000) (w : World) : (Instr.makeSlice 23 (.int .i64 (n : Int)) (.int .i64 (n : Int))).run Try.prog w = .ok (.slice (some ⟨w.heap.size, 0, none⟩) n n) (w.alloc (.cells (madeCells #[.int .i64 0] n) 3)) := by
  obtain ⟨i0, hi, hz0, hz1, hz2⟩ := info_parts Try.info3
  have := run_make (P := Try.prog) w 23 3 i0 (.int .i64 0) Try.underlying23 hi hz0 .i64 .i64 n n (by omega) (Int.le_refl _) (by rw [hz2]; omega) (by omega)
  rw [hz1] at this
  simp at this
  exact this
theorem made_irep (n : Nat) : (madeCells #[.int .i64 0] n).toList = icells (List.replicate n 0) := by
  rw [toList_madeCells_one]; simp [icells]
theorem ir_new (w : World) (n : Nat) (hn : n ≤ 100000) : IRow (w.alloc (.cells (madeCells #[.int .i64 0] n) 3)) w.heap.size n (List.replicate n 0) := by
  unfold IRow
  rw [← made_irep]
  exact World.ownsRow_lit w _ n (Nat.le_refl _) (by unfold maxLen; omega) (by simp [size_madeCells])
theorem own_below {B : Nat} {e : TypeId} {k : Nat} {v : Value} {n : Nat} {xs : List Value} {w w' : World} (h : w.ownsRow B e k v n xs) (hb : Below w.heap.size w w') : w'.ownsRow B e k v n xs := by
  refine ⟨h.1, ?_⟩
  rcases h.2 with h' | ⟨g, cap, cur, hv, hbg, hg, r⟩
  · exact .inl h'
  · have hlt : g < w.heap.size := (Array.getElem?_eq_some_iff.1 hg).1
    exact .inr ⟨g, cap, cur, hv, hbg, by rw [hb.block g hlt]; exact hg, r⟩
theorem ir_below {w w' : World} {g n : Nat} {xs : List Int} (h : IRow w g n xs) (hb : Below w.heap.size w w') : IRow w' g n xs := own_below h hb
theorem ir_ri {w : World} {g n : Nat} {xs : List Int} (h : IRow w g n xs) : RI w w.heap.size (some ⟨g, 0, none⟩) xs :=
  ⟨fun k hk => by
    have hl := ir_len h
    obtain ⟨h1, h2, _⟩ := ir_at h k (by omega) xs[k] (List.getElem?_eq_getElem hk)
    refine ⟨⟨g, 0, none⟩, rfl, h1, ?_⟩
    rw [show (⟨g, 0, none⟩ : Addr).add k = ⟨g, k, none⟩ by simp [Addr.add]; exact fun e => e.symm]
    exact h2⟩
end Go.Proofs.Ythgfomjmkmkhkaa
