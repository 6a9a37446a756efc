/-
  Apply of the program. Conditions: the slice reads as a list of at most 20 edits with texts of at most 60 bytes; the text has at most 100000 bytes.
-/
import Derived.Test.YtlanjfjmffcgdaaM
import Derived.Lib.BufferWrite
import Derived.Laws.CopyOwn
import Derived.Laws.MakeOwn
import Derived.Laws.BytesArg
import Derived.Deep.RegionLaw
import Derived.OwnWalk
import Derived.Maps.Own
namespace Go.Proofs.Ytlanjfjmffcgdaa
open Go.RowKit
set_option linter.unusedSimpArgs false
set_option linter.unusedVariables false
theorem Try.info5 : (Try.prog.info? 5).map (fun i => (i.zero, i.size, i.bytes)) = some (some (.int .u8 0), 1, 1) := by kernel_rfl
theorem Try.size5 : (Try.prog.info? 5).map (·.size) = some 1 := by kernel_rfl
/-- block g is a row of bytes -/
def Row (w : World) (g : Nat) (xs : List UInt8) : Prop := w.heap[g]? = some (.cells (Lib.byteCells xs).toArray 5 (0, 0))
theorem Row.lt {w : World} {g : Nat} {xs : List UInt8} (h : Row w g xs) : g < w.heap.size := (Array.getElem?_eq_some_iff.1 h).1
theorem Row.cell {w : World} {g : Nat} {xs : List UInt8} (h : Row w g xs) (j : Nat) (v : UInt8) (hj : xs[j]? = some v) : w.cell? ((⟨g, 0, none⟩ : Addr).add j) = some (.int .u8 (v.toNat : Int)) := by
  rw [show (⟨g, 0, none⟩ : Addr).add j = ⟨g, j, none⟩ by simp [Addr.add]; exact fun e => e.symm]
  unfold Row at h
  rw [Lib.cell_of_heap h]
  simp [Lib.byteCells, hj]
theorem Row.grown {w w' : World} {g b : Nat} {xs : List UInt8} (h : Row w g xs) (hg : w.grownBy w' (some b)) (hne : g ≠ b) : Row w' g xs :=
  (hg.block g h.lt (by intro e; injection e with e; exact hne e)).trans h
theorem Row.below {w w' : World} {g : Nat} {xs : List UInt8} (h : Row w g xs) (hb : Below w.heap.size w w') : Row w' g xs := by
  unfold Row; rw [hb.block _ h.lt]; exact h
/-- an edit's box -/
def BX (w : World) (b : Nat) (f t : Int) (s : ByteArray) : Prop := w.heap[b]? = some (.cells #[.int .i64 f, .int .i64 t, .string s] 35 (0, 0))
theorem BX.facts {w : World} {b : Nat} {f t : Int} {s : ByteArray} (h : BX w b f t s) : b < w.heap.size ∧ w.cell? ⟨b, 0, none⟩ = some (.int .i64 f) ∧ w.cell? ⟨b, 1, none⟩ = some (.int .i64 t) ∧ w.cell? ⟨b, 2, none⟩ = some (.string s) :=
  ⟨(Array.getElem?_eq_some_iff.1 h).1, by rw [Lib.cell_of_heap h]; rfl, by rw [Lib.cell_of_heap h]; rfl, by rw [Lib.cell_of_heap h]; rfl⟩
theorem BX.grown {w w' : World} {g b : Nat} {f t : Int} {s : ByteArray} (h : BX w b f t s) (hg : w.grownBy w' (some g)) (hne : b ≠ g) : BX w' b f t s :=
  (hg.block b h.facts.1 (by intro e; injection e with e; exact hne e)).trans h
theorem splice_at {α : Type} (D cs J : List α) (h : cs.length ≤ J.length) : splice (D ++ J) D.length cs = (D ++ cs) ++ J.drop cs.length := by
  unfold splice
  rw [List.take_left', List.drop_append, List.drop_eq_nil_of_le (by omega)]
  · simp
  · rfl
theorem step_copy_str {ops : Array Oper} {o : Oper} {a : Act} {w : World} {K : Act → World → Prop} {Q : Exit → Act → World → Prop} {E : Prop} (hgd : o.guard = none) (d s : Operand)
    (ho : o.op = .call { callee := .builtin .copy, args := #[d, s], argTypes := #[43, 9] })
    (dp : Option Addr) (dLen dCap : Nat) (S : ByteArray) (hd : a.eval d = .slice dp dLen dCap) (hs : a.eval s = .string S)
    (g off : Nat) (D J : List UInt8) (hg : Row w g (D ++ J)) (hD : D.length = off) (hle : S.size ≤ dLen) (hJ : S.size ≤ J.length) (hpos : 0 < S.size → dp = some ⟨g, off, none⟩)
    (h : ∀ w', Hid (Row w' g ((D ++ S.data.toList) ++ J.drop S.size)) → w.grownBy w' (some g) → K (a.put o.dst (goInt S.size)) w') :
    if Region.wanted o (yielded ops a.tmps) = true then Oper.wp Try.prog o a w K Q else E := by
  have hw : Region.wanted o (yielded ops a.tmps) = true := by simp [Region.wanted, hgd]
  rw [if_pos hw]
  by_cases h0 : S.size = 0
  · have hrun := Lib.run_copy_empty_string (P := Try.prog) w 43 9 o.type 5 dp dLen dCap S Try.underlying43 (by kernel_rfl) h0
    have hS : S.data.toList = [] := List.eq_nil_of_length_eq_zero (by rw [str_len]; exact h0)
    have hK := h w (show Row w g _ by rw [hS, h0]; simpa using hg) ⟨rfl, rfl, rfl, Nat.le_refl _, fun _ _ _ => rfl⟩
    rw [h0] at hK
    unfold Oper.wp
    simp [execOp, ho, resolve, invoke, builtin, hd, hs, hrun, Result.andThen]
    exact hK
  · obtain rfl := hpos (by omega)
    subst hD
    have hrun := Lib.run_copy_row_string (P := Try.prog) w 43 9 o.type 5 g D.length dLen dCap S (Lib.byteCells (D ++ J)).toArray 5 Try.underlying43 Try.size5 hg hle (by simp [Lib.byteCells]; omega)
    unfold Oper.wp
    simp [execOp, ho, resolve, invoke, builtin, hd, hs, hrun, Result.andThen]
    refine h _ ?_ ⟨rfl, rfl, rfl, by simp [World.setRow], fun i _ hi => setRow_other w g i _ (fun e => hi (by rw [e]))⟩
    show Row _ _ _
    unfold Row
    rw [setRow_heap w g _ _ 5 (0, 0) hg]
    congr 3
    simp [Lib.byteCells, List.take_append, List.drop_append, str_len]
theorem Try.make43 (n : Nat) (hn : n ≤ 200000) (w : World) : (Instr.makeSlice 43 (.int .i64 (n : Int)) (.int .i64 (n : Int))).run Try.prog w = .ok (.slice (some ⟨w.heap.size, 0, none⟩) n n) (w.alloc (.cells (madeCells #[.int .u8 0] n) 5)) := by
  obtain ⟨i0, hi, hz0, hz1, hz2⟩ := info_parts Try.info5
  have := run_make (P := Try.prog) w 43 5 i0 (.int .u8 0) Try.underlying43 hi hz0 .i64 .i64 n n (by omega) (Int.le_refl _) (by rw [hz2]; omega) (by omega)
  rw [hz1] at this
  simp at this
  exact this
theorem made_rep (n : Nat) : (madeCells #[.int .u8 0] n).toList = Lib.byteCells (List.replicate n 0) := by
  rw [toList_madeCells_one]; simp [Lib.byteCells]
theorem row_new (w : World) (n : Nat) : Row (w.alloc (.cells (madeCells #[.int .u8 0] n) 5)) w.heap.size (List.replicate n 0) := by
  have h : (w.alloc (.cells (madeCells #[.int .u8 0] n) 5)).heap[w.heap.size]? = some (.cells (madeCells #[.int .u8 0] n) 5 (0, 0)) := (MapKept.heap_alloc w _).1
  unfold Row
  rw [← made_rep]
  simpa using h
theorem row_str {w : World} {g n : Nat} {xs : List UInt8} (h : Row w g xs) (hn : xs.length = n) : (convert 43 9 (.slice (some ⟨g, 0, none⟩) n n)).run Try.prog w = .ok (.string ⟨xs.toArray⟩) w := by
  subst hn
  refine Go.run_convert_bytes_back w 43 9 5 ⟨g, 0, none⟩ xs.length xs Try.underlying43 Try.underlying5 Try.underlying9 (fun j hj => ?_)
  exact h.cell j _ (List.getElem?_eq_getElem hj)
/-- edited[n:] -/
theorem cut43 (g N n : Nat) (hn : n ≤ N) : ∃ dp : Option Addr, (n < N → dp = some ⟨g, n, none⟩) ∧ ∀ w, (Instr.slice 43 (.slice (some ⟨g, 0, none⟩) N N) (some (.int .i64 (n : Int))) none none).run Try.prog w = .ok (.slice dp (N - n) (N - n)) w := by
  refine ⟨if N = n then some ⟨g, 0, none⟩ else some ⟨g, n, none⟩, fun h => by rw [if_neg (by omega)], fun w => ?_⟩
  have hu : Try.prog.underlying 43 = some (.slice (Try.prog.elem 43)) := by kernel_rfl
  have e5 : Try.prog.elem 43 = 5 := by kernel_rfl
  have hz : (sizeOf 5).run Try.prog w = .ok 1 w := by
    obtain ⟨i0, hi, _, hz1, _⟩ := info_parts Try.info5
    simp [sizeOf, typeInfo, hi, hz1]
  rw [run_slice_l w 43 (some ⟨g, 0, none⟩) N N hu .i64 (n : Int) (by omega) (by omega), e5, hz]
  simp [Result.andThen, sliced]
  split <;> simp [Addr.add] <;> omega
