/-
  NumsetCanonical out of what the law's alive gives.
-/
import Derived.Test.YteekccjfokoglaaAf
import Derived.Test.YteekccjfokoglaaM6
import Derived.Deep.RegionLaw
namespace Go.Proofs.Yteekccjfokoglaa
open Go.RowKit Go.Sort Go.Lib Go.Proofs
set_option linter.unusedSimpArgs false
set_option linter.unnecessarySimpa false
set_option linter.unusedVariables false
theorem few1 (A1 : Option Addr) (n1 c1 : Nat) (A2 : Option Addr) (n2 c2 : Nat) (W : World) :
    Calls Try.prog 12 #[.slice (some ⟨W.heap.size, 0, none⟩) 1 1] (W.alloc (.cells #[.slice A1 n1 c1, .slice A2 n2 c2] 24)) (EqIs (fewL [⟨A1, n1, c1, A2, n2, c2⟩]) (W.alloc (.cells #[.slice A1 n1 c1, .slice A2 n2 c2] 24))) := by
  refine few_any W.heap.size 0 [⟨A1, n1, c1, A2, n2, c2⟩] 1 _ (fun i hi => ?_) (by simp) (by simp)
  obtain rfl : i = 0 := by simp at hi; omega
  exact ⟨by simp, by simp⟩
/-- append of one span to a row of the call's own, as a step of a region that draws -/
theorem step_append_sp {ops : Array Oper} {o : Oper} {a : Act} {w : World} {K : Act → World → Prop} {Q : Exit → Act → World → Prop} {E : Prop} (hgd : o.guard = none) (s x : Operand)
    (ho : o.op = .call { callee := .builtin .append, args := #[s, x], argTypes := #[22, 22] }) (base : Nat) (v : Value) (acc : List Sp) (y : Sp) (hs : a.eval s = v)
    (hown : w.ownsRow base 46 2 v acc.length (flat acc)) (b : Nat) (hx : a.eval x = .slice (some ⟨b, 0, none⟩) 1 1)
    (hb : w.heap[b]? = some (.cells #[.int .i64 y.1, .int .i64 y.2] 46 (0, 0))) (hlen : acc.length ≤ 1000) (hbase : base ≤ w.heap.size)
    (h : ∀ v' w', Hid (w'.ownsRow base 46 2 v' (acc ++ [y]).length (flat (acc ++ [y]))) → w.grownBy w' v.ownBlock → K (a.put o.dst v') w') :
    if Region.wanted o (yielded ops a.tmps) = true then Oper.wp Try.prog o a w K Q else E := by
  have hw : Region.wanted o (yielded ops a.tmps) = true := by simp [Region.wanted, hgd]
  rw [if_pos hw]
  obtain ⟨i0, hi, hz0, hz1, hz2⟩ := info_parts info46
  refine wp_append_own w s x 22 ho base 46 i0 (.agg #[.int .i64 0, .int .i64 0]) 2 16 Try.underlying22 hi hz0 hz1 hz2 rfl (by decide) v acc.length (flat acc) hs hown ⟨b, 0, none⟩ 1 1 [.int .i64 y.1, .int .i64 y.2] hx rfl ?_ ?_ ?_ ?_ hbase ?_
  · intro j u hj
    rw [show (⟨b, 0, none⟩ : Addr).add j = ⟨b, j, none⟩ by simp [Addr.add]; exact fun e => e.symm, Lib.cell_of_heap hb, ← Array.getElem?_toList]
    exact hj
  · exact one2 _ _
  · unfold maxLen; omega
  · omega
  · intro v' w' h1 h2 _
    exact h v' w' (show w'.ownsRow base 46 2 v' (acc ++ [y]).length (flat (acc ++ [y])) by rw [flat_append, List.length_append]; exact h1) h2
end Go.Proofs.Yteekccjfokoglaa
