/-
  The operations of a region over boxes with sets, a step each. No condition.
-/
import Derived.Test.YteekccjfokoglaaRi
import Derived.Test.YteekccjfokoglaaC
namespace Go.Proofs.Yteekccjfokoglaa
open Go Go.RowKit
set_option linter.unusedSimpArgs false
set_option linter.unusedVariables false
theorem wp_load24 {o : Oper} {a : Act} {w : World} {K : Act → World → Prop} {Q : Exit → Act → World → Prop} (t : Nat) (ho : o.op = .load 24 (.tmp t)) (b : Nat) (A1 : Option Addr) (n1 c1 : Nat) (A2 : Option Addr) (n2 c2 : Nat)
    (hp : a.eval (.tmp t) = .pointer (some ⟨b, 0, none⟩)) (h0 : w.cell? ⟨b, 0, none⟩ = some (.slice A1 n1 c1)) (h1 : w.cell? ⟨b, 1, none⟩ = some (.slice A2 n2 c2))
    (h : K (a.put o.dst (.agg #[.slice A1 n1 c1, .slice A2 n2 c2])) w) : Oper.wp Try.prog o a w K Q := by
  unfold Oper.wp execOp
  rw [ho]
  simp only [hp]
  go_simp
  exact h
theorem wp_alloc24 {o : Oper} {a : Act} {w : World} {K : Act → World → Prop} {Q : Exit → Act → World → Prop} (ho : o.op = .alloc 24)
    (h : K (a.put o.dst (.pointer (some ⟨w.heap.size, 0, none⟩))) (w.alloc (.cells #[.slice none 0 0, .slice none 0 0] 24))) : Oper.wp Try.prog o a w K Q := by
  unfold Oper.wp execOp
  rw [ho]
  go_simp
  exact h
theorem wp_store24 {o : Oper} {a : Act} {w : World} {K : Act → World → Prop} {Q : Exit → Act → World → Prop} (t u : Nat) (ho : o.op = .store 24 (.tmp t) (.tmp u)) (hd : o.dst = none) (b : Nat) (A1 : Option Addr) (n1 c1 : Nat) (A2 : Option Addr) (n2 c2 : Nat) (v0 v1 : Value)
    (hp : a.eval (.tmp t) = .pointer (some ⟨b, 0, none⟩)) (hv : a.eval (.tmp u) = .agg #[.slice A1 n1 c1, .slice A2 n2 c2])
    (h0 : w.cell? ⟨b, 0, none⟩ = some v0) (h1 : w.cell? ⟨b, 1, none⟩ = some v1) (f0 : w.frozen? ⟨b, 0, none⟩ = false) (f1 : w.frozen? ⟨b, 1, none⟩ = false)
    (h : K a ((w.setCell ⟨b, 0, none⟩ (.slice A1 n1 c1)).setCell ⟨b, 1, none⟩ (.slice A2 n2 c2))) : Oper.wp Try.prog o a w K Q := by
  unfold Oper.wp execOp
  rw [ho]
  simp only [hp, hv]
  go_simp
  try simp only [hd]
  exact h
theorem wp_call25 {o : Oper} {a : Act} {w : World} {K : Act → World → Prop} {Q : Exit → Act → World → Prop} (x y : Nat) (ho : o.op = .call { callee := .value (.func 25), args := #[.tmp x, .tmp y], argTypes := #[24, 24] }) (vx vy : Value)
    (hx : a.eval (.tmp x) = vx) (hy : a.eval (.tmp y) = vy) {G : Ending → World → Prop} (hc : Calls Try.prog 25 #[vx, vy] w G) (h : ∀ e w', G e w' → ∃ v, e = .returned v ∧ K (a.put o.dst v) w') : Oper.wp Try.prog o a w K Q := by
  unfold Oper.wp execOp
  rw [ho]
  have hx2 : a.tmps[x]?.getD undef = vx := by rw [← hx]; simp [Act.eval]
  have hy2 : a.tmps[y]?.getD undef = vy := by rw [← hy]; simp [Act.eval]
  go_simp
  (with_reducible refine hc.mono ?_)
  intro e w' hG
  obtain ⟨v, rfl, hK⟩ := h e w' hG
  exact hK
theorem wp_call27 {o : Oper} {a : Act} {w : World} {K : Act → World → Prop} {Q : Exit → Act → World → Prop} (x y : Nat) (ho : o.op = .call { callee := .value (.func 27), args := #[.tmp x, .tmp y], argTypes := #[24, 24] }) (vx vy : Value)
    (hx : a.eval (.tmp x) = vx) (hy : a.eval (.tmp y) = vy) {G : Ending → World → Prop} (hc : Calls Try.prog 27 #[vx, vy] w G) (h : ∀ e w', G e w' → ∃ v, e = .returned v ∧ K (a.put o.dst v) w') : Oper.wp Try.prog o a w K Q := by
  unfold Oper.wp execOp
  rw [ho]
  have hx2 : a.tmps[x]?.getD undef = vx := by rw [← hx]; simp [Act.eval]
  have hy2 : a.tmps[y]?.getD undef = vy := by rw [← hy]; simp [Act.eval]
  go_simp
  (with_reducible refine hc.mono ?_)
  intro e w' hG
  obtain ⟨v, rfl, hK⟩ := h e w' hG
  exact hK
theorem wp_call29 {o : Oper} {a : Act} {w : World} {K : Act → World → Prop} {Q : Exit → Act → World → Prop} (x : Nat) (ho : o.op = .call { callee := .value (.func 29), args := #[.tmp x], argTypes := #[24] }) (vx : Value)
    (hx : a.eval (.tmp x) = vx) {G : Ending → World → Prop} (hc : Calls Try.prog 29 #[vx] w G) (h : ∀ e w', G e w' → ∃ v, e = .returned v ∧ K (a.put o.dst v) w') : Oper.wp Try.prog o a w K Q := by
  unfold Oper.wp execOp
  rw [ho]
  have hx2 : a.tmps[x]?.getD undef = vx := by rw [← hx]; simp [Act.eval]
  go_simp
  (with_reducible refine hc.mono ?_)
  intro e w' hG
  obtain ⟨v, rfl, hK⟩ := h e w' hG
  exact hK
theorem wp_call31 {o : Oper} {a : Act} {w : World} {K : Act → World → Prop} {Q : Exit → Act → World → Prop} (x y : Nat) (ho : o.op = .call { callee := .value (.func 31), args := #[.tmp x, .tmp y], argTypes := #[24, 24] }) (vx vy : Value)
    (hx : a.eval (.tmp x) = vx) (hy : a.eval (.tmp y) = vy) {G : Ending → World → Prop} (hc : Calls Try.prog 31 #[vx, vy] w G) (h : ∀ e w', G e w' → ∃ v, e = .returned v ∧ K (a.put o.dst v) w') : Oper.wp Try.prog o a w K Q := by
  unfold Oper.wp execOp
  rw [ho]
  have hx2 : a.tmps[x]?.getD undef = vx := by rw [← hx]; simp [Act.eval]
  have hy2 : a.tmps[y]?.getD undef = vy := by rw [← hy]; simp [Act.eval]
  go_simp
  (with_reducible refine hc.mono ?_)
  intro e w' hG
  obtain ⟨v, rfl, hK⟩ := h e w' hG
  exact hK
end Go.Proofs.Yteekccjfokoglaa
