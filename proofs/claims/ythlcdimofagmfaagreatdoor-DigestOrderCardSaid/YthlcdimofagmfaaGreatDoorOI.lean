/-
  A row of releases of the call's own, whose parts lie in rows of their own. No condition.
-/
import Derived.Test.YthlcdimofagmfaaGreatDoorOM
import Derived.Test.YthlcdimofagmfaaGreatDoorRVW
namespace Go.Proofs.YthlcdimofagmfaaGreatDoor
open Go.RowKit Go.Sort Go.Lib Go.Shelf Go.Proofs
set_option linter.unusedSimpArgs false
set_option linter.unnecessarySimpa false
set_option linter.unusedVariables false
/-- where the parts of a release lie -/
abbrev Ad := Option Addr × Nat × Option Addr × Nat
abbrev Itm := Rl × Ad
def rcs (q : Itm) : List Value := [.string q.1.1.1, .int .i64 q.1.1.2.1, .int .i64 q.1.1.2.2.1, .int .i64 q.1.1.2.2.2, .slice q.2.1 q.1.2.1.length q.2.2.1, .slice q.2.2.2.1 q.1.2.2.length q.2.2.2.2]
def flatR (l : List Itm) : List Value := l.flatMap rcs
theorem flatR_snoc (l : List Itm) (q : Itm) : flatR (l ++ [q]) = flatR l ++ rcs q := by simp [flatR]
theorem flatR_at (l : List Itm) (i : Nat) (h : i < l.length) (c : Nat) (hc : c < 6) : (flatR l)[i * 6 + c]? = (rcs l[i])[c]? := by
  induction l generalizing i with
  | nil => simp at h
  | cons s l ih =>
    have e : flatR (s :: l) = rcs s ++ flatR l := rfl
    rw [e]
    have hm : (rcs s).length = 6 := rfl
    cases i with
    | zero => rw [List.getElem?_append_left (by omega)]; simp
    | succ i =>
      rw [List.getElem?_append_right (by omega), hm, show (i + 1) * 6 + c - 6 = i * 6 + c by omega]
      simpa using ih i (by simpa using h)
theorem rcs_one (q : Itm) : ∀ u ∈ rcs q, u.oneCell' = true := by
  intro u hu; simp [rcs] at hu; rcases hu with rfl | rfl | rfl | rfl | rfl | rfl <;> rfl
structure It (w : World) (q : Itm) : Prop where
  rm : RM w w.heap.size q.2.1 q.1.2.1
  pm : Plain q.2.1 q.2.2.1
  rn : RN w w.heap.size q.2.2.2.1 q.1.2.2
  pn : Plain q.2.2.2.1 q.2.2.2.2
  ty : Ty w q.2.1
  tyS : TyS w q.2.2.2.1
theorem It.up {w w' : World} {q : Itm} (h : It w q) (hb : Below w.heap.size w w') : It w' q where
  rm := h.rm.up hb
  pm := h.pm
  rn := h.rn.up hb
  pn := h.pn
  ty := fun b o e => by
    obtain ⟨cs, fz, e1⟩ := h.ty b o e
    exact ⟨cs, fz, by rw [hb.block _ (Array.getElem?_eq_some_iff.1 e1).1]; exact e1⟩
  tyS := fun b o e => by
    obtain ⟨cs, fz, e1⟩ := h.tyS b o e
    exact ⟨cs, fz, by rw [hb.block _ (Array.getElem?_eq_some_iff.1 e1).1]; exact e1⟩
theorem own40 {w : World} {B n : Nat} {v : Value} {xs : List Value} (h : w.ownsRow B 40 6 v n xs) : ∀ k, v.ownBlock = some k → ∃ cs fz, w.heap[k]? = some (.cells cs 40 fz) := by
  intro k hk
  rcases h.2 with ⟨rfl, _⟩ | ⟨g, cap, cur, rfl, _, hg, _⟩
  · simp [Value.ownBlock] at hk
  · simp only [Value.ownBlock, Option.some.injEq] at hk
    subst hk
    exact ⟨_, _, hg⟩
theorem It.gb {w w' : World} {B n : Nat} {v : Value} {xs : List Value} {q : Itm} (h : It w q) (hown : w.ownsRow B 40 6 v n xs) (hg : w.grownBy w' v.ownBlock) : It w' q := by
  have hsz : w.heap.size ≤ w'.heap.size := hg.size
  have n1 : ∀ b o, q.2.1 = some ⟨b, o, none⟩ → some b ≠ v.ownBlock := fun b o e e' => by
    obtain ⟨cs, fz, e1⟩ := h.ty b o e
    obtain ⟨cs', fz', e2⟩ := own40 hown b e'.symm
    rw [e1] at e2; simp at e2
  have n2 : ∀ b o, q.2.2.2.1 = some ⟨b, o, none⟩ → some b ≠ v.ownBlock := fun b o e e' => by
    obtain ⟨cs, fz, e1⟩ := h.tyS b o e
    obtain ⟨cs', fz', e2⟩ := own40 hown b e'.symm
    rw [e1] at e2; simp at e2
  refine ⟨⟨fun i hi => ?_⟩, h.pm, ⟨fun i hi => ?_⟩, h.pn, fun b o e => ?_, fun b o e => ?_⟩
  · obtain ⟨b, o, e, hl, c⟩ := h.rm.at_ i hi
    exact ⟨b, o, e, Nat.lt_of_lt_of_le hl hsz, fun j u hu => hg.cell (c j u hu) (n1 b o e)⟩
  · obtain ⟨b, o, e, hl, c⟩ := h.rn.at_ i hi
    exact ⟨b, o, e, Nat.lt_of_lt_of_le hl hsz, fun j u hu => hg.cell (c j u hu) (n2 b o e)⟩
  · obtain ⟨cs, fz, e1⟩ := h.ty b o e
    exact ⟨cs, fz, (hg.block b (Array.getElem?_eq_some_iff.1 e1).1 (n1 b o e)).trans e1⟩
  · obtain ⟨cs, fz, e1⟩ := h.tyS b o e
    exact ⟨cs, fz, (hg.block b (Array.getElem?_eq_some_iff.1 e1).1 (n2 b o e)).trans e1⟩
theorem rr6_of_own {w : World} {B : Nat} {v : Value} {its : List Itm} (h : w.ownsRow B 40 6 v its.length (flatR its)) (hI : ∀ q ∈ its, It w q) : ∃ A c, v = .slice A its.length c ∧ RR6 w w.heap.size A (its.map (·.1)) := by
  rcases own_cell h with ⟨h1, h2⟩ | ⟨g, c, rfl, h3, h4, _, _, hc⟩
  · have hl : its = [] := List.length_eq_zero_iff.1 h2
    subst hl
    exact ⟨none, 0, h1, ⟨fun i hi => by simp at hi⟩⟩
  · refine ⟨_, c, rfl, ⟨fun i hi => ?_⟩⟩
    have hi' : i < its.length := by simpa using hi
    have hq := hI its[i] (List.getElem_mem hi')
    have e : (its.map (·.1))[i] = its[i].1 := by simp
    have hcell : ∀ j u, (rcs its[i])[j]? = some u → w.cell? ⟨g, i * 6 + j, none⟩ = some u := fun j u hu => by
      have hj : j < 6 := by have := (List.getElem?_eq_some_iff.1 hu).1; simpa [rcs] using this
      exact hc _ _ (by rw [flatR_at its i hi' j hj]; exact hu)
    refine ⟨g, 0, its[i].2.1, its[i].2.2.2.1, its[i].2.2.1, its[i].2.2.2.2, rfl, h4, ?_⟩
    rw [e, Nat.zero_add]
    exact ⟨by simpa using hcell 0 _ rfl, hcell 1 _ rfl, hcell 2 _ rfl, hcell 3 _ rfl, hcell 4 _ rfl, hcell 5 _ rfl, hq.rm, .inl hq.pm, hq.rn, .inl hq.pn⟩
theorem info40 : (Tryz.prog.info? 40).map (fun i => (i.zero, i.size, i.bytes)) = some (some (.agg #[.string ⟨#[]⟩, .int .i64 0, .int .i64 0, .int .i64 0, .slice none 0 0, .slice none 0 0]), 6, 88) := by kernel_rfl
/-- append of one release to a row of the call's own -/
theorem wpList_append_rl {w : World} {ops : Array Oper} {rest : List Oper} {o : Oper} {a : Act} {Q : Exit → Act → World → Prop} (hgd : o.guard = none) (s x : Operand)
    (ho : o.op = .call { callee := .builtin .append, args := #[s, x], argTypes := #[44, 44] })
    (base : Nat) (v : Value) (its : List Itm) (q : Itm) (hs : a.eval s = v) (hown : w.ownsRow base 40 6 v its.length (flatR its))
    (g : Nat) (hx : a.eval x = .slice (some ⟨g, 0, none⟩) 1 1) (hb : w.heap[g]? = some (.cells (rcs q).toArray 40 (0, 0))) (hn : its.length ≤ 1000) (hbase : base ≤ w.heap.size)
    (h : ∀ v' w', w'.ownsRow base 40 6 v' (its ++ [q]).length (flatR (its ++ [q])) → w.grownBy w' v.ownBlock → wpList Tryz.prog ops Q rest (a.put o.dst v') w') : wpList Tryz.prog ops Q (o :: rest) a w := by
  obtain ⟨i0, hi, hz0, hz1, hz2⟩ := info_parts info40
  refine wpList_append_own w hgd s x 44 ho base 40 i0 (.agg #[.string ⟨#[]⟩, .int .i64 0, .int .i64 0, .int .i64 0, .slice none 0 0, .slice none 0 0]) 6 88 Tryz.underlying44 hi hz0 hz1 hz2 rfl (by decide) v its.length (flatR its) hs hown ⟨g, 0, none⟩ 1 1 (rcs q) hx rfl ?_ (rcs_one q) (by unfold maxLen; omega) (by omega) hbase (fun v' w' h1 h2 _ => h v' w' (by rw [List.length_append, flatR_snoc]; exact h1) h2)
  intro j u hj
  rw [show (⟨g, 0, none⟩ : Addr).add j = ⟨g, j, none⟩ by simp [Addr.add]; exact fun e => e.symm, Lib.cell_of_heap hb, ← Array.getElem?_toList]
  exact hj
end Go.Proofs.YthlcdimofagmfaaGreatDoor
