/-
  The law's own reversed: what stands between two rounds of its loops. No condition.
-/
import Derived.Test.YthlcdimofagmfaaGreatDoorMNH
import Derived.Test.YthlcdimofagmfaaGreatDoorRXZ
import Derived.Test.YthlcdimofagmfaaGreatDoorSRW
namespace Go.Proofs.YthlcdimofagmfaaGreatDoor
open Go.RowKit Go.Sort Go.Lib Go.Shelf Go.Proofs
set_option linter.unusedSimpArgs false
set_option linter.unnecessarySimpa false
set_option linter.unusedVariables false
/-- a block whole -/
def RowV (W : World) (g : Nat) (cs : Array Value) (T : TypeId) : Prop := W.heap[g]? = some (.cells cs T (0, 0))
section
variable {W W' w1 : World} {g g' j N B n sz k : Nat} {cs cs' : Array Value} {T E : TypeId} {v u : Value} {xs : List Value} {o : Obj} {row : Option Nat}
theorem RowV.lt (h : RowV W g cs T) : g < W.heap.size := (Array.getElem?_eq_some_iff.1 h).1
theorem RowV.up (h : RowV W g cs T) (hb : Below N W W') (hg : g < N) : RowV W' g cs T := (hb.block g hg).trans h
theorem RowV.other (h : RowV W g cs T) (hne : g' ≠ g) (v : Value) : RowV (W.setCell ⟨g', j, none⟩ v) g cs T := by
  unfold RowV at *
  simp [World.setCell, Array.getElem?_modify, hne, h]
theorem RowV.set (h : RowV W g cs T) (j : Nat) (v : Value) (cs' : Array Value) (e : cs.setIfInBounds j v = cs') : RowV (W.setCell ⟨g, j, none⟩ v) g cs' T := by
  subst e
  unfold RowV at *
  simp [World.setCell, Array.getElem?_modify, h]
theorem RowV.cell (h : RowV W g cs T) (j : Nat) : W.cell? ⟨g, j, none⟩ = cs[j]? := by simp [World.cell?, show W.heap[g]? = _ from h]
theorem RowV.frozen (h : RowV W g cs T) (j : Nat) : W.frozen? ⟨g, j, none⟩ = false := by simp [World.frozen?, show W.heap[g]? = _ from h]
theorem RowV.grown (h : RowV W k cs T) (hg : (W.alloc o).grownBy w1 row) (hne : some k ≠ row) : RowV w1 k cs T := by
  have hlt := h.lt
  unfold RowV at *
  rw [hg.block k (by simp; omega) hne, ((Below.refl W.heap.size W).alloc (Nat.le_refl _) o).block k hlt]
  exact h
theorem rowE_apart (hr : W.ownsRow B E sz v n xs) (h : RowV W k cs T) (hT : T ≠ E) : some k ≠ v.ownBlock := by
  rcases hr.2 with ⟨rfl, _⟩ | ⟨g, cap, cur, rfl, _, hg, _⟩
  · simp [Value.ownBlock]
  · intro e
    simp only [Value.ownBlock, Option.some.injEq] at e
    subst e
    unfold RowV at h
    rw [hg] at h
    simp at h
    exact hT h.2.symm
/-- a row of another type is another row -/
theorem rows_apart {B' E' sz' n' : Nat} {v' : Value} {xs' : List Value} (h : W.ownsRow B E sz v n xs) (h' : W.ownsRow B' E' sz' v' n' xs') (hE : E ≠ E') : ∀ q, v.ownBlock = some q → some q ≠ v'.ownBlock := by
  intro q hq e
  rcases h.2 with ⟨rfl, _⟩ | ⟨g, cap, cur, rfl, _, hg, _⟩
  · simp [Value.ownBlock] at hq
  · rcases h'.2 with ⟨rfl, _⟩ | ⟨g', cap', cur', rfl, _, hg', _⟩
    · simp [Value.ownBlock] at e
    · simp only [Value.ownBlock, Option.some.injEq] at hq e
      subst hq
      subst e
      rw [hg] at hg'
      simp at hg'
      exact hE hg'.2
theorem own_gbs (h : W.ownsRow B E sz v n xs) (hg : W.grownBy W' row) (hne : ∀ q, v.ownBlock = some q → some q ≠ row) : W'.ownsRow B E sz v n xs := by
  refine ⟨h.1, ?_⟩
  rcases h.2 with h' | ⟨g, cap, cur, hv, hbg, hgg, r⟩
  · exact .inl h'
  · have hlt : g < W.heap.size := (Array.getElem?_eq_some_iff.1 hgg).1
    exact .inr ⟨g, cap, cur, hv, hbg, by rw [hg.block g hlt (by intro e; exact hne g (by rw [hv]; rfl) e)]; exact hgg, r⟩
theorem own_setE (h : W.ownsRow B E sz v n xs) {b i : Nat} (hb : b < B) (u : Value) : (W.setCell ⟨b, i, none⟩ u).ownsRow B E sz v n xs := by
  refine ⟨h.1, ?_⟩
  rcases h.2 with h' | ⟨g, cap, cur, hv, hbg, hgg, r⟩
  · exact .inl h'
  · refine .inr ⟨g, cap, cur, hv, hbg, ?_, r⟩
    have hne : b ≠ g := by omega
    simp [World.setCell, Array.getElem?_modify, hne, hgg]
end
abbrev z40 : Array Value := #[.string ⟨#[]⟩, .int .i64 0, .int .i64 0, .int .i64 0, .slice none 0 0, .slice none 0 0]
/-- what stands between two rounds: the argument's box, the result's, the copy's; the two rows -/
structure PV (w : World) (b : Nat) (x : Md) (P Q u v : Value) (L : List Md) (S : List Src) (W : World) : Prop where
  hb : w.heap.size = b
  bel : Below w.heap.size w W
  r0 : RowV W b #[.string x.1, .int .i64 x.2.1, .int .i64 x.2.2.1, .int .i64 x.2.2.2, P, Q] 40
  r1 : RowV W (b + 1) z40 40
  r2 : RowV W (b + 1 + 1) #[.string x.1, .int .i64 x.2.1, .int .i64 x.2.2.1, .int .i64 x.2.2.2, u, v] 40
  rowM : W.ownsRow (b + 3) 34 4 u L.length (flatM L)
  rowS : W.ownsRow (b + 3) 56 2 v S.length (flatS S)
structure Fz (W : World) (b : Nat) (x : Md) (u v : Value) : Prop where
  c0 : W.cell? ⟨b, 0, none⟩ = some (.string x.1)
  c1 : W.cell? ⟨b, 1, none⟩ = some (.int .i64 x.2.1)
  c2 : W.cell? ⟨b, 2, none⟩ = some (.int .i64 x.2.2.1)
  c3 : W.cell? ⟨b, 3, none⟩ = some (.int .i64 x.2.2.2)
  c4 : W.cell? ⟨b, 4, none⟩ = some u
  c5 : W.cell? ⟨b, 5, none⟩ = some v
  f4 : W.frozen? ⟨b, 4, none⟩ = false
  f5 : W.frozen? ⟨b, 5, none⟩ = false
section
variable {w W W2 : World} {b : Nat} {x m : Md} {y : Src} {P Q u v u' v' : Value} {L : List Md} {S : List Src} {o : Obj}
theorem PV.fz (h : PV w b x P Q u v L S W) : Fz W (b + 1 + 1) x u v := ⟨h.r2.cell 0, h.r2.cell 1, h.r2.cell 2, h.r2.cell 3, h.r2.cell 4, h.r2.cell 5, h.r2.frozen 4, h.r2.frozen 5⟩
theorem PV.f0 (h : PV w b x P Q u v L S W) : W.cell? ⟨b, 4, none⟩ = some P ∧ W.cell? ⟨b, 5, none⟩ = some Q := ⟨h.r0.cell 4, h.r0.cell 5⟩
theorem PV.drew (h : PV w b x P Q u v L S W) : PV w b x P Q u v L S W.drew := ⟨h.hb, h.bel.drew, h.r0, h.r1, h.r2, own_up h.rowM (Below.refl _ _).drew, own_up h.rowS (Below.refl _ _).drew⟩
theorem PV.sz (h : PV w b x P Q u v L S W) : b + 3 ≤ W.heap.size := by have := h.r2.lt; omega
/-- a source more -/
theorem PV.appS (h : PV w b x P Q u v L S W) (hg : (W.alloc o).grownBy W2 v.ownBlock) (hown : W2.ownsRow (b + 3) 56 2 v' (S.length + 1) (flatS S ++ flatS [y])) :
    PV w b x P Q u v' L (S ++ [y]) (W2.setCell ⟨b + 1 + 1, 5, none⟩ v') ∧ Fz W2 (b + 1 + 1) x u v := by
  have hsz := h.sz
  have hB2 : Below (b + 3) W W2 := ((Below.refl _ _).alloc hsz o).grown hg (by simp; omega) (fun k hk => (h.rowS.lt k hk).1)
  have q0 := h.r0.up hB2 (by omega)
  have q1 := h.r1.up hB2 (by omega)
  have q2 := h.r2.up hB2 (by omega)
  have hm2 : W2.ownsRow (b + 3) 34 4 u L.length (flatM L) := own_gbs (h.rowM.alloc o) hg (rows_apart h.rowM h.rowS (by decide))
  have hhb := h.hb
  refine ⟨⟨h.hb, (h.bel.trans (hB2.mono (by omega))).setCell (p := ⟨b + 1 + 1, 5, none⟩) (by show w.heap.size ≤ b + 1 + 1; omega) _, q0.other (by omega) _, q1.other (by omega) _, q2.set 5 v' _ rfl, own_setE hm2 (by omega) _, ?_⟩, ⟨q2.cell 0, q2.cell 1, q2.cell 2, q2.cell 3, q2.cell 4, q2.cell 5, q2.frozen 4, q2.frozen 5⟩⟩
  rw [List.length_append, flatS_append]
  exact own_setE hown (by omega) _
/-- a requirement more -/
theorem PV.appM (h : PV w b x P Q u v L S W) (hg : (W.alloc o).grownBy W2 u.ownBlock) (hown : W2.ownsRow (b + 3) 34 4 u' (L.length + 1) (flatM L ++ flatM [m])) :
    PV w b x P Q u' v (L ++ [m]) S (W2.setCell ⟨b + 1 + 1, 4, none⟩ u') ∧ Fz W2 (b + 1 + 1) x u v := by
  have hsz := h.sz
  have hB2 : Below (b + 3) W W2 := ((Below.refl _ _).alloc hsz o).grown hg (by simp; omega) (fun k hk => (h.rowM.lt k hk).1)
  have q0 := h.r0.up hB2 (by omega)
  have q1 := h.r1.up hB2 (by omega)
  have q2 := h.r2.up hB2 (by omega)
  have hm2 : W2.ownsRow (b + 3) 56 2 v S.length (flatS S) := own_gbs (h.rowS.alloc o) hg (rows_apart h.rowS h.rowM (by decide))
  have hhb := h.hb
  refine ⟨⟨h.hb, (h.bel.trans (hB2.mono (by omega))).setCell (p := ⟨b + 1 + 1, 4, none⟩) (by show w.heap.size ≤ b + 1 + 1; omega) _, q0.other (by omega) _, q1.other (by omega) _, q2.set 4 u' _ rfl, ?_, own_setE hm2 (by omega) _⟩, ⟨q2.cell 0, q2.cell 1, q2.cell 2, q2.cell 3, q2.cell 4, q2.cell 5, q2.frozen 4, q2.frozen 5⟩⟩
  rw [List.length_append, flatM_append]
  exact own_setE hown (by omega) _
end
/-- append of one source to a row of the call's own, as a step of a region that draws -/
theorem step_append_src {ops : Array Oper} {o : Oper} {a : Act} {w : World} {K : Act → World → Prop} {Q : Exit → Act → World → Prop} {E : Prop} (hgd : o.guard = none) (s x : Operand)
    (ho : o.op = .call { callee := .builtin .append, args := #[s, x], argTypes := #[38, 38] }) (base : Nat) (v : Value) (acc : List Src) (y : Src) (hs : a.eval s = v)
    (hown : w.ownsRow base 56 2 v acc.length (flatS acc)) (b : Nat) (hx : a.eval x = .slice (some ⟨b, 0, none⟩) 1 1)
    (hb : w.heap[b]? = some (.cells #[.string y.1, .string y.2] 56 (0, 0))) (hlen : acc.length ≤ 1000) (hbase : base ≤ w.heap.size)
    (h : ∀ v' w', Hid (w'.ownsRow base 56 2 v' (acc.length + 1) (flatS acc ++ flatS [y])) → w.grownBy w' v.ownBlock → K (a.put o.dst v') w') :
    if Region.wanted o (yielded ops a.tmps) = true then Oper.wp Tryz.prog o a w K Q else E := by
  have hw : Region.wanted o (yielded ops a.tmps) = true := by simp [Region.wanted, hgd]
  rw [if_pos hw]
  obtain ⟨i0, hi, hz0, hz1, hz2⟩ := info_parts info56
  refine wp_append_own w s x 38 ho base 56 i0 (.agg #[.string ⟨#[]⟩, .string ⟨#[]⟩]) 2 32 Tryz.underlying38 hi hz0 hz1 hz2 rfl (by decide) v acc.length (flatS acc) hs hown ⟨b, 0, none⟩ 1 1 (sc y) hx rfl ?_ (sc_one y) ?_ ?_ hbase ?_
  · intro j u hj
    rw [show (⟨b, 0, none⟩ : Addr).add j = ⟨b, j, none⟩ by simp [Addr.add]; exact fun e => e.symm, Lib.cell_of_heap hb, ← Array.getElem?_toList]
    exact hj
  · unfold maxLen; omega
  · omega
  · intro v' w' h1 h2 _
    refine h v' w' (Lib.hid ?_) h2
    have e : flatS [y] = sc y := by rw [flatS_cons, flatS_nil, List.append_nil]
    rw [e]; exact h1
/-- append of one module, likewise -/
theorem step_append_md {ops : Array Oper} {o : Oper} {a : Act} {w : World} {K : Act → World → Prop} {Q : Exit → Act → World → Prop} {E : Prop} (hgd : o.guard = none) (s x : Operand)
    (ho : o.op = .call { callee := .builtin .append, args := #[s, x], argTypes := #[35, 35] }) (base : Nat) (v : Value) (acc : List Md) (y : Md) (hs : a.eval s = v)
    (hown : w.ownsRow base 34 4 v acc.length (flatM acc)) (b : Nat) (hx : a.eval x = .slice (some ⟨b, 0, none⟩) 1 1)
    (hb : w.heap[b]? = some (.cells #[.string y.1, .int .i64 y.2.1, .int .i64 y.2.2.1, .int .i64 y.2.2.2] 34 (0, 0))) (hlen : acc.length ≤ 1000) (hbase : base ≤ w.heap.size)
    (h : ∀ v' w', Hid (w'.ownsRow base 34 4 v' (acc.length + 1) (flatM acc ++ flatM [y])) → w.grownBy w' v.ownBlock → K (a.put o.dst v') w') :
    if Region.wanted o (yielded ops a.tmps) = true then Oper.wp Tryz.prog o a w K Q else E := by
  have hw : Region.wanted o (yielded ops a.tmps) = true := by simp [Region.wanted, hgd]
  rw [if_pos hw]
  obtain ⟨i0, hi, hz0, hz1, hz2⟩ := info_parts info25
  refine wp_append_own w s x 35 ho base 34 i0 (.agg #[.string ⟨#[]⟩, .int .i64 0, .int .i64 0, .int .i64 0]) 4 40 Tryz.underlying35 hi hz0 hz1 hz2 rfl (by decide) v acc.length (flatM acc) hs hown ⟨b, 0, none⟩ 1 1 (mc y) hx rfl ?_ (mc_one y) ?_ ?_ hbase ?_
  · intro j u hj
    rw [show (⟨b, 0, none⟩ : Addr).add j = ⟨b, j, none⟩ by simp [Addr.add]; exact fun e => e.symm, Lib.cell_of_heap hb, ← Array.getElem?_toList]
    exact hj
  · unfold maxLen; omega
  · omega
  · intro v' w' h1 h2 _
    refine h v' w' (Lib.hid ?_) h2
    have e : flatM [y] = mc y := by rw [flatM_cons, flatM_nil, List.append_nil]
    rw [e]; exact h1
theorem own_shapeE {w : World} {B n sz : Nat} {E : TypeId} {v : Value} {xs : List Value} (h : w.ownsRow B E sz v (n + 1) xs) : ∃ q d, v = .slice (some ⟨q, 0, none⟩) (n + 1) d := by
  rcases own_cell h with ⟨_, e⟩ | ⟨q, d, e, _⟩
  · simp at e
  · exact ⟨q, d, e⟩
theorem rev_next {α : Type} {l : List α} {m : Nat} (h : m < l.length) : (l.drop m).reverse = (l.drop (m + 1)).reverse ++ [l[m]] := by
  rw [List.drop_eq_getElem_cons h, List.reverse_cons]
end Go.Proofs.YthlcdimofagmfaaGreatDoor
