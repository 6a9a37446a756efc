/-
  Mathematics of a depth-first search: in which order it leaves the nodes, and what that order says about what can be reached. No world, no walk of a program.
-/
import Derived.Test.YthgfomjmkmkhkaaM4
namespace Go.Proofs.Ythgfomjmkmkhkaa
set_option linter.unusedSimpArgs false
set_option linter.unusedVariables false

/-- can be reached by any number of edges -/
def To (g : Gr) (a b : Nat) : Prop := ∃ n, Walk g a b n

theorem To.refl {g : Gr} {a : Nat} (h : a < g.length) : To g a a := ⟨0, Walk.nil a h⟩
theorem To.trans {g : Gr} {a b c : Nat} (h : To g a b) (k : To g b c) : To g a c := by
  obtain ⟨n, w⟩ := h; obtain ⟨m, v⟩ := k
  exact ⟨n + m, w.trans v⟩
theorem To.edge {g : Gr} {a b : Nat} (e : Edge g a b) : To g a b := ⟨1, Walk.cons e (Walk.nil b e.2.1)⟩
theorem To.lt {g : Gr} {a b : Nat} (h : To g a b) : a < g.length ∧ b < g.length := by
  obtain ⟨n, w⟩ := h; exact ⟨w.left, w.right⟩
theorem Con.to {g : Gr} {a b : Nat} (h : Con g a b) : To g a b := by
  obtain ⟨n, w⟩ := h; exact ⟨n + 1, w⟩
theorem To.cases {g : Gr} {a b : Nat} (h : To g a b) : a = b ∨ Con g a b := by
  obtain ⟨n, w⟩ := h
  cases n with
  | zero => exact Or.inl w.zero
  | succ n => exact Or.inr ⟨n, w⟩
theorem mut_to {g : Gr} {a b : Nat} (ha : a < g.length) : Mut g a b ↔ To g a b ∧ To g b a := by
  constructor
  · rintro (rfl | ⟨h, k⟩)
    · exact ⟨To.refl ha, To.refl ha⟩
    · exact ⟨h.to, k.to⟩
  · rintro ⟨h, k⟩
    rcases h.cases with e | h
    · exact Or.inl e
    · rcases k.cases with e | k
      · exact Or.inl e.symm
      · exact Or.inr ⟨h, k⟩

/-- the first edge that leads out of a set -/
theorem leave {g : Gr} {a b n : Nat} (w : Walk g a b n) (S : Nat → Prop) (ha : S a) (hb : ¬ S b) : ∃ u v, S u ∧ ¬ S v ∧ Edge g u v ∧ To g a u ∧ To g v b := by
  induction w with
  | nil h => exact absurd ha hb
  | snoc b c n w e ih =>
    by_cases hs : S b
    · exact ⟨b, c, hs, hb, e, ⟨n, w⟩, To.refl e.2.1⟩
    · obtain ⟨u, v, h1, h2, h3, h4, h5⟩ := ih hs
      exact ⟨u, v, h1, h2, h3, h4, h5.trans (To.edge e)⟩

/-- how a depth-first search leaves the nodes: whatever leads out of those that were left, leads back to the one left last -/
structure Fin (g : Gr) (O : List Nat) : Prop where
  nod : O.Nodup
  lt : ∀ x ∈ O, x < g.length
  back : ∀ i x, O[i]? = some x → ∀ u v, u ∈ O.take (i + 1) → Edge g u v → v ∉ O.take (i + 1) → To g v x

/-- the search on its way: path leads to the node at which it is -/
structure DF (g : Gr) (seen : List Bool) (next : List Int) (O path : List Nat) : Prop where
  sl : seen.length = g.length
  nl : next.length = g.length
  fin : Fin g O
  pn : path.Nodup
  dis : ∀ x ∈ path, x ∉ O
  seen : ∀ x, x < g.length → (seen[x]? = some true ↔ x ∈ O ∨ x ∈ path)
  plt : ∀ x ∈ path, x < g.length
  chain : ∀ k x y, path[k]? = some x → path[k + 1]? = some y → To g x y
  out : ∀ u ∈ O, ∀ v, Edge g u v → v ∈ O ∨ v ∈ path
  nx : ∀ x, x ∉ O → x < g.length → ∃ j : Nat, next[x]? = some (j : Int) ∧ j ≤ (suc g x).length ∧ ∀ i, i < j → ∀ c : Nat, (suc g x)[i]? = some (c : Int) → c < g.length → c ∈ O ∨ c ∈ path

theorem df_start (g : Gr) : DF g (List.replicate g.length false) (List.replicate g.length 0) [] [] where
  sl := by simp
  nl := by simp
  fin := ⟨List.nodup_nil, by simp, by simp⟩
  pn := List.nodup_nil
  dis := by simp
  seen := by intro x hx; simp [List.getElem?_replicate]
  plt := by simp
  chain := by simp
  out := by simp
  nx := by
    intro x _ hx
    exact ⟨0, by simp [List.getElem?_replicate, hx], by omega, by intro i hi; omega⟩

theorem DF.room {g : Gr} {seen : List Bool} {next : List Int} {O path : List Nat} (D : DF g seen next O path) : O.length + path.length ≤ g.length := by
  have := pig g.length (O ++ path) (List.nodup_append.2 ⟨D.fin.nod, D.pn, by
    intro a ha b hb e; subst e; exact D.dis a hb ha⟩) (by
    intro x hx
    rcases List.mem_append.1 hx with h | h
    · exact D.fin.lt x h
    · exact D.plt x h)
  simpa using this

theorem DF.unseen {g : Gr} {seen : List Bool} {next : List Int} {O path : List Nat} (D : DF g seen next O path) {x : Nat} (h : seen[x]? = some false) : x < g.length ∧ x ∉ O ∧ x ∉ path := by
  have hx : x < g.length := by
    rw [← D.sl]
    rcases Nat.lt_or_ge x seen.length with h' | h'
    · exact h'
    · rw [List.getElem?_eq_none h'] at h; cases h
  have := D.seen x hx
  rw [h] at this
  refine ⟨hx, fun hq => ?_, fun hq => ?_⟩
  · have := this.2 (Or.inl hq); simp at this
  · have := this.2 (Or.inr hq); simp at this

/-- a new node is entered, from the node at the path's end, if there is one -/
theorem df_enter {g : Gr} {seen : List Bool} {next : List Int} {O path : List Nat} {x : Nat} (D : DF g seen next O path) (h : seen[x]? = some false) (hc : ∀ y, path.getLast? = some y → To g y x) : DF g (seen.set x true) next O (path ++ [x]) := by
  obtain ⟨hx, h1, h2⟩ := D.unseen h
  have hxs : x < seen.length := by rw [D.sl]; exact hx
  refine ⟨by simp [D.sl], D.nl, D.fin, ?_, ?_, ?_, ?_, ?_, ?_, ?_⟩
  · refine List.nodup_append.2 ⟨D.pn, by simp, ?_⟩
    intro a ha b hb e
    simp at hb; subst hb; subst e; exact h2 ha
  · intro y hy
    rcases List.mem_append.1 hy with hy | hy
    · exact D.dis y hy
    · simp at hy; subst hy; exact h1
  · intro y hy
    by_cases hxy : x = y
    · subst hxy
      rw [List.getElem?_set_self hxs]
      simp
    · rw [List.getElem?_set_ne hxy, D.seen y hy]
      simp [Ne.symm hxy]
  · intro y hy
    rcases List.mem_append.1 hy with hy | hy
    · exact D.plt y hy
    · simp at hy; subst hy; exact hx
  · intro k a b ha hb
    rcases Nat.lt_or_ge (k + 1) path.length with hk | hk
    · rw [List.getElem?_append_left (by omega)] at ha
      rw [List.getElem?_append_left hk] at hb
      exact D.chain k a b ha hb
    · have hb' : (k + 1) < (path ++ [x]).length := by
        rcases Nat.lt_or_ge (k + 1) (path ++ [x]).length with h' | h'
        · exact h'
        · rw [List.getElem?_eq_none h'] at hb; cases hb
      simp at hb'
      have hke : path.length = k + 1 := by omega
      rw [List.getElem?_append_right (by omega)] at hb
      rw [List.getElem?_append_left (by omega)] at ha
      rw [hke] at hb
      simp at hb
      subst hb
      refine hc a ?_
      rw [List.getLast?_eq_getElem?, hke]
      simpa using ha
  · intro u hu v e
    rcases D.out u hu v e with h | h
    · exact Or.inl h
    · exact Or.inr (List.mem_append_left _ h)
  · intro y hy hyl
    obtain ⟨j, hj, hjl, hji⟩ := D.nx y hy hyl
    refine ⟨j, hj, hjl, fun i hi c hc hcl => ?_⟩
    rcases hji i hi c hc hcl with h | h
    · exact Or.inl h
    · exact Or.inr (List.mem_append_left _ h)

/-- the next successor is passed: it is no node, or stands among those seen -/
theorem df_pass {g : Gr} {seen : List Bool} {next : List Int} {O path : List Nat} {n j : Nat} (D : DF g seen next O path) (hn : n < g.length) (hj : next[n]? = some (j : Int)) (hl : j < (suc g n).length)
    (hc : ∀ c : Nat, (suc g n)[j]? = some (c : Int) → c < g.length → c ∈ O ∨ c ∈ path) : DF g seen (next.set n ((j : Int) + 1)) O path := by
  have hns : n < next.length := by rw [D.nl]; exact hn
  refine ⟨D.sl, by simp [D.nl], D.fin, D.pn, D.dis, D.seen, D.plt, D.chain, D.out, ?_⟩
  intro y hy hyl
  obtain ⟨i, hi, hil, hii⟩ := D.nx y hy hyl
  by_cases hny : n = y
  · subst hny
    rw [hj] at hi
    obtain rfl : j = i := by have := Option.some.inj hi; omega
    refine ⟨j + 1, by rw [List.getElem?_set_self hns]; rfl, by omega, fun k hk c hc' hcl => ?_⟩
    rcases Nat.lt_or_ge k j with h | h
    · exact hii k h c hc' hcl
    · obtain rfl : k = j := by omega
      exact hc c hc' hcl
  · exact ⟨i, by rw [List.getElem?_set_ne hny]; exact hi, hil, hii⟩

theorem df_skip {g : Gr} {seen : List Bool} {next : List Int} {O path : List Nat} {n j : Nat} {x : Int} (D : DF g seen next O path) (hn : n < g.length) (hj : next[n]? = some (j : Int)) (hx : (suc g n)[j]? = some x)
    (hc : ∀ c : Nat, x = (c : Int) → c < g.length → seen[c]? = some true) : DF g seen (next.set n ((j : Int) + 1)) O path := by
  refine df_pass D hn hj ?_ ?_
  · rcases Nat.lt_or_ge j (suc g n).length with h | h
    · exact h
    · rw [List.getElem?_eq_none h] at hx; cases hx
  · intro c h1 h2
    rw [hx] at h1
    exact (D.seen c h2).1 (hc c (Option.some.inj h1) h2)

theorem df_go {g : Gr} {seen : List Bool} {next : List Int} {O path : List Nat} {n j c : Nat} (D : DF g seen next O path) (hl : path.getLast? = some n) (hj : next[n]? = some (j : Int)) (hx : (suc g n)[j]? = some (c : Int)) (hc : seen[c]? = some false) :
    DF g (seen.set c true) (next.set n ((j : Int) + 1)) O (path ++ [c]) := by
  have hn : n < g.length := D.plt n (List.mem_of_getLast? hl)
  obtain ⟨hcl, _, _⟩ := D.unseen hc
  have he : Edge g n c := ⟨hn, hcl, List.mem_of_getElem? hx⟩
  refine df_pass (df_enter D hc ?_) hn hj ?_ ?_
  · intro y hy
    rw [hl] at hy
    obtain rfl := Option.some.inj hy
    exact To.edge he
  · rcases Nat.lt_or_ge j (suc g n).length with h | h
    · exact h
    · rw [List.getElem?_eq_none h] at hx; cases hx
  · intro c' h1 h2
    rw [hx] at h1
    obtain rfl : c = c' := by have := Option.some.inj h1; omega
    right; simp

theorem chain_end {g : Gr} : ∀ (path : List Nat) (n : Nat), (∀ x ∈ path, x < g.length) → (∀ k x y, path[k]? = some x → path[k + 1]? = some y → To g x y) → path.getLast? = some n → ∀ x ∈ path, To g x n
  | [], _, _, _, h => by simp at h
  | [a], n, hl, _, h => by
    intro x hx
    simp at hx h
    subst hx; subst h
    exact To.refl (hl _ (by simp))
  | a :: b :: r, n, hl, hc, h => by
    intro x hx
    have ih := chain_end (b :: r) n (fun x hx => hl x (List.mem_cons_of_mem _ hx)) (fun k x y h1 h2 => hc (k + 1) x y (by simpa using h1) (by simpa using h2)) (by simpa [List.getLast?_cons_cons] using h)
    rcases List.mem_cons.1 hx with rfl | hx
    · exact (hc 0 x b (by simp) (by simp)).trans (ih b (by simp))
    · exact ih x hx

/-- the node at the path's end is left: all its successors have been examined -/
theorem df_leave {g : Gr} {seen : List Bool} {next : List Int} {O p : List Nat} {n j : Nat} (D : DF g seen next O (p ++ [n])) (hj : next[n]? = some (j : Int)) (hl : (suc g n).length ≤ j) : DF g seen next (O ++ [n]) p := by
  have hn : n < g.length := D.plt n (by simp)
  have hnO : n ∉ O := D.dis n (by simp)
  have hnp : n ∉ p := by
    have := D.pn
    rw [List.nodup_append] at this
    intro h
    exact this.2.2 n h n (by simp) rfl
  have hout : ∀ u ∈ O ++ [n], ∀ v, Edge g u v → v ∈ O ++ [n] ∨ v ∈ p := by
    intro u hu v e
    rcases List.mem_append.1 hu with hu | hu
    · rcases D.out u hu v e with h | h
      · exact Or.inl (List.mem_append_left _ h)
      · rcases List.mem_append.1 h with h | h
        · exact Or.inr h
        · exact Or.inl (List.mem_append_right _ h)
    · simp at hu; subst hu
      obtain ⟨i, hi, hil, hii⟩ := D.nx u hnO hn
      rw [hj] at hi
      obtain rfl : j = i := by have := Option.some.inj hi; omega
      obtain ⟨k, hk, ek⟩ := List.mem_iff_getElem.1 e.2.2
      rcases hii k (by omega) v (by rw [List.getElem?_eq_getElem hk, ek]) e.2.1 with h | h
      · exact Or.inl (List.mem_append_left _ h)
      · rcases List.mem_append.1 h with h | h
        · exact Or.inr h
        · exact Or.inl (List.mem_append_right _ h)
  refine ⟨D.sl, D.nl, ⟨?_, ?_, ?_⟩, ?_, ?_, ?_, ?_, ?_, hout, ?_⟩
  · refine List.nodup_append.2 ⟨D.fin.nod, by simp, ?_⟩
    intro a ha b hb e
    simp at hb; subst hb; subst e; exact hnO ha
  · intro x hx
    rcases List.mem_append.1 hx with h | h
    · exact D.fin.lt x h
    · simp at h; subst h; exact hn
  · intro i x hi u v hu e hv
    rcases Nat.lt_or_ge i O.length with h | h
    · rw [List.getElem?_append_left h] at hi
      rw [List.take_append_of_le_length (by omega)] at hu hv
      exact D.fin.back i x hi u v hu e hv
    · have hi' : i < (O ++ [n]).length := by
        rcases Nat.lt_or_ge i (O ++ [n]).length with h' | h'
        · exact h'
        · rw [List.getElem?_eq_none h'] at hi; cases hi
      simp at hi'
      obtain rfl : i = O.length := by omega
      rw [List.getElem?_append_right (Nat.le_refl _)] at hi
      simp at hi
      subst hi
      rw [List.take_of_length_le (by simp)] at hu hv
      rcases hout u hu v e with h | h
      · exact absurd h hv
      · exact chain_end (p ++ [n]) n D.plt D.chain (by simp) v (List.mem_append_left _ h)
  · have := D.pn
    rw [List.nodup_append] at this
    exact this.1
  · intro x hx hq
    rcases List.mem_append.1 hq with h | h
    · exact D.dis x (List.mem_append_left _ hx) h
    · simp at h; subst h; exact hnp hx
  · intro x hx
    rw [D.seen x hx]
    simp only [List.mem_append, List.mem_singleton]
    constructor
    · rintro (h | h | h)
      · exact Or.inl (Or.inl h)
      · exact Or.inr h
      · exact Or.inl (Or.inr h)
    · rintro ((h | h) | h)
      · exact Or.inl h
      · exact Or.inr (Or.inr h)
      · exact Or.inr (Or.inl h)
  · intro x hx; exact D.plt x (List.mem_append_left _ hx)
  · intro k a b ha hb
    have hk : k + 1 < p.length := by
      rcases Nat.lt_or_ge (k + 1) p.length with h' | h'
      · exact h'
      · rw [List.getElem?_eq_none h'] at hb; cases hb
    exact D.chain k a b (by rw [List.getElem?_append_left (by omega)]; exact ha) (by rw [List.getElem?_append_left hk]; exact hb)
  · intro x hx hxl
    obtain ⟨i, hi, hil, hii⟩ := D.nx x (fun h => hx (List.mem_append_left _ h)) hxl
    refine ⟨i, hi, hil, fun k hk c hc hcl => ?_⟩
    rcases hii k hk c hc hcl with h | h
    · exact Or.inl (List.mem_append_left _ h)
    · rcases List.mem_append.1 h with h | h
      · exact Or.inr h
      · exact Or.inl (List.mem_append_right _ h)

/-- at the end, all nodes have been left -/
theorem df_all {g : Gr} {seen : List Bool} {next : List Int} {O : List Nat} (D : DF g seen next O []) (h : ∀ x, x < g.length → seen[x]? = some true) : ∀ x, x < g.length → x ∈ O := by
  intro x hx
  have := (D.seen x hx).1 (h x hx)
  simpa using this
end Go.Proofs.Ythgfomjmkmkhkaa
