/-
  Mathematics of the components: against the order in which a depth-first search leaves the nodes, what leads to a node and has no component yet is in its component. No world, no walk of a program.
-/
import Derived.Test.YthgfomjmkmkhkaaM5
namespace Go.Proofs.Ythgfomjmkmkhkaa
set_option linter.unusedSimpArgs false
set_option linter.unusedVariables false

/-- a number that holds and is greatest below a bound -/
theorem greatest (P : Nat → Prop) : ∀ (n : Nat), (∃ k, k < n ∧ P k) → ∃ k, k < n ∧ P k ∧ ∀ l, k < l → l < n → ¬ P l
  | 0, h => by obtain ⟨k, hk, _⟩ := h; omega
  | n + 1, h => by
    by_cases hn : P n
    · exact ⟨n, by omega, hn, fun l h1 h2 => by omega⟩
    · obtain ⟨k, hk, hp⟩ := h
      have hkn : k < n := by
        rcases Nat.lt_or_ge k n with h | h
        · exact h
        · obtain rfl : k = n := by omega
          exact absurd hp hn
      obtain ⟨l, h1, h2, h3⟩ := greatest P n ⟨k, hkn, hp⟩
      refine ⟨l, by omega, h2, fun m h4 h5 => ?_⟩
      rcases Nat.lt_or_ge m n with h | h
      · exact h3 m h4 h
      · obtain rfl : m = n := by omega
        exact hn

theorem mem_take {α : Type} {l : List α} {n : Nat} {x : α} : x ∈ l.take n ↔ ∃ i, i < n ∧ l[i]? = some x := by
  rw [List.mem_iff_getElem?]
  constructor
  · rintro ⟨i, hi⟩
    rw [List.getElem?_take] at hi
    split at hi
    · exact ⟨i, by assumption, hi⟩
    · cases hi
  · rintro ⟨i, h, hi⟩
    exact ⟨i, by rw [List.getElem?_take, if_pos h]; exact hi⟩

theorem nod_at {l : List Nat} (h : l.Nodup) {i j x : Nat} (hi : l[i]? = some x) (hj : l[j]? = some x) : i = j := by
  have hil : i < l.length := by
    rcases Nat.lt_or_ge i l.length with h' | h'
    · exact h'
    · rw [List.getElem?_eq_none h'] at hi; cases hi
  exact (List.getElem?_inj hil h).1 (hi.trans hj.symm)

/-- the key: let U be a set that holds with a node its component, and n the node of U that was left last; what is in U and leads to n is in n's component -/
theorem fin_key {g : Gr} {O : List Nat} (F : Fin g O) (all : ∀ x, x < g.length → x ∈ O) (U : Nat → Prop) (hU : ∀ a b, U a → Mut g a b → U b) {i n : Nat} (hn : O[i]? = some n) (hlast : ∀ j x, i < j → O[j]? = some x → ¬ U x)
    {p : Nat} (hp : U p) (hpn : To g p n) : Mut g p n := by
  have hpl := hpn.lt.1
  apply Classical.byContradiction
  intro hno
  have hex : ∃ k, k < i ∧ ∃ x, O[k]? = some x ∧ Mut g p x := by
    obtain ⟨k, hk⟩ := List.mem_iff_getElem?.1 (all p hpl)
    refine ⟨k, ?_, p, hk, Mut.refl g p⟩
    rcases Nat.lt_trichotomy k i with h | h | h
    · exact h
    · subst h
      rw [hn] at hk
      obtain rfl := Option.some.inj hk
      exact absurd (Mut.refl g _) hno
    · exact absurd hp (hlast k p h hk)
  obtain ⟨k, hk, ⟨x, hx, hpx⟩, hgr⟩ := greatest (fun k => ∃ x, O[k]? = some x ∧ Mut g p x) i hex
  have hxp := ((mut_to hpl).1 hpx).2
  obtain ⟨m, w⟩ := hxp.trans hpn
  obtain ⟨u, v, h1, h2, h3, h4, h5⟩ := leave w (fun z => z ∈ O.take (k + 1)) (mem_take.2 ⟨k, by omega, hx⟩) (by
    intro h
    obtain ⟨j, hj, e⟩ := mem_take.1 h
    have := nod_at F.nod hn e
    omega)
  have hvx := F.back k x hx u v h1 h3 h2
  have hxv : To g x v := h4.trans (To.edge h3)
  have hmv : Mut g p v := hpx.trans ((mut_to hvx.lt.2).2 ⟨hxv, hvx⟩)
  obtain ⟨l, hl⟩ := List.mem_iff_getElem?.1 (all v hvx.lt.1)
  have hlk : k < l := by
    rcases Nat.lt_or_ge k l with h | h
    · exact h
    · exact absurd (mem_take.2 ⟨l, by omega, hl⟩) h2
  rcases Nat.lt_trichotomy l i with h | h | h
  · exact hgr l hlk h ⟨v, hl, hmv⟩
  · subst h
    rw [hn] at hl
    obtain rfl := Option.some.inj hl
    exact hno hmv
  · exact hlast l v h hl (hU p v hp hmv)

/-- Components on its way: the first j nodes of L have their component, and with a node its whole component has it -/
structure KC (g : Gr) (L : List Nat) (D : List Int) (j : Nat) : Prop where
  len : D.length = g.length
  done : ∀ i x, i < j → L[i]? = some x → ∃ v, D[x]? = some v ∧ 0 ≤ v
  cmp : ∀ a b va, D[a]? = some va → 0 ≤ va → Mut g a b → ∃ v, D[b]? = some v ∧ 0 ≤ v
  val : ∀ a v, D[a]? = some v → v = -1 ∨ ∃ m : Nat, v = (m : Int) ∧ LeastOf g a m

theorem kc_start (g : Gr) (L : List Nat) : KC g L (List.replicate g.length (-1)) 0 where
  len := by simp
  done := by intro i x hi; omega
  cmp := by
    intro a b va h h0
    rw [List.getElem?_replicate] at h
    split at h
    · have := Option.some.inj h; omega
    · cases h
  val := by
    intro a v h
    rw [List.getElem?_replicate] at h
    split at h
    · exact Or.inl (Option.some.inj h).symm
    · cases h

theorem kc_skip {g : Gr} {L : List Nat} {D : List Int} {j n : Nat} {v : Int} (K : KC g L D j) (hn : L[j]? = some n) (hv : D[n]? = some v) (h : 0 ≤ v) : KC g L D (j + 1) where
  len := K.len
  done := by
    intro i x hi hx
    rcases Nat.lt_or_ge i j with h' | h'
    · exact K.done i x h' hx
    · obtain rfl : i = j := by omega
      rw [hn] at hx
      obtain rfl := Option.some.inj hx
      exact ⟨v, hv, h⟩
  cmp := K.cmp
  val := K.val

/-- collect on its way: the members found, of which the first i have been examined -/
structure CO (g : Gr) (n : Nat) (D0 D : List Int) (M : List Nat) (i : Nat) : Prop where
  len : D.length = g.length
  le : i ≤ M.length
  nod : M.Nodup
  mem : n ∈ M
  frm : ∀ x ∈ M, x < g.length ∧ To g x n ∧ ∃ v, D0[x]? = some v ∧ v < 0
  new : ∀ x ∈ M, D[x]? = some (n : Int)
  old : ∀ x, x ∉ M → D[x]? = D0[x]?
  cls : ∀ k x, k < i → M[k]? = some x → ∀ p v, Edge g p x → D0[p]? = some v → v < 0 → p ∈ M

theorem co_start {g : Gr} {n : Nat} {D0 : List Int} {v : Int} (hl : D0.length = g.length) (hv : D0[n]? = some v) (h : v < 0) : CO g n D0 (D0.set n (n : Int)) [n] 0 := by
  have hn : n < D0.length := by
    rcases Nat.lt_or_ge n D0.length with h' | h'
    · exact h'
    · rw [List.getElem?_eq_none h'] at hv; cases hv
  refine ⟨by simp [hl], by simp, by simp, by simp, ?_, ?_, ?_, ?_⟩
  · intro x hx
    simp at hx; subst hx
    exact ⟨by omega, To.refl (by omega), v, hv, h⟩
  · intro x hx
    simp at hx; subst hx
    rw [List.getElem?_set_self hn]
  · intro x hx
    simp at hx
    rw [List.getElem?_set_ne (Ne.symm hx)]
  · intro k x hk; omega

theorem CO.room {g : Gr} {n : Nat} {D0 D : List Int} {M : List Nat} {i : Nat} (C : CO g n D0 D M i) : M.length ≤ g.length := pig g.length M C.nod (fun x hx => (C.frm x hx).1)

theorem CO.neg {g : Gr} {n : Nat} {D0 D : List Int} {M : List Nat} {i : Nat} (C : CO g n D0 D M i) {x : Nat} {v : Int} (hv : D[x]? = some v) (h : v < 0) : x ∉ M ∧ D0[x]? = some v := by
  have hx : x ∉ M := by
    intro hx
    rw [C.new x hx] at hv
    have := Option.some.inj hv
    omega
  exact ⟨hx, by rw [← C.old x hx]; exact hv⟩

theorem co_add {g : Gr} {n : Nat} {D0 D : List Int} {M : List Nat} {i m x : Nat} {v : Int} (C : CO g n D0 D M i) (hm : m ∈ M) (e : Edge g x m) (hv : D[x]? = some v) (h : v < 0) : CO g n D0 (D.set x (n : Int)) (M ++ [x]) i := by
  obtain ⟨hx, h0⟩ := C.neg hv h
  have hxl : x < D.length := by rw [C.len]; exact e.1
  refine ⟨by simp [C.len], by have := C.le; simp; omega, ?_, List.mem_append_left _ C.mem, ?_, ?_, ?_, ?_⟩
  · refine List.nodup_append.2 ⟨C.nod, by simp, ?_⟩
    intro a ha b hb e9
    simp at hb; subst hb; subst e9; exact hx ha
  · intro y hy
    rcases List.mem_append.1 hy with hy | hy
    · exact C.frm y hy
    · simp at hy; subst hy
      exact ⟨e.1, (To.edge e).trans (C.frm m hm).2.1, v, h0, h⟩
  · intro y hy
    by_cases hxy : x = y
    · subst hxy; rw [List.getElem?_set_self hxl]
    · rw [List.getElem?_set_ne hxy]
      rcases List.mem_append.1 hy with hy | hy
      · exact C.new y hy
      · simp at hy; exact absurd hy.symm hxy
  · intro y hy
    have hxy : x ≠ y := by intro e; subst e; exact hy (by simp)
    rw [List.getElem?_set_ne hxy]
    exact C.old y (fun h => hy (List.mem_append_left _ h))
  · intro k y hk hy p u e hu hu0
    have hky : M[k]? = some y := by
      have := C.le
      rw [List.getElem?_append_left (by omega)] at hy; exact hy
    exact List.mem_append_left _ (C.cls k y hk hky p u e hu hu0)

theorem co_next {g : Gr} {n : Nat} {D0 D : List Int} {M : List Nat} {i m : Nat} (C : CO g n D0 D M i) (hm : M[i]? = some m) (h : ∀ p, Edge g p m → ∃ v, D[p]? = some v ∧ 0 ≤ v) : CO g n D0 D M (i + 1) := by
  have hil : i < M.length := by
    rcases Nat.lt_or_ge i M.length with h' | h'
    · exact h'
    · rw [List.getElem?_eq_none h'] at hm; cases hm
  refine ⟨C.len, by omega, C.nod, C.mem, C.frm, C.new, C.old, ?_⟩
  intro k x hk hx p v e hv hv0
  rcases Nat.lt_or_ge k i with h' | h'
  · exact C.cls k x h' hx p v e hv hv0
  · obtain rfl : k = i := by omega
    rw [hm] at hx
    obtain rfl := Option.some.inj hx
    obtain ⟨u, hu, hu0⟩ := h p e
    apply Classical.byContradiction
    intro hp
    rw [C.old p hp, hv] at hu
    have := Option.some.inj hu
    omega

/-- what collect gives in the end -/
structure CM (g : Gr) (n : Nat) (D0 D : List Int) (M : List Nat) : Prop where
  len : D.length = g.length
  nod : M.Nodup
  mem : n ∈ M
  frm : ∀ x ∈ M, x < g.length ∧ To g x n ∧ ∃ v, D0[x]? = some v ∧ v < 0
  new : ∀ x ∈ M, D[x]? = some (n : Int)
  old : ∀ x, x ∉ M → D[x]? = D0[x]?
  cls : ∀ x ∈ M, ∀ p v, Edge g p x → D0[p]? = some v → v < 0 → p ∈ M

theorem co_end {g : Gr} {n : Nat} {D0 D : List Int} {M : List Nat} (C : CO g n D0 D M M.length) : CM g n D0 D M :=
  ⟨C.len, C.nod, C.mem, C.frm, C.new, C.old, fun x hx p v e hv hv0 => by
    obtain ⟨k, hk, ek⟩ := List.mem_iff_getElem.1 hx
    exact C.cls k x hk (by rw [List.getElem?_eq_getElem hk, ek]) p v e hv hv0⟩

/-- what collect gives is the component -/
theorem cm_comp {g : Gr} {O : List Nat} {D0 D : List Int} {j n : Nat} {M : List Nat} (F : Fin g O) (all : ∀ x, x < g.length → x ∈ O) (K : KC g O.reverse D0 j) (hn : O.reverse[j]? = some n) (C : CM g n D0 D M) (x : Nat) : x ∈ M ↔ Mut g n x := by
  have hnl : n < g.length := (C.frm n C.mem).1
  have hU : ∀ a b, (∃ v, D0[a]? = some v ∧ v < 0) → Mut g a b → (∃ v, D0[b]? = some v ∧ v < 0) := by
    rintro a b ⟨v, hv, hv0⟩ hab
    have hal : a < g.length := by
      rw [← K.len]
      rcases Nat.lt_or_ge a D0.length with h' | h'
      · exact h'
      · rw [List.getElem?_eq_none h'] at hv; cases hv
    have hbl := ((mut_to hal).1 hab).1.lt.2
    obtain ⟨u, hu⟩ : ∃ u, D0[b]? = some u := ⟨_, List.getElem?_eq_getElem (by rw [K.len]; exact hbl)⟩
    refine ⟨u, hu, ?_⟩
    rcases (show u < 0 ∨ 0 ≤ u by omega) with h | h
    · exact h
    · obtain ⟨v', hv', h0⟩ := K.cmp b a u hu h hab.symm
      rw [hv] at hv'
      have := Option.some.inj hv'
      omega
  have hjl : j < O.reverse.length := by
    rcases Nat.lt_or_ge j O.reverse.length with h' | h'
    · exact h'
    · rw [List.getElem?_eq_none h'] at hn; cases hn
  have hjO : j < O.length := by simpa using hjl
  constructor
  · intro hx
    obtain ⟨h1, h2, h3⟩ := C.frm x hx
    refine (fin_key F all (fun z => ∃ v, D0[z]? = some v ∧ v < 0) hU (i := O.length - 1 - j) (n := n) ?_ ?_ h3 h2).symm
    · rw [List.getElem?_reverse hjO] at hn; exact hn
    · rintro k y hk hy ⟨v, hv, hv0⟩
      have hkl : k < O.length := by
        rcases Nat.lt_or_ge k O.length with h' | h'
        · exact h'
        · rw [List.getElem?_eq_none h'] at hy; cases hy
      obtain ⟨u, hu, hu0⟩ := K.done (O.length - 1 - k) y (by omega) (by
        rw [List.getElem?_reverse (by omega)]
        rw [show O.length - 1 - (O.length - 1 - k) = k by omega]
        exact hy)
      rw [hv] at hu
      have := Option.some.inj hu
      omega
  · intro hm
    have h1 := (mut_to hnl).1 hm
    obtain ⟨m, w⟩ := h1.2
    -- against the walk
    have key : ∀ (m : Nat) (y : Nat), Walk g y n m → To g n y → y ∈ M := by
      intro m
      induction m with
      | zero => intro y w _; rw [w.zero]; exact C.mem
      | succ m ih =>
        intro y w hny
        obtain ⟨z, e, w'⟩ := w.first
        have hz := ih z w' (hny.trans (To.edge e))
        have hmy : Mut g n y := (mut_to hnl).2 ⟨hny, ⟨_, w⟩⟩
        obtain ⟨v, hv, hv0⟩ := hU n y (C.frm n C.mem).2.2 hmy
        exact C.cls z hz y v e hv hv0
    exact key m x w h1.1

/-- the members on their way to the least of them -/
structure KW (g : Gr) (D D' : List Int) (M : List Nat) (f k : Nat) : Prop where
  len : D'.length = g.length
  new : ∀ i x, i < k → M[i]? = some x → D'[x]? = some (f : Int)
  rest : ∀ x, x ∉ M → D'[x]? = D[x]?

theorem kw_start {g : Gr} {n : Nat} {D0 D : List Int} {M : List Nat} (C : CM g n D0 D M) (f : Nat) : KW g D D M f 0 :=
  ⟨C.len, by intro i x hi; omega, fun x hx => rfl⟩

theorem kw_step {g : Gr} {D D' : List Int} {M : List Nat} {f k x : Nat} (W : KW g D D' M f k) (hx : M[k]? = some x) (hl : x < g.length) : KW g D (D'.set x (f : Int)) M f (k + 1) := by
  refine ⟨by simp [W.len], ?_, ?_⟩
  · intro i y hi hy
    by_cases hxy : x = y
    · subst hxy; rw [List.getElem?_set_self (by rw [W.len]; exact hl)]
    · rw [List.getElem?_set_ne hxy]
      rcases Nat.lt_or_ge i k with h | h
      · exact W.new i y h hy
      · obtain rfl : i = k := by omega
        rw [hx] at hy
        exact absurd (Option.some.inj hy) hxy
  · intro y hy
    have hxy : x ≠ y := by intro e; subst e; exact hy (List.mem_of_getElem? hx)
    rw [List.getElem?_set_ne hxy]; exact W.rest y hy

theorem kc_step {g : Gr} {O : List Nat} {D0 D D' : List Int} {j n f : Nat} {M : List Nat} (F : Fin g O) (all : ∀ x, x < g.length → x ∈ O) (K : KC g O.reverse D0 j) (hn : O.reverse[j]? = some n) (C : CM g n D0 D M) (hf : f ∈ M) (hmin : ∀ x ∈ M, f ≤ x)
    (W : KW g D D' M f M.length) : KC g O.reverse D' (j + 1) := by
  have HM := cm_comp F all K hn C
  have hW : ∀ x ∈ M, D'[x]? = some (f : Int) := fun x hx => by
    obtain ⟨k, hk, ek⟩ := List.mem_iff_getElem.1 hx
    exact W.new k x hk (by rw [List.getElem?_eq_getElem hk, ek])
  have hO : ∀ x, x ∉ M → D'[x]? = D0[x]? := fun x hx => by rw [W.rest x hx, C.old x hx]
  refine ⟨W.len, ?_, ?_, ?_⟩
  · intro i x hi hx
    by_cases hxM : x ∈ M
    · exact ⟨f, hW x hxM, by omega⟩
    · rw [hO x hxM]
      rcases Nat.lt_or_ge i j with h | h
      · exact K.done i x h hx
      · obtain rfl : i = j := by omega
        rw [hn] at hx
        obtain rfl := Option.some.inj hx
        exact absurd C.mem hxM
  · intro a b va ha h0 hab
    by_cases hbM : b ∈ M
    · exact ⟨f, hW b hbM, by omega⟩
    · have haM : a ∉ M := fun h => hbM ((HM b).2 (((HM a).1 h).trans hab))
      rw [hO b hbM]
      rw [hO a haM] at ha
      exact K.cmp a b va ha h0 hab
  · intro a v ha
    by_cases haM : a ∈ M
    · rw [hW a haM] at ha
      refine Or.inr ⟨f, (Option.some.inj ha).symm, ?_⟩
      have h1 := (HM a).1 haM
      have h2 := (HM f).1 hf
      refine ⟨h1.symm.trans h2, hmin a haM, fun b hb h => ?_⟩
      have := hmin b ((HM b).2 (h1.trans h))
      omega
    · rw [hO a haM] at ha
      exact K.val a v ha

/-- the components of a graph: each node's least node -/
noncomputable def comps (g : Gr) : List Int := (List.range g.length).map fun a => open Classical in if h : ∃ m : Nat, LeastOf g a m then ((Classical.choose h : Nat) : Int) else -1

theorem comps_len (g : Gr) : (comps g).length = g.length := by simp [comps]
theorem comps_at {g : Gr} {a m : Nat} (ha : a < g.length) (h : LeastOf g a m) : (comps g)[a]? = some (m : Int) := by
  unfold comps
  rw [List.getElem?_map, List.getElem?_range ha]
  have hex : ∃ m : Nat, LeastOf g a m := ⟨m, h⟩
  simp only [Option.map_some, dif_pos hex]
  rw [LeastOf.unique (Classical.choose_spec hex) h]

theorem eq_comps {g : Gr} {D : List Int} (hl : D.length = g.length) (h : ∀ a, a < g.length → ∃ m : Nat, D[a]? = some (m : Int) ∧ LeastOf g a m) : D = comps g := by
  refine List.ext_getElem? fun a => ?_
  rcases Nat.lt_or_ge a g.length with ha | ha
  · obtain ⟨m, h1, h2⟩ := h a ha
    rw [h1, comps_at ha h2]
  · rw [List.getElem?_eq_none (by omega), List.getElem?_eq_none (by rw [comps_len]; exact ha)]

theorem kc_end {g : Gr} {O : List Nat} {D : List Int} (all : ∀ x, x < g.length → x ∈ O) (K : KC g O.reverse D O.length) : D = comps g := by
  refine eq_comps K.len fun a ha => ?_
  obtain ⟨i, hi⟩ := List.mem_iff_getElem?.1 (List.mem_reverse.2 (all a ha))
  have hil : i < O.length := by
    rcases Nat.lt_or_ge i O.length with h' | h'
    · exact h'
    · rw [List.getElem?_eq_none (by simpa using h')] at hi; cases hi
  obtain ⟨v, hv, h0⟩ := K.done i a hil hi
  rcases K.val a v hv with h | ⟨m, h1, h2⟩
  · omega
  · exact ⟨m, by rw [hv, h1], h2⟩

/-- every node has a least node of its component -/
theorem least_ex {g : Gr} {a : Nat} : ∃ m, LeastOf g a m := by
  have key : ∀ (k b : Nat), b ≤ k → Mut g a b → ∃ m, Mut g a m ∧ ∀ c, c < m → ¬ Mut g a c := by
    intro k
    induction k with
    | zero => intro b hb h; exact ⟨b, h, fun c hc => by omega⟩
    | succ k ih =>
      intro b hb h
      by_cases hex : ∃ c, c < b ∧ Mut g a c
      · obtain ⟨c, h1, h2⟩ := hex
        exact ih c (by omega) h2
      · exact ⟨b, h, fun c hc h' => hex ⟨c, hc, h'⟩⟩
  obtain ⟨m, h1, h2⟩ := key a a (Nat.le_refl _) (Mut.refl g a)
  refine ⟨m, h1, ?_, h2⟩
  rcases Nat.lt_or_ge a m with h | h
  · exact absurd (Mut.refl g a) (h2 a h)
  · exact h

theorem comps_get {g : Gr} {a : Nat} (ha : a < g.length) : ∃ m : Nat, (comps g)[a]? = some (m : Int) ∧ LeastOf g a m := by
  obtain ⟨m, h⟩ := least_ex (g := g) (a := a)
  exact ⟨m, comps_at ha h, h⟩
end Go.Proofs.Ythgfomjmkmkhkaa
