/-
  Mathematics for Reverse (the predecessors of a node, edge by edge) and for the least topological order. No world, no walk of a program.
-/
import Derived.Test.YthgfomjmkmkhkaaM3
namespace Go.Proofs.Ythgfomjmkmkhkaa
set_option linter.unusedVariables false

/-- the nodes below n that have an edge to b, ascending -/
def pre (g : Gr) (n b : Nat) : List Nat := (List.range n).filter (fun a => (suc g a).contains (b : Int))

/-- the same, with the first j successors of n too -/
def preJ (g : Gr) (n j b : Nat) : List Nat := pre g n b ++ if ((suc g n).take j).contains (b : Int) then [n] else []

theorem pre_zero (g : Gr) (b : Nat) : pre g 0 b = [] := rfl

theorem pre_succ (g : Gr) (n b : Nat) : pre g (n + 1) b = pre g n b ++ if (suc g n).contains (b : Int) then [n] else [] := by
  unfold pre
  rw [List.range_succ, List.filter_append]
  congr 1
  by_cases h : (suc g n).contains (b : Int) = true
  · rw [if_pos h]; simp only [List.filter_cons, h, List.filter_nil, if_true]
  · rw [if_neg h]; simp only [List.filter_cons, h, List.filter_nil]; simp

theorem preJ_zero (g : Gr) (n b : Nat) : preJ g n 0 b = pre g n b := by unfold preJ; simp

theorem preJ_end {g : Gr} {n j b : Nat} (h : (suc g n).length ≤ j) : preJ g n j b = pre g (n + 1) b := by
  unfold preJ; rw [List.take_of_length_le h, pre_succ]

theorem pre_lt {g : Gr} {n b x : Nat} (h : x ∈ pre g n b) : x < n := by
  unfold pre at h; rw [List.mem_filter] at h; exact List.mem_range.1 h.1

theorem preJ_last {g : Gr} {n j b : Nat} : (preJ g n j b).getLast? = some n ↔ (b : Int) ∈ (suc g n).take j := by
  unfold preJ
  by_cases h : ((suc g n).take j).contains (b : Int) = true
  · rw [if_pos h]
    have : (b : Int) ∈ (suc g n).take j := by simpa using h
    simp [this]
  · rw [if_neg h, List.append_nil]
    have hn : ¬ (b : Int) ∈ (suc g n).take j := by simpa using h
    refine ⟨fun e => ?_, fun e => absurd e hn⟩
    have := pre_lt (List.mem_of_getLast? e)
    omega

theorem take_succ_mem {l : List Int} {j : Nat} (h : j < l.length) {x : Int} : x ∈ l.take (j + 1) ↔ x ∈ l.take j ∨ x = l[j] := by
  rw [List.take_succ_eq_append_getElem h, List.mem_append, List.mem_singleton]

theorem preJ_same {g : Gr} {n j b : Nat} (h : j < (suc g n).length) (hb : (b : Int) ≠ (suc g n)[j] ∨ (b : Int) ∈ (suc g n).take j) : preJ g n (j + 1) b = preJ g n j b := by
  unfold preJ
  congr 1
  have : ((suc g n).take (j + 1)).contains (b : Int) = ((suc g n).take j).contains (b : Int) := by
    rw [Bool.eq_iff_iff]
    simp only [List.contains_iff_mem]
    rw [take_succ_mem h]
    constructor
    · rintro (h1 | h1)
      · exact h1
      · rcases hb with hb | hb
        · exact absurd h1 hb
        · exact hb
    · exact Or.inl
  rw [this]

theorem preJ_new {g : Gr} {n j b : Nat} (h : j < (suc g n).length) (hb : (b : Int) = (suc g n)[j]) (hn : ¬ (b : Int) ∈ (suc g n).take j) : preJ g n (j + 1) b = preJ g n j b ++ [n] := by
  unfold preJ
  have h1 : ((suc g n).take (j + 1)).contains (b : Int) = true := by rw [List.contains_iff_mem, take_succ_mem h]; exact Or.inr hb
  have h2 : ¬ ((suc g n).take j).contains (b : Int) = true := by rw [List.contains_iff_mem]; exact hn
  rw [if_pos h1, if_neg h2, List.append_nil]

theorem mem_pre {g : Gr} {n b x : Nat} : x ∈ pre g n b ↔ x < n ∧ (b : Int) ∈ suc g x := by
  unfold pre; rw [List.mem_filter, List.mem_range]; simp

/-- the graph with all edges reversed -/
def rev (g : Gr) : Gr := (List.range g.length).map fun b => (pre g g.length b).map (fun a : Nat => (a : Int))

theorem rev_len (g : Gr) : (rev g).length = g.length := by simp [rev]

theorem suc_rev {g : Gr} {b : Nat} (h : b < g.length) : suc (rev g) b = (pre g g.length b).map (fun a : Nat => (a : Int)) := by
  unfold suc rev; rw [List.getElem?_map, List.getElem?_range h]; rfl

theorem edge_rev {g : Gr} {a b : Nat} : Edge (rev g) b a ↔ Edge g a b := by
  unfold Edge
  rw [rev_len]
  constructor
  · rintro ⟨h1, h2, h3⟩
    rw [suc_rev h1, List.mem_map] at h3
    obtain ⟨x, hx, e⟩ := h3
    obtain rfl : x = a := by omega
    exact ⟨h2, h1, (mem_pre.1 hx).2⟩
  · rintro ⟨h1, h2, h3⟩
    refine ⟨h2, h1, ?_⟩
    rw [suc_rev h2, List.mem_map]
    exact ⟨a, mem_pre.2 ⟨h1, h3⟩, rfl⟩

theorem walk_rev {g : Gr} {a b n : Nat} (h : Walk g a b n) : Walk (rev g) b a n := by
  induction h with
  | nil h => exact Walk.nil _ (by rw [rev_len]; exact h)
  | snoc b c n w e ih => exact Walk.cons (edge_rev.2 e) ih

theorem walk_of_rev {g : Gr} {a b n : Nat} (h : Walk (rev g) b a n) : Walk g a b n := by
  induction h with
  | nil h => exact Walk.nil _ (by rw [rev_len] at h; exact h)
  | snoc b c n w e ih => exact Walk.cons (edge_rev.1 e) ih

theorem far_rev {g : Gr} {a b n : Nat} : Far (rev g) b a n ↔ Far g a b n :=
  ⟨fun ⟨h, k⟩ => ⟨walk_of_rev h, fun m hm w => k m hm (walk_rev w)⟩, fun ⟨h, k⟩ => ⟨walk_rev h, fun m hm w => k m hm (walk_of_rev w)⟩⟩

theorem dist_rev (g : Gr) (a b : Nat) : dist (rev g) b a = dist g a b := by
  by_cases hx : ∃ d, Far g a b d
  · obtain ⟨d, hd⟩ := hx
    rw [dist_far hd, dist_far (far_rev.2 hd)]
  · rw [dist_none (fun d hd => hx ⟨d, hd⟩), dist_none (fun d hd => hx ⟨d, far_rev.1 hd⟩)]

/-- reversing three times is reversing once -/
theorem pre_rev {g : Gr} {b : Nat} (h : b < g.length) : pre (rev g) (rev g).length b = (List.range g.length).filter (fun a : Nat => (suc g b).contains (a : Int)) := by
  unfold pre
  rw [rev_len]
  refine List.filter_congr fun a ha => ?_
  have ha' := List.mem_range.1 ha
  rw [Bool.eq_iff_iff, List.contains_iff_mem, List.contains_iff_mem]
  have := edge_rev (g := g) (a := b) (b := a)
  unfold Edge at this
  rw [rev_len] at this
  constructor
  · intro hm; exact (this.1 ⟨ha', h, hm⟩).2.2
  · intro hm; exact (this.2 ⟨h, ha', hm⟩).2.2

theorem rev3 (g : Gr) : rev (rev (rev g)) = rev g := by
  refine List.ext_getElem? fun b => ?_
  rcases Nat.lt_or_ge b g.length with h | h
  · have e1 : (rev (rev (rev g)))[b]? = some ((pre (rev (rev g)) (rev (rev g)).length b).map (fun a : Nat => (a : Int))) := by
      unfold rev; rw [List.getElem?_map, List.getElem?_range (by simp; exact h)]; rfl
    have e2 : (rev g)[b]? = some ((pre g g.length b).map (fun a : Nat => (a : Int))) := by
      unfold rev; rw [List.getElem?_map, List.getElem?_range h]; rfl
    rw [e1, e2, pre_rev (by rw [rev_len]; exact h), rev_len]
    congr 2
    unfold pre
    refine List.filter_congr fun a ha => ?_
    have ha' := List.mem_range.1 ha
    rw [Bool.eq_iff_iff, List.contains_iff_mem, List.contains_iff_mem]
    have := edge_rev (g := g) (a := a) (b := b)
    unfold Edge at this
    rw [rev_len] at this
    constructor
    · intro hm; exact (this.1 ⟨h, ha', hm⟩).2.2
    · intro hm; exact (this.2 ⟨ha', h, hm⟩).2.2
  · rw [List.getElem?_eq_none (by rw [rev_len, rev_len, rev_len]; exact h), List.getElem?_eq_none (by rw [rev_len]; exact h)]

/-- a node that may stand next in an order: all that lead to it stand already -/
def freeB (g : Gr) (done : List Nat) (b : Nat) : Bool := !done.contains b && (List.range g.length).all (fun a => !(suc g a).contains (b : Int) || done.contains a)
/-- the least node that may stand next -/
def nxt (g : Gr) (done : List Nat) : Option Nat := (List.range g.length).find? (freeB g done)
/-- the order, and whether it holds all nodes -/
def topo (g : Gr) : Nat → List Nat → List Nat
  | 0, done => done
  | k + 1, done => match nxt g done with
    | none => done
    | some b => topo g k (done ++ [b])

theorem nxt_some {g : Gr} {done : List Nat} {b : Nat} : nxt g done = some b ↔ b < g.length ∧ freeB g done b = true ∧ ∀ c, c < b → freeB g done c = false := by
  unfold nxt
  rw [List.find?_range_eq_some]
  constructor
  · rintro ⟨h1, h2, h3⟩; exact ⟨by simpa using h2, h1, fun c hc => by simpa using h3 c hc⟩
  · rintro ⟨h1, h2, h3⟩; exact ⟨h2, by simpa using h1, fun c hc => by simpa using h3 c hc⟩

theorem nxt_none {g : Gr} {done : List Nat} : nxt g done = none ↔ ∀ c, c < g.length → freeB g done c = false := by
  unfold nxt; rw [List.find?_eq_none]; simp
end Go.Proofs.Ythgfomjmkmkhkaa
