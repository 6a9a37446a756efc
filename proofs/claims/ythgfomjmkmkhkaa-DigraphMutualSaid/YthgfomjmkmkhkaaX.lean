/-
  Distances of the program: its search by a queue, whose closure visit writes into the row of distances and appends to the queue. Conditions: the slice reads as a graph of at most 1000 nodes with at most 1000 successors each.
-/
import Derived.Test.YthgfomjmkmkhkaaS
namespace Go.Proofs.Ythgfomjmkmkhkaa
open Go.RowKit
set_option linter.unusedSimpArgs false
set_option linter.unusedVariables false
def ints (F : List Nat) : List Int := F.map (fun x : Nat => (x : Int))
/-- what stands in the boxes of Distances: the graph, the row of distances, the queue -/
structure DS (w wr : World) (A : Option Addr) (c n : Nat) (D : List Int) (F : List Nat) : Prop where
  below : Below w.heap.size w wr
  size : w.heap.size + 4 ≤ wr.heap.size
  g0 : wr.cell? ⟨w.heap.size, 0, none⟩ = some (.slice A n c)
  g2 : wr.cell? ⟨w.heap.size + 1 + 1, 0, none⟩ = some (.slice (some ⟨w.heap.size + 1, 0, none⟩) n n)
  row : IRow wr (w.heap.size + 1) n D
  fnd : ∃ A1 c1, wr.cell? ⟨w.heap.size + 1 + 1 + 1, 0, none⟩ = some (.slice A1 F.length c1) ∧ wr.ownsRow (w.heap.size + 4) 3 1 (.slice A1 F.length c1) F.length (icells (ints F))
  frz : wr.frozen? ⟨w.heap.size + 1 + 1 + 1, 0, none⟩ = false
theorem DS.keep {w wr w' : World} {A : Option Addr} {c n : Nat} {D : List Int} {F : List Nat} (S : DS w wr A c n D F) (hb : Below wr.heap.size wr w') : DS w w' A c n D F := by
  have hs := S.size
  obtain ⟨A1, c1, h1, h2⟩ := S.fnd
  exact ⟨S.below.trans (hb.mono S.below.size), Nat.le_trans hs hb.size, by rw [hb.cell (show w.heap.size < wr.heap.size by omega)]; exact S.g0, by rw [hb.cell (show w.heap.size + 1 + 1 < wr.heap.size by omega)]; exact S.g2, ir_below S.row hb,
    ⟨A1, c1, by rw [hb.cell (show w.heap.size + 1 + 1 + 1 < wr.heap.size by omega)]; exact h1, own_below h2 hb⟩, by rw [hb.frozen (show w.heap.size + 1 + 1 + 1 < wr.heap.size by omega)]; exact S.frz⟩
theorem DS.set {w wr : World} {A : Option Addr} {c n : Nat} {D : List Int} {F : List Nat} (S : DS w wr A c n D F) (x : Nat) (d : Int) : DS w (wr.setCell ⟨w.heap.size + 1, x, none⟩ (.int .i64 d)) A c n (D.set x d) F := by
  have hs := S.size
  obtain ⟨A1, c1, h1, h2⟩ := S.fnd
  have hk : ∀ k, k ≠ w.heap.size + 1 → (wr.setCell ⟨w.heap.size + 1, x, none⟩ (.int .i64 d)).heap[k]? = wr.heap[k]? := fun k hk => Below.heap_setCell _ _ _ _ hk
  exact ⟨S.below.setCell (by show w.heap.size ≤ w.heap.size + 1; omega) _, by simp [World.setCell]; exact hs, by rw [World.cell?_of_block (w := wr) (hk w.heap.size (by omega))]; exact S.g0, by rw [World.cell?_of_block (w := wr) (hk (w.heap.size + 1 + 1) (by omega))]; exact S.g2, ir_set S.row x d,
    ⟨A1, c1, by rw [World.cell?_of_block (w := wr) (hk (w.heap.size + 1 + 1 + 1) (by omega))]; exact h1, ownsRow_setCell_below h2 (by show w.heap.size + 1 < w.heap.size + 4; omega) _⟩, by rw [World.frozen?_of_block (w := wr) (hk (w.heap.size + 1 + 1 + 1) (by omega))]; exact S.frz⟩
theorem ir_block {w w' : World} {g n : Nat} {xs : List Int} (h : IRow w g n xs) (hb : w'.heap[g]? = w.heap[g]?) : IRow w' g n xs := by
  refine ⟨h.1, ?_⟩
  rcases h.2 with h' | ⟨g', cap, cur, hv, hbg, hg, r⟩
  · exact .inl h'
  · have e : g' = g := by injection hv with e1; injection e1 with e1; injection e1 with e1; exact e1.symm
    subst e
    exact .inr ⟨_, cap, cur, hv, hbg, by rw [hb]; exact hg, r⟩
theorem own_vis {w : World} {B : Nat} {e : TypeId} {k : Nat} {v : Value} {n : Nat} {xs : List Value} (h : w.ownsRow B e k v n xs) : ∃ A c, v = .slice A n c := by
  have h1 := h.1
  rcases h.2 with ⟨hv, h0⟩ | ⟨g', cap, cur, hv, _⟩
  · exact ⟨none, 0, by rw [hv]; first | rfl | (simp at h0; subst h0; rfl) | (congr 1; omega) | skip⟩
  · exact ⟨_, _, hv⟩
theorem DS.app {w wr w' : World} {A : Option Addr} {c n : Nat} {D : List Int} {F : List Nat} (S : DS w wr A c n D F) (x : Nat) {A1 : Option Addr} {c1 : Nat} {r : Option Nat} (hg : wr.grownBy w' r) (hr : ∀ j, r = some j → w.heap.size + 4 ≤ j)
    (hown : w'.ownsRow (w.heap.size + 4) 3 1 (.slice A1 (F ++ [x]).length c1) (F ++ [x]).length (icells (ints (F ++ [x])))) : DS w (w'.setCell ⟨w.heap.size + 1 + 1 + 1, 0, none⟩ (.slice A1 (F ++ [x]).length c1)) A c n D (F ++ [x]) := by
  have hs := S.size
  have hk : ∀ k, k < w.heap.size + 4 → w'.heap[k]? = wr.heap[k]? := fun k hk => hg.block k (by omega) (fun e => by have := hr k e.symm; omega)
  have hk2 : ∀ k, k < w.heap.size + 4 → k ≠ w.heap.size + 1 + 1 + 1 → (w'.setCell ⟨w.heap.size + 1 + 1 + 1, 0, none⟩ (.slice A1 (F ++ [x]).length c1)).heap[k]? = wr.heap[k]? := fun k h1 h2 => by rw [Below.heap_setCell _ _ _ _ h2]; exact hk k h1
  have hb1 : Below w.heap.size w w' := S.below.grown hg (by omega) (fun j hj => by have := hr j hj; omega)
  refine ⟨hb1.setCell (by show w.heap.size ≤ w.heap.size + 1 + 1 + 1; omega) _, by simp [World.setCell]; exact Nat.le_trans hs hg.size, by rw [World.cell?_of_block (w := wr) (hk2 w.heap.size (by omega) (by omega))]; exact S.g0, by rw [World.cell?_of_block (w := wr) (hk2 (w.heap.size + 1 + 1) (by omega) (by omega))]; exact S.g2, ?_, ⟨A1, c1, ?_, ownsRow_setCell_below hown (by show w.heap.size + 1 + 1 + 1 < w.heap.size + 4; omega) _⟩, ?_⟩
  · exact ir_block S.row (hk2 (w.heap.size + 1) (by omega) (by omega))
  · obtain ⟨A2, c2, h1, h2⟩ := S.fnd
    exact World.cell?_setCell_same (w := w') (a := ⟨w.heap.size + 1 + 1 + 1, 0, none⟩) (u := .slice A2 F.length c2) _ ((World.cell?_of_block (w := wr) (hk (w.heap.size + 1 + 1 + 1) (by omega))).trans h1)
  · rw [World.frozen?_setCell, World.frozen?_of_block (w := wr) (hk _ (by show w.heap.size + 1 + 1 + 1 < _; omega))]; exact S.frz
theorem ints_len (F : List Nat) : (ints F).length = F.length := by simp [ints]
theorem wpList_append_int {w : World} {ops : Array Oper} {rest : List Oper} {o : Oper} {a : Act} {Q : Exit → Act → World → Prop} (hgd : o.guard = none) (s x : Operand)
    (ho : o.op = .call { callee := .builtin .append, args := #[s, x], argTypes := #[23, 23] })
    (base : Nat) (v : Value) (xs : List Int) (q : Int) (hs : a.eval s = v) (hown : w.ownsRow base 3 1 v xs.length (icells xs))
    (g : Nat) (hx : a.eval x = .slice (some ⟨g, 0, none⟩) 1 1) (hb : w.heap[g]? = some (.cells #[.int .i64 q] 3 (0, 0))) (hn : xs.length ≤ 1000) (hbase : base ≤ w.heap.size)
    (h : ∀ v' w', w'.ownsRow base 3 1 v' (xs ++ [q]).length (icells (xs ++ [q])) → w.grownBy w' v.ownBlock → wpList Try.prog ops Q rest (a.put o.dst v') w') : wpList Try.prog ops Q (o :: rest) a w := by
  obtain ⟨i0, hi, hz0, hz1, hz2⟩ := info_parts Try.info3
  refine wpList_append_own w hgd s x 23 ho base 3 i0 (.int .i64 0) 1 8 Try.underlying23 hi hz0 hz1 hz2 rfl (by decide) v xs.length (icells xs) hs hown ⟨g, 0, none⟩ 1 1 [.int .i64 q] hx rfl ?_ (by intro u hu; simp at hu; subst hu; rfl) (by unfold maxLen; omega) (by omega) hbase (fun v' w' h1 h2 _ => h v' w' (by rw [List.length_append, show icells (xs ++ [q]) = icells xs ++ [.int .i64 q] by simp [icells]]; exact h1) h2)
  intro j u hj
  rw [show (⟨g, 0, none⟩ : Addr).add j = ⟨g, j, none⟩ by simp [Addr.add]; exact fun e => e.symm, Lib.cell_of_heap hb, ← Array.getElem?_toList]
  exact hj
set_option maxRecDepth 100000 in
set_option maxHeartbeats 4000000 in
theorem visit_any (A : Option Addr) (c : Nat) (gs : Gr) (D : List Int) (F : List Nat) (x d : Int) (w wr : World) (S : DS w wr A c gs.length D F) (hl : gs.length ≤ 1000) (hF : F.length ≤ 1000) :
    Calls Try.prog 36 #[.int .i64 x, .int .i64 d, .pointer (some ⟨w.heap.size, 0, none⟩), .pointer (some ⟨w.heap.size + 1 + 1, 0, none⟩), .pointer (some ⟨w.heap.size + 1 + 1 + 1, 0, none⟩)] wr fun e w' => e = .returned (.tuple #[]) ∧
      ((∃ m : Nat, x = (m : Int) ∧ m < gs.length ∧ (∃ u, D[m]? = some u ∧ u < 0) ∧ DS w w' A c gs.length (D.set m d) (F ++ [m])) ∨ ((∀ m : Nat, x = (m : Int) → m < gs.length → ∃ u, D[m]? = some u ∧ ¬ u < 0) ∧ DS w w' A c gs.length D F)) := by
  have HS := Lib.hid S
  have g0 := S.g0
  have g2 := S.g2
  have HN := Lib.hid (fun (W : World) => isnode_any A c gs x W (by omega))
  generalize gs.length = n at *
  go_enter Try.func36, Try.ntmps36
  go_wp2_with fail
  refine (HN.out wr).mono ?_
  rintro e w1 ⟨rfl, hb1⟩
  have HS1 := Lib.hid (HS.out.keep hb1)
  clear hb1 HS HN g0 g2
  have g0 := HS1.out.g0
  have g2 := HS1.out.g2
  by_cases hx0 : 0 ≤ x
  · by_cases hx1 : x < (n : Int)
    · obtain ⟨m, rfl⟩ : ∃ m : Nat, x = (m : Int) := ⟨x.toNat, by omega⟩
      have hm : m < n := by omega
      rw [decide_eq_true hx0, decide_eq_true hx1]
      obtain ⟨u, hu⟩ : ∃ u, D[m]? = some u := ⟨_, List.getElem?_eq_getElem (by rw [ir_len HS1.out.row]; exact hm)⟩
      obtain ⟨hgl, hc, hf⟩ := ir_at HS1.out.row m hm u hu
      have HM := Lib.hid hm
      have HU := Lib.hid hu
      clear hm hu
      by_cases hu0 : u < 0
      · have HS2 := Lib.hid (HS1.out.set m d)
        obtain ⟨A1, c1, hfc, hfo⟩ := HS1.out.fnd
        have HFO := Lib.hid (ownsRow_setCell_below (a := ⟨w.heap.size + 1, m, none⟩) hfo (by show w.heap.size + 1 < w.heap.size + 4; omega) (.int .i64 d))
        have HSZ := Lib.hid HS2.out.size
        clear hfo
        go_wp2_with (at_builtin; refine wpList_append_int rfl _ _ rfl (w.heap.size + 4) (.slice A1 F.length c1) (ints F) (m : Int) rfl (by rw [ints_len]; exact HFO.out.alloc _) _ rfl ?c1 ?c2 ?c3 ?_)
        case c1 => have := (MapKept.heap_alloc (w1.setCell ⟨w.heap.size + 1, m, none⟩ (.int .i64 d)) (.cells #[.int .i64 (m : Int)] 3)).1; simpa using this
        case c2 => rw [ints_len]; exact hF
        case c3 => have := HSZ.out; simp at this ⊢; omega
        intro v' w3 h3 g3
        have e1 : (ints F).length + 1 = (F ++ [m]).length := by simp [ints]
        have e2 : ints F ++ [(m : Int)] = ints (F ++ [m]) := by simp [ints]
        rw [e1, e2] at h3
        obtain ⟨A3, c3, rfl⟩ := own_vis h3
        have HS3 := Lib.hid (HS2.out.keep ((Below.refl _ _).alloc (Nat.le_refl _) (.cells #[.int .i64 (m : Int)] 3)))
        have hr : ∀ j, (Value.slice A1 F.length c1).ownBlock = some j → w.heap.size + 4 ≤ j := fun j hj => (HFO.out.lt j hj).1
        have HS4 := Lib.hid (HS3.out.app m g3 hr h3)
        have hk : w3.heap[w.heap.size + 1 + 1 + 1]? = ((w1.setCell ⟨w.heap.size + 1, m, none⟩ (.int .i64 d)).alloc (.cells #[.int .i64 (m : Int)] 3)).heap[w.heap.size + 1 + 1 + 1]? := g3.block _ (by have := HS3.out.size; omega) (fun e => by have := hr _ e.symm; omega)
        obtain ⟨A5, c5, h5, _⟩ := HS3.out.fnd
        have hcb : w3.cell? ⟨w.heap.size + 1 + 1 + 1, 0, none⟩ = some (.slice A5 F.length c5) := (World.cell?_of_block hk).trans h5
        have hfb : w3.frozen? ⟨w.heap.size + 1 + 1 + 1, 0, none⟩ = false := (World.frozen?_of_block hk).trans HS3.out.frz
        clear h3 g3 hr hk h5 HS3 HFO e1 e2
        go_wp2_with fail
        go_end0
        exact ⟨rfl, Or.inl ⟨m, rfl, HM.out, ⟨u, HU.out, hu0⟩, by have hq := HS4.out; rw [List.length_append] at hq; exact hq⟩⟩
      · go_wp2_with fail
        go_end0
        exact ⟨rfl, Or.inr ⟨fun m' e hm' => by obtain rfl : m' = m := by omega
                                               exact ⟨u, HU.out, hu0⟩, HS1.out⟩⟩
    · rw [decide_eq_true hx0, decide_eq_false hx1]
      go_wp2_with fail
      go_end0
      exact ⟨rfl, Or.inr ⟨fun m e hm => by omega, HS1.out⟩⟩
  · rw [decide_eq_false hx0]
    go_wp2_with fail
    go_end0
    exact ⟨rfl, Or.inr ⟨fun m e hm => by omega, HS1.out⟩⟩
end Go.Proofs.Ythgfomjmkmkhkaa
