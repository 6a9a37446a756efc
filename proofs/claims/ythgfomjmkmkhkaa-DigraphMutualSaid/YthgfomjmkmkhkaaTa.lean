/-
  The boxes of Topo, its closure, and bounds of the counts. Conditions: a graph of at most 900 nodes with at most 1000 successors each.
-/
import Derived.Test.YthgfomjmkmkhkaaRb
namespace Go.Proofs.Ythgfomjmkmkhkaa
open Go.RowKit
set_option linter.unusedSimpArgs false
set_option linter.unusedVariables false
theorem sumTo_le {f : Nat → Nat} {b : Nat} : ∀ {n : Nat}, (∀ k, k < n → f k ≤ b) → sumTo f n ≤ n * b
  | 0, _ => by simp [sumTo]
  | n + 1, h => by
    show sumTo f n + f n ≤ (n + 1) * b
    have h1 := sumTo_le (n := n) (fun k hk => h k (by omega))
    have h2 := h n (by omega)
    rw [Nat.succ_mul]; omega
theorem wt_le {gs : Gr} (hl2 : ∀ l ∈ gs, l.length ≤ 1000) (out : List Nat) (b : Nat) : wt gs out b ≤ gs.length * 1000 := by
  unfold wt
  refine sumTo_le fun k hk => ?_
  split
  · omega
  · exact Nat.le_trans (List.count_le_length) (suc_len hl2)
theorem cw_le {gs : Gr} (hl2 : ∀ l ∈ gs, l.length ≤ 1000) (n j b : Nat) : cw gs n j b ≤ n * 1000 + 1000 := by
  unfold cw
  have h1 : sumTo (fun a => (suc gs a).count (b : Int)) n ≤ n * 1000 := sumTo_le fun k hk => Nat.le_trans (List.count_le_length) (suc_len hl2)
  have h2 : ((suc gs n).take j).count (b : Int) ≤ 1000 := Nat.le_trans (List.count_le_length) (Nat.le_trans (by simp; omega) (suc_len hl2 (k := n)))
  omega
theorem ints_nodup {N : Nat} {H : List Int} (h : H.Nodup) (hm : ∀ x ∈ H, ∃ b : Nat, x = (b : Int) ∧ b < N) : H.length ≤ N := by
  have hn : (H.map Int.toNat).Nodup := by
    rw [List.nodup_iff_pairwise_ne, List.pairwise_map]
    refine List.Pairwise.imp_of_mem ?_ (List.nodup_iff_pairwise_ne.1 h)
    intro a b ha hb hab e
    obtain ⟨x, rfl, _⟩ := hm a ha
    obtain ⟨y, rfl, _⟩ := hm b hb
    simp at e
    exact hab (by rw [e])
  have := pig N (H.map Int.toNat) hn (fun x hx => by
    rw [List.mem_map] at hx
    obtain ⟨a, ha, rfl⟩ := hx
    obtain ⟨b, rfl, hb⟩ := hm a ha
    simpa using hb)
  simpa using this
/-- the counts while the edges are counted -/
structure TC (w wr : World) (n : Nat) (f : Nat → Nat) : Prop where
  below : Below w.heap.size w wr
  size : w.heap.size + 2 ≤ wr.heap.size
  box : wr.cell? ⟨w.heap.size + 1, 0, none⟩ = some (.slice (some ⟨w.heap.size, 0, none⟩) n n)
  row : ∃ W, IRow wr w.heap.size n W ∧ ∀ b, b < n → W[b]? = some ((f b : Nat) : Int)
theorem TC.keep {w wr w' : World} {n : Nat} {f : Nat → Nat} (T : TC w wr n f) (hb : Below wr.heap.size wr w') : TC w w' n f := by
  have hs := T.size
  obtain ⟨W, h1, h2⟩ := T.row
  exact ⟨T.below.trans (hb.mono T.below.size), Nat.le_trans hs hb.size, by rw [hb.cell (show w.heap.size + 1 < wr.heap.size by omega)]; exact T.box, W, ir_below h1 hb, h2⟩
theorem TC.congr {w wr : World} {n : Nat} {f h : Nat → Nat} (T : TC w wr n f) (e : ∀ b, b < n → f b = h b) : TC w wr n h := by
  obtain ⟨W, h1, h2⟩ := T.row
  exact ⟨T.below, T.size, T.box, W, h1, fun b hb => by rw [← e b hb]; exact h2 b hb⟩
theorem tc_start (w : World) (n : Nat) (hn : n ≤ 1000) : TC w ((w.alloc (.cells (madeCells #[.int .i64 0] n) 3)).alloc (.cells #[.slice (some ⟨w.heap.size, 0, none⟩) n n] 23)) n (fun _ => 0) := by
  have h1 := ir_new w n (by omega)
  have s1 : (w.alloc (.cells (madeCells #[.int .i64 0] n) 3)).heap.size = w.heap.size + 1 := by simp
  have hb := (Below.refl (w.heap.size + 1) (w.alloc (.cells (madeCells #[.int .i64 0] n) 3))).alloc (by simp) (.cells #[.slice (some ⟨w.heap.size, 0, none⟩) n n] 23)
  refine ⟨((Below.refl _ _).alloc (Nat.le_refl _) _).alloc (by simp) _, by simp, ?_, List.replicate n 0, ?_, fun b hb => by simp [hb]⟩
  · have := (MapKept.heap_alloc (w.alloc (.cells (madeCells #[.int .i64 0] n) 3)) (.cells #[.slice (some ⟨w.heap.size, 0, none⟩) n n] 23)).1
    rw [s1] at this
    rw [Lib.cell_of_heap this]; rfl
  · refine ir_below h1 ?_
    rw [s1]; exact hb
set_option maxRecDepth 100000 in
set_option maxHeartbeats 4000000 in
theorem count_any (w wr : World) (k n m : Nat) (f : Nat → Nat) (T : TC w wr k f) (hm : m < k) (hf : f m ≤ 2000000) :
    Calls Try.prog 41 #[.int .i64 (n : Int), .int .i64 (m : Int), .pointer (some ⟨w.heap.size + 1, 0, none⟩)] wr fun e w' => e = .returned (.tuple #[]) ∧ TC w w' k (fun b => if b = m then f m + 1 else f b) ∧ wr.heap.size ≤ w'.heap.size := by
  have hbx := T.box
  obtain ⟨W, h1, h2⟩ := T.row
  obtain ⟨hg, hc, hfz⟩ := ir_at h1 m hm _ (h2 m hm)
  have hm0 : (0 : Int) ≤ (m : Int) := by omega
  have hm1 : (m : Int) < (k : Int) := by omega
  have HT : Hid (TC w (wr.setCell ⟨w.heap.size, m, none⟩ (.int .i64 ((f m : Int) + 1))) k (fun b => if b = m then f m + 1 else f b)) := Lib.hid (by
    have hs := T.size
    refine ⟨T.below.setCell (by show w.heap.size ≤ w.heap.size; omega) _, by simp; exact hs, ?_, _, ir_set h1 m _, fun b hb => ?_⟩
    · rw [World.cell?_of_block (w := wr) (Below.heap_setCell _ _ _ _ (by show w.heap.size + 1 ≠ w.heap.size; omega))]; exact T.box
    · by_cases hbm : m = b
      · subst hbm; rw [List.getElem?_set_self (by rw [ir_len h1]; exact hm), if_pos rfl]; rfl
      · rw [List.getElem?_set_ne hbm, if_neg (fun e => hbm e.symm)]; exact h2 b hb)
  generalize f m = y at *
  clear T h1 h2 hm
  go_enter Try.func41, Try.ntmps41
  go_wp2_with fail
  go_end0
  exact ⟨rfl, HT.out, by simp⟩
/-- what stands while Topo takes the free nodes -/
structure TW (w wr : World) (n : Nat) (W : List Int) (q : Nat) (v : Value) (H : List Int) (vo : Value) (O : List Nat) : Prop where
  below : Below w.heap.size w wr
  q2 : w.heap.size + 2 ≤ q
  box : wr.cell? ⟨w.heap.size + 1, 0, none⟩ = some (.slice (some ⟨w.heap.size, 0, none⟩) n n)
  row : IRow wr w.heap.size n W
  qs : QS wr q (q + 1) v H
  ord : wr.ownsRow (q + 1) 3 1 vo O.length (icells (ints O))
  dis : ∀ j, v.ownBlock = some j → vo.ownBlock ≠ some j
theorem TW.step {w wr w' : World} {n : Nat} {W : List Int} {q : Nat} {v v' : Value} {H H' : List Int} {vo : Value} {O : List Nat} (T : TW w wr n W q v H vo O) (hs : HStep q wr v w' v') (hq : QS w' q (q + 1) v' H') : TW w w' n W q v' H' vo O := by
  have h2 := T.q2
  have hqs := T.qs.qs
  have hv : ∀ j, v.ownBlock = some j → q + 1 ≤ j := fun j hj => (World.ownsRow.lt T.qs.row j hj).1
  have hk : ∀ k, k < q → w'.heap[k]? = wr.heap[k]? := fun k hk => hs.block k (by omega) (by omega) (fun e => by have := hv k e; omega)
  refine ⟨⟨hs.os.trans T.below.os, hs.tape.trans T.below.tape, hs.output.trans T.below.output, Nat.le_trans T.below.size hs.size, fun i hi => (hk i (by omega)).trans (T.below.block i hi)⟩, h2, by rw [World.cell?_of_block (w := wr) (hk _ (by show w.heap.size + 1 < q; omega))]; exact T.box, row_block T.row (hk _ (by omega)), hq, ?_, ?_⟩
  · refine ⟨T.ord.1, ?_⟩
    rcases T.ord.2 with h' | ⟨g, cap, cur, hv', hbg, hg, r⟩
    · exact .inl h'
    · have hgs : g < wr.heap.size := (Array.getElem?_eq_some_iff.1 hg).1
      refine .inr ⟨g, cap, cur, hv', hbg, ?_, r⟩
      rw [hs.block g hgs (by omega) (fun e => T.dis g e (by rw [hv']; rfl))]
      exact hg
  · intro j hj e
    rcases hs.own with h | ⟨i, hi, h⟩
    · rw [hj] at h; exact T.dis j h.symm e
    · rw [hj] at h
      have := Option.some.inj h
      have := (World.ownsRow.lt T.ord j e).2
      omega
theorem TW.keep {w wr w' : World} {n : Nat} {W : List Int} {q : Nat} {v : Value} {H : List Int} {vo : Value} {O : List Nat} (T : TW w wr n W q v H vo O) (hb : Below wr.heap.size wr w') : TW w w' n W q v H vo O := by
  have h2 := T.q2
  have hqs := T.qs.qs
  exact ⟨T.below.trans (hb.mono T.below.size), h2, by rw [hb.cell (show w.heap.size + 1 < wr.heap.size by omega)]; exact T.box, ir_below T.row hb, T.qs.keep hb, own_below T.ord hb, T.dis⟩
theorem TW.set {w wr : World} {n : Nat} {W : List Int} {q : Nat} {v : Value} {H : List Int} {vo : Value} {O : List Nat} (T : TW w wr n W q v H vo O) (m : Nat) (d : Int) : TW w (wr.setCell ⟨w.heap.size, m, none⟩ (.int .i64 d)) n (W.set m d) q v H vo O := by
  have h2 := T.q2
  have hk : ∀ k, k ≠ w.heap.size → (wr.setCell ⟨w.heap.size, m, none⟩ (.int .i64 d)).heap[k]? = wr.heap[k]? := fun k hk => Below.heap_setCell _ _ _ _ hk
  exact ⟨T.below.setCell (by show w.heap.size ≤ w.heap.size; omega) _, h2, by rw [World.cell?_of_block (w := wr) (hk _ (by show w.heap.size + 1 ≠ w.heap.size; omega))]; exact T.box, ir_set T.row m d,
    ⟨T.qs.qB, by simp; exact T.qs.qs, by rw [World.cell?_of_block (w := wr) (hk q (by omega))]; exact T.qs.box, by rw [World.frozen?_of_block (w := wr) (hk q (by omega))]; exact T.qs.frz, ownsRow_setCell_below T.qs.row (by show w.heap.size < q + 1; omega) _⟩, ownsRow_setCell_below T.ord (by show w.heap.size < q + 1; omega) _, T.dis⟩
theorem TW.app {w wr w' : World} {n : Nat} {W : List Int} {q : Nat} {v : Value} {H : List Int} {vo vo' : Value} {O O' : List Nat} (T : TW w wr n W q v H vo O) (hg : wr.grownBy w' vo.ownBlock) (hd : vo'.ownBlock = vo.ownBlock ∨ vo'.ownBlock = some wr.heap.size) (ho : w'.ownsRow (q + 1) 3 1 vo' O'.length (icells (ints O'))) : TW w w' n W q v H vo' O' := by
  have h2 := T.q2
  have hqs := T.qs.qs
  have hv : ∀ j, vo.ownBlock = some j → q + 1 ≤ j := fun j hj => (World.ownsRow.lt T.ord j hj).1
  have hk : ∀ k, k ≤ q → w'.heap[k]? = wr.heap[k]? := fun k hk => hg.block k (by omega) (fun e => by have := hv k e.symm; omega)
  refine ⟨T.below.grown hg (by omega) (fun j hj => by have := hv j hj; omega), h2, by rw [World.cell?_of_block (w := wr) (hk _ (by show w.heap.size + 1 ≤ q; omega))]; exact T.box, row_block T.row (hk _ (by omega)), ⟨T.qs.qB, Nat.lt_of_lt_of_le hqs hg.size, by rw [World.cell?_of_block (w := wr) (hk q (Nat.le_refl _))]; exact T.qs.box, by rw [World.frozen?_of_block (w := wr) (hk q (Nat.le_refl _))]; exact T.qs.frz, World.ownsRow.kept T.qs.row hg ?_⟩, ho, ?_⟩
  · rcases hvb : v.ownBlock with _ | j
    · exact Or.inl rfl
    · right; intro e; exact T.dis j hvb e.symm
  · intro j hj e
    rcases hd with hd | hd
    · rw [e] at hd; exact T.dis j hj hd.symm
    · rw [e] at hd
      have := Option.some.inj hd
      have := (World.ownsRow.lt T.qs.row j hj).2
      omega
end Go.Proofs.Ythgfomjmkmkhkaa
