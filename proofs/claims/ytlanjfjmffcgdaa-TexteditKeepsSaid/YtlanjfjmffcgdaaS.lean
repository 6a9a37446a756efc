/-
  What the example's comparison calls: keep and match, at the numbers that it calls them with. No condition but on the cells.
-/
import Derived.Test.YtlanjfjmffcgdaaR
import Derived.RegionTactic
import Derived.BigRegion
import Derived.Deep.RegionHeld3
namespace Go.Proofs.Ytlanjfjmffcgdaa
open Go.RowKit
set_option linter.unusedSimpArgs false
set_option linter.unusedVariables false
abbrev B3 := Bool × Bool × Bool
def bv (x : B3) : Array Value := #[.bool x.1, .bool x.2.1, .bool x.2.2]
/-- a comparison of three lines with three: the lines' numbers are 0, 1, 2 and 0, 2, 3 -/
structure CS (w : World) (B g ga ca gb cb gk gl : Nat) (k l : B3) : Prop where
  c : w.heap[g]? = some (.cells #[.slice (some ⟨ga, 0, none⟩) 3 ca, .slice (some ⟨gb, 0, none⟩) 3 cb, .slice (some ⟨gk, 0, none⟩) 3 3, .slice (some ⟨gl, 0, none⟩) 3 3] 56 (0, 0))
  a : w.cell? ⟨ga, 0, none⟩ = some (.int .i64 0) ∧ w.cell? ⟨ga, 1, none⟩ = some (.int .i64 1) ∧ w.cell? ⟨ga, 2, none⟩ = some (.int .i64 2)
  b : w.cell? ⟨gb, 0, none⟩ = some (.int .i64 0) ∧ w.cell? ⟨gb, 1, none⟩ = some (.int .i64 2) ∧ w.cell? ⟨gb, 2, none⟩ = some (.int .i64 3)
  k : w.heap[gk]? = some (.cells (bv k) 4 (0, 0))
  l : w.heap[gl]? = some (.cells (bv l) 4 (0, 0))
  o : B ≤ gk ∧ B ≤ gl ∧ g ≠ gk ∧ g ≠ gl ∧ ga ≠ gk ∧ ga ≠ gl ∧ gb ≠ gk ∧ gb ≠ gl ∧ gk ≠ gl ∧ B ≤ w.heap.size ∧ 3 ≤ ca ∧ 3 ≤ cb
theorem CS.facts {w : World} {B g ga ca gb cb gk gl : Nat} {k l : B3} (h : CS w B g ga ca gb cb gk gl k l) :
    w.cell? ⟨g, 0, none⟩ = some (.slice (some ⟨ga, 0, none⟩) 3 ca) ∧ w.cell? ⟨g, 1, none⟩ = some (.slice (some ⟨gb, 0, none⟩) 3 cb) ∧ w.cell? ⟨g, 2, none⟩ = some (.slice (some ⟨gk, 0, none⟩) 3 3) ∧ w.cell? ⟨g, 3, none⟩ = some (.slice (some ⟨gl, 0, none⟩) 3 3) :=
  ⟨by rw [Lib.cell_of_heap h.c]; rfl, by rw [Lib.cell_of_heap h.c]; rfl, by rw [Lib.cell_of_heap h.c]; rfl, by rw [Lib.cell_of_heap h.c]; rfl⟩
theorem CS.kf {w : World} {B g ga ca gb cb gk gl : Nat} {k l : B3} (h : CS w B g ga ca gb cb gk gl k l) :
    w.cell? ⟨gk, 0, none⟩ = some (.bool k.1) ∧ w.cell? ⟨gk, 1, none⟩ = some (.bool k.2.1) ∧ w.cell? ⟨gk, 2, none⟩ = some (.bool k.2.2) ∧ w.frozen? ⟨gk, 0, none⟩ = false ∧ w.frozen? ⟨gk, 1, none⟩ = false ∧ w.frozen? ⟨gk, 2, none⟩ = false := by
  have hk := h.k
  exact ⟨by rw [Lib.cell_of_heap hk]; rfl, by rw [Lib.cell_of_heap hk]; rfl, by rw [Lib.cell_of_heap hk]; rfl, by simp [World.frozen?, hk], by simp [World.frozen?, hk], by simp [World.frozen?, hk]⟩
theorem CS.lf {w : World} {B g ga ca gb cb gk gl : Nat} {k l : B3} (h : CS w B g ga ca gb cb gk gl k l) :
    w.cell? ⟨gl, 0, none⟩ = some (.bool l.1) ∧ w.cell? ⟨gl, 1, none⟩ = some (.bool l.2.1) ∧ w.cell? ⟨gl, 2, none⟩ = some (.bool l.2.2) ∧ w.frozen? ⟨gl, 0, none⟩ = false ∧ w.frozen? ⟨gl, 1, none⟩ = false ∧ w.frozen? ⟨gl, 2, none⟩ = false := by
  have hl := h.l
  exact ⟨by rw [Lib.cell_of_heap hl]; rfl, by rw [Lib.cell_of_heap hl]; rfl, by rw [Lib.cell_of_heap hl]; rfl, by simp [World.frozen?, hl], by simp [World.frozen?, hl], by simp [World.frozen?, hl]⟩
theorem cellK {w w' : World} {g b : Nat} {v : Value} {o : Nat} (h : w.cell? ⟨g, o, none⟩ = some v) (hg : w.grownBy w' (some b)) (hne : g ≠ b) : w'.cell? ⟨g, o, none⟩ = some v := by
  have hlt := World.block_lt_of_cell? w _ h
  have hb : w'.heap[g]? = w.heap[g]? := hg.block g hlt (by intro e; injection e with e; exact hne e)
  rw [World.cell?_of_block hb]; exact h
theorem CS.setk {w : World} {B g ga ca gb cb gk gl : Nat} {k l : B3} (h : CS w B g ga ca gb cb gk gl k l) (i : Nat) (k' : B3) (hi : (bv k).setIfInBounds i (.bool true) = bv k') :
    CS (w.setCell ⟨gk, i, none⟩ (.bool true)) B g ga ca gb cb gk gl k' l := by
  have G := gb_set w ⟨gk, i, none⟩ (.bool true)
  obtain ⟨o1, o2, o3, o4, o5, o6, o7, o8, o9, o10, o11, o12⟩ := h.o
  refine ⟨?_, ⟨cellK h.a.1 G o5, cellK h.a.2.1 G o5, cellK h.a.2.2 G o5⟩, ⟨cellK h.b.1 G o7, cellK h.b.2.1 G o7, cellK h.b.2.2 G o7⟩, ?_, ?_, ⟨o1, o2, o3, o4, o5, o6, o7, o8, o9, Nat.le_trans o10 G.size, o11, o12⟩⟩
  · exact (G.block g (Array.getElem?_eq_some_iff.1 h.c).1 (by intro e; injection e with e; exact o3 e)).trans h.c
  · rw [← hi]; exact Lib.heap_setCell_same (i := i) h.k _
  · exact (G.block gl (Array.getElem?_eq_some_iff.1 h.l).1 (by intro e; injection e with e; exact o9 e.symm)).trans h.l
theorem CS.setl {w : World} {B g ga ca gb cb gk gl : Nat} {k l : B3} (h : CS w B g ga ca gb cb gk gl k l) (i : Nat) (l' : B3) (hi : (bv l).setIfInBounds i (.bool true) = bv l') :
    CS (w.setCell ⟨gl, i, none⟩ (.bool true)) B g ga ca gb cb gk gl k l' := by
  have G := gb_set w ⟨gl, i, none⟩ (.bool true)
  obtain ⟨o1, o2, o3, o4, o5, o6, o7, o8, o9, o10, o11, o12⟩ := h.o
  refine ⟨?_, ⟨cellK h.a.1 G o6, cellK h.a.2.1 G o6, cellK h.a.2.2 G o6⟩, ⟨cellK h.b.1 G o8, cellK h.b.2.1 G o8, cellK h.b.2.2 G o8⟩, ?_, ?_, ⟨o1, o2, o3, o4, o5, o6, o7, o8, o9, Nat.le_trans o10 G.size, o11, o12⟩⟩
  · exact (G.block g (Array.getElem?_eq_some_iff.1 h.c).1 (by intro e; injection e with e; exact o4 e)).trans h.c
  · exact (G.block gk (Array.getElem?_eq_some_iff.1 h.k).1 (by intro e; injection e with e; exact o9 e)).trans h.k
  · rw [← hi]; exact Lib.heap_setCell_same (i := i) h.l _
theorem CS.below {w w' : World} {B g ga ca gb cb gk gl : Nat} {k l : B3} (h : CS w B g ga ca gb cb gk gl k l) (hb : Below w.heap.size w w') : CS w' B g ga ca gb cb gk gl k l := by
  obtain ⟨o1, o2, o3, o4, o5, o6, o7, o8, o9, o10, o11, o12⟩ := h.o
  exact ⟨by rw [hb.block _ (Array.getElem?_eq_some_iff.1 h.c).1]; exact h.c, ⟨cell_keep h.a.1 hb, cell_keep h.a.2.1 hb, cell_keep h.a.2.2 hb⟩, ⟨cell_keep h.b.1 hb, cell_keep h.b.2.1 hb, cell_keep h.b.2.2 hb⟩,
    by rw [hb.block _ (Array.getElem?_eq_some_iff.1 h.k).1]; exact h.k, by rw [hb.block _ (Array.getElem?_eq_some_iff.1 h.l).1]; exact h.l, ⟨o1, o2, o3, o4, o5, o6, o7, o8, o9, Nat.le_trans o10 hb.size, o11, o12⟩⟩
theorem CS.drewN {w : World} {B g ga ca gb cb gk gl : Nat} {k l : B3} (h : CS w B g ga ca gb cb gk gl k l) (n : Nat) : CS (w.drewN n) B g ga ca gb cb gk gl k l := ⟨h.c, h.a, h.b, h.k, h.l, h.o⟩
theorem CS.drew {w : World} {B g ga ca gb cb gk gl : Nat} {k l : B3} (h : CS w B g ga ca gb cb gk gl k l) : CS w.drew B g ga ca gb cb gk gl k l := ⟨h.c, h.a, h.b, h.k, h.l, h.o⟩
/-- what keep and match leave -/
def KP (w : World) (B g ga ca gb cb gk gl : Nat) (k l : B3) (e : Ending) (w' : World) : Prop := e = .returned (.tuple #[]) ∧ CS w' B g ga ca gb cb gk gl k l ∧ Below B w w'
set_option maxRecDepth 100000 in
set_option maxHeartbeats 4000000 in
theorem keep_00 (B g ga ca gb cb gk gl : Nat) (k l k' l' : B3) (hk : (bv k).setIfInBounds 0 (.bool true) = bv k') (hl : (bv l).setIfInBounds 0 (.bool true) = bv l') (w : World) (h : CS w B g ga ca gb cb gk gl k l) :
    Calls Try.prog 38 #[.pointer (some ⟨g, 0, none⟩), .int .i64 0, .int .i64 0] w (KP w B g ga ca gb cb gk gl k' l') := by
  obtain ⟨_, _, c2, c3⟩ := h.facts
  obtain ⟨k0, _, _, f0, _, _⟩ := h.kf
  obtain ⟨l0, _, _, e0, _, _⟩ := h.lf
  have H := Lib.hid ((h.setk 0 k' hk).setl 0 l' hl)
  have HB := Lib.hid (((Below.refl B w).setCell (p := ⟨gk, 0, none⟩) h.o.1 (.bool true)).setCell (p := ⟨gl, 0, none⟩) h.o.2.1 (.bool true))
  have o9 : gk ≠ gl := h.o.2.2.2.2.2.2.2.2.1
  have o9' : gl ≠ gk := Ne.symm o9
  clear h hk hl
  go_enter Try.func38, Try.ntmps38
  go_wp2_with fail
  go_region
  all_goals
    go_wp2_with fail
    go_end0
    exact ⟨rfl, H.out.drew, HB.out.drew⟩
set_option maxRecDepth 100000 in
set_option maxHeartbeats 4000000 in
theorem keep_21 (B g ga ca gb cb gk gl : Nat) (k l k' l' : B3) (hk : (bv k).setIfInBounds 2 (.bool true) = bv k') (hl : (bv l).setIfInBounds 1 (.bool true) = bv l') (w : World) (h : CS w B g ga ca gb cb gk gl k l) :
    Calls Try.prog 38 #[.pointer (some ⟨g, 0, none⟩), .int .i64 2, .int .i64 1] w (KP w B g ga ca gb cb gk gl k' l') := by
  obtain ⟨_, _, c2, c3⟩ := h.facts
  obtain ⟨_, _, k0, _, _, f0⟩ := h.kf
  obtain ⟨_, l0, _, _, e0, _⟩ := h.lf
  have H := Lib.hid ((h.setk 2 k' hk).setl 1 l' hl)
  have HB := Lib.hid (((Below.refl B w).setCell (p := ⟨gk, 2, none⟩) h.o.1 (.bool true)).setCell (p := ⟨gl, 1, none⟩) h.o.2.1 (.bool true))
  have o9 : gk ≠ gl := h.o.2.2.2.2.2.2.2.2.1
  have o9' : gl ≠ gk := Ne.symm o9
  clear h hk hl
  go_enter Try.func38, Try.ntmps38
  go_wp2_with fail
  go_region
  all_goals
    go_wp2_with fail
    go_end0
    exact ⟨rfl, H.out.drew, HB.out.drew⟩
set_option maxRecDepth 100000 in
set_option maxHeartbeats 4000000 in
theorem match_end (B g ga ca gb cb gk gl : Nat) (k l : B3) (w : World) (h : CS w B g ga ca gb cb gk gl k l) :
    Calls Try.prog 36 #[.pointer (some ⟨g, 0, none⟩), .int .i64 3, .int .i64 3, .int .i64 2, .int .i64 3] w (KP w B g ga ca gb cb gk gl k l) := by
  have H := Lib.hid h
  clear h
  go_enter Try.func36, Try.ntmps36
  go_wp2_with fail
  refine wp_loop_rounds 1 ?_
  rw [rounds_succ]
  go_wp2_with fail
  go_quiet (fail)
  go_wp2_with fail
  refine wp_loop_rounds 1 ?_
  rw [rounds_succ]
  go_wp2_with fail
  go_quiet (fail)
  go_wp2_with fail
  first | go_end0 | refine bodyPost_ret (results_none rfl _ _ _) rfl ?_
  exact ⟨rfl, H.out.drewN _, bdrewN (Below.refl _ _) _⟩
set_option maxRecDepth 100000 in
set_option maxHeartbeats 8000000 in
theorem match_mid (B g ga ca gb cb gk gl : Nat) (k l k' l' : B3) (hk : (bv k).setIfInBounds 2 (.bool true) = bv k') (hl : (bv l).setIfInBounds 1 (.bool true) = bv l') (w : World) (h : CS w B g ga ca gb cb gk gl k l) :
    Calls Try.prog 36 #[.pointer (some ⟨g, 0, none⟩), .int .i64 1, .int .i64 3, .int .i64 1, .int .i64 2] w (KP w B g ga ca gb cb gk gl k' l') := by
  have H := Lib.hid h
  have HB := Lib.hid (Below.refl B w)
  have HK := Lib.hid hk
  have HL := Lib.hid hl
  clear h hk hl
  obtain ⟨c0, c1, _, _⟩ := H.out.facts
  obtain ⟨a0, a1, a2⟩ := H.out.a
  obtain ⟨b0, b1, b2⟩ := H.out.b
  go_enter Try.func36, Try.ntmps36
  go_wp2_with fail
  refine wp_loop_rounds 1 ?_
  rw [rounds_succ]
  go_wp2_with fail
  go_quiet (fail)
  clear c0 c1 a0 a1 a2 b0 b1 b2
  replace H := Lib.hid (H.out.drewN nq)
  replace HB := Lib.hid (bdrewN HB.out nq)
  generalize w.drewN nq = w1 at *
  obtain ⟨c0, c1, _, _⟩ := H.out.facts
  obtain ⟨a0, a1, a2⟩ := H.out.a
  obtain ⟨b0, b1, b2⟩ := H.out.b
  go_wp2_with fail
  refine wp_loop_rounds 2 ?_
  rw [rounds_succ]
  go_wp2_with fail
  go_quiet (fail)
  clear c0 c1 a0 a1 a2 b0 b1 b2
  replace H := Lib.hid (H.out.drewN nq)
  replace HB := Lib.hid (bdrewN HB.out nq)
  generalize w1.drewN nq = w2 at *
  obtain ⟨c0, c1, _, _⟩ := H.out.facts
  obtain ⟨a0, a1, a2⟩ := H.out.a
  obtain ⟨b0, b1, b2⟩ := H.out.b
  go_wp2_with fail
  clear c0 c1 a0 a1 a2 b0 b1 b2
  refine (keep_21 B g ga ca gb cb gk gl k l k' l' HK.out HL.out _ H.out).mono ?_
  rintro e w3 ⟨rfl, h3, hb3⟩
  replace H := Lib.hid h3
  replace HB := Lib.hid (HB.out.trans hb3)
  clear h3 hb3
  obtain ⟨c0, c1, _, _⟩ := H.out.facts
  obtain ⟨a0, a1, a2⟩ := H.out.a
  obtain ⟨b0, b1, b2⟩ := H.out.b
  go_wp2_with fail
  rw [rounds_succ]
  go_wp2_with fail
  go_quiet (fail)
  clear c0 c1 a0 a1 a2 b0 b1 b2
  replace H := Lib.hid (H.out.drewN nq)
  replace HB := Lib.hid (bdrewN HB.out nq)
  generalize w3.drewN nq = w4 at *
  obtain ⟨c0, c1, _, _⟩ := H.out.facts
  obtain ⟨a0, a1, a2⟩ := H.out.a
  obtain ⟨b0, b1, b2⟩ := H.out.b
  go_wp2_with fail
  first | go_end0 | refine bodyPost_ret (results_none rfl _ _ _) rfl ?_
  exact ⟨rfl, H.out, HB.out⟩
abbrev SM (w0 : World) (B g ga ca gb cb gk gl : Nat) (k l : B3) (w : World) : Prop :=
  (CS w B g ga ca gb cb gk gl k l ∧ Below B w0 w) ∧ w.cell? ⟨g, 0, none⟩ = some (.slice (some ⟨ga, 0, none⟩) 3 ca) ∧ w.cell? ⟨g, 1, none⟩ = some (.slice (some ⟨gb, 0, none⟩) 3 cb)
theorem sm_keep {w0 w w' : World} {B g ga ca gb cb gk gl : Nat} {k l : B3} (h : SM w0 B g ga ca gb cb gk gl k l w) (hb : Below w.heap.size w w') : SM w0 B g ga ca gb cb gk gl k l w' :=
  ⟨⟨h.1.1.below hb, h.1.2.trans (hb.mono h.1.1.o.2.2.2.2.2.2.2.2.2.1)⟩, cell_keep h.2.1 hb, cell_keep h.2.2 hb⟩
theorem sm_divide {w0 w : World} {B g ga ca gb cb gk gl : Nat} {k l : B3} (h : SM w0 B g ga ca gb cb gk gl k l w) (x y z : Nat) :
    Calls Try.prog 40 #[.slice (some ⟨ga, 1, none⟩) 2 x, .slice (some ⟨gb, 1, none⟩) 1 y, .slice (some ⟨gb, 2, none⟩) 1 z] w fun e w' => e = .returned (.int .i64 2) ∧ Below w.heap.size w w' :=
  divide_ex ga 1 x gb 1 y gb 2 z w h.1.1.a.2.1 h.1.1.a.2.2 h.1.1.b.2.1 h.1.1.b.2.2
set_option maxRecDepth 100000 in
set_option maxHeartbeats 16000000 in
theorem match_all (B g ga ca gb cb gk gl : Nat) (w : World) (h : CS w B g ga ca gb cb gk gl (false, false, false) (false, false, false)) :
    Calls Try.prog 36 #[.pointer (some ⟨g, 0, none⟩), .int .i64 0, .int .i64 3, .int .i64 0, .int .i64 3] w (KP w B g ga ca gb cb gk gl (true, false, true) (true, true, false)) := by
  have H := Lib.hid h
  have HB := Lib.hid (Below.refl B w)
  have HOR := Lib.hid h.o
  clear h
  obtain ⟨c0, c1, _, _⟩ := H.out.facts
  obtain ⟨a0, a1, a2⟩ := H.out.a
  obtain ⟨b0, b1, b2⟩ := H.out.b
  go_enter Try.func36, Try.ntmps36
  go_wp2_with fail
  refine wp_loop_rounds 2 ?_
  rw [rounds_succ]
  go_wp2_with fail
  go_quiet (fail)
  clear c0 c1 a0 a1 a2 b0 b1 b2
  replace H := Lib.hid (H.out.drewN nq)
  replace HB := Lib.hid (bdrewN HB.out nq)
  generalize w.drewN nq = w1 at *
  obtain ⟨c0, c1, _, _⟩ := H.out.facts
  obtain ⟨a0, a1, a2⟩ := H.out.a
  obtain ⟨b0, b1, b2⟩ := H.out.b
  go_wp2_with fail
  clear c0 c1 a0 a1 a2 b0 b1 b2
  refine (keep_00 B g ga ca gb cb gk gl (false, false, false) (false, false, false) (true, false, false) (true, false, false) rfl rfl _ H.out).mono ?_
  rintro e w2 ⟨rfl, h2, hb2⟩
  replace H := Lib.hid h2
  replace HB := Lib.hid (HB.out.trans hb2)
  clear h2 hb2
  obtain ⟨c0, c1, _, _⟩ := H.out.facts
  obtain ⟨a0, a1, a2⟩ := H.out.a
  obtain ⟨b0, b1, b2⟩ := H.out.b
  go_wp2_with fail
  rw [rounds_succ]
  go_wp2_with fail
  go_quiet (fail)
  clear c0 c1 a0 a1 a2 b0 b1 b2
  replace H := Lib.hid (H.out.drewN nq)
  replace HB := Lib.hid (bdrewN HB.out nq)
  generalize w2.drewN nq = w3 at *
  obtain ⟨c0, c1, _, _⟩ := H.out.facts
  obtain ⟨a0, a1, a2⟩ := H.out.a
  obtain ⟨b0, b1, b2⟩ := H.out.b
  go_wp2_with fail
  refine wp_loop_rounds 1 ?_
  rw [rounds_succ]
  go_wp2_with fail
  go_quiet (fail)
  clear c0 c1 a0 a1 a2 b0 b1 b2
  replace H := Lib.hid (H.out.drewN nq)
  replace HB := Lib.hid (bdrewN HB.out nq)
  generalize w3.drewN nq = w4 at *
  obtain ⟨c0, c1, _, _⟩ := H.out.facts
  obtain ⟨a0, a1, a2⟩ := H.out.a
  obtain ⟨b0, b1, b2⟩ := H.out.b
  have hm2 : Int.tdiv 4 2 = 2 := rfl
  go_wp2_with fail
  have n1 : ¬ ca = 1 := by have := HOR.out.2.2.2.2.2.2.2.2.2.2.1; omega
  have n2 : ¬ cb = 1 := by have := HOR.out.2.2.2.2.2.2.2.2.2.2.2; omega
  have n3 : ¬ cb = 2 := by have := HOR.out.2.2.2.2.2.2.2.2.2.2.2; omega
  have m1 : 3 ≤ ca := HOR.out.2.2.2.2.2.2.2.2.2.2.1
  have m2 : 3 ≤ cb := HOR.out.2.2.2.2.2.2.2.2.2.2.2
  have i1 : (3 : Int) ≤ (ca : Int) := by omega
  have i2 : (3 : Int) ≤ (cb : Int) := by omega
  have i3 : (2 : Int) ≤ (cb : Int) := by omega
  have hw3 : IntKind.i64.wrap 3 = 3 := by kernel_rfl
  have S0 : SM w B g ga ca gb cb gk gl (true, false, false) (true, false, false) w4 := ⟨⟨H.out, HB.out⟩, c0, c1⟩
  clear c0 c1 a0 a1 a2 b0 b1 b2
  go_region_held3 (fun w' => SM w B g ga ca gb cb gk gl (true, false, false) (true, false, false) w') (first | assumption | exact sm_keep (by assumption) ((Below.refl _ _).drew) | exact sm_keep (by assumption) (by assumption)) (first | (go_at_call 40; ((with_reducible refine (sm_divide (by assumption) _ _ _).mono ?_)); rintro e w5 ⟨rfl, hb5⟩))
  all_goals
    rename_i hHeld
    have H5 := Lib.hid hHeld.1.1
    have HB5 := Lib.hid hHeld.1.2
    clear hHeld S0
    go_wp2_with fail
    refine (match_mid B g ga ca gb cb gk gl (true, false, false) (true, false, false) (true, false, true) (true, true, false) rfl rfl _ H5.out).mono ?_
    rintro e w6 ⟨rfl, h6, hb6⟩
    have H6 := Lib.hid h6
    have HB6 := Lib.hid (HB5.out.trans hb6)
    clear h6 hb6 H5 HB5
    go_wp2_with fail
    refine (match_end B g ga ca gb cb gk gl (true, false, true) (true, true, false) _ H6.out).mono ?_
    rintro e w7 ⟨rfl, h7, hb7⟩
    have HB7 := Lib.hid (HB6.out.trans hb7)
    go_wp2_with fail
    first | go_end0 | refine bodyPost_ret (results_none rfl _ _ _) rfl ?_
    exact ⟨rfl, h7, HB7.out⟩
