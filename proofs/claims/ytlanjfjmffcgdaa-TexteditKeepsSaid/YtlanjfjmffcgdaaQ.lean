/-
  What the example's comparison calls: lengths, at the numbers that it calls it with. No condition but on the cells.
-/
import Derived.Test.YtlanjfjmffcgdaaO
namespace Go.Proofs.Ytlanjfjmffcgdaa
open Go.RowKit
set_option linter.unusedSimpArgs false
set_option linter.unusedVariables false
theorem Try.make78 (w : World) : (Instr.makeSlice 78 (.int .i64 1) (.int .i64 1)).run Try.prog w = .ok (.slice (some ⟨w.heap.size, 0, none⟩) 1 1) (w.alloc (.cells #[.int .u64 0] 79)) := by kernel_rfl
theorem Try.make53 (w : World) : (Instr.makeSlice 53 (.int .i64 3) (.int .i64 3)).run Try.prog w = .ok (.slice (some ⟨w.heap.size, 0, none⟩) 3 3) (w.alloc (.cells #[.int .i64 0, .int .i64 0, .int .i64 0] 3)) := by kernel_rfl
/-- three numbers in a row -/
def T3 (w : World) (g : Nat) (x y z : Int) : Prop := w.heap[g]? = some (.cells #[.int .i64 x, .int .i64 y, .int .i64 z] 3 (0, 0))
theorem T3.facts {w : World} {g : Nat} {x y z : Int} (h : T3 w g x y z) : g < w.heap.size ∧ w.cell? ⟨g, 0, none⟩ = some (.int .i64 x) ∧ w.cell? ⟨g, 1, none⟩ = some (.int .i64 y) ∧ w.cell? ⟨g, 2, none⟩ = some (.int .i64 z) :=
  ⟨(Array.getElem?_eq_some_iff.1 h).1, by rw [Lib.cell_of_heap h]; rfl, by rw [Lib.cell_of_heap h]; rfl, by rw [Lib.cell_of_heap h]; rfl⟩
theorem T3.froz {w : World} {g : Nat} {x y z : Int} (h : T3 w g x y z) : w.frozen? ⟨g, 1, none⟩ = false ∧ w.frozen? ⟨g, 2, none⟩ = false := by
  unfold T3 at h
  exact ⟨by simp [World.frozen?, h], by simp [World.frozen?, h]⟩
theorem T3.set1 {w : World} {g : Nat} {x y z : Int} (h : T3 w g x y z) (v : Int) : T3 (w.setCell ⟨g, 1, none⟩ (.int .i64 v)) g x v z := Lib.heap_setCell_same (i := 1) h _
theorem T3.set2 {w : World} {g : Nat} {x y z : Int} (h : T3 w g x y z) (v : Int) : T3 (w.setCell ⟨g, 2, none⟩ (.int .i64 v)) g x y v := Lib.heap_setCell_same (i := 2) h _
theorem T3.below {w w' : World} {g : Nat} {x y z : Int} (h : T3 w g x y z) (hb : Below w.heap.size w w') : T3 w' g x y z := by
  unfold T3; rw [hb.block _ h.facts.1]; exact h
def LenP (w : World) (x y z : Int) (e : Ending) (w' : World) : Prop := ∃ g, e = .returned (.slice (some ⟨g, 0, none⟩) 3 3) ∧ T3 w' g x y z ∧ Below w.heap.size w w'
theorem Pl.grown {w w' : World} {B g b : Nat} {bits : Int} (h : Pl w B g bits) (hg : w.grownBy w' (some b)) (hne : g ≠ b) : Pl w' B g bits := by
  have hb : w'.heap[g]? = w.heap[g]? := hg.block g h.2.1 (by intro e; injection e with e; exact hne e)
  exact ⟨h.1, Nat.lt_of_lt_of_le h.2.1 hg.size, by rw [World.cell?_of_block hb]; exact h.2.2.1, by rw [World.cell?_of_block hb]; exact h.2.2.2⟩
theorem U1.grown {w w' : World} {g b : Nat} {x : Int} (h : U1 w g x) (hg : w.grownBy w' (some b)) (hne : g ≠ b) : U1 w' g x :=
  (hg.block g h.facts.1 (by intro e; injection e with e; exact hne e)).trans h
theorem U1.below {w w' : World} {g : Nat} {x : Int} (h : U1 w g x) (hb : Below w.heap.size w w') : U1 w' g x := by
  unfold U1; rw [hb.block _ h.facts.1]; exact h
theorem u1_new (w : World) (x : Int) : U1 (w.alloc (.cells #[.int .u64 x] 79)) w.heap.size x := (MapKept.heap_alloc w _).1
set_option maxRecDepth 100000 in
set_option maxHeartbeats 16000000 in
theorem lengths_hit (ga oa ca gb ob cb : Nat) (w : World) (ha0 : w.cell? ⟨ga, oa, none⟩ = some (.int .i64 1)) (ha1 : w.cell? ⟨ga, oa + 1, none⟩ = some (.int .i64 2)) (hb0 : w.cell? ⟨gb, ob, none⟩ = some (.int .i64 2)) :
    Calls Try.prog 42 #[.slice (some ⟨ga, oa, none⟩) 2 ca, .slice (some ⟨gb, ob, none⟩) 1 cb] w (LenP w 0 0 1) := by
  have hga := World.block_lt_of_cell? w _ ha0
  have hgb := World.block_lt_of_cell? w _ hb0
  simp only at hga hgb
  have HA0 := Lib.hid ha0
  have HA1 := Lib.hid ha1
  have HB0 := Lib.hid hb0
  have hmm := @run_makeMap Try.prog
  have M0 := Lib.hid (show MP (w.alloc (.map #[] 0)) w.heap.size [] 0 from (MapKept.heap_alloc w _).1)
  have B0 := Lib.hid ((Below.refl w.heap.size w).alloc (Nat.le_refl _) (.map #[] 0))
  clear ha0 ha1 hb0
  obtain ⟨m, hm⟩ : ∃ m, w.heap.size = m := ⟨_, rfl⟩
  have HM := Lib.hid hm
  go_enter Try.func42, Try.ntmps42
  go_wp2_with fail
  clear hmm
  rw [hm] at M0
  clear hm
  generalize w.alloc (.map #[] 0) = w1 at *
  have hml := M0.out.lt
  have a0 : w1.cell? ⟨ga, oa, none⟩ = some (.int .i64 1) := by rw [B0.out.cell hga]; exact HA0.out
  have hl := look75 M0.out 1 (.slice none 0 0) (.inl ⟨rfl, rfl⟩)
  refine wp_loop_rounds 3 ?_
  rw [rounds_succ]
  go_wp2_with fail
  refine (place_0 _).mono ?_
  rintro e w2 ⟨g0, k0, rfl, p0, hb2⟩
  have M2 := Lib.hid (M0.out.below hb2)
  have B2 := Lib.hid (B0.out.trans (hb2.mono B0.out.size))
  have P2 := Lib.hid p0
  clear hl a0 hb2 p0 M0 B0
  have hg0 : m < g0 := Nat.lt_of_lt_of_le hml P2.out.1
  have hup := upd75 M2.out 1 (.slice (some ⟨g0, 0, none⟩) 1 k0) rfl
  go_wp2_with fail
  have M3 := Lib.hid (putMap_mp M2.out.lt ([] ++ [⟨.int .i64 1, .slice (some ⟨g0, 0, none⟩) 1 k0, 0⟩]) (0 + 1))
  have G3 := putMap_gb w2 m ([] ++ [⟨.int .i64 1, .slice (some ⟨g0, 0, none⟩) 1 k0, 0⟩]) (0 + 1)
  have P3 := Lib.hid (P2.out.grown G3 (by omega))
  have B3 := Lib.hid (below_grown B2.out G3 (by have := HM.out; omega) B2.out.size)
  clear hup G3 M2 P2 B2
  simp only [List.nil_append, Nat.zero_add] at M3 P3 B3
  generalize putMap w2 m [⟨.int .i64 1, .slice (some ⟨g0, 0, none⟩) 1 k0, 0⟩] 1 = w3 at *
  have a1 : w3.cell? ⟨ga, oa + 1, none⟩ = some (.int .i64 2) := by rw [B3.out.cell hga]; exact HA1.out
  have hl := look75 M3.out 2 (.slice none 0 0) (.inl ⟨rfl, rfl⟩)
  rw [rounds_succ]
  go_wp2_with fail
  refine (place_1 _).mono ?_
  rintro e w4 ⟨g1, k1, rfl, p1, hb4⟩
  have hml3 := M3.out.lt
  have M4 := Lib.hid (M3.out.below hb4)
  have B4 := Lib.hid (B3.out.trans (hb4.mono B3.out.size))
  have P4 := Lib.hid (P3.out.below hb4)
  have Q4 := Lib.hid p1
  have hg1 : m < g1 := Nat.lt_of_lt_of_le hml3 Q4.out.1
  clear hl a1 hb4 p1 M3 B3 P3
  have hup := upd75 M4.out 2 (.slice (some ⟨g1, 0, none⟩) 1 k1) rfl
  go_wp2_with fail
  have M5 := Lib.hid (putMap_mp M4.out.lt ([⟨.int .i64 1, .slice (some ⟨g0, 0, none⟩) 1 k0, 0⟩] ++ [⟨.int .i64 2, .slice (some ⟨g1, 0, none⟩) 1 k1, 1⟩]) (1 + 1))
  have G5 := putMap_gb w4 m ([⟨.int .i64 1, .slice (some ⟨g0, 0, none⟩) 1 k0, 0⟩] ++ [⟨.int .i64 2, .slice (some ⟨g1, 0, none⟩) 1 k1, 1⟩]) (1 + 1)
  have P5 := Lib.hid (P4.out.grown G5 (by omega))
  have Q5 := Lib.hid (Q4.out.grown G5 (by omega))
  have B5 := Lib.hid (below_grown B4.out G5 (by have := HM.out; omega) B4.out.size)
  clear hup G5 M4 P4 B4 Q4
  simp only [List.cons_append, List.nil_append, Nat.reduceAdd] at M5 P5 B5 Q5
  obtain ⟨ES, hES⟩ : ∃ ES, ES = [(⟨.int .i64 1, .slice (some ⟨g0, 0, none⟩) 1 k0, 0⟩ : MapEntry), ⟨.int .i64 2, .slice (some ⟨g1, 0, none⟩) 1 k1, 1⟩] := ⟨_, rfl⟩
  have HES := Lib.hid hES
  rw [← hES] at M5 P5 B5 Q5 ⊢
  clear hES
  generalize putMap w4 m ES 2 = w5 at *
  have hmk1 := Try.make78
  rw [rounds_succ]
  go_wp2_with fail
  refine wp_loop_rounds 2 ?_
  rw [rounds_succ]
  go_wp2_with fail
  rw [rounds_succ]
  go_wp2_with fail
  have hml5 := M5.out.lt
  have hg15 := Q5.out.2.1
  have B6 := Lib.hid ((B5.out.alloc B5.out.size (.cells #[.int .u64 18446744073709551615] 79)).alloc (by simp; have := B5.out.size; omega) (.cells #[.int .u64 0] 79))
  have K6 := Lib.hid (((Below.refl w5.heap.size w5).alloc (Nat.le_refl _) (.cells #[.int .u64 18446744073709551615] 79)).alloc (by simp) (.cells #[.int .u64 0] 79))
  have M6 := Lib.hid (M5.out.below K6.out)
  have P6 := Lib.hid (Q5.out.below K6.out)
  have R6 := Lib.hid ((u1_new w5 18446744073709551615).below ((Below.refl _ _).alloc (Nat.le_refl _) (.cells #[.int .u64 0] 79)))
  have Z6 : Hid (U1 ((w5.alloc (.cells #[.int .u64 18446744073709551615] 79)).alloc (.cells #[.int .u64 0] 79)) (w5.heap.size + 1) 0) := Lib.hid (by have := u1_new (w5.alloc (.cells #[.int .u64 18446744073709551615] 79)) 0; simpa using this)
  clear hmk1 M5 P5 Q5 B5 K6
  generalize (w5.alloc (.cells #[.int .u64 18446744073709551615] 79)).alloc (.cells #[.int .u64 0] 79) = w6 at *
  generalize w5.heap.size = r at *
  obtain ⟨q, hq⟩ : ∃ q, r + 1 = q := ⟨_, rfl⟩
  rw [hq] at Z6 ⊢
  have hrq : r < q := by omega
  clear hq
  have b0 : w6.cell? ⟨gb, ob, none⟩ = some (.int .i64 2) := by rw [B6.out.cell hgb]; exact HB0.out
  have hl := look75 M6.out 2 (.slice (some ⟨g1, 0, none⟩) 1 k1) (.inr ⟨1, by rw [HES.out]; rfl⟩)
  refine wp_loop_rounds 2 ?_
  rw [rounds_succ]
  go_wp2_with fail
  clear hl b0
  obtain ⟨z1, p0, p1⟩ := P6.out.2
  obtain ⟨z2, d0, f0⟩ := Z6.out.facts
  refine wp_loop_rounds 2 ?_
  rw [rounds_succ]
  go_wp2_with fail
  have G7 := gb_set w6 ⟨q, 0, none⟩ (.int .u64 2)
  have K7 := (Below.refl (w6.setCell ⟨q, 0, none⟩ (.int .u64 2)).heap.size (w6.setCell ⟨q, 0, none⟩ (.int .u64 2))).alloc (Nat.le_refl _) (.cells #[.int .i64 0, .int .u64 2] 81)
  have M7 := Lib.hid ((M6.out.grown G7 (by simp; omega)).below K7)
  have P7 := Lib.hid ((P6.out.grown G7 (by simp; omega)).below K7)
  have Z7 := Lib.hid ((Z6.out.set 2).below K7)
  have R7 := Lib.hid ((R6.out.grown G7 (by simp; omega)).below K7)
  have B7' := below_grown B6.out G7 (by have := HM.out; simp; omega) B6.out.size
  have B7 := Lib.hid (B7'.alloc B7'.size (.cells #[.int .i64 0, .int .u64 2] 81))
  clear B7' G7 K7 M6 P6 R6 Z6 B6 z1 p0 p1 z2 d0 f0
  generalize (w6.setCell ⟨q, 0, none⟩ (.int .u64 2)).alloc (.cells #[.int .i64 0, .int .u64 2] 81) = w7 at *
  rw [rounds_succ]
  go_wp2_with fail
  refine (advance_hit r q 1 1 _ R7.out Z7.out).mono ?_
  rintro e w8 ⟨rfl, R8', G8⟩
  have R8 := Lib.hid R8'
  have M8 := Lib.hid (M7.out.grown G8 (by simp; omega))
  have P8 := Lib.hid (P7.out.grown G8 (by omega))
  have Z8 := Lib.hid (Z7.out.grown G8 (by omega))
  have B8 := Lib.hid (below_grown B7.out G8 (by have := HM.out; omega) B7.out.size)
  clear R8' G8 M7 P7 Z7 B7 R7
  have hl := look75 M8.out 2 (.slice (some ⟨g1, 0, none⟩) 1 k1) (.inr ⟨1, by rw [HES.out]; rfl⟩)
  go_wp2_with fail
  clear hl
  obtain ⟨z1, p0, p1⟩ := P8.out.2
  obtain ⟨z2, d0, f0⟩ := Z8.out.facts
  refine wp_loop_rounds 2 ?_
  rw [rounds_succ]
  go_wp2_with fail
  have G9 := gb_set w8 ⟨q, 0, none⟩ (.int .u64 0)
  have K9 := (Below.refl (w8.setCell ⟨q, 0, none⟩ (.int .u64 0)).heap.size (w8.setCell ⟨q, 0, none⟩ (.int .u64 0))).alloc (Nat.le_refl _) (.cells #[.int .i64 0, .int .u64 2] 81)
  have R9 := Lib.hid ((R8.out.grown G9 (by simp; omega)).below K9)
  have B9' := below_grown B8.out G9 (by have := HM.out; simp; omega) B8.out.size
  have B9 := Lib.hid (B9'.alloc B9'.size (.cells #[.int .i64 0, .int .u64 2] 81))
  clear B9' G9 K9 M8 P8 R8 Z8 B8 z1 p0 p1 z2 d0 f0
  generalize (w8.setCell ⟨q, 0, none⟩ (.int .u64 0)).alloc (.cells #[.int .i64 0, .int .u64 2] 81) = w9 at *
  rw [rounds_succ]
  go_wp2_with fail
  have hmk2 := Try.make53
  rw [rounds_succ]
  go_wp2_with fail
  have T0 := Lib.hid (show T3 (w9.alloc (.cells #[.int .i64 0, .int .i64 0, .int .i64 0] 3)) w9.heap.size 0 0 0 from (MapKept.heap_alloc _ _).1)
  have R0 := Lib.hid (R9.out.below ((Below.refl _ _).alloc (Nat.le_refl _) (.cells #[.int .i64 0, .int .i64 0, .int .i64 0] 3)))
  have C0 := Lib.hid (B9.out.alloc B9.out.size (.cells #[.int .i64 0, .int .i64 0, .int .i64 0] 3))
  have hrl : r < w9.heap.size := R9.out.facts.1
  have hwl : Hid (w.heap.size ≤ w9.heap.size) := Lib.hid B9.out.size
  clear R9 B9 hmk2
  generalize w9.alloc (.cells #[.int .i64 0, .int .i64 0, .int .i64 0] 3) = v0 at *
  generalize w9.heap.size = l at *
  have hw0 : wrap64 0 = 0 := by kernel_rfl
  have hw1 : wrap64 1 = 1 := by kernel_rfl
  have hx : bits .xor .u64 IntKind.u64.max 18446744073709551613 = 2 := by kernel_rfl
  have hx0 : bits .and .u64 2 1 = 0 := by kernel_rfl
  have hx1 : bits .and .u64 1 1 = 1 := by kernel_rfl
  refine wp_loop_rounds 3 ?_
  obtain ⟨y0, y1, _⟩ := R0.out.facts
  obtain ⟨t0, t1, t2, t3⟩ := T0.out.facts
  obtain ⟨tf1, tf2⟩ := T0.out.froz
  rw [rounds_succ]
  go_wp2_with fail
  have T1 := Lib.hid (T0.out.set1 0)
  have R1 := Lib.hid (R0.out.grown (gb_set v0 ⟨l, 1, none⟩ (.int .i64 0)) (by simp; omega))
  have C1 := Lib.hid (below_grown C0.out (gb_set v0 ⟨l, 1, none⟩ (.int .i64 0)) hwl.out C0.out.size)
  clear T0 R0 C0 y0 y1 t0 t1 t2 t3 tf1 tf2
  generalize v0.setCell ⟨l, 1, none⟩ (.int .i64 0) = v1 at *
  obtain ⟨y0, y1, _⟩ := R1.out.facts
  obtain ⟨t0, t1, t2, t3⟩ := T1.out.facts
  obtain ⟨tf1, tf2⟩ := T1.out.froz
  rw [rounds_succ]
  go_wp2_with fail
  have T2 := Lib.hid (T1.out.set2 1)
  have C2 := Lib.hid (below_grown C1.out (gb_set v1 ⟨l, 2, none⟩ (.int .i64 1)) hwl.out C1.out.size)
  clear T1 R1 C1 y0 y1 t0 t1 t2 t3 tf1 tf2
  generalize v1.setCell ⟨l, 2, none⟩ (.int .i64 1) = v2 at *
  rw [rounds_succ]
  go_wp2_with fail
  go_ret
  exact ⟨l, rfl, T2.out, C2.out⟩
set_option maxRecDepth 100000 in
set_option maxHeartbeats 16000000 in
theorem lengths_miss (ga oa ca gb ob cb : Nat) (w : World) (ha0 : w.cell? ⟨ga, oa, none⟩ = some (.int .i64 2)) (ha1 : w.cell? ⟨ga, oa + 1, none⟩ = some (.int .i64 1)) (hb0 : w.cell? ⟨gb, ob, none⟩ = some (.int .i64 3)) :
    Calls Try.prog 42 #[.slice (some ⟨ga, oa, none⟩) 2 ca, .slice (some ⟨gb, ob, none⟩) 1 cb] w (LenP w 0 0 0) := by
  have hga := World.block_lt_of_cell? w _ ha0
  have hgb := World.block_lt_of_cell? w _ hb0
  simp only at hga hgb
  have HA0 := Lib.hid ha0
  have HA1 := Lib.hid ha1
  have HB0 := Lib.hid hb0
  have hmm := @run_makeMap Try.prog
  have M0 := Lib.hid (show MP (w.alloc (.map #[] 0)) w.heap.size [] 0 from (MapKept.heap_alloc w _).1)
  have B0 := Lib.hid ((Below.refl w.heap.size w).alloc (Nat.le_refl _) (.map #[] 0))
  clear ha0 ha1 hb0
  obtain ⟨m, hm⟩ : ∃ m, w.heap.size = m := ⟨_, rfl⟩
  have HM := Lib.hid hm
  go_enter Try.func42, Try.ntmps42
  go_wp2_with fail
  clear hmm
  rw [hm] at M0
  clear hm
  generalize w.alloc (.map #[] 0) = w1 at *
  have hml := M0.out.lt
  have a0 : w1.cell? ⟨ga, oa, none⟩ = some (.int .i64 2) := by rw [B0.out.cell hga]; exact HA0.out
  have hl := look75 M0.out 2 (.slice none 0 0) (.inl ⟨rfl, rfl⟩)
  refine wp_loop_rounds 3 ?_
  rw [rounds_succ]
  go_wp2_with fail
  refine (place_0 _).mono ?_
  rintro e w2 ⟨g0, k0, rfl, p0, hb2⟩
  have M2 := Lib.hid (M0.out.below hb2)
  have B2 := Lib.hid (B0.out.trans (hb2.mono B0.out.size))
  have P2 := Lib.hid p0
  clear hl a0 hb2 p0 M0 B0
  have hg0 : m < g0 := Nat.lt_of_lt_of_le hml P2.out.1
  have hup := upd75 M2.out 2 (.slice (some ⟨g0, 0, none⟩) 1 k0) rfl
  go_wp2_with fail
  have M3 := Lib.hid (putMap_mp M2.out.lt ([] ++ [⟨.int .i64 2, .slice (some ⟨g0, 0, none⟩) 1 k0, 0⟩]) (0 + 1))
  have G3 := putMap_gb w2 m ([] ++ [⟨.int .i64 2, .slice (some ⟨g0, 0, none⟩) 1 k0, 0⟩]) (0 + 1)
  have P3 := Lib.hid (P2.out.grown G3 (by omega))
  have B3 := Lib.hid (below_grown B2.out G3 (by have := HM.out; omega) B2.out.size)
  clear hup G3 M2 P2 B2
  simp only [List.nil_append, Nat.zero_add] at M3 P3 B3
  generalize putMap w2 m [⟨.int .i64 2, .slice (some ⟨g0, 0, none⟩) 1 k0, 0⟩] 1 = w3 at *
  have a1 : w3.cell? ⟨ga, oa + 1, none⟩ = some (.int .i64 1) := by rw [B3.out.cell hga]; exact HA1.out
  have hl := look75 M3.out 1 (.slice none 0 0) (.inl ⟨rfl, rfl⟩)
  rw [rounds_succ]
  go_wp2_with fail
  refine (place_1 _).mono ?_
  rintro e w4 ⟨g1, k1, rfl, p1, hb4⟩
  have hml3 := M3.out.lt
  have M4 := Lib.hid (M3.out.below hb4)
  have B4 := Lib.hid (B3.out.trans (hb4.mono B3.out.size))
  have P4 := Lib.hid (P3.out.below hb4)
  have Q4 := Lib.hid p1
  have hg1 : m < g1 := Nat.lt_of_lt_of_le hml3 Q4.out.1
  clear hl a1 hb4 p1 M3 B3 P3
  have hup := upd75 M4.out 1 (.slice (some ⟨g1, 0, none⟩) 1 k1) rfl
  go_wp2_with fail
  have M5 := Lib.hid (putMap_mp M4.out.lt ([⟨.int .i64 2, .slice (some ⟨g0, 0, none⟩) 1 k0, 0⟩] ++ [⟨.int .i64 1, .slice (some ⟨g1, 0, none⟩) 1 k1, 1⟩]) (1 + 1))
  have G5 := putMap_gb w4 m ([⟨.int .i64 2, .slice (some ⟨g0, 0, none⟩) 1 k0, 0⟩] ++ [⟨.int .i64 1, .slice (some ⟨g1, 0, none⟩) 1 k1, 1⟩]) (1 + 1)
  have P5 := Lib.hid (P4.out.grown G5 (by omega))
  have Q5 := Lib.hid (Q4.out.grown G5 (by omega))
  have B5 := Lib.hid (below_grown B4.out G5 (by have := HM.out; omega) B4.out.size)
  clear hup G5 M4 P4 B4 Q4
  simp only [List.cons_append, List.nil_append, Nat.reduceAdd] at M5 P5 B5 Q5
  obtain ⟨ES, hES⟩ : ∃ ES, ES = [(⟨.int .i64 2, .slice (some ⟨g0, 0, none⟩) 1 k0, 0⟩ : MapEntry), ⟨.int .i64 1, .slice (some ⟨g1, 0, none⟩) 1 k1, 1⟩] := ⟨_, rfl⟩
  have HES := Lib.hid hES
  rw [← hES] at M5 P5 B5 Q5 ⊢
  clear hES
  generalize putMap w4 m ES 2 = w5 at *
  have hmk1 := Try.make78
  rw [rounds_succ]
  go_wp2_with fail
  refine wp_loop_rounds 2 ?_
  rw [rounds_succ]
  go_wp2_with fail
  rw [rounds_succ]
  go_wp2_with fail
  have hml5 := M5.out.lt
  have hg15 := Q5.out.2.1
  have B6 := Lib.hid ((B5.out.alloc B5.out.size (.cells #[.int .u64 18446744073709551615] 79)).alloc (by simp; have := B5.out.size; omega) (.cells #[.int .u64 0] 79))
  have K6 := Lib.hid (((Below.refl w5.heap.size w5).alloc (Nat.le_refl _) (.cells #[.int .u64 18446744073709551615] 79)).alloc (by simp) (.cells #[.int .u64 0] 79))
  have M6 := Lib.hid (M5.out.below K6.out)
  have P6 := Lib.hid (Q5.out.below K6.out)
  have R6 := Lib.hid ((u1_new w5 18446744073709551615).below ((Below.refl _ _).alloc (Nat.le_refl _) (.cells #[.int .u64 0] 79)))
  have Z6 : Hid (U1 ((w5.alloc (.cells #[.int .u64 18446744073709551615] 79)).alloc (.cells #[.int .u64 0] 79)) (w5.heap.size + 1) 0) := Lib.hid (by have := u1_new (w5.alloc (.cells #[.int .u64 18446744073709551615] 79)) 0; simpa using this)
  clear hmk1 M5 P5 Q5 B5 K6
  generalize (w5.alloc (.cells #[.int .u64 18446744073709551615] 79)).alloc (.cells #[.int .u64 0] 79) = w6 at *
  generalize w5.heap.size = r at *
  obtain ⟨q, hq⟩ : ∃ q, r + 1 = q := ⟨_, rfl⟩
  rw [hq] at Z6 ⊢
  have hrq : r < q := by omega
  clear hq
  have b0 : w6.cell? ⟨gb, ob, none⟩ = some (.int .i64 3) := by rw [B6.out.cell hgb]; exact HB0.out
  have hl := look75 M6.out 3 (.slice none 0 0) (.inl ⟨by rw [HES.out]; rfl, rfl⟩)
  refine wp_loop_rounds 2 ?_
  rw [rounds_succ]
  go_wp2_with fail
  clear hl b0
  refine wp_loop_rounds 1 ?_
  have M7 := M6
  have P7 := P6
  have R7 := R6
  have Z7 := Z6
  have B7 := B6
  clear M6 P6 R6 Z6 B6
  obtain ⟨w7, hw7⟩ : ∃ w7, w6 = w7 := ⟨_, rfl⟩
  subst hw7
  rw [rounds_succ]
  go_wp2_with fail
  refine (advance_miss r q 1 1 _ R7.out Z7.out).mono ?_
  rintro e w8 ⟨rfl, R8', G8⟩
  have R8 := Lib.hid R8'
  have M8 := Lib.hid (M7.out.grown G8 (by simp; omega))
  have P8 := Lib.hid (P7.out.grown G8 (by omega))
  have Z8 := Lib.hid (Z7.out.grown G8 (by omega))
  have B8 := Lib.hid (below_grown B7.out G8 (by have := HM.out; omega) B7.out.size)
  clear R8' G8 M7 P7 Z7 B7 R7
  have hl := look75 M8.out 3 (.slice none 0 0) (.inl ⟨by rw [HES.out]; rfl, rfl⟩)
  go_wp2_with fail
  clear hl
  refine wp_loop_rounds 1 ?_
  have R9 := R8
  have B9 := B8
  clear M8 P8 R8 Z8 B8
  rw [rounds_succ]
  go_wp2_with fail
  have hmk2 := Try.make53
  rw [rounds_succ]
  go_wp2_with fail
  have T0 := Lib.hid (show T3 (w8.alloc (.cells #[.int .i64 0, .int .i64 0, .int .i64 0] 3)) w8.heap.size 0 0 0 from (MapKept.heap_alloc _ _).1)
  have R0 := Lib.hid (R9.out.below ((Below.refl _ _).alloc (Nat.le_refl _) (.cells #[.int .i64 0, .int .i64 0, .int .i64 0] 3)))
  have C0 := Lib.hid (B9.out.alloc B9.out.size (.cells #[.int .i64 0, .int .i64 0, .int .i64 0] 3))
  have hrl : r < w8.heap.size := R9.out.facts.1
  have hwl : Hid (w.heap.size ≤ w8.heap.size) := Lib.hid B9.out.size
  clear R9 B9 hmk2
  generalize w8.alloc (.cells #[.int .i64 0, .int .i64 0, .int .i64 0] 3) = v0 at *
  generalize w8.heap.size = l at *
  have hw0 : wrap64 0 = 0 := by kernel_rfl
  have hw1 : wrap64 1 = 1 := by kernel_rfl
  have hx : bits .xor .u64 IntKind.u64.max 18446744073709551615 = 0 := by kernel_rfl
  have hx0 : bits .and .u64 0 1 = 0 := by kernel_rfl
  have hx1 : bits .and .u64 0 1 = 0 := by kernel_rfl
  refine wp_loop_rounds 3 ?_
  obtain ⟨y0, y1, _⟩ := R0.out.facts
  obtain ⟨t0, t1, t2, t3⟩ := T0.out.facts
  obtain ⟨tf1, tf2⟩ := T0.out.froz
  rw [rounds_succ]
  go_wp2_with fail
  have T1 := Lib.hid (T0.out.set1 0)
  have R1 := Lib.hid (R0.out.grown (gb_set v0 ⟨l, 1, none⟩ (.int .i64 0)) (by simp; omega))
  have C1 := Lib.hid (below_grown C0.out (gb_set v0 ⟨l, 1, none⟩ (.int .i64 0)) hwl.out C0.out.size)
  clear T0 R0 C0 y0 y1 t0 t1 t2 t3 tf1 tf2
  generalize v0.setCell ⟨l, 1, none⟩ (.int .i64 0) = v1 at *
  obtain ⟨y0, y1, _⟩ := R1.out.facts
  obtain ⟨t0, t1, t2, t3⟩ := T1.out.facts
  obtain ⟨tf1, tf2⟩ := T1.out.froz
  rw [rounds_succ]
  go_wp2_with fail
  have T2 := Lib.hid (T1.out.set2 0)
  have C2 := Lib.hid (below_grown C1.out (gb_set v1 ⟨l, 2, none⟩ (.int .i64 0)) hwl.out C1.out.size)
  clear T1 R1 C1 y0 y1 t0 t1 t2 t3 tf1 tf2
  generalize v1.setCell ⟨l, 2, none⟩ (.int .i64 0) = v2 at *
  rw [rounds_succ]
  go_wp2_with fail
  go_ret
  exact ⟨l, rfl, T2.out, C2.out⟩
