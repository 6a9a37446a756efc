/-
  Diff at the example's texts. No condition.
-/
import Derived.Test.YtlanjfjmffcgdaaU
import Derived.WalkMore
namespace Go.Proofs.Ytlanjfjmffcgdaa
open Go.RowKit
set_option linter.unusedSimpArgs false
set_option linter.unusedVariables false
abbrev exA : ByteArray := ⟨#[97, 10, 98, 10, 99, 10]⟩
abbrev exB : ByteArray := ⟨#[97, 10, 99, 10, 100, 10]⟩
theorem lin1 : linL exA = [lnA, lnB, lnC] := by decide +kernel
theorem lin2 : linL exB = [lnA, lnC, lnD] := by decide +kernel
theorem str3 {w : World} {B : Nat} {v : Value} {x y z : ByteArray} (h : w.ownsRow B 9 1 v 3 (strs [x, y, z])) : ∃ g c, v = .slice (some ⟨g, 0, none⟩) 3 c ∧ B ≤ g ∧ w.cell? ⟨g, 0, none⟩ = some (.string x) ∧ w.cell? ⟨g, 1, none⟩ = some (.string y) ∧ w.cell? ⟨g, 2, none⟩ = some (.string z) := by
  rcases id h.2 with ⟨hv, hn⟩ | ⟨g, cap, cur, hv, hbg, hg, hle, r⟩
  · cases hn
  · subst hv
    refine ⟨g, cap, rfl, hbg, ?_, ?_, ?_⟩
    · rw [h.cellAt 0 (by simp [strs])]; rfl
    · rw [h.cellAt 1 (by simp [strs])]; rfl
    · rw [h.cellAt 2 (by simp [strs])]; rfl
/-- what Diff's loop reads -/
structure DS (w0 w : World) (g gk gl g1 g2 : Nat) : Prop where
  c2 : w.cell? ⟨g, 2, none⟩ = some (.slice (some ⟨gk, 0, none⟩) 3 3)
  c3 : w.cell? ⟨g, 3, none⟩ = some (.slice (some ⟨gl, 0, none⟩) 3 3)
  k0 : w.cell? ⟨gk, 0, none⟩ = some (.bool true)
  k1 : w.cell? ⟨gk, 1, none⟩ = some (.bool false)
  k2 : w.cell? ⟨gk, 2, none⟩ = some (.bool true)
  l0 : w.cell? ⟨gl, 0, none⟩ = some (.bool true)
  l1 : w.cell? ⟨gl, 1, none⟩ = some (.bool true)
  l2 : w.cell? ⟨gl, 2, none⟩ = some (.bool false)
  a0 : w.cell? ⟨g1, 0, none⟩ = some (.string lnA)
  a1 : w.cell? ⟨g1, 1, none⟩ = some (.string lnB)
  a2 : w.cell? ⟨g1, 2, none⟩ = some (.string lnC)
  b2 : w.cell? ⟨g2, 2, none⟩ = some (.string lnD)
  b : Below w0.heap.size w0 w
theorem DS.below {w0 w w' : World} {g gk gl g1 g2 : Nat} (h : DS w0 w g gk gl g1 g2) (hb : Below w.heap.size w w') : DS w0 w' g gk gl g1 g2 :=
  ⟨cell_keep h.c2 hb, cell_keep h.c3 hb, cell_keep h.k0 hb, cell_keep h.k1 hb, cell_keep h.k2 hb, cell_keep h.l0 hb, cell_keep h.l1 hb, cell_keep h.l2 hb, cell_keep h.a0 hb, cell_keep h.a1 hb, cell_keep h.a2 hb, cell_keep h.b2 hb, h.b.trans (hb.mono h.b.size)⟩
theorem szA : lnA.size = 2 := rfl
theorem szB : lnB.size = 2 := rfl
theorem szC : lnC.size = 2 := rfl
theorem szD : lnD.size = 2 := rfl
theorem blen (B b : Nat) (bs : List Value) (w : World) (h : Lib.IsBuilderF 52 5 B b bs w) : Calls Try.prog 33 #[.pointer (some ⟨b, 0, none⟩)] w fun e w' => e = .returned (.int .i64 bs.length) ∧ w = w' :=
  (Try.Builder_Len_f B b bs w h).mono fun _ _ ⟨he, hw⟩ => ⟨he, hw.symm⟩
theorem cells_new3 (w : World) (x y z : Value) (T : TypeId) : ∀ j u, [x, y, z][j]? = some u → (w.alloc (.cells #[x, y, z] T)).cell? ((⟨w.heap.size, 0, none⟩ : Addr).add j) = some u := by
  intro j u h
  rw [show (⟨w.heap.size, 0, none⟩ : Addr).add j = ⟨w.heap.size, j, none⟩ by simp [Addr.add]; exact fun e => e.symm, World.cell?_alloc_new]
  simpa using h
def exD : List Ed := [(2, 4, ⟨#[]⟩), (6, 6, lnD)]
def DifP (w : World) (e : Ending) (w' : World) : Prop := ∃ v, e = .returned v ∧ w'.ownsRow w.heap.size 35 3 v 2 (flat3 exD) ∧ Below w.heap.size w w'
set_option maxRecDepth 100000 in
set_option maxHeartbeats 16000000 in
theorem diff_ex (w : World) : Calls Try.prog 24 #[.string exA, .string exB] w (DifP w) := by
  have C1 := Lib.hid (lines_any exA (by decide) w)
  rw [lin1] at C1
  go_enter Try.func24, Try.ntmps24
  go_wp2_with fail
  refine C1.out.mono ?_
  rintro e w1 ⟨v1, rfl, o1, hb1⟩
  obtain ⟨g1, k1, rfl, hg1, a0, a1, a2⟩ := str3 o1
  have C2 := Lib.hid (lines_any exB (by decide) w1)
  rw [lin2] at C2
  have B1 := Lib.hid hb1
  have A0 := Lib.hid a0
  have A1 := Lib.hid a1
  have A2 := Lib.hid a2
  clear hb1 a0 a1 a2 o1 C1
  go_wp2_with fail
  refine C2.out.mono ?_
  rintro e w2 ⟨v2, rfl, o2, hb2⟩
  obtain ⟨g2, k2, rfl, hg2, b0, b1, b2⟩ := str3 o2
  have C3 := Lib.hid (compare_ex g1 k1 g2 k2 w2 (fun j hj => by
      have : j = 0 ∨ j = 1 ∨ j = 2 := by simp at hj; omega
      rcases this with rfl | rfl | rfl
      · exact cell_keep A0.out hb2
      · exact cell_keep A1.out hb2
      · exact cell_keep A2.out hb2) (fun j hj => by
      have : j = 0 ∨ j = 1 ∨ j = 2 := by simp at hj; omega
      rcases this with rfl | rfl | rfl
      · exact b0
      · exact b1
      · exact b2))
  have B2 := Lib.hid (B1.out.trans (hb2.mono B1.out.size))
  have E0 := Lib.hid (cell_keep A0.out hb2)
  have E1 := Lib.hid (cell_keep A1.out hb2)
  have E2 := Lib.hid (cell_keep A2.out hb2)
  have F2 := Lib.hid b2
  clear hb2 b0 b1 b2 o2 C2 A0 A1 A2 B1
  go_wp2_with fail
  refine C3.out.mono ?_
  rintro e w3 ⟨g, ga, ca, gb, cb, gk, gl, rfl, hcs, hb3⟩
  have D3 : Hid (DS w w3 g gk gl g1 g2) := Lib.hid ⟨hcs.facts.2.2.1, hcs.facts.2.2.2, hcs.kf.1, hcs.kf.2.1, hcs.kf.2.2.1, hcs.lf.1, hcs.lf.2.1, hcs.lf.2.2.1, cell_keep E0.out hb3, cell_keep E1.out hb3, cell_keep E2.out hb3, cell_keep F2.out hb3, B2.out.trans (hb3.mono B2.out.size)⟩
  clear hcs hb3 C3 E0 E1 E2 F2 B2
  go_wp2_with fail
  refine wp_loop_rounds 4 ?_
  rw [rounds_succ]
  go_wp2_with fail
  have U0 := Lib.hid ((Below.refl w3.heap.size w3).alloc (Nat.le_refl _) (.cells #[.pointer none, .slice none 0 0] 52))
  have I0 := Lib.hid (Lib.IsBuilderF.of (Lib.fresh_isBuilder 52 5 w3))
  have D4 := Lib.hid (D3.out.below U0.out)
  go_step3
  go_wp2_with fail
  go_step3
  go_wp2_with fail
  generalize w3.alloc (.cells #[.pointer none, .slice none 0 0] 52) = w4 at *
  obtain ⟨c2, c3, k0, k1, k2, l0, l1, l2, a0, a1, a2, b2, _⟩ := D4.out
  refine wp_loop_rounds 1 ?_
  rw [rounds_succ]
  go_wp2_with fail
  have zA := szA
  have zB := szB
  have zC := szC
  have zD := szD
  refine (blen w3.heap.size w3.heap.size [] w4 I0.out).mono ?_
  rintro e w' ⟨rfl, rfl⟩
  go_wp2_with fail
  rw [Exit.noGoto_normal]
  clear c2 c3 k0 k1 k2 l0 l1 l2 a0 a1 a2 b2 I0 U0 D3
  obtain ⟨i0, hi, hz0, hz1, hz2⟩ := info_parts Try.info35
  have U1 := Lib.hid ((Below.refl w4.heap.size w4).alloc (Nat.le_refl _) (.cells #[.pointer none, .slice none 0 0] 52))
  have I1 := Lib.hid (Lib.IsBuilderF.of (Lib.fresh_isBuilder 52 5 w4))
  have D5 := Lib.hid (D4.out.below U1.out)
  go_wp2_with fail
  rw [rounds_succ]
  go_wp2_with fail
  go_step3
  go_wp2_with fail
  go_step3
  go_wp2_with fail
  generalize w4.alloc (.cells #[.pointer none, .slice none 0 0] 52) = w5 at *
  obtain ⟨c2, c3, k0, k1, k2, l0, l1, l2, a0, a1, a2, b2, _⟩ := D5.out
  refine wp_loop_rounds 2 ?_
  rw [rounds_succ]
  go_wp2_with fail
  rw [rounds_succ]
  go_wp2_with fail
  refine (Try.Builder_String_empty_k w4.heap.size w4.heap.size w5 I1.out U1.out.size).mono ?_
  rintro e w6 ⟨rfl, _, hb6, _⟩
  have D6 := Lib.hid (D4.out.below (U1.out.trans hb6))
  clear hb6 c2 c3 k0 k1 k2 l0 l1 l2 a0 a1 a2 b2 D4 D5 I1 U1
  have hz6 : w.heap.size ≤ w6.heap.size := D6.out.b.size
  obtain ⟨c2, c3, k0, k1, k2, l0, l1, l2, a0, a1, a2, b2, _⟩ := D6.out
  have x0 : (w6.alloc (.cells #[.int .i64 2, .int .i64 4, .string ⟨#[]⟩] 35)).cell? ⟨g1, 2, none⟩ = some (.string lnC) := cell_keep a2 ((Below.refl _ _).alloc (Nat.le_refl _) _)
  clear c2 c3 k0 k1 k2 l0 l1 l2 a0 a1 a2 b2
  go_wp2_with (at_builtin; refine wpList_append_own _ rfl _ _ 22 rfl w.heap.size 35 i0 (.agg #[.int .i64 0, .int .i64 0, .string ⟨#[]⟩]) 3 32 Try.underlying22 hi hz0 hz1 hz2 rfl (by decide) _ _ _ rfl ((World.ownsRow_nil _ _ _ _).alloc _) ⟨w6.heap.size, 0, none⟩ 1 1 [.int .i64 2, .int .i64 4, .string ⟨#[]⟩] rfl rfl ?c1 ?c2 ?c3 ?c4 ?c5 ?_)
  case c1 => exact cells_new3 _ _ _ _ _
  case c2 => intro u hu; simp at hu; rcases hu with rfl | rfl | rfl <;> rfl
  case c3 => unfold maxLen; omega
  case c4 => omega
  case c5 => simp; omega
  intro v7 w7 hown7 hgrow7 _
  have K7 : Below w6.heap.size w6 w7 := ((Below.refl _ _).alloc (Nat.le_refl _) _).grown hgrow7 (by simp) (fun j hj => by simp [Value.ownBlock] at hj)
  have D7 := Lib.hid (D6.out.below K7)
  have O7 : Hid (w7.ownsRow w.heap.size 35 3 v7 1 [.int .i64 2, .int .i64 4, .string ⟨#[]⟩]) := Lib.hid hown7
  clear hown7 hgrow7 K7 D6 x0
  obtain ⟨c2, c3, k0, k1, k2, l0, l1, l2, a0, a1, a2, b2, _⟩ := D7.out
  go_wp2_with fail
  rw [Exit.noGoto_normal]
  clear c2 c3 k0 k1 k2 l0 l1 l2 a0 a1 a2 b2
  have U8 := Lib.hid ((Below.refl w7.heap.size w7).alloc (Nat.le_refl _) (.cells #[.pointer none, .slice none 0 0] 52))
  have I8 := Lib.hid (Lib.IsBuilderF.of (Lib.fresh_isBuilder 52 5 w7))
  have D8 := Lib.hid (D7.out.below U8.out)
  go_wp2_with fail
  rw [rounds_succ]
  go_wp2_with fail
  go_step3
  go_wp2_with fail
  go_step3
  go_wp2_with fail
  generalize w7.alloc (.cells #[.pointer none, .slice none 0 0] 52) = w8 at *
  obtain ⟨c2, c3, k0, k1, k2, l0, l1, l2, a0, a1, a2, b2, _⟩ := D8.out
  refine wp_loop_rounds 2 ?_
  rw [rounds_succ]
  go_wp2_with fail
  refine (Try.writeString w7.heap.size w7.heap.size [] lnD w8 I8.out (by simp [lnD]; decide) U8.out.size).mono ?_
  rintro e w9 ⟨rfl, h9, hb9, _⟩
  have I9 : Hid (Lib.IsBuilderF 52 5 w7.heap.size w7.heap.size (Lib.byteCells [100, 10]) w9) := Lib.hid (Or.inr h9)
  have U9 := Lib.hid (U8.out.trans hb9)
  have D9 := Lib.hid (D7.out.below U9.out)
  clear h9 hb9 c2 c3 k0 k1 k2 l0 l1 l2 a0 a1 a2 b2 D8 I8 U8
  obtain ⟨c2, c3, k0, k1, k2, l0, l1, l2, a0, a1, a2, b2, _⟩ := D9.out
  go_wp2_with fail
  rw [rounds_succ]
  go_wp2_with fail
  refine (blen w7.heap.size w7.heap.size _ w9 I9.out).mono ?_
  rintro e w' ⟨rfl, rfl⟩
  have hl2 : (Lib.byteCells [100, 10]).length = 2 := rfl
  go_wp2_with fail
  refine (Try.Builder_String_k w7.heap.size w7.heap.size [100, 10] w9 I9.out (by simp)).mono ?_
  rintro e w10 ⟨rfl, _, hb10, _⟩
  have D10 := Lib.hid (D7.out.below (U9.out.trans hb10))
  have O10 := Lib.hid (own_bel O7.out (U9.out.trans hb10))
  have hz10 : w.heap.size ≤ w10.heap.size := D10.out.b.size
  clear hb10 c2 c3 k0 k1 k2 l0 l1 l2 a0 a1 a2 b2 D9 I9 U9 D7 O7
  go_wp2_with (at_builtin; refine wpList_append_own _ rfl _ _ 22 rfl w.heap.size 35 i0 (.agg #[.int .i64 0, .int .i64 0, .string ⟨#[]⟩]) 3 32 Try.underlying22 hi hz0 hz1 hz2 rfl (by decide) _ _ _ rfl (O10.out.alloc _) ⟨w10.heap.size, 0, none⟩ 1 1 [.int .i64 6, .int .i64 6, .string lnD] rfl rfl ?d1 ?d2 ?d3 ?d4 ?d5 ?_)
  case d1 => exact cells_new3 _ _ _ _ _
  case d2 => intro u hu; simp at hu; rcases hu with rfl | rfl <;> rfl
  case d3 => unfold maxLen; omega
  case d4 => omega
  case d5 => simp; omega
  intro v11 w11 hown11 hgrow11 _
  have hrow := fun j hj => (O10.out.lt j hj).1
  have B11 : Hid (Below w.heap.size w w11) := Lib.hid ((D10.out.b.alloc hz10 _).grown hgrow11 (by simp; omega) (fun j hj => by have := hrow j hj; omega))
  have O11 : Hid (w11.ownsRow w.heap.size 35 3 v11 2 (flat3 exD)) := Lib.hid hown11
  clear hown11 hgrow11 hrow D10 O10
  go_wp2_with fail
  rw [Exit.noGoto_normal]
  go_wp2_with fail
  rw [rounds_succ]
  go_wp2_with fail
  go_ret
  exact ⟨v11, rfl, O11.out, B11.out⟩
