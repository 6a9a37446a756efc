/-
  What the example's comparison calls: compare, at the lines that it calls it with. No condition but on the cells.
-/
import Derived.Test.YtlanjfjmffcgdaaT
import Derived.StillTailTactics
namespace Go.Proofs.Ytlanjfjmffcgdaa
open Go.RowKit
set_option linter.unusedSimpArgs false
set_option linter.unusedVariables false
def lnA : ByteArray := ⟨#[97, 10]⟩
def lnB : ByteArray := ⟨#[98, 10]⟩
def lnC : ByteArray := ⟨#[99, 10]⟩
def lnD : ByteArray := ⟨#[100, 10]⟩
theorem num1 : numF [lnA, lnB, lnC] [] = ([0, 1, 2], [lnA, lnB, lnC]) := by decide +kernel
theorem num2 : numF [lnA, lnC, lnD] [lnA, lnB, lnC] = ([0, 2, 3], [lnA, lnB, lnC, lnD]) := by decide +kernel
theorem Try.make54 (w : World) : (Instr.makeSlice 54 (.int .i64 3) (.int .i64 3)).run Try.prog w = .ok (.slice (some ⟨w.heap.size, 0, none⟩) 3 3) (w.alloc (.cells #[.bool false, .bool false, .bool false] 4)) := by kernel_rfl
theorem int3 {w : World} {B : Nat} {v : Value} {x y z : Int} (h : w.ownsRow B 3 1 v 3 (ints [x, y, z])) : ∃ g c, v = .slice (some ⟨g, 0, none⟩) 3 c ∧ 3 ≤ c ∧ B ≤ g ∧ g < w.heap.size ∧ w.cell? ⟨g, 0, none⟩ = some (.int .i64 x) ∧ w.cell? ⟨g, 1, none⟩ = some (.int .i64 y) ∧ w.cell? ⟨g, 2, none⟩ = some (.int .i64 z) := by
  rcases id h.2 with ⟨hv, hn⟩ | ⟨g, cap, cur, hv, hbg, hg, hle, r⟩
  · cases hn
  · subst hv
    refine ⟨g, cap, rfl, hle, hbg, (Array.getElem?_eq_some_iff.1 hg).1, ?_, ?_, ?_⟩
    · rw [h.cellAt 0 (by simp [ints])]; rfl
    · rw [h.cellAt 1 (by simp [ints])]; rfl
    · rw [h.cellAt 2 (by simp [ints])]; rfl
def CmpP (w : World) (e : Ending) (w' : World) : Prop :=
  ∃ g ga ca gb cb gk gl, e = .returned (.pointer (some ⟨g, 0, none⟩)) ∧ CS w' w.heap.size g ga ca gb cb gk gl (true, false, true) (true, true, false) ∧ Below w.heap.size w w'
abbrev kRow : Obj := .cells #[.bool false, .bool false, .bool false] 4
abbrev madeW (w4 : World) (g x y : Nat) : World := ((((w4.setCell ⟨g, 2, none⟩ (.slice (some ⟨x, 0, none⟩) 3 3)).setCell ⟨g, 3, none⟩ (.slice (some ⟨y, 0, none⟩) 3 3)).alloc kRow).alloc kRow).drew
theorem cs_made {w4 : World} {B g ga ca gb cb : Nat} (hg : w4.heap[g]? = some (.cells #[.slice (some ⟨ga, 0, none⟩) 3 ca, .slice (some ⟨gb, 0, none⟩) 3 cb, .slice none 0 0, .slice none 0 0] 56 (0, 0)))
    (a : w4.cell? ⟨ga, 0, none⟩ = some (.int .i64 0) ∧ w4.cell? ⟨ga, 1, none⟩ = some (.int .i64 1) ∧ w4.cell? ⟨ga, 2, none⟩ = some (.int .i64 2))
    (b : w4.cell? ⟨gb, 0, none⟩ = some (.int .i64 0) ∧ w4.cell? ⟨gb, 1, none⟩ = some (.int .i64 2) ∧ w4.cell? ⟨gb, 2, none⟩ = some (.int .i64 3))
    (hag : ga ≠ g) (hbg : gb ≠ g) (hB : B ≤ w4.heap.size) (h1 : 3 ≤ ca) (h2 : 3 ≤ cb) (x y : Nat) (hxy : (x = w4.heap.size ∧ y = w4.heap.size + 1) ∨ (x = w4.heap.size + 1 ∧ y = w4.heap.size)) :
    CS (madeW w4 g x y) B g ga ca gb cb x y (false, false, false) (false, false, false) := by
  have hgl : g < w4.heap.size := (Array.getElem?_eq_some_iff.1 hg).1
  have hal := World.block_lt_of_cell? w4 _ a.1
  have hbl := World.block_lt_of_cell? w4 _ b.1
  simp only at hal hbl
  obtain ⟨W, hW⟩ : ∃ W, W = (w4.setCell ⟨g, 2, none⟩ (.slice (some ⟨x, 0, none⟩) 3 3)).setCell ⟨g, 3, none⟩ (.slice (some ⟨y, 0, none⟩) 3 3) := ⟨_, rfl⟩
  have hgW : W.heap[g]? = some (.cells #[.slice (some ⟨ga, 0, none⟩) 3 ca, .slice (some ⟨gb, 0, none⟩) 3 cb, .slice (some ⟨x, 0, none⟩) 3 3, .slice (some ⟨y, 0, none⟩) 3 3] 56 (0, 0)) := by
    rw [hW]; exact Lib.heap_setCell_same (i := 3) (Lib.heap_setCell_same (i := 2) hg _) _
  have G : w4.grownBy W (some g) := by
    rw [hW]
    exact gm_step (gb_set w4 ⟨g, 2, none⟩ _) (gb_set _ ⟨g, 3, none⟩ _) (fun j hj => by injection hj with hj; exact .inr hj.symm)
  have hsz : W.heap.size = w4.heap.size := by rw [hW]; simp [World.setCell]
  have K : Below W.heap.size W ((W.alloc kRow).alloc kRow).drew := (((Below.refl _ _).alloc (Nat.le_refl _) _).alloc (by simp) _).drew
  have r0 : ((W.alloc kRow).alloc kRow).drew.heap[w4.heap.size]? = some (.cells (bv (false, false, false)) 4 (0, 0)) := by
    rw [← hsz]
    exact ((MapKept.heap_alloc (W.alloc kRow) kRow).2 W.heap.size (by simp)).trans (MapKept.heap_alloc W kRow).1
  have r1 : ((W.alloc kRow).alloc kRow).drew.heap[w4.heap.size + 1]? = some (.cells (bv (false, false, false)) 4 (0, 0)) := by
    have := (MapKept.heap_alloc (W.alloc kRow) kRow).1
    rw [World.size_alloc, hsz] at this
    exact this
  have hS : w4.heap.size + 1 < ((W.alloc kRow).alloc kRow).drew.heap.size := (Array.getElem?_eq_some_iff.1 r1).1
  show CS (((((w4.setCell ⟨g, 2, none⟩ (.slice (some ⟨x, 0, none⟩) 3 3)).setCell ⟨g, 3, none⟩ (.slice (some ⟨y, 0, none⟩) 3 3)).alloc kRow).alloc kRow).drew) B g ga ca gb cb x y (false, false, false) (false, false, false)
  rw [← hW]
  have ck : ∀ {blk o : Nat} {v : Value}, w4.cell? ⟨blk, o, none⟩ = some v → blk ≠ g → ((W.alloc kRow).alloc kRow).drew.cell? ⟨blk, o, none⟩ = some v := fun h hne => cell_keep (cellK h G hne) K
  refine ⟨?_, ⟨ck a.1 hag, ck a.2.1 hag, ck a.2.2 hag⟩, ⟨ck b.1 hbg, ck b.2.1 hbg, ck b.2.2 hbg⟩, ?_, ?_, ?_⟩
  · rw [K.block g (by omega)]; exact hgW
  · rcases hxy with ⟨rfl, rfl⟩ | ⟨rfl, rfl⟩
    · exact r0
    · exact r1
  · rcases hxy with ⟨rfl, rfl⟩ | ⟨rfl, rfl⟩
    · exact r1
    · exact r0
  · refine ⟨?_, ?_, ?_, ?_, ?_, ?_, ?_, ?_, ?_, ?_, h1, h2⟩ <;> omega
set_option maxRecDepth 100000 in
set_option maxHeartbeats 16000000 in
theorem compare_ex (g1 k1 g2 k2 : Nat) (w : World) (h1 : ∀ j (h : j < [lnA, lnB, lnC].length), w.cell? ⟨g1, j, none⟩ = some (.string [lnA, lnB, lnC][j])) (h2 : ∀ j (h : j < [lnA, lnC, lnD].length), w.cell? ⟨g2, j, none⟩ = some (.string [lnA, lnC, lnD][j])) :
    Calls Try.prog 31 #[.slice (some ⟨g1, 0, none⟩) 3 k1, .slice (some ⟨g2, 0, none⟩) 3 k2] w (CmpP w) := by
  have hg1 := World.block_lt_of_cell? w _ (h1 0 (by simp))
  have hg2 := World.block_lt_of_cell? w _ (h2 0 (by simp))
  simp only at hg1 hg2
  have H1 := Lib.hid h1
  have H2 := Lib.hid h2
  have hmm := @run_makeMap Try.prog
  have hmf : ∀ (fn : Fn) (first cap : Array Value) (w : World), (Instr.makeFunc fn first cap).run Try.prog w = .ok (.func fn first cap) w := fun _ _ _ _ => rfl
  have M0 : Hid (MP ((w.alloc (.map #[] 0)).alloc (.cells #[.map (some w.heap.size)] 63)) w.heap.size (entsF 0 []) 0) := Lib.hid ((show MP (w.alloc (.map #[] 0)) w.heap.size [] 0 from (MapKept.heap_alloc w _).1).below ((Below.refl _ _).alloc (Nat.le_refl _) _))
  have N0 : Hid (((w.alloc (.map #[] 0)).alloc (.cells #[.map (some w.heap.size)] 63)).cell? ⟨w.heap.size + 1, 0, none⟩ = some (.map (some w.heap.size))) := Lib.hid (by
    have := (MapKept.heap_alloc (w.alloc (.map #[] 0)) (.cells #[.map (some w.heap.size)] 63)).1
    rw [World.size_alloc] at this
    rw [Lib.cell_of_heap this]; rfl)
  have B0 := Lib.hid (((Below.refl w.heap.size w).alloc (Nat.le_refl _) (.map #[] 0)).alloc (by simp) (.cells #[.map (some w.heap.size)] 63))
  clear h1 h2
  obtain ⟨m, hm⟩ : ∃ m, w.heap.size = m := ⟨_, rfl⟩
  have HM := Lib.hid hm
  rw [hm] at M0 N0 B0 hg1 hg2
  go_enter Try.func31, Try.ntmps31
  go_wp2_with fail
  clear hm
  generalize (w.alloc (.map #[] 0)).alloc (.cells #[.map (some m)] 63) = w1 at *
  have C1 := numbered_any g1 k1 (m + 1) m [lnA, lnB, lnC] [] (by simp) (by simp) w1 (fun j hj => by rw [B0.out.cell (show g1 < m from hg1)]; exact H1.out j hj) (by omega) (by omega) N0.out M0.out
  rw [num1] at C1
  refine C1.mono ?_
  rintro e w2 ⟨va, rfl, oa, M2', G2⟩
  have C2 := numbered_any g2 k2 (m + 1) m [lnA, lnC, lnD] [lnA, lnB, lnC] (by simp) (by simp) w2 (fun j hj => cellK (by rw [B0.out.cell (show g2 < m from hg2)]; exact H2.out j hj) G2 (by omega)) (by omega) (by omega) (cellK N0.out G2 (by omega)) M2'
  rw [num2] at C2
  have HC2 := Lib.hid C2
  have OA := Lib.hid oa
  have HG2 := Lib.hid G2
  have hml := M0.out.lt
  clear C1 C2 oa G2 M2'
  go_wp2_with fail
  refine HC2.out.mono ?_
  rintro e w3 ⟨vb, rfl, ob, _, G3⟩
  have hml2 : m < w2.heap.size := Nat.lt_of_lt_of_le hml HG2.out.size
  obtain ⟨ga, ca, rfl, hca, hga, hga2, a0, a1, a2⟩ := int3 (own_kept OA.out G3 hml)
  obtain ⟨gb, cb, rfl, hcb, hgb, hgb2, b0, b1, b2⟩ := int3 ob
  have B3 := Lib.hid (below_grown (below_grown B0.out HG2.out (Nat.le_refl _) (by omega)) G3 (Nat.le_refl _) (by omega))
  have A0 := Lib.hid a0
  have A1 := Lib.hid a1
  have A2 := Lib.hid a2
  have E0 := Lib.hid b0
  have E1 := Lib.hid b1
  have E2 := Lib.hid b2
  have hm3 : m < w3.heap.size := Nat.lt_of_lt_of_le hml2 G3.size
  clear OA HC2 HG2 ob G3 a0 a1 a2 b0 b1 b2 M0 N0 B0 hmm hmf
  have hmk := Try.make54
  go_wp2_with fail
  obtain ⟨g, hg⟩ : ∃ g, w3.heap.size = g := ⟨_, rfl⟩
  have G0 : Hid ((w3.alloc (.cells #[.slice (some ⟨ga, 0, none⟩) 3 ca, .slice (some ⟨gb, 0, none⟩) 3 cb, .slice none 0 0, .slice none 0 0] 56)).heap[g]? = some (.cells #[.slice (some ⟨ga, 0, none⟩) 3 ca, .slice (some ⟨gb, 0, none⟩) 3 cb, .slice none 0 0, .slice none 0 0] 56 (0, 0))) := Lib.hid (by rw [← hg]; exact (MapKept.heap_alloc w3 _).1)
  have HG3 : Hid (w3.heap.size = g) := Lib.hid hg
  have hmw : m ≤ w3.heap.size := by omega
  have B4 := Lib.hid (B3.out.alloc hmw (.cells #[.slice (some ⟨ga, 0, none⟩) 3 ca, .slice (some ⟨gb, 0, none⟩) 3 cb, .slice none 0 0, .slice none 0 0] 56))
  have K4 := Lib.hid ((Below.refl w3.heap.size w3).alloc (Nat.le_refl _) (.cells #[.slice (some ⟨ga, 0, none⟩) 3 ca, .slice (some ⟨gb, 0, none⟩) 3 cb, .slice none 0 0, .slice none 0 0] 56))
  rw [hg]
  generalize w3.alloc (.cells #[.slice (some ⟨ga, 0, none⟩) 3 ca, .slice (some ⟨gb, 0, none⟩) 3 cb, .slice none 0 0, .slice none 0 0] 56) = w4 at *
  clear hg
  have hz : g < w4.heap.size := (Array.getElem?_eq_some_iff.1 G0.out).1
  have hz1 : g < w4.heap.size + 1 := by omega
  have c0 : w4.cell? ⟨g, 0, none⟩ = some (.slice (some ⟨ga, 0, none⟩) 3 ca) := by rw [Lib.cell_of_heap G0.out]; rfl
  have c1 : w4.cell? ⟨g, 1, none⟩ = some (.slice (some ⟨gb, 0, none⟩) 3 cb) := by rw [Lib.cell_of_heap G0.out]; rfl
  have c2 : w4.cell? ⟨g, 2, none⟩ = some (.slice none 0 0) := by rw [Lib.cell_of_heap G0.out]; rfl
  have c3 : w4.cell? ⟨g, 3, none⟩ = some (.slice none 0 0) := by rw [Lib.cell_of_heap G0.out]; rfl
  have f2 : w4.frozen? ⟨g, 2, none⟩ = false := by have := G0.out; simp [World.frozen?, this]
  have f3 : w4.frozen? ⟨g, 3, none⟩ = false := by have := G0.out; simp [World.frozen?, this]
  have hag : ga ≠ g := by have := HG3.out; omega
  have hbg : gb ≠ g := by have := HG3.out; omega
  have hm4 : m ≤ w4.heap.size := by have := HG3.out; omega
  have CSX : Hid (∀ x y, ((x = w4.heap.size ∧ y = w4.heap.size + 1) ∨ (x = w4.heap.size + 1 ∧ y = w4.heap.size)) → CS (madeW w4 g x y) m g ga ca gb cb x y (false, false, false) (false, false, false)) := Lib.hid fun x y hxy =>
    cs_made G0.out ⟨cell_keep A0.out K4.out, cell_keep A1.out K4.out, cell_keep A2.out K4.out⟩ ⟨cell_keep E0.out K4.out, cell_keep E1.out K4.out, cell_keep E2.out K4.out⟩ hag hbg hm4 hca hcb x y hxy
  have hgm : m ≤ g := by have := HG3.out; omega
  have BX4 : Hid (∀ x y, Below m w (madeW w4 g x y)) := Lib.hid fun x y => ((((B4.out.setCell (p := ⟨g, 2, none⟩) hgm _).setCell (p := ⟨g, 3, none⟩) hgm _).alloc (by simp; exact hm4) _).alloc (by simp; omega) _).drew
  go_region
  · have H5 : Hid (CS (((((w4.setCell ⟨g, 2, none⟩ (.slice (some ⟨w4.heap.size, 0, none⟩) 3 3)).setCell ⟨g, 3, none⟩ (.slice (some ⟨w4.heap.size + 1, 0, none⟩) 3 3)).alloc (.cells #[.bool false, .bool false, .bool false] 4)).alloc (.cells #[.bool false, .bool false, .bool false] 4)).drew) m g ga ca gb cb (w4.heap.size) (w4.heap.size + 1) (false, false, false) (false, false, false)) := Lib.hid (CSX.out (w4.heap.size) (w4.heap.size + 1) (.inl ⟨rfl, rfl⟩))
    have B5 : Hid (Below m w (((((w4.setCell ⟨g, 2, none⟩ (.slice (some ⟨w4.heap.size, 0, none⟩) 3 3)).setCell ⟨g, 3, none⟩ (.slice (some ⟨w4.heap.size + 1, 0, none⟩) 3 3)).alloc (.cells #[.bool false, .bool false, .bool false] 4)).alloc (.cells #[.bool false, .bool false, .bool false] 4)).drew)) := Lib.hid (BX4.out (w4.heap.size) (w4.heap.size + 1))
    clear c0 c1 c2 c3 f2 f3 hmk CSX BX4 K4 G0
    generalize ((((w4.setCell ⟨g, 2, none⟩ (.slice (some ⟨w4.heap.size, 0, none⟩) 3 3)).setCell ⟨g, 3, none⟩ (.slice (some ⟨w4.heap.size + 1, 0, none⟩) 3 3)).alloc (.cells #[.bool false, .bool false, .bool false] 4)).alloc (.cells #[.bool false, .bool false, .bool false] 4)).drew = w5 at *
    obtain ⟨d0, d1, _, _⟩ := H5.out.facts
    go_wp2_with fail
    go_still_tail 11, (by kernel_rfl)
    change wpList _ _ _ _ _ w5.drew
    have H6 := Lib.hid H5.out.drew
    have B6 := Lib.hid B5.out.drew
    clear H5 B5 d0 d1
    generalize w5.drew = w6 at *
    go_wp2_with fail
    refine (match_all m g ga ca gb cb _ _ _ H6.out).mono ?_
    rintro e w7 ⟨rfl, h7, hb7⟩
    have B7 := Lib.hid (B6.out.trans hb7)
    go_wp2_with fail
    go_ret
    exact ⟨g, ga, ca, gb, cb, _, _, rfl, by rw [HM.out]; exact h7, by rw [HM.out]; exact B7.out⟩
  · have H5 : Hid (CS (((((w4.setCell ⟨g, 2, none⟩ (.slice (some ⟨w4.heap.size + 1, 0, none⟩) 3 3)).setCell ⟨g, 3, none⟩ (.slice (some ⟨w4.heap.size, 0, none⟩) 3 3)).alloc (.cells #[.bool false, .bool false, .bool false] 4)).alloc (.cells #[.bool false, .bool false, .bool false] 4)).drew) m g ga ca gb cb (w4.heap.size + 1) (w4.heap.size) (false, false, false) (false, false, false)) := Lib.hid (CSX.out (w4.heap.size + 1) (w4.heap.size) (.inr ⟨rfl, rfl⟩))
    have B5 : Hid (Below m w (((((w4.setCell ⟨g, 2, none⟩ (.slice (some ⟨w4.heap.size + 1, 0, none⟩) 3 3)).setCell ⟨g, 3, none⟩ (.slice (some ⟨w4.heap.size, 0, none⟩) 3 3)).alloc (.cells #[.bool false, .bool false, .bool false] 4)).alloc (.cells #[.bool false, .bool false, .bool false] 4)).drew)) := Lib.hid (BX4.out (w4.heap.size + 1) (w4.heap.size))
    clear c0 c1 c2 c3 f2 f3 hmk CSX BX4 K4 G0
    generalize ((((w4.setCell ⟨g, 2, none⟩ (.slice (some ⟨w4.heap.size + 1, 0, none⟩) 3 3)).setCell ⟨g, 3, none⟩ (.slice (some ⟨w4.heap.size, 0, none⟩) 3 3)).alloc (.cells #[.bool false, .bool false, .bool false] 4)).alloc (.cells #[.bool false, .bool false, .bool false] 4)).drew = w5 at *
    obtain ⟨d0, d1, _, _⟩ := H5.out.facts
    go_wp2_with fail
    go_still_tail 11, (by kernel_rfl)
    change wpList _ _ _ _ _ w5.drew
    have H6 := Lib.hid H5.out.drew
    have B6 := Lib.hid B5.out.drew
    clear H5 B5 d0 d1
    generalize w5.drew = w6 at *
    go_wp2_with fail
    refine (match_all m g ga ca gb cb _ _ _ H6.out).mono ?_
    rintro e w7 ⟨rfl, h7, hb7⟩
    have B7 := Lib.hid (B6.out.trans hb7)
    go_wp2_with fail
    go_ret
    exact ⟨g, ga, ca, gb, cb, _, _, rfl, by rw [HM.out]; exact h7, by rw [HM.out]; exact B7.out⟩
