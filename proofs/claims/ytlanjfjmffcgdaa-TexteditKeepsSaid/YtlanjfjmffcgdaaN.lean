/-
  What the example's comparison calls, at the numbers that it calls them with: places, advance, reversed. No condition but on the cells.
-/
import Derived.Test.YtlanjfjmffcgdaaK
import Derived.Test.YtlanjfjmffcgdaaL
import Derived.Test.YtlanjfjmffcgdaaBs
import Derived.Laws.Externs
import Derived.Lib.SmallJoins
import Derived.Laws.Bits64b
import Derived.Laws.ShiftsVarLaws
import Derived.Laws.BitsAllLaws
namespace Go.Proofs.Ytlanjfjmffcgdaa
open Go.RowKit
set_option linter.unusedSimpArgs false
set_option linter.unusedVariables false
theorem Try.info81 : (Try.prog.info? 81).map (fun i => (i.zero, i.size, i.bytes)) = some (some (.agg #[.int .i64 0, .int .u64 0]), 2, 16) := by kernel_rfl
theorem cells_new2 (w : World) (x y : Value) (T : TypeId) : ∀ j u, [x, y][j]? = some u → (w.alloc (.cells #[x, y] T)).cell? ((⟨w.heap.size, 0, none⟩ : Addr).add j) = some u := by
  intro j u h
  rw [show (⟨w.heap.size, 0, none⟩ : Addr).add j = ⟨w.heap.size, j, none⟩ by simp [Addr.add]; exact fun e => e.symm, World.cell?_alloc_new]
  simpa using h
/-- one place: word 0, these bits -/
def Pl (w : World) (B g : Nat) (bits : Int) : Prop := B ≤ g ∧ g < w.heap.size ∧ w.cell? ⟨g, 0, none⟩ = some (.int .i64 0) ∧ w.cell? ⟨g, 1, none⟩ = some (.int .u64 bits)
theorem Pl.below {w w' : World} {B g : Nat} {bits : Int} (h : Pl w B g bits) (hb : Below w.heap.size w w') : Pl w' B g bits :=
  ⟨h.1, Nat.lt_of_lt_of_le h.2.1 hb.size, cell_keep h.2.2.1 hb, cell_keep h.2.2.2 hb⟩
def PlP (w : World) (bits : Int) (e : Ending) (w' : World) : Prop := ∃ g cap, e = .returned (.slice (some ⟨g, 0, none⟩) 1 cap) ∧ Pl w' w.heap.size g bits ∧ Below w.heap.size w w'
set_option maxRecDepth 100000 in
set_option maxHeartbeats 4000000 in
theorem place_0 (w : World) : Calls Try.prog 44 #[.slice none 0 0, .int .i64 0] w (PlP w 1) := by
  obtain ⟨i0, hi, hz0, hz1, hz2⟩ := info_parts Try.info81
  go_enter Try.func44, Try.ntmps44
  go_wp2_with (at_builtin; refine wpList_append_own _ rfl _ _ 76 rfl w.heap.size 81 i0 (.agg #[.int .i64 0, .int .u64 0]) 2 16 Try.underlying76 hi hz0 hz1 hz2 rfl (by decide) _ _ _ rfl ((World.ownsRow_nil _ _ _ _).alloc _) ⟨w.heap.size, 0, none⟩ 1 1 [.int .i64 0, .int .u64 0] rfl rfl ?c1 ?c2 ?c3 ?c4 ?c5 ?_)
  case c1 => exact cells_new2 _ _ _ _
  case c2 => intro u hu; simp at hu; rcases hu with rfl | rfl <;> rfl
  case c3 => unfold maxLen; omega
  case c4 => omega
  case c5 => simp
  intro v w1 hown hgrow _
  have HB : Hid (Below w.heap.size w w1) := Lib.hid (((Below.refl _ _).alloc (Nat.le_refl _) _).grown hgrow (by simp) (fun j hj => by simp [Value.ownBlock] at hj))
  obtain ⟨g, cap, rfl⟩ := Joins.ownsRow_form hown (by simp)
  have hg := hown.lt g rfl
  have c0 : w1.cell? ⟨g, 0, none⟩ = some (.int .i64 0) := by rw [hown.cellAt 0 (by simp)]; rfl
  have c1 : w1.cell? ⟨g, 1, none⟩ = some (.int .u64 0) := by rw [hown.cellAt 1 (by simp)]; rfl
  have f1 := hown.frozenAt 1
  have hg1 := hg.1
  have hg2 := hg.2
  clear hown hgrow hg
  go_wp2_with fail
  go_region
  all_goals
    go_wp2_with fail
    go_ret
    refine ⟨g, cap, rfl, ⟨hg1, by simpa using hg2, by go_simp, by go_simp; try kernel_rfl⟩, ?_⟩
    first | exact (HB.out.setCell (by simpa using hg1) _).drew | exact (HB.out.drew.setCell (by simpa using hg1) _)
set_option maxRecDepth 100000 in
set_option maxHeartbeats 4000000 in
theorem place_1 (w : World) : Calls Try.prog 44 #[.slice none 0 0, .int .i64 1] w (PlP w 2) := by
  obtain ⟨i0, hi, hz0, hz1, hz2⟩ := info_parts Try.info81
  go_enter Try.func44, Try.ntmps44
  go_wp2_with (at_builtin; refine wpList_append_own _ rfl _ _ 76 rfl w.heap.size 81 i0 (.agg #[.int .i64 0, .int .u64 0]) 2 16 Try.underlying76 hi hz0 hz1 hz2 rfl (by decide) _ _ _ rfl ((World.ownsRow_nil _ _ _ _).alloc _) ⟨w.heap.size, 0, none⟩ 1 1 [.int .i64 0, .int .u64 0] rfl rfl ?c1 ?c2 ?c3 ?c4 ?c5 ?_)
  case c1 => exact cells_new2 _ _ _ _
  case c2 => intro u hu; simp at hu; rcases hu with rfl | rfl <;> rfl
  case c3 => unfold maxLen; omega
  case c4 => omega
  case c5 => simp
  intro v w1 hown hgrow _
  have HB : Hid (Below w.heap.size w w1) := Lib.hid (((Below.refl _ _).alloc (Nat.le_refl _) _).grown hgrow (by simp) (fun j hj => by simp [Value.ownBlock] at hj))
  obtain ⟨g, cap, rfl⟩ := Joins.ownsRow_form hown (by simp)
  have hg := hown.lt g rfl
  have c0 : w1.cell? ⟨g, 0, none⟩ = some (.int .i64 0) := by rw [hown.cellAt 0 (by simp)]; rfl
  have c1 : w1.cell? ⟨g, 1, none⟩ = some (.int .u64 0) := by rw [hown.cellAt 1 (by simp)]; rfl
  have f1 := hown.frozenAt 1
  have hg1 := hg.1
  have hg2 := hg.2
  clear hown hgrow hg
  go_wp2_with fail
  go_region
  all_goals
    go_wp2_with fail
    go_ret
    refine ⟨g, cap, rfl, ⟨hg1, by simpa using hg2, by go_simp, by go_simp; try kernel_rfl⟩, ?_⟩
    first | exact (HB.out.setCell (by simpa using hg1) _).drew | exact (HB.out.drew.setCell (by simpa using hg1) _)
/-- one word -/
def U1 (w : World) (g : Nat) (x : Int) : Prop := w.heap[g]? = some (.cells #[.int .u64 x] 79 (0, 0))
theorem U1.facts {w : World} {g : Nat} {x : Int} (h : U1 w g x) : g < w.heap.size ∧ w.cell? ⟨g, 0, none⟩ = some (.int .u64 x) ∧ w.frozen? ⟨g, 0, none⟩ = false :=
  ⟨(Array.getElem?_eq_some_iff.1 h).1, by rw [Lib.cell_of_heap h]; rfl, by unfold U1 at h; simp [World.frozen?, h]⟩
theorem U1.set {w : World} {g : Nat} {x : Int} (h : U1 w g x) (y : Int) : U1 (w.setCell ⟨g, 0, none⟩ (.int .u64 y)) g y := by
  unfold U1 at *
  exact Lib.heap_setCell_same (i := 0) h _
theorem gb_set (w : World) (p : Addr) (v : Value) : w.grownBy (w.setCell p v) (some p.block) := by
  refine ⟨rfl, rfl, rfl, by simp [World.setCell], fun i hi hn => ?_⟩
  exact Below.heap_setCell w p v i (fun e => hn (by rw [e]))
def AdvP (w : World) (g : Nat) (y : Int) (e : Ending) (w' : World) : Prop := e = .returned (.tuple #[]) ∧ U1 w' g y ∧ w.grownBy w' (some g)
theorem add64_at (x y : Int) (h0 : 0 ≤ x) (h1 : 0 ≤ y) (s k : Int) (hs : (x + y + 0) % 18446744073709551616 = s) (hk : (x + y + 0) / 18446744073709551616 = k) (w : World) :
    (callFunc 48 #[.int .u64 x, .int .u64 y, .int .u64 0]).run Try.prog w = .ok (.value (.tuple #[.int .u64 s, .int .u64 k])) w := by
  rw [run_callFunc_extern Try.func48 (by kernel_rfl) (by kernel_rfl) (by kernel_rfl) (e := add64Entry) (by kernel_rfl), run_add64 x y 0 h0 h1 (by omega) (by omega), hs, hk]
  rfl
set_option maxRecDepth 100000 in
set_option maxHeartbeats 4000000 in
theorem advance_hit (gr ge cr ce : Nat) (w : World) (hr : U1 w gr 18446744073709551615) (he : U1 w ge 2) : Calls Try.prog 45 #[.slice (some ⟨gr, 0, none⟩) 1 cr, .slice (some ⟨ge, 0, none⟩) 1 ce] w (AdvP w gr 18446744073709551613) := by
  obtain ⟨z0, c0, f0⟩ := hr.facts
  obtain ⟨z1, d0, _⟩ := he.facts
  have hand : bits .and .u64 18446744073709551615 2 = 2 := by kernel_rfl
  have hnot : bits .andNot .u64 18446744073709551615 2 = 18446744073709551613 := by kernel_rfl
  have hor : bits .or .u64 1 18446744073709551613 = 18446744073709551613 := by kernel_rfl
  have hadd := fun w => add64_at 18446744073709551615 2 (by omega) (by omega) 1 1 (by omega) (by omega) w
  have HU := Lib.hid (hr.set 18446744073709551613)
  clear hr he
  go_enter Try.func45, Try.ntmps45
  go_wp2_with fail
  refine wp_loop_rounds 2 ?_
  rw [rounds_succ]
  go_wp2_with fail
  rw [rounds_succ]
  go_wp2_with fail
  go_end0
  exact ⟨rfl, HU.out, gb_set _ _ _⟩
set_option maxRecDepth 100000 in
set_option maxHeartbeats 4000000 in
theorem advance_miss (gr ge cr ce : Nat) (w : World) (hr : U1 w gr 18446744073709551615) (he : U1 w ge 0) : Calls Try.prog 45 #[.slice (some ⟨gr, 0, none⟩) 1 cr, .slice (some ⟨ge, 0, none⟩) 1 ce] w (AdvP w gr 18446744073709551615) := by
  obtain ⟨z0, c0, f0⟩ := hr.facts
  obtain ⟨z1, d0, _⟩ := he.facts
  have hand : bits .and .u64 18446744073709551615 0 = 0 := by kernel_rfl
  have hnot : bits .andNot .u64 18446744073709551615 0 = 18446744073709551615 := by kernel_rfl
  have hor : bits .or .u64 18446744073709551615 18446744073709551615 = 18446744073709551615 := by kernel_rfl
  have hadd := fun w => add64_at 18446744073709551615 0 (by omega) (by omega) 18446744073709551615 0 (by omega) (by omega) w
  have HU := Lib.hid (hr.set 18446744073709551615)
  clear hr he
  go_enter Try.func45, Try.ntmps45
  go_wp2_with fail
  refine wp_loop_rounds 2 ?_
  rw [rounds_succ]
  go_wp2_with fail
  rw [rounds_succ]
  go_wp2_with fail
  go_end0
  exact ⟨rfl, HU.out, gb_set _ _ _⟩
