import Derived.Test.YtmkmbpiaolmncaaDoorEq
import Derived.Deep.RegionHeld3
namespace Go.Proofs.YtmkmbpiaolmncaaDoor
open Go.RowKit

/-- the example's set -/
def exA : BS := rgo 97 99 ||| rgo 100 100
theorem exA_rr : rr exA 256 = [(97, 100)] := by decide +kernel
theorem exA_least {b : Nat} (h : isLeast exA b) : b = 97 := by
  have h1 : exA.getLsbD 97 = true := by decide +kernel
  have h2 : ∀ j, j < 97 → exA.getLsbD j = false := by decide +kernel
  rcases Nat.lt_trichotomy b 97 with hb | hb | hb
  · have := h2 b hb; rw [h.1] at this; cases this
  · exact hb
  · have := h.2 97 hb; rw [h1] at this; cases this
theorem exA_ne : exA ≠ 0#256 := by decide +kernel
theorem exA_100 : exA.getLsbD 100 = true := by decide +kernel

theorem not_zero (w : World) :
    Calls Tryd.prog 21 #[.agg #[.int .u64 0, .int .u64 0, .int .u64 0, .int .u64 0]] w fun e w' => e = .returned (st fullS) ∧ Below w.heap.size w w' := by
  have := not_any 0#256 w
  unfold st at this
  rw [wd_zero, wd_zero, wd_zero, wd_zero, full_not] at this
  exact this

theorem and_self' (s : BS) (w : World) :
    Calls Tryd.prog 19 #[st s, st s] w fun e w' => e = .returned (st s) ∧ Below w.heap.size w w' := by
  have := and_any s s w
  rw [BitVec.and_self] at this
  exact this

theorem ex_of1 (w : World) : Calls Tryd.prog 12 #[.int .u8 97, .int .u8 99] w fun e w' => e = .returned (st (rgo 97 99)) ∧ Below w.heap.size w w' :=
  of_any 97 99 (by omega) (by omega) (by omega) (by omega) w
theorem ex_of2 (w : World) : Calls Tryd.prog 12 #[.int .u8 100, .int .u8 100] w fun e w' => e = .returned (st (rgo 100 100)) ∧ Below w.heap.size w w' :=
  of_any 100 100 (by omega) (by omega) (by omega) (by omega) w
theorem ex_or (w : World) : Calls Tryd.prog 17 #[st (rgo 97 99), st (rgo 100 100)] w fun e w' => e = .returned (st exA) ∧ Below w.heap.size w w' :=
  or_any (rgo 97 99) (rgo 100 100) w
theorem ex_has (w : World) : Calls Tryd.prog 15 #[st exA, .int .u8 100] w fun e w' => e = .returned (.bool true) ∧ Below w.heap.size w w' :=
  hasb_at exA 100 (by omega) true exA_100 w

/-- the example's ranges: one, in new memory -/
def OneRange (w : World) (e : Ending) (w' : World) : Prop :=
  ∃ g cap, e = .returned (.slice (some ⟨g, 0, none⟩) 1 cap) ∧ w.heap.size ≤ g ∧ w'.cell? ⟨g, 0, none⟩ = some (.int .u8 97) ∧ w'.cell? ⟨g, 1, none⟩ = some (.int .u8 100) ∧ g < w'.heap.size ∧ Below w.heap.size w w'
theorem ex_ranges (w : World) : Calls Tryd.prog 26 #[st exA] w (OneRange w) := by
  refine (ranges_any exA w).mono ?_
  rintro e w' ⟨v, rfl, hown, hb⟩
  rw [exA_rr] at hown
  obtain ⟨g, cap, rfl⟩ := Joins.ownsRow_form hown (by simp)
  have hg := hown.lt g rfl
  refine ⟨g, cap, rfl, by omega, ?_, ?_, hg.2, hb⟩
  · have := hown.cellAt 0 (by simp)
    simpa [flat, pv] using this
  · have := hown.cellAt 1 (by simp)
    simpa [flat, pv] using this
/-- the example's least byte -/
theorem ex_least (w : World) (hT : Tab w) : Calls Tryd.prog 24 #[st exA] w fun e w' => e = .returned (.tuple #[.int .u8 97, .bool true]) ∧ Below w.heap.size w w' := by
  refine (least_any exA w hT).mono ?_
  rintro e w' ⟨h | ⟨b, _, hl, rfl⟩, hb⟩
  · exact absurd h.1 exA_ne
  · rw [exA_least hl]; exact ⟨rfl, hb⟩

/-- what the last statement reads -/
abbrev S6 (w6 : World) (b gp gr : Nat) (w : World) : Prop :=
  Below w6.heap.size w6 w ∧ w.cell? ⟨b, 0, none⟩ = some (.int .u64 (wd 0 exA)) ∧ w.cell? ⟨b, 1, none⟩ = some (.int .u64 (wd 1 exA)) ∧ w.cell? ⟨b, 2, none⟩ = some (.int .u64 (wd 2 exA)) ∧ w.cell? ⟨b, 3, none⟩ = some (.int .u64 (wd 3 exA)) ∧
    w.cell? ⟨gp, 0, none⟩ = some (.int .u64 (wd 0 fullS)) ∧ w.cell? ⟨gp, 1, none⟩ = some (.int .u64 (wd 1 fullS)) ∧ w.cell? ⟨gp, 2, none⟩ = some (.int .u64 (wd 2 fullS)) ∧ w.cell? ⟨gp, 3, none⟩ = some (.int .u64 (wd 3 fullS)) ∧
    w.cell? ⟨gr, 0, none⟩ = some (.int .u8 97) ∧ w.cell? ⟨gr, 1, none⟩ = some (.int .u8 100)

theorem cell_keep {w w' : World} {a : Addr} {v : Value} (h : w.cell? a = some v) (hb : Below w.heap.size w w') : w'.cell? a = some v := by
  rw [hb.cell (World.block_lt_of_cell? w _ h)]; exact h

theorem keepS {w6 w w' : World} {b gp gr : Nat} (h : S6 w6 b gp gr w) (hb : Below w.heap.size w w') : S6 w6 b gp gr w' := by
  obtain ⟨h0, a0, a1, a2, a3, p0, p1, p2, p3, r0, r1⟩ := h
  exact ⟨h0.trans (hb.mono h0.size), cell_keep a0 hb, cell_keep a1 hb, cell_keep a2 hb, cell_keep a3 hb, cell_keep p0 hb, cell_keep p1 hb, cell_keep p2 hb, cell_keep p3 hb, cell_keep r0 hb, cell_keep r1 hb⟩

theorem finS {w w6 w' : World} {b gp gr : Nat} (hb : Below w.heap.size w w6) (h : S6 w6 b gp gr w') : Below w.heap.size w w' := hb.trans (h.1.mono hb.size)

set_option maxRecDepth 100000 in
set_option maxHeartbeats 2000000 in
theorem awake_any (w : World) (hT : Tab w) :
    Calls Tryd.prog 14 #[] w fun e w' => e = .returned (.bool true) ∧ Below w.heap.size w w' := by
  have HT := Lib.hid hT
  have h0 := hT.1
  clear hT
  go_enter Tryd.func14, Tryd.ntmps14
  go_wp2_with fail
  refine (ex_of1 _).mono ?_
  rintro e w1 ⟨rfl, hb1⟩
  go_wp2_with fail
  refine (ex_of2 _).mono ?_
  rintro e w2 ⟨rfl, hb2⟩
  go_wp2_with fail
  refine (ex_or _).mono ?_
  rintro e w3 ⟨rfl, hb3⟩
  have B3 : Below w.heap.size w w3 := (hb1.trans (hb2.mono hb1.size)).trans (hb3.mono (Nat.le_trans hb1.size hb2.size))
  have z3 := B3.size
  clear hb1 hb2 hb3
  go_wp2_with fail
  refine (ex_ranges _).mono ?_
  rintro e w4 ⟨gr, cap, rfl, hgr, cr0, cr1, hgr2, hb4⟩
  have R4 := (Row4.new w3 exA).below hb4 (by simp)
  have z4 := hb4.size
  simp at z4 hgr
  have B4 : Below w.heap.size w w4 := (B3.alloc z3 _).trans (hb4.mono (by simp; omega))
  clear hb4 B3
  go_wp2_with fail
  refine (part_nil _).mono ?_
  rintro e w5 ⟨gp, rfl, hgp, P5, hb5⟩
  have R5 := R4.below hb5 (by omega)
  have dr0 : w5.cell? ⟨gr, 0, none⟩ = some (.int .u8 97) := by rw [hb5.cell (p := ⟨gr, 0, none⟩) hgr2]; exact cr0
  have dr1 : w5.cell? ⟨gr, 1, none⟩ = some (.int .u8 100) := by rw [hb5.cell (p := ⟨gr, 1, none⟩) hgr2]; exact cr1
  have B5 : Below w.heap.size w w5 := B4.trans (hb5.mono (by omega))
  clear hb5 B4 R4 cr0 cr1
  have R5' := R5
  obtain ⟨za, a0, a1, a2, a3, fa0, fa1, fa2, fa3⟩ := R5'
  go_wp2_with fail
  refine (ex_least _ (HT.out.below B5 h0)).mono ?_
  rintro e w6 ⟨rfl, hb6⟩
  have R6 := R5.below hb6 R5.size
  have P6 := P5.below hb6 P5.size
  have er0 : w6.cell? ⟨gr, 0, none⟩ = some (.int .u8 97) := by rw [hb6.cell (p := ⟨gr, 0, none⟩) (World.block_lt_of_cell? w5 _ dr0)]; exact dr0
  have er1 : w6.cell? ⟨gr, 1, none⟩ = some (.int .u8 100) := by rw [hb6.cell (p := ⟨gr, 1, none⟩) (World.block_lt_of_cell? w5 _ dr1)]; exact dr1
  have B6 : Below w.heap.size w w6 := B5.trans (hb6.mono B5.size)
  clear hb6 B5 R5 P5 dr0 dr1 za a0 a1 a2 a3 fa0 fa1 fa2 fa3
  go_wp2_with fail
  have hS : S6 w6 w3.heap.size gp gr w6 := ⟨Below.refl _ _, R6.c0, R6.c1, R6.c2, R6.c3, P6.c0, P6.c1, P6.c2, P6.c3, er0, er1⟩
  have HB := Lib.hid B6
  have q1 : ∀ w, (Op.equalIn 10000 43 (.agg #[.int .u8 97, .int .u8 100]) (.agg #[.int .u8 97, .int .u8 100])).run Tryd.prog w = .ok true w := fun w => by rw [eq43]; rfl
  have q2 : ∀ w, (Op.equalIn 10000 24 (st fullS) (st fullS)).run Tryd.prog w = .ok true w := fun w => by rw [eqS]; simp
  have q3 : ∀ w, (Op.equalIn 10000 24 (st exA) (st exA)).run Tryd.prog w = .ok true w := fun w => by rw [eqS]; simp
  unfold st at q2 q3
  clear HT R6 P6 er0 er1 B6
  go_region_held3 (fun w' => S6 w6 w3.heap.size gp gr w') (first | exact keepS hS ((Below.refl _ _).drew) | exact keepS (by assumption) (by assumption))
    (first | (go_at_call 21; refine (not_zero _).mono ?_; rintro e w' ⟨rfl, hbN⟩) | (go_at_call 25; refine (len_full _).mono ?_; rintro e w' ⟨rfl, hbN⟩) | (go_at_call 15; refine (ex_has _).mono ?_; rintro e w' ⟨rfl, hbN⟩) | (go_at_call 19; refine (and_self' exA _).mono ?_; rintro e w' ⟨rfl, hbN⟩))
  go_wp2_with fail
  go_ret
  exact ⟨rfl, finS HB.out (by assumption)⟩
end Go.Proofs.YtmkmbpiaolmncaaDoor
