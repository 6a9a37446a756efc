/-
  alive returns true in every world of the program. Conditions: the table of powers of ten, internal/bytealg.MaxLen holds some number.
-/
import Derived.Test.YthlcdimofagmfaaGreatDoorAV
import Derived.Test.YthlcdimofagmfaaGreatDoorLC
import Derived.Test.YthlcdimofagmfaaGreatDoorD45
namespace Go.Proofs.YthlcdimofagmfaaGreatDoor
open Go.RowKit Go.Sort Go.Lib Go.Shelf Go.Proofs
open Dg (txtH hsum txtL txtL_len hsum_lt)
set_option linter.unusedSimpArgs false
set_option linter.unusedVariables false
def RowT (W : World) (g : Nat) (cs : Array Value) (T : TypeId) : Prop := W.heap[g]? = some (.cells cs T (0, 0))
theorem RowT.lt {W : World} {g : Nat} {cs : Array Value} {T : TypeId} (h : RowT W g cs T) : g < W.heap.size := (Array.getElem?_eq_some_iff.1 h).1
theorem RowT.up {W W' : World} {g N : Nat} {cs : Array Value} {T : TypeId} (h : RowT W g cs T) (hb : Below N W W') (hg : g < N) : RowT W' g cs T := (hb.block g hg).trans h
theorem RowT.other {W : World} {g g' j : Nat} {cs : Array Value} {T : TypeId} (h : RowT W g cs T) (hne : g' ≠ g) (v : Value) : RowT (W.setCell ⟨g', j, none⟩ v) g cs T := by
  unfold RowT at *
  simp [World.setCell, Array.getElem?_modify, hne, h]
theorem RowT.cell {W : World} {g : Nat} {cs : Array Value} {T : TypeId} (h : RowT W g cs T) (j : Nat) : W.cell? ⟨g, j, none⟩ = cs[j]? := by simp [World.cell?, show W.heap[g]? = _ from h]
theorem RowT.frozen {W : World} {g : Nat} {cs : Array Value} {T : TypeId} (h : RowT W g cs T) (j : Nat) : W.frozen? ⟨g, j, none⟩ = false := by simp [World.frozen?, show W.heap[g]? = _ from h]
theorem RowT.set {W : World} {g : Nat} {cs : Array Value} {T : TypeId} (h : RowT W g cs T) (j : Nat) (v : Value) (cs' : Array Value) (e : cs.setIfInBounds j v = cs') : RowT (W.setCell ⟨g, j, none⟩ v) g cs' T := by
  subst e
  unfold RowT at *
  simp [World.setCell, Array.getElem?_modify, h]
theorem RowT.drew {W : World} {g : Nat} {cs : Array Value} {T : TypeId} (h : RowT W g cs T) : RowT W.drew g cs T := h

/-- the release of the example, in its two boxes; its second source bears the name nm -/
structure AA (w : World) (b : Nat) (nm : ByteArray) (W : World) : Prop where
  bel : Below w.heap.size w W
  hb : w.heap.size ≤ b
  r : RowT W b #[.string ⟨#[98]⟩, .string ⟨#[]⟩, .string nm, .string ⟨#[120]⟩] 56
  box : RowT W (b + 1) #[.string ⟨#[109]⟩, .int .i64 1, .int .i64 0, .int .i64 0, .slice none 0 0, .slice (some ⟨b, 0, none⟩) 2 2] 40
theorem AA.up {w W W' : World} {b : Nat} {nm : ByteArray} (h : AA w b nm W) (hb : Below W.heap.size W W') : AA w b nm W' :=
  ⟨h.bel.trans (hb.mono h.bel.size), h.hb, h.r.up hb h.r.lt, h.box.up hb h.box.lt⟩
theorem AA.set {w W : World} {b : Nat} {nm nm' : ByteArray} (h : AA w b nm W) : AA w b nm' (W.setCell ⟨b, 2, none⟩ (.string nm')) :=
  ⟨h.bel.setCell (p := ⟨b, 2, none⟩) h.hb _, h.hb, h.r.set 2 _ _ rfl, h.box.other (by omega) _⟩
theorem AA.rn {w W : World} {b : Nat} {nm : ByteArray} (h : AA w b nm W) : RN W W.heap.size (some ⟨b, 0, none⟩) [(⟨#[98]⟩, ⟨#[]⟩), (nm, ⟨#[120]⟩)] :=
  ⟨fun i hi => ⟨b, 0, rfl, h.r.lt, fun c v hv => by
    match i, hi, c, hv with
    | 0, _, 0, hv => rw [h.r.cell]; exact hv
    | 0, _, 1, hv => rw [h.r.cell]; exact hv
    | 1, _, 0, hv => rw [h.r.cell]; exact hv
    | 1, _, 1, hv => rw [h.r.cell]; exact hv
    | 0, _, c + 2, hv => simp [sc] at hv
    | 1, _, c + 2, hv => simp [sc] at hv
    | i + 2, hi, _, _ => simp at hi; omega⟩⟩
theorem rel_A (w W : World) (b : Nat) (T : ByteArray) (hM : Mx W) (hT : P10 W) (h : AA w b ⟨#[97]⟩ W) (hTo : relOut xm [] srcA = (T, 0)) :
    Calls Tryz.prog 19 #[.agg #[.string ⟨#[109]⟩, .int .i64 1, .int .i64 0, .int .i64 0, .slice none 0 0, .slice (some ⟨b, 0, none⟩) 2 2]] W fun e w' => e = .returned (.tuple #[.string T, .int .i64 0]) ∧ Below W.heap.size W w' := by
  have K := release_any xm none (some ⟨b, 0, none⟩) 0 2 [] srcA W hM hT (rm_nil _ _ _) (.inl (by unfold Plain; simp)) (by simp) h.rn (.inl (.inr ⟨_, _, rfl⟩)) (by unfold srcA; decide) (by unfold srcA; decide)
  rw [hTo] at K
  exact K
theorem rel_B (w W : World) (b : Nat) (hM : Mx W) (hT : P10 W) (h : AA w b ⟨#[98]⟩ W) :
    Calls Tryz.prog 19 #[.agg #[.string ⟨#[109]⟩, .int .i64 1, .int .i64 0, .int .i64 0, .slice none 0 0, .slice (some ⟨b, 0, none⟩) 2 2]] W fun e w' => e = .returned (.tuple #[.string ⟨#[]⟩, .int .i64 6]) ∧ Below W.heap.size W w' := by
  have K := release_any xm none (some ⟨b, 0, none⟩) 0 2 [] srcB W hM hT (rm_nil _ _ _) (.inl (by unfold Plain; simp)) (by simp) h.rn (.inl (.inr ⟨_, _, rfl⟩)) (by unfold srcB; decide) (by unfold srcB; decide)
  rw [out_B] at K
  exact K
theorem list_A (w W : World) (b g0 : Nat) (T : ByteArray) (hM : Mx W) (hT : P10 W) (h : AA w b ⟨#[97]⟩ W) (hTo : relOut xm [] srcA = (T, 0)) (hTl : T.size = 18) (hB : B6 W g0 xm none 0 0 (some ⟨b, 0, none⟩) 2 2) :
    Calls Tryz.prog 21 #[.slice (some ⟨g0, 0, none⟩) 1 1] W (ListIs (nmB ++ ⟨#[32]⟩ ++ T) W) :=
  list_one g0 (some ⟨b, 0, none⟩) 2 srcA T W hM hT hB h.rn (.inr ⟨_, _, rfl⟩) (by unfold srcA; decide) (by unfold srcA; decide) hTo hTl
theorem nm_sp : nmB ++ ⟨#[32]⟩ = ⟨#[109, 32, 118, 49, 46, 48, 46, 48, 32]⟩ := by kernel_rfl
set_option maxRecDepth 100000 in
set_option maxHeartbeats 8000000 in
theorem alive_any (w : World) (hM : Mx w) (hT : P10 w) : Calls Tryz.prog 11 #[] w fun e w' => e = .returned (.bool true) ∧ Below w.heap.size w w' := by
  have HM := Lib.hid hM
  have HT := Lib.hid hT
  clear hM hT
  obtain ⟨T, hTo, hTl⟩ := out_A
  have HTO := Lib.hid hTo
  have HTL := Lib.hid hTl
  clear hTo hTl
  go_enter Tryz.func11, Tryz.ntmps11
  go_wp2_with fail
  refine (Dg.parse_e1 _).mono ?_
  rintro e w1 ⟨rfl, hb1⟩
  have HB1 := Lib.hid hb1
  clear hb1
  go_wp2_with fail
  refine (Dg.parse_e2 _).mono ?_
  rintro e w2 ⟨rfl, hb2⟩
  have HB2 := Lib.hid (HB1.out.trans (hb2.mono HB1.out.size))
  clear hb2 HB1
  go_wp2_with fail
  have hb3 := (bal w2 (.cells #[.string ⟨#[98]⟩, .string ⟨#[]⟩, .string ⟨#[97]⟩, .string ⟨#[120]⟩] 56)).trans ((bal (w2.alloc (.cells #[.string ⟨#[98]⟩, .string ⟨#[]⟩, .string ⟨#[97]⟩, .string ⟨#[120]⟩] 56)) (.cells #[.string ⟨#[109]⟩, .int .i64 1, .int .i64 0, .int .i64 0, .slice none 0 0, .slice (some ⟨w2.heap.size, 0, none⟩) 2 2] 40)).mono (by simp))
  have HA3 := Lib.hid (AA.mk (b := w2.heap.size) (nm := ⟨#[97]⟩) (HB2.out.trans (hb3.mono HB2.out.size)) HB2.out.size
    (RowT.up (heap_alloc_new w2 (.cells #[.string ⟨#[98]⟩, .string ⟨#[]⟩, .string ⟨#[97]⟩, .string ⟨#[120]⟩] 56)) (bal _ _) (by simp))
    (by have h := heap_alloc_new (w2.alloc (.cells #[.string ⟨#[98]⟩, .string ⟨#[]⟩, .string ⟨#[97]⟩, .string ⟨#[120]⟩] 56)) (.cells #[.string ⟨#[109]⟩, .int .i64 1, .int .i64 0, .int .i64 0, .slice none 0 0, .slice (some ⟨w2.heap.size, 0, none⟩) 2 2] 40)
        rw [show (w2.alloc (.cells #[.string ⟨#[98]⟩, .string ⟨#[]⟩, .string ⟨#[97]⟩, .string ⟨#[120]⟩] 56)).heap.size = w2.heap.size + 1 by simp] at h
        exact h))
  clear hb3
  refine (rel_A w _ w2.heap.size T (HM.out.keep HA3.out.bel HM.out.1) (P10.keep HT.out HA3.out.bel) HA3.out HTO.out).mono ?_
  rintro e w4 ⟨rfl, hb4⟩
  have HA4 := Lib.hid (HA3.out.up hb4)
  clear hb4 HA3 HB2
  generalize w2.heap.size = b at *
  have k0 := HA4.out.box.cell 0
  have k1 := HA4.out.box.cell 1
  have k2 := HA4.out.box.cell 2
  have k3 := HA4.out.box.cell 3
  have k4 := HA4.out.box.cell 4
  have k5 := HA4.out.box.cell 5
  simp at k0 k1 k2 k3 k4 k5
  go_wp2_with fail
  have HA5 := HA4.out.up (bal w4 (.cells #[.string ⟨#[109]⟩, .int .i64 1, .int .i64 0, .int .i64 0, .slice none 0 0, .slice (some ⟨b, 0, none⟩) 2 2] 40))
  refine (list_A w _ b w4.heap.size T (HM.out.keep HA5.bel HM.out.1) (P10.keep HT.out HA5.bel) HA5 HTO.out HTL.out (B6.new w4 xm none (some ⟨b, 0, none⟩) 0 0 2 2 40)).mono ?_
  rintro e w6 ⟨g, c, rfl, hgg, hcg, hb6⟩
  have HA6 := Lib.hid (HA5.up hb6)
  have hbg : b ≠ g := by have := HA4.out.r.lt; simp at hgg; omega
  rw [nm_sp] at hcg
  have hcg7 : (w6.setCell ⟨b, 2, none⟩ (.string ⟨#[98]⟩)).cell? ⟨g, 0, none⟩ = some (.string (⟨#[109, 32, 118, 49, 46, 48, 46, 48, 32]⟩ ++ T)) := by
    rw [World.cell?_setCell_far w6 ⟨b, 2, none⟩ ⟨g, 0, none⟩ _ hbg]; exact hcg
  have HC7 := Lib.hid hcg7
  have HA7 := Lib.hid (HA6.out.set (nm' := ⟨#[98]⟩))
  clear k0 k1 k2 k3 k4 k5 HA4 HA5 hgg hcg hb6 hbg hcg7
  have k5 := HA6.out.box.cell 5
  have q2 := HA6.out.r.cell 2
  have f2 := HA6.out.r.frozen 2
  simp at k5 q2
  go_upto_region 7 with (fail)
  clear k5 q2 f2 HA6
  generalize w6.setCell _ _ = w7 at *
  have k0 := HA7.out.box.cell 0
  have k1 := HA7.out.box.cell 1
  have k2 := HA7.out.box.cell 2
  have k3 := HA7.out.box.cell 3
  have k4 := HA7.out.box.cell 4
  have k5 := HA7.out.box.cell 5
  simp at k0 k1 k2 k3 k4 k5
  go_wp2_with fail
  refine (rel_B w _ b (HM.out.keep HA7.out.bel HM.out.1) (P10.keep HT.out HA7.out.bel) HA7.out).mono ?_
  rintro e w8 ⟨rfl, hb8⟩
  have HB8 := Lib.hid (HA7.out.bel.trans (hb8.mono HA7.out.bel.size))
  have HC8 := Lib.hid (cell_keep HC7.out hb8)
  clear hb8 k0 k1 k2 k3 k4 k5 HA7 HC7
  go_wp2_with fail
  refine (sum_0 _).mono ?_
  rintro e w9 ⟨rfl, hb9⟩
  have HB9 := Lib.hid (HB8.out.trans (hb9.mono HB8.out.size))
  have HC9 := Lib.hid (cell_keep HC8.out hb9)
  clear hb9 HB8 HC8
  go_wp2_with fail
  refine (sum_a _).mono ?_
  rintro e wa ⟨rfl, hba⟩
  have HBa := Lib.hid (HB9.out.trans (hba.mono HB9.out.size))
  have HCa := Lib.hid (cell_keep HC9.out hba)
  clear hba HB9 HC9
  go_wp2_with fail
  refine (text_a _).mono ?_
  rintro e wb ⟨rfl, hbb⟩
  have HBb := Lib.hid (HBa.out.trans (hbb.mono HBa.out.size))
  have HCb := Lib.hid (cell_keep HCa.out hbb)
  clear hbb HBa HCa
  have hcb := HCb.out
  have htl := HTL.out
  have htz : (T.size : Int) = 18 := by omega
  go_wp2_with fail
  go_ret
  exact ⟨rfl, HBb.out⟩
end Go.Proofs.YthlcdimofagmfaaGreatDoor
