/-
  The partition by any short list of sets is the specified one: the law BytesetParts. Condition: the table deBruijn64tab.
-/
import Derived.Test.YtmkmbpiaolmncaaDoorRq
namespace Go.Proofs.YtmkmbpiaolmncaaDoor
open Go.RowKit
set_option linter.unusedSimpArgs false
set_option linter.unnecessarySimpa false
set_option linter.unusedVariables false
theorem Hold.below {w w' : World} {g : Nat} {R : List BS} (h : Hold w g R) (hg : g < w.heap.size) (hb : Below w.heap.size w w') : Hold w' g R := fun i x c hx hc => by
  rw [hb.cell (p := ⟨g, i * 4 + c, none⟩) hg]; exact h i x c hx hc
theorem hold_own {w : World} {B g cap : Nat} {R : List BS} (h : w.ownsRow B 24 4 (.slice (some ⟨g, 0, none⟩) R.length cap) R.length (flatB R)) : Hold w g R := fun i x c hx hc => by
  have hi := (List.getElem?_eq_some_iff.1 hx).1
  exact (h.cellAt _ (by omega)).trans (flatB_at R i x hx c hc)
set_option maxRecDepth 100000 in
set_option maxHeartbeats 4000000 in
theorem parts_big (l : List BS) (v : Value) (w : World) (hT : Tab w) (hv : Sets w v l) (hl : 12 < l.length) :
    Calls Tryd.prog 8 #[v] w fun e w' => e = .returned (.bool true) ∧ Below w.heap.size w w' := by
  have HT := Lib.hid hT
  have h1 : (12 : Int) < (l.length : Int) := by omega
  obtain ⟨av, cv, rfl⟩ := hv.form
  clear hv hT hl
  go_enter Tryd.func8, Tryd.ntmps8
  go_wp2_with fail
  refine (awake_any _ HT.out).mono ?_
  rintro e w1 ⟨rfl, hb1⟩
  have HB := Lib.hid hb1
  clear hb1
  go_wp2_with fail
  go_ret
  exact ⟨rfl, HB.out⟩
set_option maxRecDepth 100000 in
set_option maxHeartbeats 4000000 in
theorem parts_small (l : List BS) (v : Value) (w : World) (hT : Tab w) (hv : Sets w v l) (hl : l.length ≤ 12) :
    Calls Tryd.prog 8 #[v] w fun e w' => e = .returned (.bool true) ∧ Below w.heap.size w w' := by
  have HT := Lib.hid hT
  have h1 : ¬ (12 : Int) < (l.length : Int) := by omega
  obtain ⟨av, cv, rfl⟩ := hv.form
  have HV := Lib.hid hv
  have HL := Lib.hid hl
  clear hv hT hl
  go_enter Tryd.func8, Tryd.ntmps8
  go_wp2_with fail
  refine (part_any l _ _ HT.out HV.out HL.out).mono ?_
  rintro e w2 ⟨g, cap, R, rfl, hp, hs, hc, hg, hb2⟩
  have hR := sorted_parts hp hs
  have hpl := parts_len HL.out
  have hln := hp.length_eq
  have HC := Lib.hid (show Hold w2 g R from hc)
  have HG := Lib.hid hg
  have HB2 := Lib.hid hb2
  have HR := Lib.hid hR
  have HLN := Lib.hid (show 1 ≤ R.length ∧ R.length ≤ 4096 by omega)
  clear hp hs hc hg hb2 hR hpl hln
  go_wp2_with fail
  refine (rpart_any l _ _ (HV.out.below HB2.out) HL.out).mono ?_
  rintro e w3 ⟨u, rfl, hown, hb3⟩
  rw [← HR.out] at hown
  obtain ⟨g2, c2, rfl⟩ := Joins.ownsRow_form hown (by have := HLN.out; omega)
  have H2 := Lib.hid (hold_own hown)
  have H1 := Lib.hid (HC.out.below HG.out hb3)
  have HB3 := Lib.hid (HB2.out.trans (hb3.mono HB2.out.size))
  clear hown hb3
  go_wp2_with fail
  refine (same_any R g g2 cap c2 _ H1.out H2.out (by have := HLN.out; omega)).mono ?_
  rintro e w4 ⟨rfl, hb4⟩
  have HB4 := Lib.hid (HB3.out.trans (hb4.mono HB3.out.size))
  clear hb4
  have HT4 := Lib.hid (HT.out.below HB4.out HT.out.1)
  go_wp2_with fail
  refine (awake_any _ HT4.out).mono ?_
  rintro e w5 ⟨rfl, hb5⟩
  have HB5 := Lib.hid (HB4.out.trans (hb5.mono HB4.out.size))
  clear hb5
  go_wp2_with fail
  go_ret
  exact ⟨rfl, HB5.out⟩
theorem law_parts (l : List BS) (v : Value) (w : World) (hT : Tab w) (hv : Sets w v l) :
    Calls Tryd.prog 8 #[v] w fun e w' => e = .returned (.bool true) ∧ Below w.heap.size w w' := by
  by_cases h : l.length ≤ 12
  · exact parts_small l v w hT hv h
  · exact parts_big l v w hT hv (by omega)
end Go.Proofs.YtmkmbpiaolmncaaDoor
