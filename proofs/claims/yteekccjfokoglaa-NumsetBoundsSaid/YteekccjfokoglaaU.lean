/-
  Valid, empty, Subset, All, Ints. No condition but the bounds on the lists.
-/
import Derived.Test.YteekccjfokoglaaT
namespace Go.Proofs.Yteekccjfokoglaa
open Go.RowKit Go.Sort Go.Lib Go.Proofs
set_option linter.unusedSimpArgs false
set_option linter.unnecessarySimpa false
set_option linter.unusedVariables false
set_option maxRecDepth 100000 in
set_option maxHeartbeats 1000000 in
theorem valid_s (A1 A2 : Option Addr) (c1 c2 : Nat) (s : NS) (w : World) (hN : Ns w A1 c1 A2 c2 s) (hk : okN 100000 s) :
    Calls Try.prog 17 #[nv A1 s.1.length c1 A2 s.2.length c2] w (EqIs (eqN s (mk s)) w) := by
  have HN := Lib.hid hN
  have HK := Lib.hid hk
  have HM := Lib.hid (fun W (hb : Below w.heap.size w W) => make_any A1 A2 c1 c2 s W (hN.up hb) hk)
  have HMK := Lib.hid (mk_ok hk)
  clear hN hk
  unfold eqN
  go_enter Try.func17, Try.ntmps17
  go_wp2_with fail
  have hb0 : Below w.heap.size w (w.alloc (.cells #[.slice A1 s.1.length c1, .slice A2 s.2.length c2] 24)) := (Below.refl _ _).alloc (Nat.le_refl _) _
  refine (HM.out _ hb0).mono ?_
  rintro e w2 ⟨E1, e1, E2, e2, rfl, ⟨hns, _, _⟩, hb2⟩
  have a0 : w2.cell? ⟨w.heap.size, 0, none⟩ = some (.slice A1 s.1.length c1) := by rw [hb2.cell (p := ⟨w.heap.size, 0, none⟩) (by show w.heap.size < _; simp)]; simp
  have a1 : w2.cell? ⟨w.heap.size, 1, none⟩ = some (.slice A2 s.2.length c2) := by rw [hb2.cell (p := ⟨w.heap.size, 1, none⟩) (by show w.heap.size < _; simp)]; simp
  have HB2 := Lib.hid (hb0.trans (hb2.mono hb0.size))
  have hz2 : w.heap.size < w2.heap.size := by have := hb2.size; simp at this; omega
  have HNS := Lib.hid hns
  clear hb0 hb2 hns
  have a0' : (w2.alloc (.cells #[.slice E1 (mk s).1.length e1, .slice E2 (mk s).2.length e2] 24)).cell? ⟨w.heap.size, 0, none⟩ = some (.slice A1 s.1.length c1) := cell?_alloc_some _ a0
  have a1' : (w2.alloc (.cells #[.slice E1 (mk s).1.length e1, .slice E2 (mk s).2.length e2] 24)).cell? ⟨w.heap.size, 1, none⟩ = some (.slice A2 s.2.length c2) := cell?_alloc_some _ a1
  have hbW := bal w2 (.cells #[.slice E1 (mk s).1.length e1, .slice E2 (mk s).2.length e2] 24)
  have hBW := HB2.out.trans (hbW.mono HB2.out.size)
  have H1 := Lib.hid (spans_57 A1 E1 c1 e1 s.1 (mk s).1 _ (HN.out.r1.up hBW) (HNS.out.r1.up hbW) (by have := HK.out.1; omega) (by have := HMK.out.1; omega))
  have HBW := Lib.hid hBW
  have HbW := Lib.hid hbW
  clear hBW hbW
  cases h1 : eqL s.1 (mk s).1
  · rw [h1] at H1
    go_wp2_with fail
    refine H1.out.mono ?_
    rintro e w3 ⟨rfl, hb3⟩
    have HB3 := Lib.hid (HBW.out.trans (hb3.mono HBW.out.size))
    clear hb3
    go_wp2_with fail
    go_ret
    exact ⟨ret_bool (by rw [h1]; rfl), HB3.out⟩
  · rw [h1] at H1
    go_wp2_with fail
    refine H1.out.mono ?_
    rintro e w3 ⟨rfl, hb3⟩
    have b1 : w3.cell? ⟨w.heap.size, 1, none⟩ = some (.slice A2 s.2.length c2) := by rw [hb3.cell (p := ⟨w.heap.size, 1, none⟩) (by show w.heap.size < _; simp; omega)]; exact a1'
    have b2 : w3.cell? ⟨w2.heap.size, 1, none⟩ = some (.slice E2 (mk s).2.length e2) := by rw [hb3.cell (p := ⟨w2.heap.size, 1, none⟩) (by show w2.heap.size < _; simp)]; simp
    have HB3 := Lib.hid (HBW.out.trans (hb3.mono HBW.out.size))
    have H2 := Lib.hid (spans_57 A2 E2 c2 e2 s.2 (mk s).2 _ (HN.out.r2.up HB3.out) ((HNS.out.r2.up HbW.out).up hb3) (by have := HK.out.2.1; omega) (by have := HMK.out.2.1; omega))
    clear hb3 a0 a1 a0' a1'
    go_wp2_with fail
    refine H2.out.mono ?_
    rintro e w4 ⟨rfl, hb4⟩
    have HB4 := Lib.hid (HB3.out.trans (hb4.mono HB3.out.size))
    clear hb4
    cases h2 : eqL s.2 (mk s).2 <;> (
      go_wp2_with fail
      go_ret
      exact ⟨ret_bool (by rw [h1, h2]; rfl), HB4.out⟩)
theorem empty_any (A1 A2 : Option Addr) (c1 c2 : Nat) (s : NS) (w : World) : Calls Try.prog 65 #[nv A1 s.1.length c1 A2 s.2.length c2] w (EqIs (empB s) w) := by
  have e1 : s.1.isEmpty = ((s.1.length : Int) == 0) := by
    rw [Bool.eq_iff_iff]; simp [List.isEmpty_iff]
  have e2 : s.2.isEmpty = ((s.2.length : Int) == 0) := by
    rw [Bool.eq_iff_iff]; simp [List.isEmpty_iff]
  unfold empB
  rw [e1, e2]
  generalize s.1.length = n
  generalize s.2.length = m
  clear e1 e2
  cases h1 : ((n : Int) == 0) <;> cases h2 : ((m : Int) == 0) <;> (
    go_enter Try.func65, Try.ntmps65
    go_wp2_with fail
    go_ret
    exact ⟨rfl, (Below.refl _ _).alloc (Nat.le_refl _) _⟩)
set_option maxRecDepth 100000 in
set_option maxHeartbeats 1000000 in
theorem subset_any (A1 A2 B1 B2 : Option Addr) (c1 c2 d1 d2 : Nat) (s t : NS) (w : World) (hN : Ns w A1 c1 A2 c2 s) (hM : Ns w B1 d1 B2 d2 t) (hk : okN 10000 s) (hj : okN 10000 t) :
    Calls Try.prog 33 #[nv A1 s.1.length c1 A2 s.2.length c2, nv B1 t.1.length d1 B2 t.2.length d2] w (EqIs (subB s t) w) := by
  have hb0 : Below w.heap.size w ((w.alloc (.cells #[.slice A1 s.1.length c1, .slice A2 s.2.length c2] 24)).alloc (.cells #[.slice B1 t.1.length d1, .slice B2 t.2.length d2] 24)) := ((Below.refl _ _).alloc (Nat.le_refl _) _).alloc (by simp) _
  have H1 := Lib.hid (minus_any A1 A2 B1 B2 c1 c2 d1 d2 s t _ (hN.up hb0) (hM.up hb0) hk hj)
  have HB := Lib.hid hb0
  unfold subB
  clear hb0 hN hM hk hj
  go_enter Try.func33, Try.ntmps33
  go_wp2_with fail
  refine H1.out.mono ?_
  rintro e w2 ⟨E1, e1, E2, e2, rfl, _, hb2⟩
  have HB2 := Lib.hid (HB.out.trans (hb2.mono HB.out.size))
  clear hb2
  go_wp2_with fail
  refine (empty_any E1 E2 e1 e2 (minus s t) w2).mono ?_
  rintro e w3 ⟨rfl, hb3⟩
  have HB3 := Lib.hid (HB2.out.trans (hb3.mono HB2.out.size))
  clear hb3
  go_wp2_with fail
  go_ret
  exact ⟨rfl, HB3.out⟩
def allS : NS := nt ([], [])
theorem ns_nil (w : World) : Ns w none 0 none 0 ([], []) := ⟨re_nil _ _ _, re_nil _ _ _, .inl ⟨rfl, rfl⟩, .inl ⟨rfl, rfl⟩⟩
theorem ok_nil (k : Nat) : okN k ([], []) := ⟨Nat.zero_le _, Nat.zero_le _, by simp, by simp⟩
theorem all_ok : okN 1 allS := (nt_ok (ok_nil 0)).le (by omega)
set_option maxRecDepth 100000 in
set_option maxHeartbeats 1000000 in
theorem all_any (w : World) : Calls Try.prog 21 #[] w (GivesN allS w) := by
  have H := Lib.hid (fun W => not_any none none 0 0 ([], []) W (ns_nil W) (ok_nil _))
  have hY := yb_new w
  have HY := Lib.hid hY
  go_enter Try.func21, Try.ntmps21
  go_wp2_with fail
  refine (H.out _).mono ?_
  rintro e w2 ⟨E1, e1, E2, e2, rfl, ⟨hns, h1, h2⟩, hb2⟩
  have hY2 := HY.out.up hb2
  obtain ⟨y0, y1, f0, f1, yl⟩ := id hY2
  have i1 : Hi (w.heap.size + 1) E1 := h1.le (by simp)
  have i2 : Hi (w.heap.size + 1) E2 := h2.le (by simp)
  have hB2 := (bal w (.cells #[.slice none 0 0, .slice none 0 0] 24)).trans (hb2.mono (by simp))
  obtain ⟨⟨q0, q1⟩, hfn, hfb⟩ := fin_set hY2 hns i1 i2 (nt ([], [])).1.length (nt ([], [])).2.length
  have HE := Lib.hid (show GivesN allS w (.returned (nv E1 (nt ([], [])).1.length e1 E2 (nt ([], [])).2.length e2)) ((w2.setCell ⟨w.heap.size, 0, none⟩ (.slice E1 (nt ([], [])).1.length e1)).setCell ⟨w.heap.size, 1, none⟩ (.slice E2 (nt ([], [])).2.length e2)) from
    ⟨E1, e1, E2, e2, rfl, ⟨hfn, i1.le (by omega), i2.le (by omega)⟩, hB2.trans hfb⟩)
  clear hfn hfb hB2 i1 i2 hY2 hns h1 h2 hb2
  go_wp2_with fail
  refine bodyPost_ret (v := nv E1 (nt ([], [])).1.length e1 E2 (nt ([], [])).2.length e2) (by simp [results, Try.results21, go_sem, q0, q1]) rfl HE.out
end Go.Proofs.Yteekccjfokoglaa
