/-
  Make and Not: sets of numbers by value. No condition but the bounds on the lists.
-/
import Derived.Test.YteekccjfokoglaaN
namespace Go.Proofs.Yteekccjfokoglaa
open Go.RowKit Go.Sort Go.Lib Go.Proofs
set_option linter.unusedSimpArgs false
set_option linter.unnecessarySimpa false
set_option linter.unusedVariables false
/-- a set by value -/
abbrev nv (A1 : Option Addr) (n1 c1 : Nat) (A2 : Option Addr) (n2 c2 : Nat) : Value := .agg #[.slice A1 n1 c1, .slice A2 n2 c2]
structure Ns (w : World) (A1 : Option Addr) (c1 : Nat) (A2 : Option Addr) (c2 : Nat) (s : NS) : Prop where
  r1 : Re w w.heap.size A1 s.1
  r2 : Re w w.heap.size A2 s.2
  p1 : Plain A1 c1
  p2 : Plain A2 c2
theorem Ns.up {w w' : World} {A1 A2 : Option Addr} {c1 c2 : Nat} {s : NS} (h : Ns w A1 c1 A2 c2 s) (hb : Below w.heap.size w w') : Ns w' A1 c1 A2 c2 s := ⟨h.r1.up hb, h.r2.up hb, h.p1, h.p2⟩
def okN (k : Nat) (s : NS) : Prop := s.1.length ≤ k ∧ s.2.length ≤ k ∧ (∀ x ∈ s.1, i64ok x.1 ∧ i64ok x.2) ∧ (∀ x ∈ s.2, i64ok x.1 ∧ i64ok x.2)
def GivesN (s : NS) (w : World) (e : Ending) (w' : World) : Prop :=
  ∃ A1 c1 A2 c2, e = .returned (nv A1 s.1.length c1 A2 s.2.length c2) ∧ (Ns w' A1 c1 A2 c2 s ∧ Hi w.heap.size A1 ∧ Hi w.heap.size A2) ∧ Below w.heap.size w w'
/-- the result's box, not yet written -/
structure Yb (r : Nat) (w : World) : Prop where
  y0 : w.cell? ⟨r, 0, none⟩ = some (.slice none 0 0)
  y1 : w.cell? ⟨r, 1, none⟩ = some (.slice none 0 0)
  f0 : w.frozen? ⟨r, 0, none⟩ = false
  f1 : w.frozen? ⟨r, 1, none⟩ = false
  lt : r < w.heap.size
theorem Yb.up {r : Nat} {w w' : World} (h : Yb r w) (hb : Below w.heap.size w w') : Yb r w' :=
  ⟨by rw [hb.cell (p := ⟨r, 0, none⟩) h.lt]; exact h.y0, by rw [hb.cell (p := ⟨r, 1, none⟩) h.lt]; exact h.y1, by rw [hb.frozen (p := ⟨r, 0, none⟩) h.lt]; exact h.f0, by rw [hb.frozen (p := ⟨r, 1, none⟩) h.lt]; exact h.f1, Nat.lt_of_lt_of_le h.lt hb.size⟩
theorem put2 {w : World} {r : Nat} {u v : Value} (h0 : w.cell? ⟨r, 0, none⟩ = some u) (h1 : w.cell? ⟨r, 1, none⟩ = some v) (a b : Value) :
    ((w.setCell ⟨r, 0, none⟩ a).setCell ⟨r, 1, none⟩ b).cell? ⟨r, 0, none⟩ = some a ∧ ((w.setCell ⟨r, 0, none⟩ a).setCell ⟨r, 1, none⟩ b).cell? ⟨r, 1, none⟩ = some b := by
  have e1 : (w.setCell ⟨r, 0, none⟩ a).cell? ⟨r, 0, none⟩ = some a := World.cell?_setCell_same' _ _ _ (by rw [h0]; rfl)
  have e2 : (w.setCell ⟨r, 0, none⟩ a).cell? ⟨r, 1, none⟩ = some v := by
    rw [← h1]; simp only [World.cell?, World.setCell, Array.getElem?_modify]
    cases hw : w.heap[r]? with
    | none => simp [hw]
    | some o => cases o <;> simp [hw]
  refine ⟨?_, World.cell?_setCell_same' _ _ _ (by rw [e2]; rfl)⟩
  rw [← e1]
  generalize w.setCell ⟨r, 0, none⟩ a = W
  simp only [World.cell?, World.setCell, Array.getElem?_modify]
  cases hw : W.heap[r]? with
  | none => simp [hw]
  | some o => cases o <;> simp [hw]
theorem fin_set {w5 : World} {r : Nat} {F1 F2 : Option Addr} {g1 g2 : Nat} {s : NS} (hY : Yb r w5) (hns : Ns w5 F1 g1 F2 g2 s) (h1 : Hi (r + 1) F1) (h2 : Hi (r + 1) F2) (n1 n2 : Nat) :
    (((w5.setCell ⟨r, 0, none⟩ (.slice F1 n1 g1)).setCell ⟨r, 1, none⟩ (.slice F2 n2 g2)).cell? ⟨r, 0, none⟩ = some (.slice F1 n1 g1) ∧ ((w5.setCell ⟨r, 0, none⟩ (.slice F1 n1 g1)).setCell ⟨r, 1, none⟩ (.slice F2 n2 g2)).cell? ⟨r, 1, none⟩ = some (.slice F2 n2 g2)) ∧
    Ns ((w5.setCell ⟨r, 0, none⟩ (.slice F1 n1 g1)).setCell ⟨r, 1, none⟩ (.slice F2 n2 g2)) F1 g1 F2 g2 s ∧ Below r w5 ((w5.setCell ⟨r, 0, none⟩ (.slice F1 n1 g1)).setCell ⟨r, 1, none⟩ (.slice F2 n2 g2)) :=
  ⟨put2 hY.y0 hY.y1 _ _, ⟨by simpa using (hns.r1.set_other h1 _).set_other h1 _, by simpa using (hns.r2.set_other h2 _).set_other h2 _, hns.p1, hns.p2⟩,
    ((Below.refl r w5).setCell (p := ⟨r, 0, none⟩) (Nat.le_refl _) _).setCell (p := ⟨r, 1, none⟩) (Nat.le_refl _) _⟩
theorem keepR {N : Nat} {w1 w' w2 : World} {a b : Addr} {u v : Value} (ha : a.block < N) (hb : b.block < N) (h : w'.cell? a = some u ∧ w'.cell? b = some v ∧ Below N w1 w') (h2 : Below N w' w2) :
    w2.cell? a = some u ∧ w2.cell? b = some v ∧ Below N w1 w2 :=
  ⟨by rw [h2.cell ha]; exact h.1, by rw [h2.cell hb]; exact h.2.1, h.2.2.trans h2⟩
set_option maxRecDepth 100000 in
set_option maxHeartbeats 4000000 in
theorem make_any (A1 A2 : Option Addr) (c1 c2 : Nat) (s : NS) (w : World) (hN : Ns w A1 c1 A2 c2 s) (hk : okN 100000 s) :
    Calls Try.prog 15 #[nv A1 s.1.length c1 A2 s.2.length c2] w (GivesN (mk s) w) := by
  have HN := Lib.hid hN
  have HK := Lib.hid hk
  clear hN hk
  go_enter Try.func15, Try.ntmps15
  go_wp2_with fail
  have hb0 : Below w.heap.size w ((w.alloc (.cells #[.slice A1 s.1.length c1, .slice A2 s.2.length c2] 24)).alloc (.cells #[.slice none 0 0, .slice none 0 0] 24)) := ((Below.refl _ _).alloc (Nat.le_refl _) _).alloc (by simp) _
  have a0 : ((w.alloc (.cells #[.slice A1 s.1.length c1, .slice A2 s.2.length c2] 24)).alloc (.cells #[.slice none 0 0, .slice none 0 0] 24)).cell? ⟨w.heap.size, 0, none⟩ = some (.slice A1 s.1.length c1) := by simp
  have a1 : ((w.alloc (.cells #[.slice A1 s.1.length c1, .slice A2 s.2.length c2] 24)).alloc (.cells #[.slice none 0 0, .slice none 0 0] 24)).cell? ⟨w.heap.size, 1, none⟩ = some (.slice A2 s.2.length c2) := by simp
  have hY : Yb (w.heap.size + 1) ((w.alloc (.cells #[.slice A1 s.1.length c1, .slice A2 s.2.length c2] 24)).alloc (.cells #[.slice none 0 0, .slice none 0 0] 24)) := ⟨by simp, by simp, by simp, by simp, by simp⟩
  generalize (w.alloc (.cells #[.slice A1 s.1.length c1, .slice A2 s.2.length c2] 24)).alloc (.cells #[.slice none 0 0, .slice none 0 0] 24) = w1 at *
  have S0 : w1.cell? ⟨w.heap.size, 0, none⟩ = some (.slice A1 s.1.length c1) ∧ w1.cell? ⟨w.heap.size, 1, none⟩ = some (.slice A2 s.2.length c2) ∧ Below (w.heap.size + 1) w1 w1 := ⟨a0, a1, Below.refl _ _⟩
  have z0 : w.heap.size < w.heap.size + 1 := Nat.lt_succ_self _
  have Y1 : Yb (w.heap.size + 1) w1.drew := hY.up (drewB _)
  have N1 := HN.out.up (hb0.drew)
  have HB0 := Lib.hid hb0
  clear hY hb0 a0 a1
  go_region_held3 (fun w' => w'.cell? ⟨w.heap.size, 0, none⟩ = some (.slice A1 s.1.length c1) ∧ w'.cell? ⟨w.heap.size, 1, none⟩ = some (.slice A2 s.2.length c2) ∧ Below (w.heap.size + 1) w1 w') (first | assumption | exact S0 | exact keepR z0 z0 S0 ((Below.refl _ _).drew) | exact keepR z0 z0 (by assumption) (hb5.mono (Nat.le_of_lt Y4.lt)) | exact keepR z0 z0 (by assumption) (hb4.mono (Nat.le_of_lt Y3.lt)) | exact keepR z0 z0 (by assumption) (hb3.mono (Nat.le_of_lt Y2.lt)) | exact keepR z0 z0 (by assumption) (hb2.mono (Nat.le_of_lt Y1.lt)) | exact keepR z0 z0 (by assumption) ((Below.refl _ _).drew) | exact keepR (w' := w5) z0 z0 (by assumption) (((Below.refl _ w5).setCell (p := ⟨w.heap.size + 1, 0, none⟩) (Nat.le_refl _) _).setCell (p := ⟨w.heap.size + 1, 1, none⟩) (Nat.le_refl _) _))
    (first | (go_at_call 51; refine (axI_any _).mono ?_; rintro e w2 ⟨rfl, hb2⟩; have Y2 := Y1.up hb2; have N2 := N1.up hb2) | (go_at_call 52; refine (nrm_re true A2 c2 s.2 _ N4.r2 ⟨by have := HK.out.2.1; omega, HK.out.2.2.2⟩ N4.p2).mono ?_; rintro e w5 ⟨B2, d2, rfl, hr5, ⟨hp5, hh5⟩, hb5⟩; have Y5 := Y4.up hb5; have hr35 := hr34.up hb5; obtain ⟨y0, y1, f0, f1, yl⟩ := id Y5) | (go_at_call 52; refine (nrm_re false A1 c1 s.1 _ N2.r1 ⟨by have := HK.out.1; omega, HK.out.2.2.1⟩ N2.p1).mono ?_; rintro e w3 ⟨B1, d1, rfl, hr3, ⟨hp3, hh3⟩, hb3⟩; have Y3 := Y2.up hb3; have N3 := N2.up hb3) | (go_at_call 53; refine (axF_any _).mono ?_; rintro e w4 ⟨rfl, hb4⟩; have Y4 := Y3.up hb4; have N4 := N3.up hb4; have hr34 := hr3.up hb4))
  have HS5 := Lib.hid (((((Below.refl (w.heap.size + 1) w1).drew.trans (hb2.mono (Nat.le_of_lt Y1.lt))).trans (hb3.mono (Nat.le_of_lt Y2.lt))).trans (hb4.mono (Nat.le_of_lt Y3.lt))).trans (hb5.mono (Nat.le_of_lt Y4.lt)))
  obtain ⟨q0, q1⟩ := put2 y0 y1 (.slice B1 (nrm false s.1).length d1) (.slice B2 (nrm true s.2).length d2)
  have hh3' := hh3.le (show w.heap.size + 1 + 1 ≤ w2.heap.size by have := Y2.lt; omega)
  have hh5' := hh5.le (show w.heap.size + 1 + 1 ≤ w4.heap.size by have := Y4.lt; omega)
  have HNS := Lib.hid (show Ns ((w5.setCell ⟨w.heap.size + 1, 0, none⟩ (.slice B1 (nrm false s.1).length d1)).setCell ⟨w.heap.size + 1, 1, none⟩ (.slice B2 (nrm true s.2).length d2)) B1 d1 B2 d2 (mk s) from
    ⟨by simpa [mk] using (hr35.set_other hh3' _).set_other hh3' _, by simpa [mk] using (hr5.set_other hh5' _).set_other hh5' _, hp3, hp5⟩)
  have HBE := Lib.hid (((HB0.out.trans (HS5.out.mono (Nat.le_succ _))).setCell (p := ⟨w.heap.size + 1, 0, none⟩) (Nat.le_succ _) (.slice B1 (nrm false s.1).length d1)).setCell (p := ⟨w.heap.size + 1, 1, none⟩) (Nat.le_succ _) (.slice B2 (nrm true s.2).length d2))
  have HH3 := Lib.hid (hh3'.le (show w.heap.size ≤ w.heap.size + 1 + 1 by omega))
  have HH5 := Lib.hid (hh5'.le (show w.heap.size ≤ w.heap.size + 1 + 1 by omega))
  clear hr3 hr34 hr35 hr5 hh3 hh5 hh3' hh5' hp3 hp5 hb2 hb3 hb4 hb5 Y1 Y2 Y3 Y4 Y5 N1 N2 N3 N4 y0 y1
  generalize (w5.setCell ⟨w.heap.size + 1, 0, none⟩ (.slice B1 (nrm false s.1).length d1)).setCell ⟨w.heap.size + 1, 1, none⟩ (.slice B2 (nrm true s.2).length d2) = Wf at *
  go_wp2_with fail
  refine bodyPost_ret (v := nv B1 (nrm false s.1).length d1 B2 (nrm true s.2).length d2) (by simp [results, Try.results15, go_sem, q0, q1]) rfl ⟨B1, d1, B2, d2, rfl, ⟨HNS.out, HH3.out, HH5.out⟩, HBE.out⟩
set_option maxRecDepth 100000 in
set_option maxHeartbeats 4000000 in
theorem not_any (A1 A2 : Option Addr) (c1 c2 : Nat) (s : NS) (w : World) (hN : Ns w A1 c1 A2 c2 s) (hk : okN 100000 s) :
    Calls Try.prog 29 #[nv A1 s.1.length c1 A2 s.2.length c2] w (GivesN (nt s) w) := by
  have HN := Lib.hid hN
  have HK := Lib.hid hk
  clear hN hk
  go_enter Try.func29, Try.ntmps29
  go_wp2_with fail
  have hb0 : Below w.heap.size w ((w.alloc (.cells #[.slice A1 s.1.length c1, .slice A2 s.2.length c2] 24)).alloc (.cells #[.slice none 0 0, .slice none 0 0] 24)) := ((Below.refl _ _).alloc (Nat.le_refl _) _).alloc (by simp) _
  have a0 : ((w.alloc (.cells #[.slice A1 s.1.length c1, .slice A2 s.2.length c2] 24)).alloc (.cells #[.slice none 0 0, .slice none 0 0] 24)).cell? ⟨w.heap.size, 0, none⟩ = some (.slice A1 s.1.length c1) := by simp
  have a1 : ((w.alloc (.cells #[.slice A1 s.1.length c1, .slice A2 s.2.length c2] 24)).alloc (.cells #[.slice none 0 0, .slice none 0 0] 24)).cell? ⟨w.heap.size, 1, none⟩ = some (.slice A2 s.2.length c2) := by simp
  have hY : Yb (w.heap.size + 1) ((w.alloc (.cells #[.slice A1 s.1.length c1, .slice A2 s.2.length c2] 24)).alloc (.cells #[.slice none 0 0, .slice none 0 0] 24)) := ⟨by simp, by simp, by simp, by simp, by simp⟩
  generalize (w.alloc (.cells #[.slice A1 s.1.length c1, .slice A2 s.2.length c2] 24)).alloc (.cells #[.slice none 0 0, .slice none 0 0] 24) = w1 at *
  have S0 : w1.cell? ⟨w.heap.size, 0, none⟩ = some (.slice A1 s.1.length c1) ∧ w1.cell? ⟨w.heap.size, 1, none⟩ = some (.slice A2 s.2.length c2) ∧ Below (w.heap.size + 1) w1 w1 := ⟨a0, a1, Below.refl _ _⟩
  have z0 : w.heap.size < w.heap.size + 1 := Nat.lt_succ_self _
  have Y1 : Yb (w.heap.size + 1) w1.drew := hY.up (drewB _)
  have N1 := HN.out.up (hb0.drew)
  have HB0 := Lib.hid hb0
  clear hY hb0 a0 a1
  go_region_held3 (fun w' => w'.cell? ⟨w.heap.size, 0, none⟩ = some (.slice A1 s.1.length c1) ∧ w'.cell? ⟨w.heap.size, 1, none⟩ = some (.slice A2 s.2.length c2) ∧ Below (w.heap.size + 1) w1 w') (first | assumption | exact S0 | exact keepR z0 z0 S0 ((Below.refl _ _).drew) | exact keepR z0 z0 (by assumption) (hb5.mono (Nat.le_of_lt Y4.lt)) | exact keepR z0 z0 (by assumption) (hb4.mono (Nat.le_of_lt Y3.lt)) | exact keepR z0 z0 (by assumption) (hb3.mono (Nat.le_of_lt Y2.lt)) | exact keepR z0 z0 (by assumption) (hb2.mono (Nat.le_of_lt Y1.lt)) | exact keepR z0 z0 (by assumption) ((Below.refl _ _).drew) | exact keepR (w' := w5) z0 z0 (by assumption) (((Below.refl _ w5).setCell (p := ⟨w.heap.size + 1, 0, none⟩) (Nat.le_refl _) _).setCell (p := ⟨w.heap.size + 1, 1, none⟩) (Nat.le_refl _) _))
    (first | (go_at_call 51; refine (axI_any _).mono ?_; rintro e w2 ⟨rfl, hb2⟩; have Y2 := Y1.up hb2; have N2 := N1.up hb2) | (go_at_call 63; refine (cpl_any true A2 c2 s.2 _ N4.r2 ⟨by have := HK.out.2.1; omega, HK.out.2.2.2⟩ HK.out.2.1 N4.p2).mono ?_; rintro e w5 ⟨B2, d2, rfl, hr5, ⟨hp5, hh5⟩, hb5⟩; have Y5 := Y4.up hb5; have hr35 := hr34.up hb5; obtain ⟨y0, y1, f0, f1, yl⟩ := id Y5) | (go_at_call 63; refine (cpl_any false A1 c1 s.1 _ N2.r1 ⟨by have := HK.out.1; omega, HK.out.2.2.1⟩ HK.out.1 N2.p1).mono ?_; rintro e w3 ⟨B1, d1, rfl, hr3, ⟨hp3, hh3⟩, hb3⟩; have Y3 := Y2.up hb3; have N3 := N2.up hb3) | (go_at_call 53; refine (axF_any _).mono ?_; rintro e w4 ⟨rfl, hb4⟩; have Y4 := Y3.up hb4; have N4 := N3.up hb4; have hr34 := hr3.up hb4))
  have HS5 := Lib.hid (((((Below.refl (w.heap.size + 1) w1).drew.trans (hb2.mono (Nat.le_of_lt Y1.lt))).trans (hb3.mono (Nat.le_of_lt Y2.lt))).trans (hb4.mono (Nat.le_of_lt Y3.lt))).trans (hb5.mono (Nat.le_of_lt Y4.lt)))
  obtain ⟨q0, q1⟩ := put2 y0 y1 (.slice B1 (cpl false s.1).length d1) (.slice B2 (cpl true s.2).length d2)
  have hh3' := hh3.le (show w.heap.size + 1 + 1 ≤ w2.heap.size by have := Y2.lt; omega)
  have hh5' := hh5.le (show w.heap.size + 1 + 1 ≤ w4.heap.size by have := Y4.lt; omega)
  have HNS := Lib.hid (show Ns ((w5.setCell ⟨w.heap.size + 1, 0, none⟩ (.slice B1 (cpl false s.1).length d1)).setCell ⟨w.heap.size + 1, 1, none⟩ (.slice B2 (cpl true s.2).length d2)) B1 d1 B2 d2 (nt s) from
    ⟨by simpa [nt] using (hr35.set_other hh3' _).set_other hh3' _, by simpa [nt] using (hr5.set_other hh5' _).set_other hh5' _, hp3, hp5⟩)
  have HBE := Lib.hid (((HB0.out.trans (HS5.out.mono (Nat.le_succ _))).setCell (p := ⟨w.heap.size + 1, 0, none⟩) (Nat.le_succ _) (.slice B1 (cpl false s.1).length d1)).setCell (p := ⟨w.heap.size + 1, 1, none⟩) (Nat.le_succ _) (.slice B2 (cpl true s.2).length d2))
  have HH3 := Lib.hid (hh3'.le (show w.heap.size ≤ w.heap.size + 1 + 1 by omega))
  have HH5 := Lib.hid (hh5'.le (show w.heap.size ≤ w.heap.size + 1 + 1 by omega))
  clear hr3 hr34 hr35 hr5 hh3 hh5 hh3' hh5' hp3 hp5 hb2 hb3 hb4 hb5 Y1 Y2 Y3 Y4 Y5 N1 N2 N3 N4 y0 y1
  generalize (w5.setCell ⟨w.heap.size + 1, 0, none⟩ (.slice B1 (cpl false s.1).length d1)).setCell ⟨w.heap.size + 1, 1, none⟩ (.slice B2 (cpl true s.2).length d2) = Wf at *
  go_wp2_with fail
  refine bodyPost_ret (v := nv B1 (cpl false s.1).length d1 B2 (cpl true s.2).length d2) (by simp [results, Try.results29, go_sem, q0, q1]) rfl ⟨B1, d1, B2, d2, rfl, ⟨HNS.out, HH3.out, HH5.out⟩, HBE.out⟩
end Go.Proofs.Yteekccjfokoglaa
