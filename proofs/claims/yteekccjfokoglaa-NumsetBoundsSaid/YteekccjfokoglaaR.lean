/-
  And and Minus. No condition but the bounds on the lists.
-/
import Derived.Test.YteekccjfokoglaaQ
namespace Go.Proofs.Yteekccjfokoglaa
open Go.RowKit Go.Sort Go.Lib Go.Proofs
set_option linter.unusedSimpArgs false
set_option linter.unnecessarySimpa false
set_option linter.unusedVariables false
theorem GivesN.bd {s : NS} {w w' : World} {e : Ending} (h : GivesN s w e w') : Below w.heap.size w w' := by obtain ⟨_, _, _, _, _, _, h⟩ := h; exact h
set_option maxRecDepth 100000 in
set_option maxHeartbeats 1000000 in
theorem and_any (A1 A2 B1 B2 : Option Addr) (c1 c2 d1 d2 : Nat) (s t : NS) (w : World) (hN : Ns w A1 c1 A2 c2 s) (hM : Ns w B1 d1 B2 d2 t) (hk : okN 10000 s) (hj : okN 10000 t) :
    Calls Try.prog 25 #[nv A1 s.1.length c1 A2 s.2.length c2, nv B1 t.1.length d1 B2 t.2.length d2] w (GivesN (andd s t) w) := by
  have HN := Lib.hid hN
  have HM := Lib.hid hM
  have HK := Lib.hid hk
  have HJ := Lib.hid hj
  clear hN hk hM hj
  go_enter Try.func25, Try.ntmps25
  go_wp2_with fail
  obtain ⟨hb0, hY, a0, a1, a2, a3⟩ := boxes w A1 s.1.length c1 A2 s.2.length c2 B1 t.1.length d1 B2 t.2.length d2
  unfold w3b at *
  generalize ((w.alloc (.cells #[.slice A1 s.1.length c1, .slice A2 s.2.length c2] 24)).alloc (.cells #[.slice B1 t.1.length d1, .slice B2 t.2.length d2] 24)).alloc (.cells #[.slice none 0 0, .slice none 0 0] 24) = w1 at *
  obtain ⟨r, hr⟩ : ∃ r, r = w.heap.size + 1 + 1 := ⟨_, rfl⟩
  have z0 : w.heap.size < r := by omega
  have z1 : w.heap.size + 1 < r := by omega
  rw [← hr] at hY ⊢
  have S0 : w1.cell? ⟨w.heap.size, 0, none⟩ = some (.slice A1 s.1.length c1) ∧ w1.cell? ⟨w.heap.size, 1, none⟩ = some (.slice A2 s.2.length c2) ∧ w1.cell? ⟨w.heap.size + 1, 0, none⟩ = some (.slice B1 t.1.length d1) ∧ w1.cell? ⟨w.heap.size + 1, 1, none⟩ = some (.slice B2 t.2.length d2) ∧ Below r w1 w1 := ⟨a0, a1, a2, a3, Below.refl _ _⟩
  have N1 := HN.out.up (hb0.trans ((drewB w1).mono hb0.size))
  have M1 := HM.out.up (hb0.trans ((drewB w1).mono hb0.size))
  have yl := hY.lt
  have HB0 := Lib.hid hb0
  have HR := Lib.hid hr
  have rw1 : r ≤ w1.heap.size := Nat.le_of_lt yl
  have hd1 : Below w1.heap.size w1 w1.drew := drewB w1
  clear hb0 a0 a1 a2 a3 hr
  go_region_held3 (fun w' => w'.cell? ⟨w.heap.size, 0, none⟩ = some (.slice A1 s.1.length c1) ∧ w'.cell? ⟨w.heap.size, 1, none⟩ = some (.slice A2 s.2.length c2) ∧ w'.cell? ⟨w.heap.size + 1, 0, none⟩ = some (.slice B1 t.1.length d1) ∧ w'.cell? ⟨w.heap.size + 1, 1, none⟩ = some (.slice B2 t.2.length d2) ∧ Below r w1 w')
    (first | assumption | exact S0 | exact keepF z0 z0 z1 z1 S0 ((Below.refl _ _).drew) | exact keepF z0 z0 z1 z1 S0 (bw6.mono rw1) | exact keepF z0 z0 z1 z1 S0 (bw5.mono rw1) | exact keepF z0 z0 z1 z1 S0 (bw4.mono rw1) | exact keepF z0 z0 z1 z1 S0 (bw3.mono rw1) | exact keepF z0 z0 z1 z1 S0 (((bw6.mono rw1).setCell (p := ⟨r, 0, none⟩) (Nat.le_refl _) _).setCell (p := ⟨r, 1, none⟩) (Nat.le_refl _) _))
    (first
      | (go_at_call 29; have hx := hns5; refine (not_any F1 F2 g1 g2 (orr (nt s) (nt t)) w5 hns5 ((or_ok (nt_ok HK.out) (nt_ok HJ.out)).le (by omega))).mono ?_; rintro e w6 ⟨G1, h1, G2, h2, rfl, ⟨hns6, hf1, hf2⟩, hb6⟩; have bw6 : Below w1.heap.size w1 w6 := bw5.trans (hb6.mono bw5.size); have Y6 := hY.up bw6; obtain ⟨y0, y1, f0, f1, yl6⟩ := id Y6; have hi1 : Hi (r + 1) G1 := hf1.le (by have := bw5.size; omega); have hi2 : Hi (r + 1) G2 := hf2.le (by have := bw5.size; omega))
      | (go_at_call 27; refine (or_any E1 E2 F1' F2' e1 e2 g1' g2' (nt s) (nt t) w4 (hns3.up hb4) hns4 ((nt_ok HK.out).le (by omega)) ((nt_ok HJ.out).le (by omega))).mono ?_; rintro e w5 ⟨F1, g1, F2, g2, rfl, ⟨hns5, _, _⟩, hb5⟩; have bw5 : Below w1.heap.size w1 w5 := bw4.trans (hb5.mono bw4.size))
      | (go_at_call 29; refine (not_any B1 B2 d1 d2 t w3 M3 (HJ.out.le (by omega))).mono ?_; rintro e w4 ⟨F1', g1', F2', g2', rfl, ⟨hns4, _, _⟩, hb4⟩; have bw4 : Below w1.heap.size w1 w4 := bw3.trans (hb4.mono bw3.size))
      | (go_at_call 29; refine (not_any A1 A2 c1 c2 s _ N1 (HK.out.le (by omega))).mono ?_; rintro e w3 ⟨E1, e1, E2, e2, rfl, ⟨hns3, _, _⟩, hb3⟩; have bw3 : Below w1.heap.size w1 w3 := hd1.trans (hb3.mono hd1.size); have M3 := M1.up hb3))
  all_goals
    obtain ⟨⟨q0, q1⟩, hfn, hfb⟩ := fin_set Y6 hns6 hi1 hi2 (nt (orr (nt s) (nt t))).1.length (nt (orr (nt s) (nt t))).2.length
    have HE := Lib.hid (show GivesN (nt (orr (nt s) (nt t))) w (.returned (nv G1 (nt (orr (nt s) (nt t))).1.length h1 G2 (nt (orr (nt s) (nt t))).2.length h2)) ((w6.setCell ⟨r, 0, none⟩ (.slice G1 (nt (orr (nt s) (nt t))).1.length h1)).setCell ⟨r, 1, none⟩ (.slice G2 (nt (orr (nt s) (nt t))).2.length h2)) from
      ⟨G1, h1, G2, h2, rfl, ⟨hfn, hi1.le (by omega), hi2.le (by omega)⟩, HB0.out.trans ((((bw6.mono rw1).trans hfb)).mono (by omega))⟩)
    clear hfn hfb hns6 hi1 hi2 hf1 hf2 Y6 y0 y1 f0 f1 bw6
    generalize (w6.setCell ⟨r, 0, none⟩ (.slice G1 (nt (orr (nt s) (nt t))).1.length h1)).setCell ⟨r, 1, none⟩ (.slice G2 (nt (orr (nt s) (nt t))).2.length h2) = Wf at *
    go_wp2_with fail
    refine bodyPost_ret (v := nv G1 (nt (orr (nt s) (nt t))).1.length h1 G2 (nt (orr (nt s) (nt t))).2.length h2) (by simp [results, Try.results25, go_sem, q0, q1]) rfl HE.out
set_option maxRecDepth 100000 in
set_option maxHeartbeats 1000000 in
theorem minus_any (A1 A2 B1 B2 : Option Addr) (c1 c2 d1 d2 : Nat) (s t : NS) (w : World) (hN : Ns w A1 c1 A2 c2 s) (hM : Ns w B1 d1 B2 d2 t) (hk : okN 10000 s) (hj : okN 10000 t) :
    Calls Try.prog 31 #[nv A1 s.1.length c1 A2 s.2.length c2, nv B1 t.1.length d1 B2 t.2.length d2] w (GivesN (minus s t) w) := by
  have HN := Lib.hid hN
  have HM := Lib.hid hM
  have HK := Lib.hid hk
  have HJ := Lib.hid hj
  clear hN hk hM hj
  go_enter Try.func31, Try.ntmps31
  go_wp2_with fail
  obtain ⟨hb0, hY, a0, a1, a2, a3⟩ := boxes w A1 s.1.length c1 A2 s.2.length c2 B1 t.1.length d1 B2 t.2.length d2
  unfold w3b at *
  generalize ((w.alloc (.cells #[.slice A1 s.1.length c1, .slice A2 s.2.length c2] 24)).alloc (.cells #[.slice B1 t.1.length d1, .slice B2 t.2.length d2] 24)).alloc (.cells #[.slice none 0 0, .slice none 0 0] 24) = w1 at *
  obtain ⟨r, hr⟩ : ∃ r, r = w.heap.size + 1 + 1 := ⟨_, rfl⟩
  have z0 : w.heap.size < r := by omega
  have z1 : w.heap.size + 1 < r := by omega
  rw [← hr] at hY ⊢
  have S0 : w1.cell? ⟨w.heap.size, 0, none⟩ = some (.slice A1 s.1.length c1) ∧ w1.cell? ⟨w.heap.size, 1, none⟩ = some (.slice A2 s.2.length c2) ∧ w1.cell? ⟨w.heap.size + 1, 0, none⟩ = some (.slice B1 t.1.length d1) ∧ w1.cell? ⟨w.heap.size + 1, 1, none⟩ = some (.slice B2 t.2.length d2) ∧ Below r w1 w1 := ⟨a0, a1, a2, a3, Below.refl _ _⟩
  have N1 := HN.out.up (hb0.trans ((drewB w1).mono hb0.size))
  have M1 := HM.out.up (hb0.trans ((drewB w1).mono hb0.size))
  have yl := hY.lt
  have HB0 := Lib.hid hb0
  have HR := Lib.hid hr
  have rw1 : r ≤ w1.heap.size := Nat.le_of_lt yl
  have hd1 : Below w1.heap.size w1 w1.drew := drewB w1
  clear hb0 a0 a1 a2 a3 hr
  go_region_held3 (fun w' => w'.cell? ⟨w.heap.size, 0, none⟩ = some (.slice A1 s.1.length c1) ∧ w'.cell? ⟨w.heap.size, 1, none⟩ = some (.slice A2 s.2.length c2) ∧ w'.cell? ⟨w.heap.size + 1, 0, none⟩ = some (.slice B1 t.1.length d1) ∧ w'.cell? ⟨w.heap.size + 1, 1, none⟩ = some (.slice B2 t.2.length d2) ∧ Below r w1 w')
    (first | assumption | exact S0 | exact keepF z0 z0 z1 z1 S0 ((Below.refl _ _).drew) | exact keepF z0 z0 z1 z1 S0 (bw6.mono rw1) | exact keepF z0 z0 z1 z1 S0 (bw5.mono rw1) | exact keepF z0 z0 z1 z1 S0 (bw4.mono rw1) | exact keepF z0 z0 z1 z1 S0 (bw3.mono rw1) | exact keepF z0 z0 z1 z1 S0 (((bw6.mono rw1).setCell (p := ⟨r, 0, none⟩) (Nat.le_refl _) _).setCell (p := ⟨r, 1, none⟩) (Nat.le_refl _) _))
    (first
      | (go_at_call 29; have hx := hns5; refine (not_any F1 F2 g1 g2 (orr (nt s) t) w5 hns5 ((or_ok (nt_ok HK.out) HJ.out).le (by omega))).mono ?_; rintro e w6 ⟨G1, h1, G2, h2, rfl, ⟨hns6, hf1, hf2⟩, hb6⟩; have bw6 : Below w1.heap.size w1 w6 := bw5.trans (hb6.mono bw5.size); have Y6 := hY.up bw6; obtain ⟨y0, y1, f0, f1, yl6⟩ := id Y6; have hi1 : Hi (r + 1) G1 := hf1.le (by have := bw5.size; omega); have hi2 : Hi (r + 1) G2 := hf2.le (by have := bw5.size; omega))
      | (go_at_call 27; refine (or_any E1 E2 B1 B2 e1 e2 d1 d2 (nt s) t w3 hns3 M3 ((nt_ok HK.out).le (by omega)) (HJ.out.le (by omega))).mono ?_; rintro e w5 ⟨F1, g1, F2, g2, rfl, ⟨hns5, _, _⟩, hb5⟩; have bw5 : Below w1.heap.size w1 w5 := bw3.trans (hb5.mono bw3.size))
      | (go_at_call 29; refine (not_any A1 A2 c1 c2 s _ N1 (HK.out.le (by omega))).mono ?_; rintro e w3 ⟨E1, e1, E2, e2, rfl, ⟨hns3, _, _⟩, hb3⟩; have bw3 : Below w1.heap.size w1 w3 := hd1.trans (hb3.mono hd1.size); have M3 := M1.up hb3))
  all_goals
    obtain ⟨⟨q0, q1⟩, hfn, hfb⟩ := fin_set Y6 hns6 hi1 hi2 (nt (orr (nt s) t)).1.length (nt (orr (nt s) t)).2.length
    have HE := Lib.hid (show GivesN (nt (orr (nt s) t)) w (.returned (nv G1 (nt (orr (nt s) t)).1.length h1 G2 (nt (orr (nt s) t)).2.length h2)) ((w6.setCell ⟨r, 0, none⟩ (.slice G1 (nt (orr (nt s) t)).1.length h1)).setCell ⟨r, 1, none⟩ (.slice G2 (nt (orr (nt s) t)).2.length h2)) from
      ⟨G1, h1, G2, h2, rfl, ⟨hfn, hi1.le (by omega), hi2.le (by omega)⟩, HB0.out.trans ((((bw6.mono rw1).trans hfb)).mono (by omega))⟩)
    clear hfn hfb hns6 hi1 hi2 hf1 hf2 Y6 y0 y1 f0 f1 bw6
    generalize (w6.setCell ⟨r, 0, none⟩ (.slice G1 (nt (orr (nt s) t)).1.length h1)).setCell ⟨r, 1, none⟩ (.slice G2 (nt (orr (nt s) t)).2.length h2) = Wf at *
    go_wp2_with fail
    refine bodyPost_ret (v := nv G1 (nt (orr (nt s) t)).1.length h1 G2 (nt (orr (nt s) t)).2.length h2) (by simp [results, Try.results31, go_sem, q0, q1]) rfl HE.out
end Go.Proofs.Yteekccjfokoglaa
