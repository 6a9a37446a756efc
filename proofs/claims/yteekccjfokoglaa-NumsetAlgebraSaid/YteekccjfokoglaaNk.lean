/-
  The specification's And, Minus, Empty, Subset. Condition: at most 10000 spans of each kind, their ends 64-bit integers.
-/
import Derived.Test.YteekccjfokoglaaNj
namespace Go.Proofs.Yteekccjfokoglaa
open Go.RowKit Go.Sort Go.Lib Go.Proofs
set_option linter.unusedSimpArgs false
set_option linter.unnecessarySimpa false
set_option linter.unusedVariables false
set_option maxRecDepth 100000 in
set_option maxHeartbeats 2000000 in
theorem rand_any0 (A1 A2 B1 B2 : Option Addr) (c1 c2 d1 d2 : Nat) (s t : NS) (w : World) (hN_s : Ns w A1 c1 A2 c2 s) (hk_s : okN 11000 s) (hN_t : Ns w B1 d1 B2 d2 t) (hk_t : okN 11000 t) :
    Calls Try.prog 26 #[nv A1 s.1.length c1 A2 s.2.length c2, nv B1 t.1.length d1 B2 t.2.length d2] w (GivesN (nt (orr (nt s) (nt t))) w) := by
  have HN_s := Lib.hid hN_s
  have HK_s := Lib.hid hk_s
  have HN_t := Lib.hid hN_t
  have HK_t := Lib.hid hk_t
  clear hN_s hk_s hN_t hk_t
  obtain ⟨w1, hw1⟩ : ∃ w1, w1 = (((w.alloc (.cells #[.slice A1 s.1.length c1, .slice A2 s.2.length c2] 24)).alloc (.cells #[.slice B1 t.1.length d1, .slice B2 t.2.length d2] 24)).alloc (.cells #[.slice none 0 0, .slice none 0 0] 24)) := ⟨_, rfl⟩
  obtain ⟨r, hr⟩ : ∃ r, r = w.heap.size + 1 + 1 := ⟨_, rfl⟩
  have hb0 : Below w.heap.size w w1 := by rw [hw1]; exact (((Below.refl _ _).alloc (Nat.le_refl _) _).alloc (by simp) _).alloc (by simp; omega) _
  have a0 : w1.cell? ⟨w.heap.size, 0, none⟩ = some (.slice A1 s.1.length c1) := by rw [hw1, cell_keep _ _ _ _ (by simp; omega), cell_keep _ _ _ _ (by simp)]; try simp
  have a1 : w1.cell? ⟨w.heap.size, 1, none⟩ = some (.slice A2 s.2.length c2) := by rw [hw1, cell_keep _ _ _ _ (by simp; omega), cell_keep _ _ _ _ (by simp)]; try simp
  have a2 : w1.cell? ⟨w.heap.size + 1, 0, none⟩ = some (.slice B1 t.1.length d1) := by rw [hw1, cell_keep _ _ _ _ (by simp)]; try simp
  have a3 : w1.cell? ⟨w.heap.size + 1, 1, none⟩ = some (.slice B2 t.2.length d2) := by rw [hw1, cell_keep _ _ _ _ (by simp)]; try simp
  have hY : Yb r w1 := by
    have hsr : (((w.alloc (.cells #[.slice A1 s.1.length c1, .slice A2 s.2.length c2] 24)).alloc (.cells #[.slice B1 t.1.length d1, .slice B2 t.2.length d2] 24))).heap.size = r := by rw [hr]; simp
    rw [hw1]
    generalize ((w.alloc (.cells #[.slice A1 s.1.length c1, .slice A2 s.2.length c2] 24)).alloc (.cells #[.slice B1 t.1.length d1, .slice B2 t.2.length d2] 24)) = Wx at hsr ⊢
    rw [← hsr]; exact yb_new Wx
  have z0 : w.heap.size < r := by omega
  have z1 : w.heap.size + 1 < r := by omega
  have KP := Lib.hid (show ∀ W : World, Below r w1 W → W.cell? ⟨w.heap.size, 0, none⟩ = some (.slice A1 s.1.length c1) ∧ W.cell? ⟨w.heap.size, 1, none⟩ = some (.slice A2 s.2.length c2) ∧ W.cell? ⟨w.heap.size + 1, 0, none⟩ = some (.slice B1 t.1.length d1) ∧ W.cell? ⟨w.heap.size + 1, 1, none⟩ = some (.slice B2 t.2.length d2) ∧ Below r w1 W from fun W hb => ⟨(hb.cell (p := ⟨w.heap.size, 0, none⟩) (by show w.heap.size < r; omega)).trans a0, (hb.cell (p := ⟨w.heap.size, 1, none⟩) (by show w.heap.size < r; omega)).trans a1, (hb.cell (p := ⟨w.heap.size + 1, 0, none⟩) (by show w.heap.size + 1 < r; omega)).trans a2, (hb.cell (p := ⟨w.heap.size + 1, 1, none⟩) (by show w.heap.size + 1 < r; omega)).trans a3, hb⟩)
  have HB0 := Lib.hid hb0
  have HR := Lib.hid hr
  have HY := Lib.hid hY
  have rl : r ≤ w1.heap.size := Nat.le_of_lt hY.lt
  have HM_s := Lib.hid (HN_s.out.up hb0)
  have HM_t := Lib.hid (HN_t.out.up hb0)
  have HC1 := Lib.hid (show ∀ (W : World) F1 f1 F2 f2, Ns W F1 f1 F2 f2 (s) → Calls Try.prog 30 #[nv F1 s.1.length f1 F2 s.2.length f2] W (GivesN (nt s) W) from fun W F1 f1 F2 f2 h => rnot_any F1 F2 f1 f2 (s) W h (HK_s.out.le (by omega)))
  have HC2 := Lib.hid (show ∀ (W : World) F1 f1 F2 f2, Ns W F1 f1 F2 f2 (t) → Calls Try.prog 30 #[nv F1 t.1.length f1 F2 t.2.length f2] W (GivesN (nt t) W) from fun W F1 f1 F2 f2 h => rnot_any F1 F2 f1 f2 (t) W h (HK_t.out.le (by omega)))
  have HC3 := Lib.hid (show ∀ (W : World) F1 f1 F2 f2 G1 g1 G2 g2, Ns W F1 f1 F2 f2 (nt s) → Ns W G1 g1 G2 g2 (nt t) → Calls Try.prog 28 #[nv F1 (nt s).1.length f1 F2 (nt s).2.length f2, nv G1 (nt t).1.length g1 G2 (nt t).2.length g2] W (GivesN (orr (nt s) (nt t)) W) from fun W F1 f1 F2 f2 G1 g1 G2 g2 h k => ror_any F1 F2 G1 G2 f1 f2 g1 g2 (nt s) (nt t) W h k ((nt_ok HK_s.out).le (by omega)) ((nt_ok HK_t.out).le (by omega)))
  have HC4 := Lib.hid (show ∀ (W : World) F1 f1 F2 f2, Ns W F1 f1 F2 f2 (orr (nt s) (nt t)) → Calls Try.prog 30 #[nv F1 (orr (nt s) (nt t)).1.length f1 F2 (orr (nt s) (nt t)).2.length f2] W (GivesN (nt (orr (nt s) (nt t))) W) from fun W F1 f1 F2 f2 h => rnot_any F1 F2 f1 f2 (orr (nt s) (nt t)) W h ((or_ok (nt_ok HK_s.out) (nt_ok HK_t.out)).le (by omega)))
  go_enter Try.func26, Try.ntmps26
  go_wp2_with fail
  rw [← hw1, ← hr]
  clear hb0 hY hr hw1 a0 a1 a2 a3
  have b0 : Below w1.heap.size w1 w1.drew := drewB w1
  go_region_held3 (fun w' => w'.cell? ⟨w.heap.size, 0, none⟩ = some (.slice A1 s.1.length c1) ∧ w'.cell? ⟨w.heap.size, 1, none⟩ = some (.slice A2 s.2.length c2) ∧ w'.cell? ⟨w.heap.size + 1, 0, none⟩ = some (.slice B1 t.1.length d1) ∧ w'.cell? ⟨w.heap.size + 1, 1, none⟩ = some (.slice B2 t.2.length d2) ∧ Below r w1 w')
    (first | assumption | exact KP.out _ (Below.refl _ _) | exact KP.out _ (b4.mono rl) | exact KP.out _ (b3.mono rl) | exact KP.out _ (b2.mono rl) | exact KP.out _ (b1.mono rl) | exact KP.out _ (b0.mono rl) | exact KP.out _ (((b4.mono rl).setCell (p := ⟨r, 0, none⟩) (Nat.le_refl _) _).setCell (p := ⟨r, 1, none⟩) (Nat.le_refl _) _))
    (first
      | (go_at_call 30; (with_reducible refine (HC4.out _ _ _ _ _ nU).mono ?_); rintro e v4 ⟨V1, v1, V2, v2, rfl, ⟨nV, hV1, hV2⟩, hb4⟩; have b4 : Below w1.heap.size w1 v4 := b3.trans (hb4.mono b3.size); obtain ⟨y0, y1, f0, f1, yl⟩ := HY.out.up b4)
      | (go_at_call 28; (with_reducible refine (HC3.out _ _ _ _ _ _ _ _ _ (nP.up hb2) nQ).mono ?_); rintro e v3 ⟨U1, u1, U2, u2, rfl, ⟨nU, hU1, hU2⟩, hb3⟩; have b3 : Below w1.heap.size w1 v3 := b2.trans (hb3.mono b2.size))
      | (go_at_call 30; (with_reducible refine (HC2.out _ _ _ _ _ (HM_t.out.up b1)).mono ?_); rintro e v2 ⟨Q1, q1, Q2, q2, rfl, ⟨nQ, hQ1, hQ2⟩, hb2⟩; have b2 : Below w1.heap.size w1 v2 := b1.trans (hb2.mono b1.size))
      | (go_at_call 30; (with_reducible refine (HC1.out _ _ _ _ _ (HM_s.out.up b0)).mono ?_); rintro e v1 ⟨P1, p1, P2, p2, rfl, ⟨nP, hP1, hP2⟩, hb1⟩; have b1 : Below w1.heap.size w1 v1 := b0.trans (hb1.mono b0.size)))
  all_goals
    obtain ⟨q0, q1, hup⟩ := st_cell y0 y1 V1 (nt (orr (nt s) (nt t))).1.length v1 V2 (nt (orr (nt s) (nt t))).2.length v2
    have HE := Lib.hid (show GivesN (nt (orr (nt s) (nt t))) w (.returned (nv V1 (nt (orr (nt s) (nt t))).1.length v1 V2 (nt (orr (nt s) (nt t))).2.length v2)) (stW v4 r V1 (nt (orr (nt s) (nt t))).1.length v1 V2 (nt (orr (nt s) (nt t))).2.length v2) from by
      have hns := hup (nV)
      have hbE : Below w.heap.size w (stW v4 r V1 (nt (orr (nt s) (nt t))).1.length v1 V2 (nt (orr (nt s) (nt t))).2.length v2) := (((HB0.out.trans (b4.mono HB0.out.size)).setCell (p := ⟨r, 0, none⟩) (by have := HR.out; show w.heap.size ≤ r; omega) _).setCell (p := ⟨r, 1, none⟩) (by have := HR.out; show w.heap.size ≤ r; omega) _)
      
      exact ⟨V1, v1, V2, v2, rfl, ⟨hns, hV1.le (Nat.le_trans HB0.out.size b3.size), hV2.le (Nat.le_trans HB0.out.size b3.size)⟩, hbE⟩)
    unfold stW at q0 q1 HE
    clear hup y0 y1 f0 f1
    generalize (v4.setCell ⟨r, 0, none⟩ (.slice V1 (nt (orr (nt s) (nt t))).1.length v1)).setCell ⟨r, 1, none⟩ (.slice V2 (nt (orr (nt s) (nt t))).2.length v2) = Wf at *
    go_wp2_with fail
    refine bodyPost_ret (v := nv V1 (nt (orr (nt s) (nt t))).1.length v1 V2 (nt (orr (nt s) (nt t))).2.length v2) (by simp [results, Try.results26, go_sem, q0, q1]) rfl HE.out
theorem rand_any (A1 B1 A2 B2 : Option Addr) (c1 d1 c2 d2 : Nat) (s t : NS) (w : World) (h : Ns w A1 c1 B1 d1 s) (k : Ns w A2 c2 B2 d2 t) (hk : okN 11000 s) (hj : okN 11000 t) :
    Calls Try.prog 26 #[nv A1 s.1.length c1 B1 s.2.length d1, nv A2 t.1.length c2 B2 t.2.length d2] w (GivesN (andd s t) w) := rand_any0 A1 B1 A2 B2 c1 d1 c2 d2 s t w h hk k hj
set_option maxRecDepth 100000 in
set_option maxHeartbeats 2000000 in
theorem rminus_any0 (A1 A2 B1 B2 : Option Addr) (c1 c2 d1 d2 : Nat) (s t : NS) (w : World) (hN_s : Ns w A1 c1 A2 c2 s) (hk_s : okN 10000 s) (hN_t : Ns w B1 d1 B2 d2 t) (hk_t : okN 10000 t) :
    Calls Try.prog 32 #[nv A1 s.1.length c1 A2 s.2.length c2, nv B1 t.1.length d1 B2 t.2.length d2] w (GivesN (andd s (nt t)) w) := by
  have HN_s := Lib.hid hN_s
  have HK_s := Lib.hid hk_s
  have HN_t := Lib.hid hN_t
  have HK_t := Lib.hid hk_t
  clear hN_s hk_s hN_t hk_t
  obtain ⟨w1, hw1⟩ : ∃ w1, w1 = (((w.alloc (.cells #[.slice A1 s.1.length c1, .slice A2 s.2.length c2] 24)).alloc (.cells #[.slice B1 t.1.length d1, .slice B2 t.2.length d2] 24)).alloc (.cells #[.slice none 0 0, .slice none 0 0] 24)) := ⟨_, rfl⟩
  obtain ⟨r, hr⟩ : ∃ r, r = w.heap.size + 1 + 1 := ⟨_, rfl⟩
  have hb0 : Below w.heap.size w w1 := by rw [hw1]; exact (((Below.refl _ _).alloc (Nat.le_refl _) _).alloc (by simp) _).alloc (by simp; omega) _
  have a0 : w1.cell? ⟨w.heap.size, 0, none⟩ = some (.slice A1 s.1.length c1) := by rw [hw1, cell_keep _ _ _ _ (by simp; omega), cell_keep _ _ _ _ (by simp)]; try simp
  have a1 : w1.cell? ⟨w.heap.size, 1, none⟩ = some (.slice A2 s.2.length c2) := by rw [hw1, cell_keep _ _ _ _ (by simp; omega), cell_keep _ _ _ _ (by simp)]; try simp
  have a2 : w1.cell? ⟨w.heap.size + 1, 0, none⟩ = some (.slice B1 t.1.length d1) := by rw [hw1, cell_keep _ _ _ _ (by simp)]; try simp
  have a3 : w1.cell? ⟨w.heap.size + 1, 1, none⟩ = some (.slice B2 t.2.length d2) := by rw [hw1, cell_keep _ _ _ _ (by simp)]; try simp
  have hY : Yb r w1 := by
    have hsr : (((w.alloc (.cells #[.slice A1 s.1.length c1, .slice A2 s.2.length c2] 24)).alloc (.cells #[.slice B1 t.1.length d1, .slice B2 t.2.length d2] 24))).heap.size = r := by rw [hr]; simp
    rw [hw1]
    generalize ((w.alloc (.cells #[.slice A1 s.1.length c1, .slice A2 s.2.length c2] 24)).alloc (.cells #[.slice B1 t.1.length d1, .slice B2 t.2.length d2] 24)) = Wx at hsr ⊢
    rw [← hsr]; exact yb_new Wx
  have z0 : w.heap.size < r := by omega
  have z1 : w.heap.size + 1 < r := by omega
  have KP := Lib.hid (show ∀ W : World, Below r w1 W → W.cell? ⟨w.heap.size, 0, none⟩ = some (.slice A1 s.1.length c1) ∧ W.cell? ⟨w.heap.size, 1, none⟩ = some (.slice A2 s.2.length c2) ∧ W.cell? ⟨w.heap.size + 1, 0, none⟩ = some (.slice B1 t.1.length d1) ∧ W.cell? ⟨w.heap.size + 1, 1, none⟩ = some (.slice B2 t.2.length d2) ∧ Below r w1 W from fun W hb => ⟨(hb.cell (p := ⟨w.heap.size, 0, none⟩) (by show w.heap.size < r; omega)).trans a0, (hb.cell (p := ⟨w.heap.size, 1, none⟩) (by show w.heap.size < r; omega)).trans a1, (hb.cell (p := ⟨w.heap.size + 1, 0, none⟩) (by show w.heap.size + 1 < r; omega)).trans a2, (hb.cell (p := ⟨w.heap.size + 1, 1, none⟩) (by show w.heap.size + 1 < r; omega)).trans a3, hb⟩)
  have HB0 := Lib.hid hb0
  have HR := Lib.hid hr
  have HY := Lib.hid hY
  have rl : r ≤ w1.heap.size := Nat.le_of_lt hY.lt
  have HM_s := Lib.hid (HN_s.out.up hb0)
  have HM_t := Lib.hid (HN_t.out.up hb0)
  have HC1 := Lib.hid (show ∀ (W : World) F1 f1 F2 f2, Ns W F1 f1 F2 f2 (t) → Calls Try.prog 30 #[nv F1 t.1.length f1 F2 t.2.length f2] W (GivesN (nt t) W) from fun W F1 f1 F2 f2 h => rnot_any F1 F2 f1 f2 (t) W h (HK_t.out.le (by omega)))
  have HC2 := Lib.hid (show ∀ (W : World) F1 f1 F2 f2 G1 g1 G2 g2, Ns W F1 f1 F2 f2 (s) → Ns W G1 g1 G2 g2 (nt t) → Calls Try.prog 26 #[nv F1 s.1.length f1 F2 s.2.length f2, nv G1 (nt t).1.length g1 G2 (nt t).2.length g2] W (GivesN (andd s (nt t)) W) from fun W F1 f1 F2 f2 G1 g1 G2 g2 h k => rand_any F1 F2 G1 G2 f1 f2 g1 g2 (s) (nt t) W h k (HK_s.out.le (by omega)) ((nt_ok HK_t.out).le (by omega)))
  go_enter Try.func32, Try.ntmps32
  go_wp2_with fail
  rw [← hw1, ← hr]
  clear hb0 hY hr hw1 a0 a1 a2 a3
  have b0 : Below w1.heap.size w1 w1.drew := drewB w1
  go_region_held3 (fun w' => w'.cell? ⟨w.heap.size, 0, none⟩ = some (.slice A1 s.1.length c1) ∧ w'.cell? ⟨w.heap.size, 1, none⟩ = some (.slice A2 s.2.length c2) ∧ w'.cell? ⟨w.heap.size + 1, 0, none⟩ = some (.slice B1 t.1.length d1) ∧ w'.cell? ⟨w.heap.size + 1, 1, none⟩ = some (.slice B2 t.2.length d2) ∧ Below r w1 w')
    (first | assumption | exact KP.out _ (Below.refl _ _) | exact KP.out _ (b2.mono rl) | exact KP.out _ (b1.mono rl) | exact KP.out _ (b0.mono rl) | exact KP.out _ (((b2.mono rl).setCell (p := ⟨r, 0, none⟩) (Nat.le_refl _) _).setCell (p := ⟨r, 1, none⟩) (Nat.le_refl _) _))
    (first
      | (go_at_call 26; (with_reducible refine (HC2.out _ _ _ _ _ _ _ _ _ (HM_s.out.up b1) nP).mono ?_); rintro e v2 ⟨Q1, q1x, Q2, q2x, rfl, ⟨nQ, hQ1, hQ2⟩, hb2⟩; have b2 : Below w1.heap.size w1 v2 := b1.trans (hb2.mono b1.size); obtain ⟨y0, y1, f0, f1, yl⟩ := HY.out.up b2)
      | (go_at_call 30; (with_reducible refine (HC1.out _ _ _ _ _ (HM_t.out.up b0)).mono ?_); rintro e v1 ⟨P1, p1, P2, p2, rfl, ⟨nP, hP1, hP2⟩, hb1⟩; have b1 : Below w1.heap.size w1 v1 := b0.trans (hb1.mono b0.size)))
  all_goals
    obtain ⟨q0, q1, hup⟩ := st_cell y0 y1 Q1 (andd s (nt t)).1.length q1x Q2 (andd s (nt t)).2.length q2x
    have HE := Lib.hid (show GivesN (andd s (nt t)) w (.returned (nv Q1 (andd s (nt t)).1.length q1x Q2 (andd s (nt t)).2.length q2x)) (stW v2 r Q1 (andd s (nt t)).1.length q1x Q2 (andd s (nt t)).2.length q2x) from by
      have hns := hup (nQ)
      have hbE : Below w.heap.size w (stW v2 r Q1 (andd s (nt t)).1.length q1x Q2 (andd s (nt t)).2.length q2x) := (((HB0.out.trans (b2.mono HB0.out.size)).setCell (p := ⟨r, 0, none⟩) (by have := HR.out; show w.heap.size ≤ r; omega) _).setCell (p := ⟨r, 1, none⟩) (by have := HR.out; show w.heap.size ≤ r; omega) _)
      
      exact ⟨Q1, q1x, Q2, q2x, rfl, ⟨hns, hQ1.le (Nat.le_trans HB0.out.size b1.size), hQ2.le (Nat.le_trans HB0.out.size b1.size)⟩, hbE⟩)
    unfold stW at q0 q1 HE
    clear hup y0 y1 f0 f1
    generalize (v2.setCell ⟨r, 0, none⟩ (.slice Q1 (andd s (nt t)).1.length q1x)).setCell ⟨r, 1, none⟩ (.slice Q2 (andd s (nt t)).2.length q2x) = Wf at *
    go_wp2_with fail
    refine bodyPost_ret (v := nv Q1 (andd s (nt t)).1.length q1x Q2 (andd s (nt t)).2.length q2x) (by simp [results, Try.results32, go_sem, q0, q1]) rfl HE.out
theorem rminus_any (A1 B1 A2 B2 : Option Addr) (c1 d1 c2 d2 : Nat) (s t : NS) (w : World) (h : Ns w A1 c1 B1 d1 s) (k : Ns w A2 c2 B2 d2 t) (hk : okN 10000 s) (hj : okN 10000 t) :
    Calls Try.prog 32 #[nv A1 s.1.length c1 B1 s.2.length d1, nv A2 t.1.length c2 B2 t.2.length d2] w (GivesN (minus s t) w) := by
  rw [minus_and]; exact rminus_any0 A1 B1 A2 B2 c1 d1 c2 d2 s t w h hk k hj
set_option maxRecDepth 100000 in
set_option maxHeartbeats 1000000 in
theorem rempty_any (A1 A2 : Option Addr) (c1 c2 : Nat) (s : NS) (w : World) (hN : Ns w A1 c1 A2 c2 s) (hk : okN 100000 s) :
    Calls Try.prog 66 #[nv A1 s.1.length c1 A2 s.2.length c2] w (EqIs (empB (mk s)) w) := by
  have hb0 := bal w (.cells #[.slice A1 s.1.length c1, .slice A2 s.2.length c2] 24)
  have HB0 := Lib.hid hb0
  have HN := Lib.hid (hN.up hb0)
  have HM := Lib.hid (fun W h => rmake_any A1 A2 c1 c2 s W h hk)
  have e1 : (mk s).1.isEmpty = (((mk s).1.length : Int) == 0) := by
    rw [Bool.eq_iff_iff]; simp [List.isEmpty_iff]
  have e2 : (mk s).2.isEmpty = (((mk s).2.length : Int) == 0) := by
    rw [Bool.eq_iff_iff]; simp [List.isEmpty_iff]
  have HE := Lib.hid (show empB (mk s) = ((((mk s).1.length : Int) == 0) && (((mk s).2.length : Int) == 0)) by unfold empB; rw [e1, e2])
  clear e1 e2 hb0 hN hk
  go_enter Try.func66, Try.ntmps66
  go_wp2_with fail
  refine (HM.out _ HN.out).mono ?_
  rintro e w2 ⟨E1, e1, E2, e2, rfl, ⟨_, _, _⟩, hb2⟩
  have HB2 := Lib.hid (HB0.out.trans (hb2.mono HB0.out.size))
  have HB3 := Lib.hid (HB2.out.trans ((bal w2 (.cells #[.slice E1 (mk s).1.length e1, .slice E2 (mk s).2.length e2] 24)).mono HB2.out.size))
  clear hb2
  cases h1 : (((mk s).1.length : Int) == 0)
  · have HQ := Lib.hid (show empB (mk s) = false from by rw [HE.out, h1]; rfl)
    go_wp2_with fail
    go_ret
    exact ⟨ret_bool HQ.out.symm, HB3.out⟩
  · cases h2 : (((mk s).2.length : Int) == 0)
    · have HQ := Lib.hid (show empB (mk s) = false from by rw [HE.out, h1, h2]; rfl)
      go_wp2_with fail
      go_ret
      exact ⟨ret_bool HQ.out.symm, HB3.out⟩
    · have HQ := Lib.hid (show empB (mk s) = true from by rw [HE.out, h1, h2]; rfl)
      go_wp2_with fail
      go_ret
      exact ⟨ret_bool HQ.out.symm, HB3.out⟩
set_option maxRecDepth 100000 in
set_option maxHeartbeats 1000000 in
theorem rsubset_any (A1 B1 A2 B2 : Option Addr) (c1 d1 c2 d2 : Nat) (s t : NS) (w : World) (h : Ns w A1 c1 B1 d1 s) (k : Ns w A2 c2 B2 d2 t) (hk : okN 10000 s) (hj : okN 10000 t) :
    Calls Try.prog 34 #[nv A1 s.1.length c1 B1 s.2.length d1, nv A2 t.1.length c2 B2 t.2.length d2] w (EqIs (subB s t) w) := by
  have hb0 : Below w.heap.size w ((w.alloc (.cells #[.slice A1 s.1.length c1, .slice B1 s.2.length d1] 24)).alloc (.cells #[.slice A2 t.1.length c2, .slice B2 t.2.length d2] 24)) := ((Below.refl _ _).alloc (Nat.le_refl _) _).alloc (by simp) _
  have H1 := Lib.hid (rminus_any A1 B1 A2 B2 c1 d1 c2 d2 s t _ (h.up hb0) (k.up hb0) hk hj)
  have H2 := Lib.hid (show ∀ (W : World) F1 f1 F2 f2, Ns W F1 f1 F2 f2 (minus s t) → Calls Try.prog 66 #[nv F1 (minus s t).1.length f1 F2 (minus s t).2.length f2] W (EqIs (subB s t) W) from fun W F1 f1 F2 f2 h => by
    have h := rempty_any F1 F2 f1 f2 (minus s t) W h ((minus_ok hk hj).le (by omega))
    rw [mk_of_can (can_minus s t)] at h; exact h)
  have HB0 := Lib.hid hb0
  clear hb0 h k hk hj
  go_enter Try.func34, Try.ntmps34
  go_wp2_with fail
  refine H1.out.mono ?_
  rintro e w2 ⟨E1, e1, E2, e2, rfl, ⟨hns, _, _⟩, hb2⟩
  have HB2 := Lib.hid (HB0.out.trans (hb2.mono HB0.out.size))
  have HNs := Lib.hid hns
  clear hb2 hns
  go_wp2_with fail
  refine (H2.out _ _ _ _ _ HNs.out).mono ?_
  rintro e w3 ⟨rfl, hb3⟩
  have HB3 := Lib.hid (HB2.out.trans (hb3.mono HB2.out.size))
  clear hb3
  go_wp2_with fail
  go_ret
  exact ⟨rfl, HB3.out⟩
end Go.Proofs.Yteekccjfokoglaa
