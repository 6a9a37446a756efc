/-
  The specification's Make. Condition: at most 100000 spans, their ends 64-bit integers.
-/
import Derived.Test.YteekccjfokoglaaNe
namespace Go.Proofs.Yteekccjfokoglaa
open Go.RowKit Go.Sort Go.Lib Go.Proofs
set_option linter.unusedSimpArgs false
set_option linter.unnecessarySimpa false
set_option linter.unusedVariables false
theorem rn_gives {L : List Sp} {w w' : World} {e : Ending} (h : RnIs L w e w') : Gives L w e w' := by
  obtain ⟨v, rfl, h1, h2⟩ := h
  obtain ⟨A, c, rfl, h3, h4, h5⟩ := re_of_own h1
  exact ⟨A, c, rfl, h3, ⟨h4, h5⟩, h2⟩
theorem mk_rn (s : NS) : mk s = (rn (s.1.map clipI), (rn (fr s.2)).map unS) := by rw [ints_nrm, frac_nrm]; rfl
theorem rnF_bd (l : List Sp) : ∀ x ∈ rn (fr l), bdu x.1 ∧ bdu x.2 := fun x hx => by
  have h := rnF_line l x hx
  have h2 := (rnF_spec l).1.1 x hx
  unfold bdu; omega
set_option maxRecDepth 100000 in
set_option maxHeartbeats 2000000 in
theorem rmake_any (A1 A2 : Option Addr) (c1 c2 : Nat) (s : NS) (w : World) (hN_s : Ns w A1 c1 A2 c2 s) (hk_s : okN 100000 s) :
    Calls Try.prog 16 #[nv A1 s.1.length c1 A2 s.2.length c2] w (GivesN (mk s) w) := by
  have HN_s := Lib.hid hN_s
  have HK_s := Lib.hid hk_s
  clear hN_s hk_s
  obtain ⟨w1, hw1⟩ : ∃ w1, w1 = ((w.alloc (.cells #[.slice A1 s.1.length c1, .slice A2 s.2.length c2] 24)).alloc (.cells #[.slice none 0 0, .slice none 0 0] 24)) := ⟨_, rfl⟩
  obtain ⟨r, hr⟩ : ∃ r, r = w.heap.size + 1 := ⟨_, rfl⟩
  have hb0 : Below w.heap.size w w1 := by rw [hw1]; exact ((Below.refl _ _).alloc (Nat.le_refl _) _).alloc (by simp) _
  have a0 : w1.cell? ⟨w.heap.size, 0, none⟩ = some (.slice A1 s.1.length c1) := by rw [hw1]; simp
  have a1 : w1.cell? ⟨w.heap.size, 1, none⟩ = some (.slice A2 s.2.length c2) := by rw [hw1]; simp
  have hY : Yb r w1 := by rw [hw1, hr]; exact ⟨by simp, by simp, by simp, by simp, by simp⟩
  have z0 : w.heap.size < r := by omega
  have KP := Lib.hid (show ∀ W : World, Below r w1 W → W.cell? ⟨w.heap.size, 0, none⟩ = some (.slice A1 s.1.length c1) ∧ W.cell? ⟨w.heap.size, 1, none⟩ = some (.slice A2 s.2.length c2) ∧ Below r w1 W from fun W hb => ⟨(hb.cell (p := ⟨w.heap.size, 0, none⟩) (by show w.heap.size < r; omega)).trans a0, (hb.cell (p := ⟨w.heap.size, 1, none⟩) (by show w.heap.size < r; omega)).trans a1, hb⟩)
  have HB0 := Lib.hid hb0
  have HR := Lib.hid hr
  have HY := Lib.hid hY
  have rl : r ≤ w1.heap.size := Nat.le_of_lt hY.lt
  have HM_s := Lib.hid (HN_s.out.up hb0)
  obtain ⟨LI, hLI⟩ : ∃ LI, LI = rn (s.1.map clipI) := ⟨_, rfl⟩
  obtain ⟨LF, hLF⟩ : ∃ LF, LF = rn (fr s.2) := ⟨_, rfl⟩
  obtain ⟨FF, hFF⟩ : ∃ FF, FF = LF.map unS := ⟨_, rfl⟩
  have HC1 := Lib.hid (show ∀ W : World, Ns W A1 c1 A2 c2 s → Calls Try.prog 55 #[nv A1 s.1.length c1 A2 s.2.length c2] W (Gives LI W) from fun W h => by
    rw [hLI]; exact (rints_any A1 A2 c1 c2 s W h HK_s.out).mono fun e w' h => rn_gives h)
  have HC2 := Lib.hid (show ∀ W : World, Ns W A1 c1 A2 c2 s → Calls Try.prog 56 #[nv A1 s.1.length c1 A2 s.2.length c2] W (Gives LF W) from fun W h => by
    rw [hLF]; exact (rfracs_any A1 A2 c1 c2 s W h HK_s.out).mono fun e w' h => rn_gives h)
  have HC3 := Lib.hid (show ∀ (W : World) P p Q q, Ns W P p Q q (LI, LF) → Calls Try.prog 54 #[.slice P LI.length p, .slice Q LF.length q] W (OfIs P p (LI, FF) W) from fun W P p Q q h => by
    rw [hFF]; exact rof_any P Q p q (LI, LF) W h (by have := (rnF_spec s.2).2.1; have := HK_s.out.2.1; rw [hLF]; show (rn (fr s.2)).length ≤ 200000; omega) (by rw [hLF]; exact rnF_bd s.2))
  have HMK := Lib.hid (show mk s = (LI, FF) by rw [mk_rn, hLI, hFF, hLF])
  clear hLI hLF hFF
  go_enter Try.func16, Try.ntmps16
  go_wp2_with fail
  rw [← hw1, ← hr]
  clear hb0 hY hr hw1 a0 a1
  have b0 : Below w1.heap.size w1 w1.drew := drewB w1
  go_region_held3 (fun w' => w'.cell? ⟨w.heap.size, 0, none⟩ = some (.slice A1 s.1.length c1) ∧ w'.cell? ⟨w.heap.size, 1, none⟩ = some (.slice A2 s.2.length c2) ∧ Below r w1 w')
    (first | assumption | exact KP.out _ (Below.refl _ _) | exact KP.out _ (b3.mono rl) | exact KP.out _ (b2.mono rl) | exact KP.out _ (b1.mono rl) | exact KP.out _ (b0.mono rl) | exact KP.out _ (((b3.mono rl).setCell (p := ⟨r, 0, none⟩) (Nat.le_refl _) _).setCell (p := ⟨r, 1, none⟩) (Nat.le_refl _) _))
    (first
      | (go_at_call 54; (with_reducible refine (HC3.out _ P p Q q ⟨hr1.up hb2, hr2, hp1, hp2⟩).mono ?_); rintro e v3 ⟨T, t, rfl, hns, hh3, hb3⟩; have b3 : Below w1.heap.size w1 v3 := b2.trans (hb3.mono b2.size); obtain ⟨y0, y1, f0, f1, yl⟩ := HY.out.up b3)
      | (go_at_call 56; (with_reducible refine (HC2.out _ (HM_s.out.up b1)).mono ?_); rintro e v2 ⟨Q, q, rfl, hr2, ⟨hp2, hh2⟩, hb2⟩; have b2 : Below w1.heap.size w1 v2 := b1.trans (hb2.mono b1.size))
      | (go_at_call 55; (with_reducible refine (HC1.out _ (HM_s.out.up b0)).mono ?_); rintro e v1 ⟨P, p, rfl, hr1, ⟨hp1, hh1⟩, hb1⟩; have b1 : Below w1.heap.size w1 v1 := b0.trans (hb1.mono b0.size)))
  all_goals
    obtain ⟨q0, q1, hup⟩ := st_cell y0 y1 P LI.length p T FF.length t
    have HE := Lib.hid (show GivesN (mk s) w (.returned (nv P LI.length p T FF.length t)) (stW v3 r P LI.length p T FF.length t) from by
      have hns := hup (hns)
      have hbE : Below w.heap.size w (stW v3 r P LI.length p T FF.length t) := (((HB0.out.trans (b3.mono HB0.out.size)).setCell (p := ⟨r, 0, none⟩) (by have := HR.out; show w.heap.size ≤ r; omega) _).setCell (p := ⟨r, 1, none⟩) (by have := HR.out; show w.heap.size ≤ r; omega) _)
      rw [HMK.out]
      exact ⟨P, p, T, t, rfl, ⟨hns, hh1.le (Nat.le_trans HB0.out.size b0.size), hh3.le (Nat.le_trans HB0.out.size b2.size)⟩, hbE⟩)
    unfold stW at q0 q1 HE
    clear hup y0 y1 f0 f1
    generalize (v3.setCell ⟨r, 0, none⟩ (.slice P LI.length p)).setCell ⟨r, 1, none⟩ (.slice T FF.length t) = Wf at *
    go_wp2_with fail
    refine bodyPost_ret (v := nv P LI.length p T FF.length t) (by simp [results, Try.results16, go_sem, q0, q1]) rfl HE.out
end Go.Proofs.Yteekccjfokoglaa
