/-
  NumsetAlgebra out of what the law's alive gives.
-/
import Derived.Test.YteekccjfokoglaaAg
import Derived.Test.YteekccjfokoglaaNk
namespace Go.Proofs.Yteekccjfokoglaa
open Go.RowKit Go.Sort Go.Lib Go.Proofs
set_option linter.unusedSimpArgs false
set_option linter.unnecessarySimpa false
set_option linter.unusedVariables false
set_option maxRecDepth 100000 in
set_option maxHeartbeats 2000000 in
theorem algebra_few (A1 A2 B1 B2 : Option Addr) (c1 c2 d1 d2 : Nat) (s t : NS) (w : World) (hs : Ns w A1 c1 A2 c2 s) (ht : Ns w B1 d1 B2 d2 t)
    (HAl : Hid (∀ W, Calls Try.prog 13 #[] W (EqIs true W)))
    (gs : okE s) (gt : okE t) : Calls Try.prog 4 #[nv A1 s.1.length c1 A2 s.2.length c2, nv B1 t.1.length d1 B2 t.2.length d2] w (EqIs true w) := by
  obtain ⟨hb0, hx1, hx2⟩ := box2 hs ht
  have HF := few2 A1 s.1.length c1 A2 s.2.length c2 B1 t.1.length d1 B2 t.2.length d2 (w2s w A1 s.1.length c1 A2 s.2.length c2 B1 t.1.length d1 B2 t.2.length d2)
  have hz : (w2s w A1 s.1.length c1 A2 s.2.length c2 B1 t.1.length d1 B2 t.2.length d2).heap.size = w.heap.size + 1 + 1 := by simp [w2s]
  have hbF := hb0.trans ((bal (w2s w A1 s.1.length c1 A2 s.2.length c2 B1 t.1.length d1 B2 t.2.length d2) (.cells #[.slice A1 s.1.length c1, .slice A2 s.2.length c2, .slice B1 t.1.length d1, .slice B2 t.2.length d2] 24)).mono hb0.size)
  have Xs := Lib.hid (hx1.up (bal _ (.cells #[.slice A1 s.1.length c1, .slice A2 s.2.length c2, .slice B1 t.1.length d1, .slice B2 t.2.length d2] 24)))
  have Xt := Lib.hid (hx2.up (bal _ (.cells #[.slice A1 s.1.length c1, .slice A2 s.2.length c2, .slice B1 t.1.length d1, .slice B2 t.2.length d2] 24)))
  rw [hz] at HF
  have HF' := Lib.hid HF
  clear HF
  have HB := Lib.hid hbF
  obtain ⟨fw, hfw⟩ : ∃ fw, fw = fewL [⟨A1, s.1.length, c1, A2, s.2.length, c2⟩, ⟨B1, t.1.length, d1, B2, t.2.length, d2⟩] := ⟨_, rfl⟩
  rw [← hfw] at HF'
  have HW := Lib.hid hfw
  unfold w2s at *
  clear hx1 hx2 hz hb0 hbF hfw hs ht
  go_enter Try.func4, Try.ntmps4
  go_wp2_with fail
  refine HF'.out.mono ?_
  rintro e w1 ⟨rfl, hb1⟩
  have Ys := Lib.hid (Xs.out.up hb1)
  have Yt := Lib.hid (Xt.out.up hb1)
  have HD := Lib.hid (HB.out.trans (hb1.mono HB.out.size))
  clear hb1 HB Xs Xt HF'
  cases fw
  · go_wp2_with fail
    refine (HAl.out _).mono ?_
    rintro e w2 ⟨rfl, hb2⟩
    go_wp2_with fail
    refine bodyPost_ret (v := .bool true) (by simp [results, Try.results4, go_sem]) rfl ?_
    exact ⟨rfl, HD.out.trans (hb2.mono HD.out.size)⟩
  · have hfw := HW.out
    have Os : okN 8 s := gs.few (A1 := A1) (c1 := c1) (A2 := A2) (c2 := c2) (List.all_eq_true.1 hfw.symm _ (by simp [sl2]))
    have Ot : okN 8 t := gt.few (A1 := B1) (c1 := d1) (A2 := B2) (c2 := d2) (List.all_eq_true.1 hfw.symm _ (by simp [sl2]))
    clear hfw gs gt HW
    have HO := Lib.hid (And.intro Os Ot)
    clear Os Ot
    have KP := Lib.hid (show ∀ W : World, Below w1.heap.size w1 W → W.cell? ⟨w.heap.size, 0, none⟩ = some (.slice A1 s.1.length c1) ∧ W.cell? ⟨w.heap.size, 1, none⟩ = some (.slice A2 s.2.length c2) ∧ W.cell? ⟨w.heap.size + 1, 0, none⟩ = some (.slice B1 t.1.length d1) ∧ W.cell? ⟨w.heap.size + 1, 1, none⟩ = some (.slice B2 t.2.length d2) ∧ Below w1.heap.size w1 W from fun W hb => ⟨(Ys.out.up hb).1, (Ys.out.up hb).2.1, (Yt.out.up hb).1, (Yt.out.up hb).2.1, hb⟩)
    obtain ⟨q, hq⟩ : ∃ q, q = subB s t := ⟨_, rfl⟩
    go_upto_region 3 with fail
    have b0 : Below w1.heap.size w1 w1.drew := drewB w1
    have Kb0 := KP.out _ b0
    have H1 := Lib.hid (show ∀ (W : World) F1 f1 F2 f2 G1 g1 G2 g2, Ns W F1 f1 F2 f2 (s) → Ns W G1 g1 G2 g2 (t) → Calls Try.prog 25 #[nv F1 s.1.length f1 F2 s.2.length f2, nv G1 t.1.length g1 G2 t.2.length g2] W (GivesN (andd s t) W) from fun W F1 f1 F2 f2 G1 g1 G2 g2 h k => and_any F1 F2 G1 G2 f1 f2 g1 g2 (s) (t) W h k (HO.out.1.le (by omega)) (HO.out.2.le (by omega)))
    have H2 := Lib.hid (show ∀ (W : World) F1 f1 F2 f2 G1 g1 G2 g2, Ns W F1 f1 F2 f2 (s) → Ns W G1 g1 G2 g2 (t) → Calls Try.prog 26 #[nv F1 s.1.length f1 F2 s.2.length f2, nv G1 t.1.length g1 G2 t.2.length g2] W (GivesN (andd s t) W) from fun W F1 f1 F2 f2 G1 g1 G2 g2 h k => rand_any F1 F2 G1 G2 f1 f2 g1 g2 (s) (t) W h k (HO.out.1.le (by omega)) (HO.out.2.le (by omega)))
    have H3 := Lib.hid (show ∀ (W : World) F1 f1 F2 f2 G1 g1 G2 g2, Ns W F1 f1 F2 f2 (andd s t) → Ns W G1 g1 G2 g2 (andd s t) → Calls Try.prog 14 #[nv F1 (andd s t).1.length f1 F2 (andd s t).2.length f2, nv G1 (andd s t).1.length g1 G2 (andd s t).2.length g2] W (EqIs true W) from fun W F1 f1 F2 f2 G1 g1 G2 g2 h k => by
      have h := same_any F1 F2 G1 G2 f1 f2 g1 g2 (andd s t) (andd s t) W h k ((and_ok HO.out.1 HO.out.2).le (by omega)) ((and_ok HO.out.1 HO.out.2).le (by omega)); rw [eqN_dec, decide_eq_true (rfl)] at h; exact h)
    have H4 := Lib.hid (show ∀ (W : World) F1 f1 F2 f2 G1 g1 G2 g2, Ns W F1 f1 F2 f2 (s) → Ns W G1 g1 G2 g2 (t) → Calls Try.prog 27 #[nv F1 s.1.length f1 F2 s.2.length f2, nv G1 t.1.length g1 G2 t.2.length g2] W (GivesN (orr s t) W) from fun W F1 f1 F2 f2 G1 g1 G2 g2 h k => or_any F1 F2 G1 G2 f1 f2 g1 g2 (s) (t) W h k (HO.out.1.le (by omega)) (HO.out.2.le (by omega)))
    have H5 := Lib.hid (show ∀ (W : World) F1 f1 F2 f2 G1 g1 G2 g2, Ns W F1 f1 F2 f2 (s) → Ns W G1 g1 G2 g2 (t) → Calls Try.prog 28 #[nv F1 s.1.length f1 F2 s.2.length f2, nv G1 t.1.length g1 G2 t.2.length g2] W (GivesN (orr s t) W) from fun W F1 f1 F2 f2 G1 g1 G2 g2 h k => ror_any F1 F2 G1 G2 f1 f2 g1 g2 (s) (t) W h k (HO.out.1.le (by omega)) (HO.out.2.le (by omega)))
    have H6 := Lib.hid (show ∀ (W : World) F1 f1 F2 f2 G1 g1 G2 g2, Ns W F1 f1 F2 f2 (orr s t) → Ns W G1 g1 G2 g2 (orr s t) → Calls Try.prog 14 #[nv F1 (orr s t).1.length f1 F2 (orr s t).2.length f2, nv G1 (orr s t).1.length g1 G2 (orr s t).2.length g2] W (EqIs true W) from fun W F1 f1 F2 f2 G1 g1 G2 g2 h k => by
      have h := same_any F1 F2 G1 G2 f1 f2 g1 g2 (orr s t) (orr s t) W h k ((or_ok HO.out.1 HO.out.2).le (by omega)) ((or_ok HO.out.1 HO.out.2).le (by omega)); rw [eqN_dec, decide_eq_true (rfl)] at h; exact h)
    have H7 := Lib.hid (show ∀ (W : World) F1 f1 F2 f2, Ns W F1 f1 F2 f2 (s) → Calls Try.prog 29 #[nv F1 s.1.length f1 F2 s.2.length f2] W (GivesN (nt s) W) from fun W F1 f1 F2 f2 h => not_any F1 F2 f1 f2 (s) W h (HO.out.1.le (by omega)))
    have H8 := Lib.hid (show ∀ (W : World) F1 f1 F2 f2, Ns W F1 f1 F2 f2 (s) → Calls Try.prog 30 #[nv F1 s.1.length f1 F2 s.2.length f2] W (GivesN (nt s) W) from fun W F1 f1 F2 f2 h => rnot_any F1 F2 f1 f2 (s) W h (HO.out.1.le (by omega)))
    have H9 := Lib.hid (show ∀ (W : World) F1 f1 F2 f2 G1 g1 G2 g2, Ns W F1 f1 F2 f2 (nt s) → Ns W G1 g1 G2 g2 (nt s) → Calls Try.prog 14 #[nv F1 (nt s).1.length f1 F2 (nt s).2.length f2, nv G1 (nt s).1.length g1 G2 (nt s).2.length g2] W (EqIs true W) from fun W F1 f1 F2 f2 G1 g1 G2 g2 h k => by
      have h := same_any F1 F2 G1 G2 f1 f2 g1 g2 (nt s) (nt s) W h k ((nt_ok HO.out.1).le (by omega)) ((nt_ok HO.out.1).le (by omega)); rw [eqN_dec, decide_eq_true (rfl)] at h; exact h)
    have H10 := Lib.hid (show ∀ (W : World) F1 f1 F2 f2 G1 g1 G2 g2, Ns W F1 f1 F2 f2 (s) → Ns W G1 g1 G2 g2 (t) → Calls Try.prog 31 #[nv F1 s.1.length f1 F2 s.2.length f2, nv G1 t.1.length g1 G2 t.2.length g2] W (GivesN (minus s t) W) from fun W F1 f1 F2 f2 G1 g1 G2 g2 h k => minus_any F1 F2 G1 G2 f1 f2 g1 g2 (s) (t) W h k (HO.out.1.le (by omega)) (HO.out.2.le (by omega)))
    have H11 := Lib.hid (show ∀ (W : World) F1 f1 F2 f2 G1 g1 G2 g2, Ns W F1 f1 F2 f2 (s) → Ns W G1 g1 G2 g2 (t) → Calls Try.prog 32 #[nv F1 s.1.length f1 F2 s.2.length f2, nv G1 t.1.length g1 G2 t.2.length g2] W (GivesN (minus s t) W) from fun W F1 f1 F2 f2 G1 g1 G2 g2 h k => rminus_any F1 F2 G1 G2 f1 f2 g1 g2 (s) (t) W h k (HO.out.1.le (by omega)) (HO.out.2.le (by omega)))
    have H12 := Lib.hid (show ∀ (W : World) F1 f1 F2 f2 G1 g1 G2 g2, Ns W F1 f1 F2 f2 (minus s t) → Ns W G1 g1 G2 g2 (minus s t) → Calls Try.prog 14 #[nv F1 (minus s t).1.length f1 F2 (minus s t).2.length f2, nv G1 (minus s t).1.length g1 G2 (minus s t).2.length g2] W (EqIs true W) from fun W F1 f1 F2 f2 G1 g1 G2 g2 h k => by
      have h := same_any F1 F2 G1 G2 f1 f2 g1 g2 (minus s t) (minus s t) W h k ((minus_ok HO.out.1 HO.out.2).le (by omega)) ((minus_ok HO.out.1 HO.out.2).le (by omega)); rw [eqN_dec, decide_eq_true (rfl)] at h; exact h)
    have H13 := Lib.hid (show ∀ (W : World) F1 f1 F2 f2 G1 g1 G2 g2, Ns W F1 f1 F2 f2 (s) → Ns W G1 g1 G2 g2 (t) → Calls Try.prog 33 #[nv F1 s.1.length f1 F2 s.2.length f2, nv G1 t.1.length g1 G2 t.2.length g2] W (EqIs q W) from fun W F1 f1 F2 f2 G1 g1 G2 g2 h k => by
      have h := subset_any F1 F2 G1 G2 f1 f2 g1 g2 (s) (t) W h k (HO.out.1.le (by omega)) (HO.out.2.le (by omega)); rw [← hq] at h; exact h)
    have H14 := Lib.hid (show ∀ (W : World) F1 f1 F2 f2 G1 g1 G2 g2, Ns W F1 f1 F2 f2 (s) → Ns W G1 g1 G2 g2 (t) → Calls Try.prog 34 #[nv F1 s.1.length f1 F2 s.2.length f2, nv G1 t.1.length g1 G2 t.2.length g2] W (EqIs q W) from fun W F1 f1 F2 f2 G1 g1 G2 g2 h k => by
      have h := rsubset_any F1 F2 G1 G2 f1 f2 g1 g2 (s) (t) W h k (HO.out.1.le (by omega)) (HO.out.2.le (by omega)); rw [← hq] at h; exact h)
    clear hq
    cases q
    · go_region_held3 (fun w' => w'.cell? ⟨w.heap.size, 0, none⟩ = some (.slice A1 s.1.length c1) ∧ w'.cell? ⟨w.heap.size, 1, none⟩ = some (.slice A2 s.2.length c2) ∧ w'.cell? ⟨w.heap.size + 1, 0, none⟩ = some (.slice B1 t.1.length d1) ∧ w'.cell? ⟨w.heap.size + 1, 1, none⟩ = some (.slice B2 t.2.length d2) ∧ Below w1.heap.size w1 w')
        (first | assumption | exact KP.out _ (Below.refl _ _) | exact Kb15 | exact Kb14 | exact Kb13 | exact Kb12 | exact Kb11 | exact Kb10 | exact Kb9 | exact Kb8 | exact Kb7 | exact Kb6 | exact Kb5 | exact Kb4 | exact Kb3 | exact Kb2 | exact Kb1 | exact Kb0)
        (first
          | (go_at_call 13; (with_reducible refine (HAl.out _).mono ?_); rintro e v15 ⟨rfl, hb15⟩; have b15 : Below w1.heap.size w1 v15 := b14.trans (hb15.mono b14.size); have Kb15 := KP.out _ b15)
          | (go_at_call 34; (with_reducible refine (H14.out _ _ _ _ _ _ _ _ _ (Ys.out.up b13).ns (Yt.out.up b13).ns).mono ?_); rintro e v14 ⟨rfl, hb14⟩; have b14 : Below w1.heap.size w1 v14 := b13.trans (hb14.mono b13.size); have Kb14 := KP.out _ b14)
          | (go_at_call 33; (with_reducible refine (H13.out _ _ _ _ _ _ _ _ _ (Ys.out.up b12).ns (Yt.out.up b12).ns).mono ?_); rintro e v13 ⟨rfl, hb13⟩; have b13 : Below w1.heap.size w1 v13 := b12.trans (hb13.mono b12.size); have Kb13 := KP.out _ b13)
          | (go_at_call 14; (with_reducible refine (H12.out _ _ _ _ _ _ _ _ _ (n10x.up hb11) n11x).mono ?_); rintro e v12 ⟨rfl, hb12⟩; have b12 : Below w1.heap.size w1 v12 := b11.trans (hb12.mono b11.size); have Kb12 := KP.out _ b12)
          | (go_at_call 32; (with_reducible refine (H11.out _ _ _ _ _ _ _ _ _ (Ys.out.up b10).ns (Yt.out.up b10).ns).mono ?_); rintro e v11 ⟨P111, p111, P112, p112, rfl, ⟨n11x, _, _⟩, hb11⟩; have b11 : Below w1.heap.size w1 v11 := b10.trans (hb11.mono b10.size); have Kb11 := KP.out _ b11)
          | (go_at_call 31; (with_reducible refine (H10.out _ _ _ _ _ _ _ _ _ (Ys.out.up b9).ns (Yt.out.up b9).ns).mono ?_); rintro e v10 ⟨P101, p101, P102, p102, rfl, ⟨n10x, _, _⟩, hb10⟩; have b10 : Below w1.heap.size w1 v10 := b9.trans (hb10.mono b9.size); have Kb10 := KP.out _ b10)
          | (go_at_call 14; (with_reducible refine (H9.out _ _ _ _ _ _ _ _ _ (n7x.up hb8) n8x).mono ?_); rintro e v9 ⟨rfl, hb9⟩; have b9 : Below w1.heap.size w1 v9 := b8.trans (hb9.mono b8.size); have Kb9 := KP.out _ b9)
          | (go_at_call 30; (with_reducible refine (H8.out _ _ _ _ _ (Ys.out.up b7).ns).mono ?_); rintro e v8 ⟨P81, p81, P82, p82, rfl, ⟨n8x, _, _⟩, hb8⟩; have b8 : Below w1.heap.size w1 v8 := b7.trans (hb8.mono b7.size); have Kb8 := KP.out _ b8)
          | (go_at_call 29; (with_reducible refine (H7.out _ _ _ _ _ (Ys.out.up b6).ns).mono ?_); rintro e v7 ⟨P71, p71, P72, p72, rfl, ⟨n7x, _, _⟩, hb7⟩; have b7 : Below w1.heap.size w1 v7 := b6.trans (hb7.mono b6.size); have Kb7 := KP.out _ b7)
          | (go_at_call 14; (with_reducible refine (H6.out _ _ _ _ _ _ _ _ _ (n4x.up hb5) n5x).mono ?_); rintro e v6 ⟨rfl, hb6⟩; have b6 : Below w1.heap.size w1 v6 := b5.trans (hb6.mono b5.size); have Kb6 := KP.out _ b6)
          | (go_at_call 28; (with_reducible refine (H5.out _ _ _ _ _ _ _ _ _ (Ys.out.up b4).ns (Yt.out.up b4).ns).mono ?_); rintro e v5 ⟨P51, p51, P52, p52, rfl, ⟨n5x, _, _⟩, hb5⟩; have b5 : Below w1.heap.size w1 v5 := b4.trans (hb5.mono b4.size); have Kb5 := KP.out _ b5)
          | (go_at_call 27; (with_reducible refine (H4.out _ _ _ _ _ _ _ _ _ (Ys.out.up b3).ns (Yt.out.up b3).ns).mono ?_); rintro e v4 ⟨P41, p41, P42, p42, rfl, ⟨n4x, _, _⟩, hb4⟩; have b4 : Below w1.heap.size w1 v4 := b3.trans (hb4.mono b3.size); have Kb4 := KP.out _ b4)
          | (go_at_call 14; (with_reducible refine (H3.out _ _ _ _ _ _ _ _ _ (n1x.up hb2) n2x).mono ?_); rintro e v3 ⟨rfl, hb3⟩; have b3 : Below w1.heap.size w1 v3 := b2.trans (hb3.mono b2.size); have Kb3 := KP.out _ b3)
          | (go_at_call 26; (with_reducible refine (H2.out _ _ _ _ _ _ _ _ _ (Ys.out.up b1).ns (Yt.out.up b1).ns).mono ?_); rintro e v2 ⟨P21, p21, P22, p22, rfl, ⟨n2x, _, _⟩, hb2⟩; have b2 : Below w1.heap.size w1 v2 := b1.trans (hb2.mono b1.size); have Kb2 := KP.out _ b2)
          | (go_at_call 25; (with_reducible refine (H1.out _ _ _ _ _ _ _ _ _ (Ys.out.up b0).ns (Yt.out.up b0).ns).mono ?_); rintro e v1 ⟨P11, p11, P12, p12, rfl, ⟨n1x, _, _⟩, hb1⟩; have b1 : Below w1.heap.size w1 v1 := b0.trans (hb1.mono b0.size); have Kb1 := KP.out _ b1))
      go_wp2_with fail
      refine bodyPost_ret (v := .bool true) (by simp [results, Try.results4, go_sem]) rfl ?_
      exact ⟨rfl, HD.out.trans (b15.mono HD.out.size)⟩
    · go_region_held3 (fun w' => w'.cell? ⟨w.heap.size, 0, none⟩ = some (.slice A1 s.1.length c1) ∧ w'.cell? ⟨w.heap.size, 1, none⟩ = some (.slice A2 s.2.length c2) ∧ w'.cell? ⟨w.heap.size + 1, 0, none⟩ = some (.slice B1 t.1.length d1) ∧ w'.cell? ⟨w.heap.size + 1, 1, none⟩ = some (.slice B2 t.2.length d2) ∧ Below w1.heap.size w1 w')
        (first | assumption | exact KP.out _ (Below.refl _ _) | exact Kb15 | exact Kb14 | exact Kb13 | exact Kb12 | exact Kb11 | exact Kb10 | exact Kb9 | exact Kb8 | exact Kb7 | exact Kb6 | exact Kb5 | exact Kb4 | exact Kb3 | exact Kb2 | exact Kb1 | exact Kb0)
        (first
          | (go_at_call 13; (with_reducible refine (HAl.out _).mono ?_); rintro e v15 ⟨rfl, hb15⟩; have b15 : Below w1.heap.size w1 v15 := b14.trans (hb15.mono b14.size); have Kb15 := KP.out _ b15)
          | (go_at_call 34; (with_reducible refine (H14.out _ _ _ _ _ _ _ _ _ (Ys.out.up b13).ns (Yt.out.up b13).ns).mono ?_); rintro e v14 ⟨rfl, hb14⟩; have b14 : Below w1.heap.size w1 v14 := b13.trans (hb14.mono b13.size); have Kb14 := KP.out _ b14)
          | (go_at_call 33; (with_reducible refine (H13.out _ _ _ _ _ _ _ _ _ (Ys.out.up b12).ns (Yt.out.up b12).ns).mono ?_); rintro e v13 ⟨rfl, hb13⟩; have b13 : Below w1.heap.size w1 v13 := b12.trans (hb13.mono b12.size); have Kb13 := KP.out _ b13)
          | (go_at_call 14; (with_reducible refine (H12.out _ _ _ _ _ _ _ _ _ (n10x.up hb11) n11x).mono ?_); rintro e v12 ⟨rfl, hb12⟩; have b12 : Below w1.heap.size w1 v12 := b11.trans (hb12.mono b11.size); have Kb12 := KP.out _ b12)
          | (go_at_call 32; (with_reducible refine (H11.out _ _ _ _ _ _ _ _ _ (Ys.out.up b10).ns (Yt.out.up b10).ns).mono ?_); rintro e v11 ⟨P111, p111, P112, p112, rfl, ⟨n11x, _, _⟩, hb11⟩; have b11 : Below w1.heap.size w1 v11 := b10.trans (hb11.mono b10.size); have Kb11 := KP.out _ b11)
          | (go_at_call 31; (with_reducible refine (H10.out _ _ _ _ _ _ _ _ _ (Ys.out.up b9).ns (Yt.out.up b9).ns).mono ?_); rintro e v10 ⟨P101, p101, P102, p102, rfl, ⟨n10x, _, _⟩, hb10⟩; have b10 : Below w1.heap.size w1 v10 := b9.trans (hb10.mono b9.size); have Kb10 := KP.out _ b10)
          | (go_at_call 14; (with_reducible refine (H9.out _ _ _ _ _ _ _ _ _ (n7x.up hb8) n8x).mono ?_); rintro e v9 ⟨rfl, hb9⟩; have b9 : Below w1.heap.size w1 v9 := b8.trans (hb9.mono b8.size); have Kb9 := KP.out _ b9)
          | (go_at_call 30; (with_reducible refine (H8.out _ _ _ _ _ (Ys.out.up b7).ns).mono ?_); rintro e v8 ⟨P81, p81, P82, p82, rfl, ⟨n8x, _, _⟩, hb8⟩; have b8 : Below w1.heap.size w1 v8 := b7.trans (hb8.mono b7.size); have Kb8 := KP.out _ b8)
          | (go_at_call 29; (with_reducible refine (H7.out _ _ _ _ _ (Ys.out.up b6).ns).mono ?_); rintro e v7 ⟨P71, p71, P72, p72, rfl, ⟨n7x, _, _⟩, hb7⟩; have b7 : Below w1.heap.size w1 v7 := b6.trans (hb7.mono b6.size); have Kb7 := KP.out _ b7)
          | (go_at_call 14; (with_reducible refine (H6.out _ _ _ _ _ _ _ _ _ (n4x.up hb5) n5x).mono ?_); rintro e v6 ⟨rfl, hb6⟩; have b6 : Below w1.heap.size w1 v6 := b5.trans (hb6.mono b5.size); have Kb6 := KP.out _ b6)
          | (go_at_call 28; (with_reducible refine (H5.out _ _ _ _ _ _ _ _ _ (Ys.out.up b4).ns (Yt.out.up b4).ns).mono ?_); rintro e v5 ⟨P51, p51, P52, p52, rfl, ⟨n5x, _, _⟩, hb5⟩; have b5 : Below w1.heap.size w1 v5 := b4.trans (hb5.mono b4.size); have Kb5 := KP.out _ b5)
          | (go_at_call 27; (with_reducible refine (H4.out _ _ _ _ _ _ _ _ _ (Ys.out.up b3).ns (Yt.out.up b3).ns).mono ?_); rintro e v4 ⟨P41, p41, P42, p42, rfl, ⟨n4x, _, _⟩, hb4⟩; have b4 : Below w1.heap.size w1 v4 := b3.trans (hb4.mono b3.size); have Kb4 := KP.out _ b4)
          | (go_at_call 14; (with_reducible refine (H3.out _ _ _ _ _ _ _ _ _ (n1x.up hb2) n2x).mono ?_); rintro e v3 ⟨rfl, hb3⟩; have b3 : Below w1.heap.size w1 v3 := b2.trans (hb3.mono b2.size); have Kb3 := KP.out _ b3)
          | (go_at_call 26; (with_reducible refine (H2.out _ _ _ _ _ _ _ _ _ (Ys.out.up b1).ns (Yt.out.up b1).ns).mono ?_); rintro e v2 ⟨P21, p21, P22, p22, rfl, ⟨n2x, _, _⟩, hb2⟩; have b2 : Below w1.heap.size w1 v2 := b1.trans (hb2.mono b1.size); have Kb2 := KP.out _ b2)
          | (go_at_call 25; (with_reducible refine (H1.out _ _ _ _ _ _ _ _ _ (Ys.out.up b0).ns (Yt.out.up b0).ns).mono ?_); rintro e v1 ⟨P11, p11, P12, p12, rfl, ⟨n1x, _, _⟩, hb1⟩; have b1 : Below w1.heap.size w1 v1 := b0.trans (hb1.mono b0.size); have Kb1 := KP.out _ b1))
      go_wp2_with fail
      refine bodyPost_ret (v := .bool true) (by simp [results, Try.results4, go_sem]) rfl ?_
      exact ⟨rfl, HD.out.trans (b15.mono HD.out.size)⟩
end Go.Proofs.Yteekccjfokoglaa
