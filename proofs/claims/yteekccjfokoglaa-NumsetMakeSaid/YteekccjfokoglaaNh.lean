/-
  NumsetMake out of what the law's alive gives.
-/
import Derived.Test.YteekccjfokoglaaNg
namespace Go.Proofs.Yteekccjfokoglaa
open Go.RowKit Go.Sort Go.Lib Go.Proofs
set_option linter.unusedSimpArgs false
set_option linter.unnecessarySimpa false
set_option linter.unusedVariables false
set_option maxRecDepth 100000 in
set_option maxHeartbeats 2000000 in
theorem make_one (A1 A2 : Option Addr) (c1 c2 : Nat) (s : NS) (u : Int) (w : World) (hs : Ns w A1 c1 A2 c2 s)
    (HAl : Hid (∀ W, Calls Try.prog 13 #[] W (EqIs true W))) (gs : okE s) (hu : i64ok u) : Calls Try.prog 3 #[nv A1 s.1.length c1 A2 s.2.length c2, .int .i64 u] w (EqIs true w) := by
  have hb0 := bal w (.cells #[.slice A1 s.1.length c1, .slice A2 s.2.length c2] 24)
  have hx1 := byn_new hs
  have HF := few1 A1 s.1.length c1 A2 s.2.length c2 (w.alloc (.cells #[.slice A1 s.1.length c1, .slice A2 s.2.length c2] 24))
  have hz : (w.alloc (.cells #[.slice A1 s.1.length c1, .slice A2 s.2.length c2] 24)).heap.size = w.heap.size + 1 := by simp
  have hbF := hb0.trans ((bal (w.alloc (.cells #[.slice A1 s.1.length c1, .slice A2 s.2.length c2] 24)) (.cells #[.slice A1 s.1.length c1, .slice A2 s.2.length c2] 24)).mono hb0.size)
  have Xs := Lib.hid (hx1.up (bal _ (.cells #[.slice A1 s.1.length c1, .slice A2 s.2.length c2] 24)))
  rw [hz] at HF
  have HF' := Lib.hid HF
  clear HF
  have HB := Lib.hid hbF
  have HU := Lib.hid hu
  obtain ⟨fw, hfw⟩ : ∃ fw, fw = fewL [⟨A1, s.1.length, c1, A2, s.2.length, c2⟩] := ⟨_, rfl⟩
  rw [← hfw] at HF'
  have HW := Lib.hid hfw
  clear hx1 hz hb0 hbF hfw hs hu
  go_enter Try.func3, Try.ntmps3
  go_wp2_with fail
  refine HF'.out.mono ?_
  rintro e w1 ⟨rfl, hb1⟩
  have Ys := Lib.hid (Xs.out.up hb1)
  have HD := Lib.hid (HB.out.trans (hb1.mono HB.out.size))
  clear hb1 HB Xs HF'
  cases fw
  · go_wp2_with fail
    refine (HAl.out _).mono ?_
    rintro e w2 ⟨rfl, hb2⟩
    go_wp2_with fail
    refine bodyPost_ret (v := .bool true) (by simp [results, Try.results3, go_sem]) rfl ?_
    exact ⟨rfl, HD.out.trans (hb2.mono HD.out.size)⟩
  · have hfw := HW.out
    have Os : okN 8 s := gs.few (A1 := A1) (c1 := c1) (A2 := A2) (c2 := c2) (List.all_eq_true.1 hfw.symm _ (by simp [sl2]))
    clear hfw gs HW
    have HO := Lib.hid Os
    clear Os
    have KP := Lib.hid (show ∀ W : World, Below w1.heap.size w1 W → W.cell? ⟨w.heap.size, 0, none⟩ = some (.slice A1 s.1.length c1) ∧ W.cell? ⟨w.heap.size, 1, none⟩ = some (.slice A2 s.2.length c2) ∧ Below w1.heap.size w1 W from fun W hb => ⟨(Ys.out.up hb).1, (Ys.out.up hb).2.1, hb⟩)
    obtain ⟨q, hq⟩ : ∃ q, q = eqN s (mk s) := ⟨_, rfl⟩
    obtain ⟨p, hp⟩ : ∃ p, p = hasB s u := ⟨_, rfl⟩
    go_upto_region 3 with fail
    have b0 : Below w1.heap.size w1 w1.drew := drewB w1
    have Kb0 := KP.out _ b0
    have H1 := Lib.hid (show ∀ (W : World) F1 f1 F2 f2, Ns W F1 f1 F2 f2 (s) → Calls Try.prog 15 #[nv F1 s.1.length f1 F2 s.2.length f2] W (GivesN (mk s) W) from fun W F1 f1 F2 f2 h => make_any F1 F2 f1 f2 (s) W h (HO.out.le (by omega)))
    have H2 := Lib.hid (show ∀ (W : World) F1 f1 F2 f2, Ns W F1 f1 F2 f2 (s) → Calls Try.prog 16 #[nv F1 s.1.length f1 F2 s.2.length f2] W (GivesN (mk s) W) from fun W F1 f1 F2 f2 h => rmake_any F1 F2 f1 f2 (s) W h (HO.out.le (by omega)))
    have H3 := Lib.hid (show ∀ (W : World) F1 f1 F2 f2 G1 g1 G2 g2, Ns W F1 f1 F2 f2 (mk s) → Ns W G1 g1 G2 g2 (mk s) → Calls Try.prog 14 #[nv F1 (mk s).1.length f1 F2 (mk s).2.length f2, nv G1 (mk s).1.length g1 G2 (mk s).2.length g2] W (EqIs true W) from fun W F1 f1 F2 f2 G1 g1 G2 g2 h k => by
      have h := same_any F1 F2 G1 G2 f1 f2 g1 g2 (mk s) (mk s) W h k ((mk_ok HO.out).le (by omega)) ((mk_ok HO.out).le (by omega)); rw [eqN_dec, decide_eq_true (rfl)] at h; exact h)
    have H4 := Lib.hid (show ∀ (W : World) F1 f1 F2 f2, Ns W F1 f1 F2 f2 (s) → Calls Try.prog 17 #[nv F1 s.1.length f1 F2 s.2.length f2] W (EqIs q W) from fun W F1 f1 F2 f2 h => by
      have h := valid_s F1 F2 f1 f2 (s) W h (HO.out.le (by omega)); rw [← hq] at h; exact h)
    have H5 := Lib.hid (show ∀ (W : World) F1 f1 F2 f2, Ns W F1 f1 F2 f2 (s) → Calls Try.prog 18 #[nv F1 s.1.length f1 F2 s.2.length f2] W (EqIs q W) from fun W F1 f1 F2 f2 h => by
      have h := rvalid_s F1 F2 f1 f2 (s) W h (HO.out.le (by omega)); rw [← hq] at h; exact h)
    have H6 := Lib.hid (show ∀ (W : World) F1 f1 F2 f2, Ns W F1 f1 F2 f2 (s) → Calls Try.prog 19 #[nv F1 s.1.length f1 F2 s.2.length f2, .int .i64 u] W (EqIs p W) from fun W F1 f1 F2 f2 h => by
      have h := has_any F1 F2 f1 f2 (s) u W h (HO.out.le (by omega)) HU.out; rw [← hp] at h; exact h)
    have H7 := Lib.hid (show ∀ (W : World) F1 f1 F2 f2, Ns W F1 f1 F2 f2 (s) → Calls Try.prog 20 #[nv F1 s.1.length f1 F2 s.2.length f2, .int .i64 u] W (EqIs p W) from fun W F1 f1 F2 f2 h => by
      have h := rhas_any F1 F2 f1 f2 (s) u W h (HO.out.le (by omega)) HU.out; rw [← hp] at h; exact h)
    have H8 := Lib.hid (fun W : World => all_any W)
    have H9 := Lib.hid (fun W : World => rall_any W)
    have H10 := Lib.hid (show ∀ (W : World) F1 f1 F2 f2 G1 g1 G2 g2, Ns W F1 f1 F2 f2 (allS) → Ns W G1 g1 G2 g2 (allS) → Calls Try.prog 14 #[nv F1 allS.1.length f1 F2 allS.2.length f2, nv G1 allS.1.length g1 G2 allS.2.length g2] W (EqIs true W) from fun W F1 f1 F2 f2 G1 g1 G2 g2 h k => by
      have h := same_any F1 F2 G1 G2 f1 f2 g1 g2 (allS) (allS) W h k (all_ok.le (by omega)) (all_ok.le (by omega)); rw [eqN_dec, decide_eq_true (rfl)] at h; exact h)
    have H11 := Lib.hid (fun W : World => intset_any W)
    have H12 := Lib.hid (fun W : World => rintset_any W)
    have H13 := Lib.hid (show ∀ (W : World) F1 f1 F2 f2 G1 g1 G2 g2, Ns W F1 f1 F2 f2 (intS) → Ns W G1 g1 G2 g2 (intS) → Calls Try.prog 14 #[nv F1 intS.1.length f1 F2 intS.2.length f2, nv G1 intS.1.length g1 G2 intS.2.length g2] W (EqIs true W) from fun W F1 f1 F2 f2 G1 g1 G2 g2 h k => by
      have h := same_any F1 F2 G1 G2 f1 f2 g1 g2 (intS) (intS) W h k (int_ok.le (by omega)) (int_ok.le (by omega)); rw [eqN_dec, decide_eq_true (rfl)] at h; exact h)
    clear hq hp
    cases q
    · cases p
      · go_region_held3 (fun w' => w'.cell? ⟨w.heap.size, 0, none⟩ = some (.slice A1 s.1.length c1) ∧ w'.cell? ⟨w.heap.size, 1, none⟩ = some (.slice A2 s.2.length c2) ∧ Below w1.heap.size w1 w')
          (first | assumption | exact KP.out _ (Below.refl _ _) | exact Kb14 | exact Kb13 | exact Kb12 | exact Kb11 | exact Kb10 | exact Kb9 | exact Kb8 | exact Kb7 | exact Kb6 | exact Kb5 | exact Kb4 | exact Kb3 | exact Kb2 | exact Kb1 | exact Kb0)
          (first
            | (go_at_call 13; (with_reducible refine (HAl.out _).mono ?_); rintro e v14 ⟨rfl, hb14⟩; have b14 : Below w1.heap.size w1 v14 := b13.trans (hb14.mono b13.size); have Kb14 := KP.out _ b14)
            | (go_at_call 14; (with_reducible refine (H13.out _ _ _ _ _ _ _ _ _ (n11x.up hb12) n12x).mono ?_); rintro e v13 ⟨rfl, hb13⟩; have b13 : Below w1.heap.size w1 v13 := b12.trans (hb13.mono b12.size); have Kb13 := KP.out _ b13)
            | (go_at_call 24; (with_reducible refine (H12.out _  ).mono ?_); rintro e v12 ⟨P121, p121, P122, p122, rfl, ⟨n12x, _, _⟩, hb12⟩; have b12 : Below w1.heap.size w1 v12 := b11.trans (hb12.mono b11.size); have Kb12 := KP.out _ b12)
            | (go_at_call 23; (with_reducible refine (H11.out _  ).mono ?_); rintro e v11 ⟨P111, p111, P112, p112, rfl, ⟨n11x, _, _⟩, hb11⟩; have b11 : Below w1.heap.size w1 v11 := b10.trans (hb11.mono b10.size); have Kb11 := KP.out _ b11)
            | (go_at_call 14; (with_reducible refine (H10.out _ _ _ _ _ _ _ _ _ (n8x.up hb9) n9x).mono ?_); rintro e v10 ⟨rfl, hb10⟩; have b10 : Below w1.heap.size w1 v10 := b9.trans (hb10.mono b9.size); have Kb10 := KP.out _ b10)
            | (go_at_call 22; (with_reducible refine (H9.out _  ).mono ?_); rintro e v9 ⟨P91, p91, P92, p92, rfl, ⟨n9x, _, _⟩, hb9⟩; have b9 : Below w1.heap.size w1 v9 := b8.trans (hb9.mono b8.size); have Kb9 := KP.out _ b9)
            | (go_at_call 21; (with_reducible refine (H8.out _  ).mono ?_); rintro e v8 ⟨P81, p81, P82, p82, rfl, ⟨n8x, _, _⟩, hb8⟩; have b8 : Below w1.heap.size w1 v8 := b7.trans (hb8.mono b7.size); have Kb8 := KP.out _ b8)
            | (go_at_call 20; (with_reducible refine (H7.out _ _ _ _ _ (Ys.out.up b6).ns).mono ?_); rintro e v7 ⟨rfl, hb7⟩; have b7 : Below w1.heap.size w1 v7 := b6.trans (hb7.mono b6.size); have Kb7 := KP.out _ b7)
            | (go_at_call 19; (with_reducible refine (H6.out _ _ _ _ _ (Ys.out.up b5).ns).mono ?_); rintro e v6 ⟨rfl, hb6⟩; have b6 : Below w1.heap.size w1 v6 := b5.trans (hb6.mono b5.size); have Kb6 := KP.out _ b6)
            | (go_at_call 18; (with_reducible refine (H5.out _ _ _ _ _ (Ys.out.up b4).ns).mono ?_); rintro e v5 ⟨rfl, hb5⟩; have b5 : Below w1.heap.size w1 v5 := b4.trans (hb5.mono b4.size); have Kb5 := KP.out _ b5)
            | (go_at_call 17; (with_reducible refine (H4.out _ _ _ _ _ (Ys.out.up b3).ns).mono ?_); rintro e v4 ⟨rfl, hb4⟩; have b4 : Below w1.heap.size w1 v4 := b3.trans (hb4.mono b3.size); have Kb4 := KP.out _ b4)
            | (go_at_call 14; (with_reducible refine (H3.out _ _ _ _ _ _ _ _ _ (n1x.up hb2) n2x).mono ?_); rintro e v3 ⟨rfl, hb3⟩; have b3 : Below w1.heap.size w1 v3 := b2.trans (hb3.mono b2.size); have Kb3 := KP.out _ b3)
            | (go_at_call 16; (with_reducible refine (H2.out _ _ _ _ _ (Ys.out.up b1).ns).mono ?_); rintro e v2 ⟨P21, p21, P22, p22, rfl, ⟨n2x, _, _⟩, hb2⟩; have b2 : Below w1.heap.size w1 v2 := b1.trans (hb2.mono b1.size); have Kb2 := KP.out _ b2)
            | (go_at_call 15; (with_reducible refine (H1.out _ _ _ _ _ (Ys.out.up b0).ns).mono ?_); rintro e v1 ⟨P11, p11, P12, p12, rfl, ⟨n1x, _, _⟩, hb1⟩; have b1 : Below w1.heap.size w1 v1 := b0.trans (hb1.mono b0.size); have Kb1 := KP.out _ b1))
        go_wp2_with fail
        refine bodyPost_ret (v := .bool true) (by simp [results, Try.results3, go_sem]) rfl ?_
        exact ⟨rfl, HD.out.trans (b14.mono HD.out.size)⟩
      · go_region_held3 (fun w' => w'.cell? ⟨w.heap.size, 0, none⟩ = some (.slice A1 s.1.length c1) ∧ w'.cell? ⟨w.heap.size, 1, none⟩ = some (.slice A2 s.2.length c2) ∧ Below w1.heap.size w1 w')
          (first | assumption | exact KP.out _ (Below.refl _ _) | exact Kb14 | exact Kb13 | exact Kb12 | exact Kb11 | exact Kb10 | exact Kb9 | exact Kb8 | exact Kb7 | exact Kb6 | exact Kb5 | exact Kb4 | exact Kb3 | exact Kb2 | exact Kb1 | exact Kb0)
          (first
            | (go_at_call 13; (with_reducible refine (HAl.out _).mono ?_); rintro e v14 ⟨rfl, hb14⟩; have b14 : Below w1.heap.size w1 v14 := b13.trans (hb14.mono b13.size); have Kb14 := KP.out _ b14)
            | (go_at_call 14; (with_reducible refine (H13.out _ _ _ _ _ _ _ _ _ (n11x.up hb12) n12x).mono ?_); rintro e v13 ⟨rfl, hb13⟩; have b13 : Below w1.heap.size w1 v13 := b12.trans (hb13.mono b12.size); have Kb13 := KP.out _ b13)
            | (go_at_call 24; (with_reducible refine (H12.out _  ).mono ?_); rintro e v12 ⟨P121, p121, P122, p122, rfl, ⟨n12x, _, _⟩, hb12⟩; have b12 : Below w1.heap.size w1 v12 := b11.trans (hb12.mono b11.size); have Kb12 := KP.out _ b12)
            | (go_at_call 23; (with_reducible refine (H11.out _  ).mono ?_); rintro e v11 ⟨P111, p111, P112, p112, rfl, ⟨n11x, _, _⟩, hb11⟩; have b11 : Below w1.heap.size w1 v11 := b10.trans (hb11.mono b10.size); have Kb11 := KP.out _ b11)
            | (go_at_call 14; (with_reducible refine (H10.out _ _ _ _ _ _ _ _ _ (n8x.up hb9) n9x).mono ?_); rintro e v10 ⟨rfl, hb10⟩; have b10 : Below w1.heap.size w1 v10 := b9.trans (hb10.mono b9.size); have Kb10 := KP.out _ b10)
            | (go_at_call 22; (with_reducible refine (H9.out _  ).mono ?_); rintro e v9 ⟨P91, p91, P92, p92, rfl, ⟨n9x, _, _⟩, hb9⟩; have b9 : Below w1.heap.size w1 v9 := b8.trans (hb9.mono b8.size); have Kb9 := KP.out _ b9)
            | (go_at_call 21; (with_reducible refine (H8.out _  ).mono ?_); rintro e v8 ⟨P81, p81, P82, p82, rfl, ⟨n8x, _, _⟩, hb8⟩; have b8 : Below w1.heap.size w1 v8 := b7.trans (hb8.mono b7.size); have Kb8 := KP.out _ b8)
            | (go_at_call 20; (with_reducible refine (H7.out _ _ _ _ _ (Ys.out.up b6).ns).mono ?_); rintro e v7 ⟨rfl, hb7⟩; have b7 : Below w1.heap.size w1 v7 := b6.trans (hb7.mono b6.size); have Kb7 := KP.out _ b7)
            | (go_at_call 19; (with_reducible refine (H6.out _ _ _ _ _ (Ys.out.up b5).ns).mono ?_); rintro e v6 ⟨rfl, hb6⟩; have b6 : Below w1.heap.size w1 v6 := b5.trans (hb6.mono b5.size); have Kb6 := KP.out _ b6)
            | (go_at_call 18; (with_reducible refine (H5.out _ _ _ _ _ (Ys.out.up b4).ns).mono ?_); rintro e v5 ⟨rfl, hb5⟩; have b5 : Below w1.heap.size w1 v5 := b4.trans (hb5.mono b4.size); have Kb5 := KP.out _ b5)
            | (go_at_call 17; (with_reducible refine (H4.out _ _ _ _ _ (Ys.out.up b3).ns).mono ?_); rintro e v4 ⟨rfl, hb4⟩; have b4 : Below w1.heap.size w1 v4 := b3.trans (hb4.mono b3.size); have Kb4 := KP.out _ b4)
            | (go_at_call 14; (with_reducible refine (H3.out _ _ _ _ _ _ _ _ _ (n1x.up hb2) n2x).mono ?_); rintro e v3 ⟨rfl, hb3⟩; have b3 : Below w1.heap.size w1 v3 := b2.trans (hb3.mono b2.size); have Kb3 := KP.out _ b3)
            | (go_at_call 16; (with_reducible refine (H2.out _ _ _ _ _ (Ys.out.up b1).ns).mono ?_); rintro e v2 ⟨P21, p21, P22, p22, rfl, ⟨n2x, _, _⟩, hb2⟩; have b2 : Below w1.heap.size w1 v2 := b1.trans (hb2.mono b1.size); have Kb2 := KP.out _ b2)
            | (go_at_call 15; (with_reducible refine (H1.out _ _ _ _ _ (Ys.out.up b0).ns).mono ?_); rintro e v1 ⟨P11, p11, P12, p12, rfl, ⟨n1x, _, _⟩, hb1⟩; have b1 : Below w1.heap.size w1 v1 := b0.trans (hb1.mono b0.size); have Kb1 := KP.out _ b1))
        go_wp2_with fail
        refine bodyPost_ret (v := .bool true) (by simp [results, Try.results3, go_sem]) rfl ?_
        exact ⟨rfl, HD.out.trans (b14.mono HD.out.size)⟩
    · cases p
      · go_region_held3 (fun w' => w'.cell? ⟨w.heap.size, 0, none⟩ = some (.slice A1 s.1.length c1) ∧ w'.cell? ⟨w.heap.size, 1, none⟩ = some (.slice A2 s.2.length c2) ∧ Below w1.heap.size w1 w')
          (first | assumption | exact KP.out _ (Below.refl _ _) | exact Kb14 | exact Kb13 | exact Kb12 | exact Kb11 | exact Kb10 | exact Kb9 | exact Kb8 | exact Kb7 | exact Kb6 | exact Kb5 | exact Kb4 | exact Kb3 | exact Kb2 | exact Kb1 | exact Kb0)
          (first
            | (go_at_call 13; (with_reducible refine (HAl.out _).mono ?_); rintro e v14 ⟨rfl, hb14⟩; have b14 : Below w1.heap.size w1 v14 := b13.trans (hb14.mono b13.size); have Kb14 := KP.out _ b14)
            | (go_at_call 14; (with_reducible refine (H13.out _ _ _ _ _ _ _ _ _ (n11x.up hb12) n12x).mono ?_); rintro e v13 ⟨rfl, hb13⟩; have b13 : Below w1.heap.size w1 v13 := b12.trans (hb13.mono b12.size); have Kb13 := KP.out _ b13)
            | (go_at_call 24; (with_reducible refine (H12.out _  ).mono ?_); rintro e v12 ⟨P121, p121, P122, p122, rfl, ⟨n12x, _, _⟩, hb12⟩; have b12 : Below w1.heap.size w1 v12 := b11.trans (hb12.mono b11.size); have Kb12 := KP.out _ b12)
            | (go_at_call 23; (with_reducible refine (H11.out _  ).mono ?_); rintro e v11 ⟨P111, p111, P112, p112, rfl, ⟨n11x, _, _⟩, hb11⟩; have b11 : Below w1.heap.size w1 v11 := b10.trans (hb11.mono b10.size); have Kb11 := KP.out _ b11)
            | (go_at_call 14; (with_reducible refine (H10.out _ _ _ _ _ _ _ _ _ (n8x.up hb9) n9x).mono ?_); rintro e v10 ⟨rfl, hb10⟩; have b10 : Below w1.heap.size w1 v10 := b9.trans (hb10.mono b9.size); have Kb10 := KP.out _ b10)
            | (go_at_call 22; (with_reducible refine (H9.out _  ).mono ?_); rintro e v9 ⟨P91, p91, P92, p92, rfl, ⟨n9x, _, _⟩, hb9⟩; have b9 : Below w1.heap.size w1 v9 := b8.trans (hb9.mono b8.size); have Kb9 := KP.out _ b9)
            | (go_at_call 21; (with_reducible refine (H8.out _  ).mono ?_); rintro e v8 ⟨P81, p81, P82, p82, rfl, ⟨n8x, _, _⟩, hb8⟩; have b8 : Below w1.heap.size w1 v8 := b7.trans (hb8.mono b7.size); have Kb8 := KP.out _ b8)
            | (go_at_call 20; (with_reducible refine (H7.out _ _ _ _ _ (Ys.out.up b6).ns).mono ?_); rintro e v7 ⟨rfl, hb7⟩; have b7 : Below w1.heap.size w1 v7 := b6.trans (hb7.mono b6.size); have Kb7 := KP.out _ b7)
            | (go_at_call 19; (with_reducible refine (H6.out _ _ _ _ _ (Ys.out.up b5).ns).mono ?_); rintro e v6 ⟨rfl, hb6⟩; have b6 : Below w1.heap.size w1 v6 := b5.trans (hb6.mono b5.size); have Kb6 := KP.out _ b6)
            | (go_at_call 18; (with_reducible refine (H5.out _ _ _ _ _ (Ys.out.up b4).ns).mono ?_); rintro e v5 ⟨rfl, hb5⟩; have b5 : Below w1.heap.size w1 v5 := b4.trans (hb5.mono b4.size); have Kb5 := KP.out _ b5)
            | (go_at_call 17; (with_reducible refine (H4.out _ _ _ _ _ (Ys.out.up b3).ns).mono ?_); rintro e v4 ⟨rfl, hb4⟩; have b4 : Below w1.heap.size w1 v4 := b3.trans (hb4.mono b3.size); have Kb4 := KP.out _ b4)
            | (go_at_call 14; (with_reducible refine (H3.out _ _ _ _ _ _ _ _ _ (n1x.up hb2) n2x).mono ?_); rintro e v3 ⟨rfl, hb3⟩; have b3 : Below w1.heap.size w1 v3 := b2.trans (hb3.mono b2.size); have Kb3 := KP.out _ b3)
            | (go_at_call 16; (with_reducible refine (H2.out _ _ _ _ _ (Ys.out.up b1).ns).mono ?_); rintro e v2 ⟨P21, p21, P22, p22, rfl, ⟨n2x, _, _⟩, hb2⟩; have b2 : Below w1.heap.size w1 v2 := b1.trans (hb2.mono b1.size); have Kb2 := KP.out _ b2)
            | (go_at_call 15; (with_reducible refine (H1.out _ _ _ _ _ (Ys.out.up b0).ns).mono ?_); rintro e v1 ⟨P11, p11, P12, p12, rfl, ⟨n1x, _, _⟩, hb1⟩; have b1 : Below w1.heap.size w1 v1 := b0.trans (hb1.mono b0.size); have Kb1 := KP.out _ b1))
        go_wp2_with fail
        refine bodyPost_ret (v := .bool true) (by simp [results, Try.results3, go_sem]) rfl ?_
        exact ⟨rfl, HD.out.trans (b14.mono HD.out.size)⟩
      · go_region_held3 (fun w' => w'.cell? ⟨w.heap.size, 0, none⟩ = some (.slice A1 s.1.length c1) ∧ w'.cell? ⟨w.heap.size, 1, none⟩ = some (.slice A2 s.2.length c2) ∧ Below w1.heap.size w1 w')
          (first | assumption | exact KP.out _ (Below.refl _ _) | exact Kb14 | exact Kb13 | exact Kb12 | exact Kb11 | exact Kb10 | exact Kb9 | exact Kb8 | exact Kb7 | exact Kb6 | exact Kb5 | exact Kb4 | exact Kb3 | exact Kb2 | exact Kb1 | exact Kb0)
          (first
            | (go_at_call 13; (with_reducible refine (HAl.out _).mono ?_); rintro e v14 ⟨rfl, hb14⟩; have b14 : Below w1.heap.size w1 v14 := b13.trans (hb14.mono b13.size); have Kb14 := KP.out _ b14)
            | (go_at_call 14; (with_reducible refine (H13.out _ _ _ _ _ _ _ _ _ (n11x.up hb12) n12x).mono ?_); rintro e v13 ⟨rfl, hb13⟩; have b13 : Below w1.heap.size w1 v13 := b12.trans (hb13.mono b12.size); have Kb13 := KP.out _ b13)
            | (go_at_call 24; (with_reducible refine (H12.out _  ).mono ?_); rintro e v12 ⟨P121, p121, P122, p122, rfl, ⟨n12x, _, _⟩, hb12⟩; have b12 : Below w1.heap.size w1 v12 := b11.trans (hb12.mono b11.size); have Kb12 := KP.out _ b12)
            | (go_at_call 23; (with_reducible refine (H11.out _  ).mono ?_); rintro e v11 ⟨P111, p111, P112, p112, rfl, ⟨n11x, _, _⟩, hb11⟩; have b11 : Below w1.heap.size w1 v11 := b10.trans (hb11.mono b10.size); have Kb11 := KP.out _ b11)
            | (go_at_call 14; (with_reducible refine (H10.out _ _ _ _ _ _ _ _ _ (n8x.up hb9) n9x).mono ?_); rintro e v10 ⟨rfl, hb10⟩; have b10 : Below w1.heap.size w1 v10 := b9.trans (hb10.mono b9.size); have Kb10 := KP.out _ b10)
            | (go_at_call 22; (with_reducible refine (H9.out _  ).mono ?_); rintro e v9 ⟨P91, p91, P92, p92, rfl, ⟨n9x, _, _⟩, hb9⟩; have b9 : Below w1.heap.size w1 v9 := b8.trans (hb9.mono b8.size); have Kb9 := KP.out _ b9)
            | (go_at_call 21; (with_reducible refine (H8.out _  ).mono ?_); rintro e v8 ⟨P81, p81, P82, p82, rfl, ⟨n8x, _, _⟩, hb8⟩; have b8 : Below w1.heap.size w1 v8 := b7.trans (hb8.mono b7.size); have Kb8 := KP.out _ b8)
            | (go_at_call 20; (with_reducible refine (H7.out _ _ _ _ _ (Ys.out.up b6).ns).mono ?_); rintro e v7 ⟨rfl, hb7⟩; have b7 : Below w1.heap.size w1 v7 := b6.trans (hb7.mono b6.size); have Kb7 := KP.out _ b7)
            | (go_at_call 19; (with_reducible refine (H6.out _ _ _ _ _ (Ys.out.up b5).ns).mono ?_); rintro e v6 ⟨rfl, hb6⟩; have b6 : Below w1.heap.size w1 v6 := b5.trans (hb6.mono b5.size); have Kb6 := KP.out _ b6)
            | (go_at_call 18; (with_reducible refine (H5.out _ _ _ _ _ (Ys.out.up b4).ns).mono ?_); rintro e v5 ⟨rfl, hb5⟩; have b5 : Below w1.heap.size w1 v5 := b4.trans (hb5.mono b4.size); have Kb5 := KP.out _ b5)
            | (go_at_call 17; (with_reducible refine (H4.out _ _ _ _ _ (Ys.out.up b3).ns).mono ?_); rintro e v4 ⟨rfl, hb4⟩; have b4 : Below w1.heap.size w1 v4 := b3.trans (hb4.mono b3.size); have Kb4 := KP.out _ b4)
            | (go_at_call 14; (with_reducible refine (H3.out _ _ _ _ _ _ _ _ _ (n1x.up hb2) n2x).mono ?_); rintro e v3 ⟨rfl, hb3⟩; have b3 : Below w1.heap.size w1 v3 := b2.trans (hb3.mono b2.size); have Kb3 := KP.out _ b3)
            | (go_at_call 16; (with_reducible refine (H2.out _ _ _ _ _ (Ys.out.up b1).ns).mono ?_); rintro e v2 ⟨P21, p21, P22, p22, rfl, ⟨n2x, _, _⟩, hb2⟩; have b2 : Below w1.heap.size w1 v2 := b1.trans (hb2.mono b1.size); have Kb2 := KP.out _ b2)
            | (go_at_call 15; (with_reducible refine (H1.out _ _ _ _ _ (Ys.out.up b0).ns).mono ?_); rintro e v1 ⟨P11, p11, P12, p12, rfl, ⟨n1x, _, _⟩, hb1⟩; have b1 : Below w1.heap.size w1 v1 := b0.trans (hb1.mono b0.size); have Kb1 := KP.out _ b1))
        go_wp2_with fail
        refine bodyPost_ret (v := .bool true) (by simp [results, Try.results3, go_sem]) rfl ?_
        exact ⟨rfl, HD.out.trans (b14.mono HD.out.size)⟩
end Go.Proofs.Yteekccjfokoglaa
