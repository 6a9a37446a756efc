/-
  NumsetCanonical out of what the law's alive gives.
-/
import Derived.Test.YteekccjfokoglaaAh
import Derived.Test.YteekccjfokoglaaRl
namespace Go.Proofs.Yteekccjfokoglaa
open Go.RowKit Go.Sort Go.Lib Go.Proofs
set_option linter.unusedSimpArgs false
set_option linter.unnecessarySimpa false
set_option linter.unusedVariables false
theorem own_set {w : World} {B n : Nat} {v : Value} {xs : List Value} (h : w.ownsRow B 46 2 v n xs) {p : Addr} (hp : p.block < B) (u : Value) : (w.setCell p u).ownsRow B 46 2 v n xs := by
  refine ⟨h.1, ?_⟩
  rcases h.2 with hn | ⟨g, cap, cur, hv, hb1, hg, rest⟩
  · exact .inl hn
  · refine .inr ⟨g, cap, cur, hv, hb1, ?_, rest⟩
    have hne : p.block ≠ g := by omega
    simp [World.setCell, Array.getElem?_modify, hne, hg]
theorem own_slice {w : World} {B : Nat} {v : Value} {n : Nat} {xs : List Value} (h : w.ownsRow B 46 2 v n xs) : ∃ A c, v = .slice A n c := by
  rcases h.2 with ⟨h1, h2⟩ | ⟨g, cap, cur, hv, _⟩
  · exact ⟨none, 0, by rw [h1, h2]⟩
  · exact ⟨_, _, hv⟩
/-- a list that is being built in cell k of the box bk -/
structure Rv (W0 : World) (bk B k k' : Nat) (v vo : Value) (Ao : Option Addr) (l lo : List Sp) (w : World) : Prop where
  ck : w.cell? ⟨bk, k, none⟩ = some v
  co : w.cell? ⟨bk, k', none⟩ = some vo
  fk : w.frozen? ⟨bk, k, none⟩ = false
  fo : w.frozen? ⟨bk, k', none⟩ = false
  own : w.ownsRow B 46 2 v l.length (flat l)
  re : Re w B Ao lo
  bel : Below bk W0 w
  lt : bk < B
  le : B ≤ w.heap.size
theorem Rv.app {W0 : World} {bk B k k' : Nat} {v vo : Value} {Ao : Option Addr} {l lo : List Sp} {w W W5 : World} {v' : Value} {y : Sp} (h : Rv W0 bk B k k' v vo Ao l lo w) (hk : k ≠ k') (hW : Below w.heap.size w W)
    (hown : W5.ownsRow B 46 2 v' (l ++ [y]).length (flat (l ++ [y]))) (hg : W.grownBy W5 v.ownBlock) : Rv W0 bk B k k' v' vo Ao (l ++ [y]) lo (W5.setCell ⟨bk, k, none⟩ v') := by
  have hb : Below B w W5 := (hW.mono h.le).grown hg (Nat.le_trans h.le hW.size) (fun j hj => (h.own.lt j hj).1)
  have c0 : W5.cell? ⟨bk, k, none⟩ = some v := by rw [hb.cell (p := ⟨bk, k, none⟩) h.lt]; exact h.ck
  obtain ⟨A, c, rfl⟩ := own_slice h.own
  refine ⟨World.cell?_setCell_same _ _ _ c0, ?_, ?_, ?_, own_set hown h.lt _, (h.re.below hb).put c0 _, ?_, h.lt, ?_⟩
  · rw [World.cell?_setCell_other _ _ _ _ (by simp [hk]), hb.cell (p := ⟨bk, k', none⟩) h.lt]; exact h.co
  · rw [World.frozen?_setCell, hb.frozen (p := ⟨bk, k, none⟩) h.lt]; exact h.fk
  · rw [World.frozen?_setCell, hb.frozen (p := ⟨bk, k', none⟩) h.lt]; exact h.fo
  · exact (h.bel.trans (hb.mono (Nat.le_of_lt h.lt))).setCell (p := ⟨bk, k, none⟩) (Nat.le_refl _) _
  · rw [heap_setCell]; exact Nat.le_trans h.le hb.size
theorem Rv.facts {W0 : World} {bk B k k' : Nat} {v vo : Value} {Ao : Option Addr} {l lo : List Sp} {w W W5 : World} (h : Rv W0 bk B k k' v vo Ao l lo w) (hW : Below w.heap.size w W)
    (hg : W.grownBy W5 v.ownBlock) : W5.cell? ⟨bk, k, none⟩ = some v ∧ W5.frozen? ⟨bk, k, none⟩ = false := by
  have hb : Below B w W5 := (hW.mono h.le).grown hg (Nat.le_trans h.le hW.size) (fun j hj => (h.own.lt j hj).1)
  exact ⟨by rw [hb.cell (p := ⟨bk, k, none⟩) h.lt]; exact h.ck, by rw [hb.frozen (p := ⟨bk, k, none⟩) h.lt]; exact h.fk⟩
theorem rev_take (l : List Sp) (k : Nat) (h : k < l.length) : (l.drop (k + 1)).reverse ++ [l[k]] = (l.drop k).reverse := by
  rw [List.drop_eq_getElem_cons h, List.reverse_cons]
set_option maxRecDepth 100000 in
set_option maxHeartbeats 2000000 in
theorem canonical_one (A1 A2 : Option Addr) (c1 c2 : Nat) (s : NS) (w : World) (hs : Ns w A1 c1 A2 c2 s)
    (HAl : Hid (∀ W, Calls Try.prog 13 #[] W (EqIs true W))) (gs : okE s) : Calls Try.prog 11 #[nv A1 s.1.length c1 A2 s.2.length c2] w (EqIs true w) := by
  have hb0 := bal w (.cells #[.slice A1 s.1.length c1, .slice A2 s.2.length c2] 24)
  have hx1 := byn_new hs
  have HF := few1 A1 s.1.length c1 A2 s.2.length c2 (w.alloc (.cells #[.slice A1 s.1.length c1, .slice A2 s.2.length c2] 24))
  have hz : (w.alloc (.cells #[.slice A1 s.1.length c1, .slice A2 s.2.length c2] 24)).heap.size = w.heap.size + 1 := by simp
  have hbF := hb0.trans ((bal (w.alloc (.cells #[.slice A1 s.1.length c1, .slice A2 s.2.length c2] 24)) (.cells #[.slice A1 s.1.length c1, .slice A2 s.2.length c2] 24)).mono hb0.size)
  have Xs := Lib.hid (hx1.up (bal _ (.cells #[.slice A1 s.1.length c1, .slice A2 s.2.length c2] 24)))
  rw [hz] at HF
  have HF' := Lib.hid HF
  clear HF
  have HB := Lib.hid hbF
  obtain ⟨fw, hfw⟩ : ∃ fw, fw = fewL [⟨A1, s.1.length, c1, A2, s.2.length, c2⟩] := ⟨_, rfl⟩
  rw [← hfw] at HF'
  have HW := Lib.hid hfw
  clear hx1 hz hb0 hbF hfw hs
  go_enter Try.func11, Try.ntmps11
  go_wp2_with fail
  refine HF'.out.mono ?_
  rintro e w1 ⟨rfl, hb1⟩
  have Ys := Lib.hid (Xs.out.up hb1)
  have HD := Lib.hid (HB.out.trans (hb1.mono HB.out.size))
  clear hb1 HB Xs HF'
  cases fw
  · go_wp2_with fail
    refine (HAl.out _).mono ?_
    rintro e w2 ⟨rfl, hb2⟩
    go_wp2_with fail
    refine bodyPost_ret (v := .bool true) (by simp [results, Try.results11, go_sem]) rfl ?_
    exact ⟨rfl, HD.out.trans (hb2.mono HD.out.size)⟩
  · have hfw := HW.out
    have Os : okN 8 s := gs.few (A1 := A1) (c1 := c1) (A2 := A2) (c2 := c2) (List.all_eq_true.1 hfw.symm _ (by simp [sl2]))
    have hl1 := Os.1
    have hl2 := Os.2.1
    clear hfw gs HW
    have HO := Lib.hid Os
    have HMs := Lib.hid (show ∀ W : World, Ns W A1 c1 A2 c2 s → Calls Try.prog 15 #[nv A1 s.1.length c1 A2 s.2.length c2] W (GivesN (mk s) W) from fun W h => make_any A1 A2 c1 c2 s W h (Os.le (by omega)))
    clear Os
    obtain ⟨k0, k1, _, _⟩ := Ys.out
    go_wp2_with fail
    refine (HMs.out _ Ys.out.ns).mono ?_
    rintro e w2 ⟨M1, m1, M2, m2, rfl, ⟨nM, _, _⟩, hb2⟩
    have Y2 := Lib.hid (Ys.out.up hb2)
    obtain ⟨bk, hbk⟩ : ∃ bk, bk = w2.heap.size + 1 := ⟨_, rfl⟩
    have bx1 := bal w2 (.cells #[.slice M1 (mk s).1.length m1, .slice M2 (mk s).2.length m2] 24)
    have bx2 := bal (w2.alloc (.cells #[.slice M1 (mk s).1.length m1, .slice M2 (mk s).2.length m2] 24)) (.cells #[.slice none 0 0, .slice none 0 0] 24)
    have Ym := Lib.hid ((byn_new nM).up bx2)
    have bx12 := bx1.trans (bx2.mono bx1.size)
    have HD2 := Lib.hid (HD.out.trans ((hb2.trans (bx12.mono hb2.size)).mono HD.out.size))
    have yb := yb_new (w2.alloc (.cells #[.slice M1 (mk s).1.length m1, .slice M2 (mk s).2.length m2] 24))
    rw [show (w2.alloc (.cells #[.slice M1 (mk s).1.length m1, .slice M2 (mk s).2.length m2] 24)).heap.size = bk by simp [hbk]] at yb
    have HYb := Lib.hid yb
    have l1 : w.heap.size < bk := by have := Y2.out.2.2.2; omega
    have l2 : w2.heap.size < bk := by omega
    have HLT := Lib.hid (And.intro l1 l2)
    have HRe1 := Lib.hid ((Y2.out.ns.r1.below bx12).le (Nat.le_of_lt l2))
    have HRe2 := Lib.hid ((Y2.out.ns.r2.below bx12).le (Nat.le_of_lt l2))
    have HNw := Lib.hid (Y2.out.ns.up bx12)
    have HNm := Lib.hid (nM.up bx12)
    have HPl := Lib.hid (And.intro Y2.out.ns.p1 Y2.out.ns.p2)
    have HPm := Lib.hid (And.intro nM.p1 nM.p2)
    have HRm1 := Lib.hid ((nM.r1.below bx12).le (Nat.le_of_lt l2))
    have HRm2 := Lib.hid ((nM.r2.below bx12).le (Nat.le_of_lt l2))
    have HKS := Lib.hid (And.intro ((bx12.cell (p := ⟨w.heap.size, 0, none⟩) Y2.out.2.2.2).trans Y2.out.1) ((bx12.cell (p := ⟨w.heap.size, 1, none⟩) Y2.out.2.2.2).trans Y2.out.2.1))
    have HKM := Lib.hid (And.intro Ym.out.1 Ym.out.2.1)
    clear k0 k1 nM hb2 bx1 bx2 bx12 yb Ys HD Y2 l1 l2 Ym HMs
    obtain ⟨k0, k1⟩ := HKS.out
    have w1' : IntKind.i64.wrap ((s.1.length : Int) - 1) = (s.1.length : Int) - 1 := IntWalk.i64_in _ (by omega)
    have w2' : IntKind.i64.wrap ((s.2.length : Int) - 1) = (s.2.length : Int) - 1 := IntWalk.i64_in _ (by omega)
    go_wp2_with fail
    rw [← hbk]
    clear hbk
    generalize (w2.alloc (.cells #[.slice M1 (mk s).1.length m1, .slice M2 (mk s).2.length m2] 24)).alloc (.cells #[.slice none 0 0, .slice none 0 0] 24) = Wf at *
    have HS1 := Lib.hid (show Rv Wf bk Wf.heap.size 0 1 (.slice none 0 0) (.slice none 0 0) none (s.1.drop s.1.length).reverse [] Wf from
      ⟨HYb.out.y0, HYb.out.y1, HYb.out.f0, HYb.out.f1, by rw [List.drop_length]; exact World.ownsRow_nil _ _ _ _, re_nil _ _ _, Below.refl _ _, HYb.out.lt, Nat.le_refl _⟩)
    clear k0 k1 hl1 hl2
    go_loopw [5] (fun s5 wr => ∃ (k : Nat) (v : Value), s5 = .int .i64 ((k : Int) - 1) ∧ k ≤ s.1.length ∧ Hid (Rv Wf bk Wf.heap.size 0 1 v (.slice none 0 0) none (s.1.drop k).reverse [] wr)) (fun s5 _ => (intOf s5 + 1).toNat)
    case atStart => exact ⟨s.1.length, _, rfl, Nat.le_refl _, HS1⟩
    case round =>
      obtain ⟨k1x, v1x, rfl, hk, HR1⟩ := hrel
      clear HS1
      by_cases hk0 : k1x = 0
      · subst hk0
        have hR := HR1.out
        rw [List.drop_zero] at hR
        obtain ⟨G1, g1, hv, hre1, hp1, hhi1⟩ := re_of_own hR.own
        rw [List.length_reverse] at hv
        subst hv
        have HS2 := Lib.hid (show Rv Wf bk wr.heap.size 1 0 (.slice none 0 0) (.slice G1 s.1.length g1) G1 (s.2.drop s.2.length).reverse s.1.reverse wr from
          ⟨hR.co, hR.ck, hR.fo, hR.fk, by rw [List.drop_length]; exact World.ownsRow_nil _ _ _ _, hre1, hR.bel, Nat.lt_of_lt_of_le hR.lt hR.le, Nat.le_refl _⟩)
        have ks : wr.cell? ⟨w.heap.size, 1, none⟩ = some (.slice A2 s.2.length c2) := by rw [hR.bel.cell (p := ⟨w.heap.size, 1, none⟩) HLT.out.1]; exact HKS.out.2
        have HP1 := Lib.hid hp1
        have e0 : ((0 : Nat) : Int) - 1 = -1 := by decide
        rw [e0]
        clear hR HR1 hre1 hp1 hhi1 e0 hk
        go_wp2_with fail
        clear ks
        obtain ⟨wl, rfl⟩ : ∃ wl, wl = wr := ⟨wr, rfl⟩
        go_loopw [6] (fun s6 wr => ∃ (k : Nat) (v : Value), s6 = .int .i64 ((k : Int) - 1) ∧ k ≤ s.2.length ∧ Hid (Rv Wf bk wl.heap.size 1 0 v (.slice G1 s.1.length g1) G1 (s.2.drop k).reverse s.1.reverse wr)) (fun s6 _ => (intOf s6 + 1).toNat)
        case atStart => exact ⟨s.2.length, _, rfl, Nat.le_refl _, HS2⟩
        case round =>
          obtain ⟨k2x, v2x, rfl, hk, HR2⟩ := hrel
          clear HS2
          by_cases hk0 : k2x = 0
          · subst hk0
            obtain ⟨wq, rfl⟩ : ∃ wq, wq = wr := ⟨wr, rfl⟩
            have hR := HR2.out
            rw [List.drop_zero] at hR
            obtain ⟨G2, g2, hv, hre2, hp2, hhi2⟩ := re_of_own hR.own
            rw [List.length_reverse] at hv
            subst hv
            have e0 : ((0 : Nat) : Int) - 1 = -1 := by decide
            rw [e0]
            have HNs := Lib.hid (show Ns wq A1 c1 A2 c2 s from ⟨(HRe1.out.below hR.bel).le (Nat.le_trans (Nat.le_of_lt hR.lt) hR.le), (HRe2.out.below hR.bel).le (Nat.le_trans (Nat.le_of_lt hR.lt) hR.le), HPl.out.1, HPl.out.2⟩)
            have HNm2 := Lib.hid (show Ns wq M1 m1 M2 m2 (mk s) from ⟨(HRm1.out.below hR.bel).le (Nat.le_trans (Nat.le_of_lt hR.lt) hR.le), (HRm2.out.below hR.bel).le (Nat.le_trans (Nat.le_of_lt hR.lt) hR.le), HPm.out.1, HPm.out.2⟩)
            have HNb := Lib.hid (show Ns wq G1 g1 G2 g2 (s.1.reverse, s.2.reverse) from ⟨hR.re.le hR.le, hre2, HP1.out, hp2⟩)
            have HD3 := Lib.hid (HD2.out.trans (hR.bel.mono (Nat.le_of_lt HLT.out.1)))
            have zb : bk < wq.heap.size := Nat.lt_of_lt_of_le hR.lt hR.le
            have HZ := Lib.hid zb
            have KP := Lib.hid (show ∀ W : World, Below wq.heap.size wq W → W.cell? ⟨w.heap.size, 0, none⟩ = some (.slice A1 s.1.length c1) ∧ W.cell? ⟨w.heap.size, 1, none⟩ = some (.slice A2 s.2.length c2) ∧ W.cell? ⟨w2.heap.size, 0, none⟩ = some (.slice M1 (mk s).1.length m1) ∧ W.cell? ⟨w2.heap.size, 1, none⟩ = some (.slice M2 (mk s).2.length m2) ∧ W.cell? ⟨bk, 0, none⟩ = some (.slice G1 s.1.length g1) ∧ W.cell? ⟨bk, 1, none⟩ = some (.slice G2 s.2.length g2) ∧ Below wq.heap.size wq W from fun W hb => by
              have z1 := HLT.out.1
              have z2 := HLT.out.2
              have z3 := HZ.out
              refine ⟨?_, ?_, ?_, ?_, ?_, ?_, hb⟩
              · rw [hb.cell (p := ⟨w.heap.size, 0, none⟩) (Nat.lt_trans z1 z3), hR.bel.cell (p := ⟨w.heap.size, 0, none⟩) z1]; exact HKS.out.1
              · rw [hb.cell (p := ⟨w.heap.size, 1, none⟩) (Nat.lt_trans z1 z3), hR.bel.cell (p := ⟨w.heap.size, 1, none⟩) z1]; exact HKS.out.2
              · rw [hb.cell (p := ⟨w2.heap.size, 0, none⟩) (Nat.lt_trans z2 z3), hR.bel.cell (p := ⟨w2.heap.size, 0, none⟩) z2]; exact HKM.out.1
              · rw [hb.cell (p := ⟨w2.heap.size, 1, none⟩) (Nat.lt_trans z2 z3), hR.bel.cell (p := ⟨w2.heap.size, 1, none⟩) z2]; exact HKM.out.2
              · rw [hb.cell (p := ⟨bk, 0, none⟩) z3]; exact hR.co
              · rw [hb.cell (p := ⟨bk, 1, none⟩) z3]; exact hR.ck)
            have Om := mk_ok HO.out
            have Or : okN 8 (s.1.reverse, s.2.reverse) := ⟨by simpa using HO.out.1, by simpa using HO.out.2.1, fun x hx => HO.out.2.2.1 x (by simpa using hx), fun x hx => HO.out.2.2.2 x (by simpa using hx)⟩
            have HMm := Lib.hid (show ∀ W : World, Ns W M1 m1 M2 m2 (mk s) → Calls Try.prog 15 #[nv M1 (mk s).1.length m1 M2 (mk s).2.length m2] W (GivesN (mk s) W) from fun W h => by
              have h := make_any M1 M2 m1 m2 (mk s) W h (Om.le (by omega)); rw [mk_idem] at h; exact h)
            have HSm := Lib.hid (show ∀ (W : World) F1 f1 F2 f2, Ns W F1 f1 F2 f2 (mk s) → Ns W M1 m1 M2 m2 (mk s) → Calls Try.prog 14 #[nv F1 (mk s).1.length f1 F2 (mk s).2.length f2, nv M1 (mk s).1.length m1 M2 (mk s).2.length m2] W (EqIs true W) from fun W F1 f1 F2 f2 h k => by
              have h := same_any F1 F2 M1 M2 f1 f2 m1 m2 _ _ W h k (Om.le (by omega)) (Om.le (by omega)); rw [eqN_dec, decide_eq_true rfl] at h; exact h)
            have HVm := Lib.hid (show ∀ W : World, Ns W M1 m1 M2 m2 (mk s) → Calls Try.prog 17 #[nv M1 (mk s).1.length m1 M2 (mk s).2.length m2] W (EqIs true W) from fun W h => by
              have h := valid_s M1 M2 m1 m2 (mk s) W h (Om.le (by omega)); rw [mk_idem, eqN_dec, decide_eq_true rfl] at h; exact h)
            obtain ⟨q, hq⟩ : ∃ q, q = eqN s (mk s) := ⟨_, rfl⟩
            have HVs := Lib.hid (show ∀ W : World, Ns W A1 c1 A2 c2 s → Calls Try.prog 17 #[nv A1 s.1.length c1 A2 s.2.length c2] W (EqIs q W) from fun W h => by
              have h := valid_s A1 A2 c1 c2 s W h (HO.out.le (by omega)); rw [← hq] at h; exact h)
            have HSs := Lib.hid (show ∀ W : World, Ns W M1 m1 M2 m2 (mk s) → Ns W A1 c1 A2 c2 s → Calls Try.prog 14 #[nv M1 (mk s).1.length m1 M2 (mk s).2.length m2, nv A1 s.1.length c1 A2 s.2.length c2] W (EqIs q W) from fun W h k => by
              have h := same_any M1 M2 A1 A2 m1 m2 c1 c2 _ _ W h k (Om.le (by omega)) (HO.out.le (by omega))
              rw [show eqN (mk s) s = q by rw [hq, eqN_dec, eqN_dec]; exact decide_eq_decide.2 ⟨Eq.symm, Eq.symm⟩] at h; exact h)
            have HMb := Lib.hid (show ∀ W : World, Ns W G1 g1 G2 g2 (s.1.reverse, s.2.reverse) → Calls Try.prog 15 #[nv G1 s.1.length g1 G2 s.2.length g2] W (GivesN (mk s) W) from fun W h => by
              have h := make_any G1 G2 g1 g2 (s.1.reverse, s.2.reverse) W h (Or.le (by omega)); rw [mk_rev] at h; simpa using h)
            clear hR HR2 hre2 hp2 hhi2 e0 hk Om Or hq
            have Kb0 := KP.out _ (drewB wq)
            have b0 : Below wq.heap.size wq wq.drew := drewB wq
            go_wp2_with fail
            cases q
            · go_region_held3 (fun w' => w'.cell? ⟨w.heap.size, 0, none⟩ = some (.slice A1 s.1.length c1) ∧ w'.cell? ⟨w.heap.size, 1, none⟩ = some (.slice A2 s.2.length c2) ∧ w'.cell? ⟨w2.heap.size, 0, none⟩ = some (.slice M1 (mk s).1.length m1) ∧ w'.cell? ⟨w2.heap.size, 1, none⟩ = some (.slice M2 (mk s).2.length m2) ∧ w'.cell? ⟨bk, 0, none⟩ = some (.slice G1 s.1.length g1) ∧ w'.cell? ⟨bk, 1, none⟩ = some (.slice G2 s.2.length g2) ∧ Below wq.heap.size wq w')
                (first | assumption | exact KP.out _ (Below.refl _ _) | exact Kb8 | exact Kb7 | exact Kb6 | exact Kb5 | exact Kb4 | exact Kb3 | exact Kb2 | exact Kb1 | exact Kb0)
                (first
                  | (go_at_call 13; (with_reducible refine (HAl.out _).mono ?_); rintro e z8 ⟨rfl, hb8⟩; have b8 : Below wq.heap.size wq z8 := b7.trans (hb8.mono b7.size); have Kb8 := KP.out _ b8)
                  | (go_at_call 14; (with_reducible refine (HSm.out _ Q1 q1 Q2 q2 nQ (HNm2.out.up b6)).mono ?_); rintro e z7 ⟨rfl, hb7⟩; have b7 : Below wq.heap.size wq z7 := b6.trans (hb7.mono b6.size); have Kb7 := KP.out _ b7)
                  | (go_at_call 15; (with_reducible refine (HMb.out _ (HNb.out.up b5)).mono ?_); rintro e z6 ⟨Q1, q1, Q2, q2, rfl, ⟨nQ, _, _⟩, hb6⟩; have b6 : Below wq.heap.size wq z6 := b5.trans (hb6.mono b5.size); have Kb6 := KP.out _ b6)
                  | (go_at_call 14; (with_reducible refine (HSs.out _ (HNm2.out.up b4) (HNs.out.up b4)).mono ?_); rintro e z5 ⟨rfl, hb5⟩; have b5 : Below wq.heap.size wq z5 := b4.trans (hb5.mono b4.size); have Kb5 := KP.out _ b5)
                  | (go_at_call 17; (with_reducible refine (HVs.out _ (HNs.out.up b3)).mono ?_); rintro e z4 ⟨rfl, hb4⟩; have b4 : Below wq.heap.size wq z4 := b3.trans (hb4.mono b3.size); have Kb4 := KP.out _ b4)
                  | (go_at_call 17; (with_reducible refine (HVm.out _ (HNm2.out.up b2)).mono ?_); rintro e z3 ⟨rfl, hb3⟩; have b3 : Below wq.heap.size wq z3 := b2.trans (hb3.mono b2.size); have Kb3 := KP.out _ b3)
                  | (go_at_call 14; (with_reducible refine (HSm.out _ P1 p1 P2 p2 nP (HNm2.out.up b1)).mono ?_); rintro e z2 ⟨rfl, hb2⟩; have b2 : Below wq.heap.size wq z2 := b1.trans (hb2.mono b1.size); have Kb2 := KP.out _ b2)
                  | (go_at_call 15; (with_reducible refine (HMm.out _ (HNm2.out.up b0)).mono ?_); rintro e z1 ⟨P1, p1, P2, p2, rfl, ⟨nP, _, _⟩, hb1⟩; have b1 : Below wq.heap.size wq z1 := b0.trans (hb1.mono b0.size); have Kb1 := KP.out _ b1))
              go_wp2_with fail
              refine bodyPost_ret (v := .bool true) (by simp [results, Try.results11, go_sem]) rfl ?_
              exact ⟨rfl, HD3.out.trans (b8.mono HD3.out.size)⟩
            · go_region_held3 (fun w' => w'.cell? ⟨w.heap.size, 0, none⟩ = some (.slice A1 s.1.length c1) ∧ w'.cell? ⟨w.heap.size, 1, none⟩ = some (.slice A2 s.2.length c2) ∧ w'.cell? ⟨w2.heap.size, 0, none⟩ = some (.slice M1 (mk s).1.length m1) ∧ w'.cell? ⟨w2.heap.size, 1, none⟩ = some (.slice M2 (mk s).2.length m2) ∧ w'.cell? ⟨bk, 0, none⟩ = some (.slice G1 s.1.length g1) ∧ w'.cell? ⟨bk, 1, none⟩ = some (.slice G2 s.2.length g2) ∧ Below wq.heap.size wq w')
                (first | assumption | exact KP.out _ (Below.refl _ _) | exact Kb8 | exact Kb7 | exact Kb6 | exact Kb5 | exact Kb4 | exact Kb3 | exact Kb2 | exact Kb1 | exact Kb0)
                (first
                  | (go_at_call 13; (with_reducible refine (HAl.out _).mono ?_); rintro e z8 ⟨rfl, hb8⟩; have b8 : Below wq.heap.size wq z8 := b7.trans (hb8.mono b7.size); have Kb8 := KP.out _ b8)
                  | (go_at_call 14; (with_reducible refine (HSm.out _ Q1 q1 Q2 q2 nQ (HNm2.out.up b6)).mono ?_); rintro e z7 ⟨rfl, hb7⟩; have b7 : Below wq.heap.size wq z7 := b6.trans (hb7.mono b6.size); have Kb7 := KP.out _ b7)
                  | (go_at_call 15; (with_reducible refine (HMb.out _ (HNb.out.up b5)).mono ?_); rintro e z6 ⟨Q1, q1, Q2, q2, rfl, ⟨nQ, _, _⟩, hb6⟩; have b6 : Below wq.heap.size wq z6 := b5.trans (hb6.mono b5.size); have Kb6 := KP.out _ b6)
                  | (go_at_call 14; (with_reducible refine (HSs.out _ (HNm2.out.up b4) (HNs.out.up b4)).mono ?_); rintro e z5 ⟨rfl, hb5⟩; have b5 : Below wq.heap.size wq z5 := b4.trans (hb5.mono b4.size); have Kb5 := KP.out _ b5)
                  | (go_at_call 17; (with_reducible refine (HVs.out _ (HNs.out.up b3)).mono ?_); rintro e z4 ⟨rfl, hb4⟩; have b4 : Below wq.heap.size wq z4 := b3.trans (hb4.mono b3.size); have Kb4 := KP.out _ b4)
                  | (go_at_call 17; (with_reducible refine (HVm.out _ (HNm2.out.up b2)).mono ?_); rintro e z3 ⟨rfl, hb3⟩; have b3 : Below wq.heap.size wq z3 := b2.trans (hb3.mono b2.size); have Kb3 := KP.out _ b3)
                  | (go_at_call 14; (with_reducible refine (HSm.out _ P1 p1 P2 p2 nP (HNm2.out.up b1)).mono ?_); rintro e z2 ⟨rfl, hb2⟩; have b2 : Below wq.heap.size wq z2 := b1.trans (hb2.mono b1.size); have Kb2 := KP.out _ b2)
                  | (go_at_call 15; (with_reducible refine (HMm.out _ (HNm2.out.up b0)).mono ?_); rintro e z1 ⟨P1, p1, P2, p2, rfl, ⟨nP, _, _⟩, hb1⟩; have b1 : Below wq.heap.size wq z1 := b0.trans (hb1.mono b0.size); have Kb1 := KP.out _ b1))
              go_wp2_with fail
              refine bodyPost_ret (v := .bool true) (by simp [results, Try.results11, go_sem]) rfl ?_
              exact ⟨rfl, HD3.out.trans (b8.mono HD3.out.size)⟩
          · obtain ⟨j2x, rfl⟩ : ∃ j, k2x = j + 1 := ⟨k2x - 1, by omega⟩
            have e1 : ((j2x + 1 : Nat) : Int) - 1 = (j2x : Int) := by omega
            rw [e1]
            have hj : j2x < s.2.length := by omega
            obtain ⟨b, o, hA, hbl, d0, d1⟩ := HRe2.out.at_ j2x hj
            have ck := HR2.out.ck
            have fk := HR2.out.fk
            have ks : wr.cell? ⟨w.heap.size, 1, none⟩ = some (.slice A2 s.2.length c2) := by rw [HR2.out.bel.cell (p := ⟨w.heap.size, 1, none⟩) HLT.out.1]; exact HKS.out.2
            rw [← HR2.out.bel.cell (p := ⟨b, o + j2x * 2, none⟩) hbl] at d0
            rw [← HR2.out.bel.cell (p := ⟨b, o + j2x * 2 + 1, none⟩) hbl] at d1
            rw [hA] at ks
            have j0 : (0 : Int) ≤ (j2x : Int) := by omega
            have j1 : (j2x : Int) < (s.2.length : Int) := by omega
            have jw : IntKind.i64.wrap ((j2x : Int) - 1) = (j2x : Int) - 1 := IntWalk.i64_in _ (by have := HO.out.1; have := HO.out.2.1; omega)
            have HE2 := Lib.hid (rev_take s.2 j2x hj)
            have hbS : bk < wr.heap.size := Nat.lt_of_lt_of_le HR2.out.lt HR2.out.le
            obtain ⟨x2x, hx⟩ : ∃ x, x = s.2[j2x] := ⟨_, rfl⟩
            rw [← hx] at d0 d1 HE2
            obtain ⟨acc2, hacc⟩ : ∃ acc, acc = (s.2.drop (j2x + 1)).reverse := ⟨_, rfl⟩
            rw [← hacc] at HR2 HE2
            have hal : acc2.length ≤ 1000 := by rw [hacc]; simp; have := HO.out.1; have := HO.out.2.1; omega
            have hlt : bk < wl.heap.size := HR2.out.lt
            have hle := HR2.out.le
            clear hA hx hacc e1 hk hk0 hj
            go_wp2_with fail
            go_region_law (first | (refine step_append_sp rfl (.tmp 41) (.tmp 47) rfl wl.heap.size v2x acc2 x2x rfl ((own_up HR2.out.own (drewB wr)).alloc _) wr.heap.size rfl ((MapKept.heap_alloc _ _).1) hal (by simp; omega) ?_; intro v5 w5 HO5 hg5; obtain ⟨A5, c5, rfl⟩ := own_slice HO5.out; obtain ⟨g1x, g2x⟩ := HR2.out.facts ((drewB wr).alloc (by simp) _) hg5))
            all_goals
              have h5 := HR2.out.app (by decide) ((drewB wr).alloc (by simp) _) HO5.out hg5
              rw [show (acc2 ++ [x2x]).length = acc2.length + 1 by simp, HE2.out] at h5
              have HR5 := Lib.hid h5
              clear h5
              clear HR2 HE2 HO5 hg5 g1x g2x ck fk ks d0 d1
              go_wp2_with fail
              go_roundw
              case rel => exact ⟨j2x, _, by go_num, by omega, HR5⟩
              case measure => simp [intOf] <;> omega
      · obtain ⟨j1x, rfl⟩ : ∃ j, k1x = j + 1 := ⟨k1x - 1, by omega⟩
        have e1 : ((j1x + 1 : Nat) : Int) - 1 = (j1x : Int) := by omega
        rw [e1]
        have hj : j1x < s.1.length := by omega
        obtain ⟨b, o, hA, hbl, d0, d1⟩ := HRe1.out.at_ j1x hj
        have ck := HR1.out.ck
        have fk := HR1.out.fk
        have ks : wr.cell? ⟨w.heap.size, 0, none⟩ = some (.slice A1 s.1.length c1) := by rw [HR1.out.bel.cell (p := ⟨w.heap.size, 0, none⟩) HLT.out.1]; exact HKS.out.1
        rw [← HR1.out.bel.cell (p := ⟨b, o + j1x * 2, none⟩) hbl] at d0
        rw [← HR1.out.bel.cell (p := ⟨b, o + j1x * 2 + 1, none⟩) hbl] at d1
        rw [hA] at ks
        have j0 : (0 : Int) ≤ (j1x : Int) := by omega
        have j1 : (j1x : Int) < (s.1.length : Int) := by omega
        have jw : IntKind.i64.wrap ((j1x : Int) - 1) = (j1x : Int) - 1 := IntWalk.i64_in _ (by have := HO.out.1; have := HO.out.2.1; omega)
        have HE1 := Lib.hid (rev_take s.1 j1x hj)
        have hbS : bk < wr.heap.size := Nat.lt_of_lt_of_le HR1.out.lt HR1.out.le
        obtain ⟨x1x, hx⟩ : ∃ x, x = s.1[j1x] := ⟨_, rfl⟩
        rw [← hx] at d0 d1 HE1
        obtain ⟨acc1, hacc⟩ : ∃ acc, acc = (s.1.drop (j1x + 1)).reverse := ⟨_, rfl⟩
        rw [← hacc] at HR1 HE1
        have hal : acc1.length ≤ 1000 := by rw [hacc]; simp; have := HO.out.1; have := HO.out.2.1; omega
        have hlt : bk < Wf.heap.size := HR1.out.lt
        have hle := HR1.out.le
        clear hA hx hacc e1 hk hk0 hj
        go_wp2_with fail
        go_region_law (first | (refine step_append_sp rfl (.tmp 23) (.tmp 29) rfl Wf.heap.size v1x acc1 x1x rfl ((own_up HR1.out.own (drewB wr)).alloc _) wr.heap.size rfl ((MapKept.heap_alloc _ _).1) hal (by simp; omega) ?_; intro v5 w5 HO5 hg5; obtain ⟨A5, c5, rfl⟩ := own_slice HO5.out; obtain ⟨g1x, g2x⟩ := HR1.out.facts ((drewB wr).alloc (by simp) _) hg5))
        all_goals
          have h5 := HR1.out.app (by decide) ((drewB wr).alloc (by simp) _) HO5.out hg5
          rw [show (acc1 ++ [x1x]).length = acc1.length + 1 by simp, HE1.out] at h5
          have HR5 := Lib.hid h5
          clear h5
          clear HR1 HE1 HO5 hg5 g1x g2x ck fk ks d0 d1
          go_wp2_with fail
          go_roundw
          case rel => exact ⟨j1x, _, by go_num, by omega, HR5⟩
          case measure => simp [intOf] <;> omega
end Go.Proofs.Yteekccjfokoglaa
