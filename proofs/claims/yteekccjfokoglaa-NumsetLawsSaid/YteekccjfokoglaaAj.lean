/-
  NumsetLaws out of what the law's alive gives.
-/
import Derived.Test.YteekccjfokoglaaAf
import Derived.Test.YteekccjfokoglaaM6
import Derived.Test.YteekccjfokoglaaRl
namespace Go.Proofs.Yteekccjfokoglaa
open Go.RowKit Go.Sort Go.Lib Go.Proofs
set_option linter.unusedSimpArgs false
set_option linter.unnecessarySimpa false
set_option linter.unusedVariables false
theorem BO.byn {base : Nat} {st : Bool} {S : NS} {v : Value} {w : World} (h : BO base st S v w) (hst : st = true) : ∃ b A1 c1 A2 c2, v = .pointer (some ⟨b, 0, none⟩) ∧ base ≤ b ∧ Byn w b A1 c1 A2 c2 S := by
  obtain ⟨b, e, hb, hlt, _, _, Y1, n1, y1, Y2, n2, y2, c0, c1, hs⟩ := h
  obtain ⟨rfl, rfl, hn⟩ := hs hst
  exact ⟨b, Y1, y1, Y2, y2, e, hb, c0, c1, hn, hlt⟩
/-- what the operations of region 3 do -/
def planL (A1 A2 B1 B2 : Option Addr) (c1 c2 d1 d2 : Nat) (s t : NS) : Nat → Pl
  | 0 => .load (nv A1 s.1.length c1 A2 s.2.length c2)
  | 1 => .load (nv B1 t.1.length d1 B2 t.2.length d2)
  | 2 => .call (andd s t)
  | 3 => .load (nv A1 s.1.length c1 A2 s.2.length c2)
  | 4 => .load (nv B1 t.1.length d1 B2 t.2.length d2)
  | 5 => .call (orr s t)
  | 6 => .alloc 8 (andd s t)
  | 7 => .alloc 9 (orr s t)
  | _ => .store
def dstL (i : Nat) : Nat := [16, 17, 18, 19, 20, 21, 7, 8, 1008, 1009].getD i 0
theorem planL_ok (A1 A2 B1 B2 : Option Addr) (c1 c2 d1 d2 : Nat) (s t : NS) : PlOK 10 (planL A1 A2 B1 B2 c1 c2 d1 d2 s t) dstL where
  out j h := by match j, h with | j + 10, _ => rfl
  inj := by
    have : ∀ i, i < 10 → ∀ j, j < 10 → i ≠ j → dstL i ≠ dstL j := by decide
    exact fun i j hi hj hn => this i hi j hj hn
  sts j st S h := by
    match j, h with
    | 6, h => cases h; rfl
    | 7, h => cases h; rfl
  one j k st S S' h h' := by
    match j, k, h, h' with
    | 6, 6, _, _ => rfl
    | 7, 7, _, _ => rfl
    | 6, 7, h, h' => cases h; cases h'
    | 7, 6, h, h' => cases h; cases h'
set_option maxRecDepth 100000 in
set_option maxHeartbeats 2000000 in
theorem laws_few (A1 A2 B1 B2 C1 C2 : Option Addr) (c1 c2 d1 d2 e1 e2 : Nat) (s t r : NS) (w : World) (hs : Ns w A1 c1 A2 c2 s) (ht : Ns w B1 d1 B2 d2 t) (hr : Ns w C1 e1 C2 e2 r)
    (HAl : Hid (∀ W, Calls Try.prog 13 #[] W (EqIs true W)))
    (gs : okE s) (gt : okE t) (gr : okE r) : Calls Try.prog 8 #[nv A1 s.1.length c1 A2 s.2.length c2, nv B1 t.1.length d1 B2 t.2.length d2, nv C1 r.1.length e1 C2 r.2.length e2] w (EqIs true w) := by
  obtain ⟨hb0, hx1, hx2, hx3⟩ := box3 hs ht hr
  have HF := few3 A1 s.1.length c1 A2 s.2.length c2 B1 t.1.length d1 B2 t.2.length d2 C1 r.1.length e1 C2 r.2.length e2 (w3s w A1 s.1.length c1 A2 s.2.length c2 B1 t.1.length d1 B2 t.2.length d2 C1 r.1.length e1 C2 r.2.length e2)
  have hz : (w3s w A1 s.1.length c1 A2 s.2.length c2 B1 t.1.length d1 B2 t.2.length d2 C1 r.1.length e1 C2 r.2.length e2).heap.size = w.heap.size + 1 + 1 + 1 := by simp [w3s]
  have hbF := hb0.trans ((bal (w3s w A1 s.1.length c1 A2 s.2.length c2 B1 t.1.length d1 B2 t.2.length d2 C1 r.1.length e1 C2 r.2.length e2) (.cells #[.slice A1 s.1.length c1, .slice A2 s.2.length c2, .slice B1 t.1.length d1, .slice B2 t.2.length d2, .slice C1 r.1.length e1, .slice C2 r.2.length e2] 24)).mono hb0.size)
  have Xs := Lib.hid (hx1.up (bal _ (.cells #[.slice A1 s.1.length c1, .slice A2 s.2.length c2, .slice B1 t.1.length d1, .slice B2 t.2.length d2, .slice C1 r.1.length e1, .slice C2 r.2.length e2] 24)))
  have Xt := Lib.hid (hx2.up (bal _ (.cells #[.slice A1 s.1.length c1, .slice A2 s.2.length c2, .slice B1 t.1.length d1, .slice B2 t.2.length d2, .slice C1 r.1.length e1, .slice C2 r.2.length e2] 24)))
  have Xr := Lib.hid (hx3.up (bal _ (.cells #[.slice A1 s.1.length c1, .slice A2 s.2.length c2, .slice B1 t.1.length d1, .slice B2 t.2.length d2, .slice C1 r.1.length e1, .slice C2 r.2.length e2] 24)))
  rw [hz] at HF
  have HF' := Lib.hid HF
  clear HF
  have HB := Lib.hid hbF
  obtain ⟨fw, hfw⟩ : ∃ fw, fw = fewL [⟨A1, s.1.length, c1, A2, s.2.length, c2⟩, ⟨B1, t.1.length, d1, B2, t.2.length, d2⟩, ⟨C1, r.1.length, e1, C2, r.2.length, e2⟩] := ⟨_, rfl⟩
  rw [← hfw] at HF'
  have HW := Lib.hid hfw
  unfold w3s at *
  clear hx1 hx2 hx3 hz hb0 hbF hfw hs ht hr
  go_enter Try.func8, Try.ntmps8
  go_wp2_with fail
  refine HF'.out.mono ?_
  rintro e w1 ⟨rfl, hb1⟩
  have Ys := Lib.hid (Xs.out.up hb1)
  have Yt := Lib.hid (Xt.out.up hb1)
  have Yr := Lib.hid (Xr.out.up hb1)
  have HD := Lib.hid (HB.out.trans (hb1.mono HB.out.size))
  clear hb1 HB Xs Xt Xr HF'
  cases fw
  · go_wp2_with fail
    refine (HAl.out _).mono ?_
    rintro e w2 ⟨rfl, hb2⟩
    go_wp2_with fail
    refine bodyPost_ret (v := .bool true) (by simp [results, Try.results8, go_sem]) rfl ?_
    exact ⟨rfl, HD.out.trans (hb2.mono HD.out.size)⟩
  · have hfw := HW.out
    have Os : okN 8 s := gs.few (A1 := A1) (c1 := c1) (A2 := A2) (c2 := c2) (List.all_eq_true.1 hfw.symm _ (by simp [sl2]))
    have Ot : okN 8 t := gt.few (A1 := B1) (c1 := d1) (A2 := B2) (c2 := d2) (List.all_eq_true.1 hfw.symm _ (by simp [sl2]))
    have Or : okN 8 r := gr.few (A1 := C1) (c1 := e1) (A2 := C2) (c2 := e2) (List.all_eq_true.1 hfw.symm _ (by simp [sl2]))
    clear hfw gs gt gr HW
    have HO := Lib.hid (And.intro Os (And.intro Ot Or))
    clear Os Ot Or
    go_upto_region 3 with fail
    have HPO := Lib.hid (planL_ok A1 A2 B1 B2 c1 c2 d1 d2 s t)
    have HAn := Lib.hid (show ∀ W : World, Ns W A1 c1 A2 c2 s → Ns W B1 d1 B2 d2 t → Calls Try.prog 25 #[nv A1 s.1.length c1 A2 s.2.length c2, nv B1 t.1.length d1 B2 t.2.length d2] W (GivesN (andd s t) W) from fun W h k => and_any A1 A2 B1 B2 c1 c2 d1 d2 s t W h k (HO.out.1.le (by omega)) (HO.out.2.1.le (by omega)))
    have HOr := Lib.hid (show ∀ W : World, Ns W A1 c1 A2 c2 s → Ns W B1 d1 B2 d2 t → Calls Try.prog 27 #[nv A1 s.1.length c1 A2 s.2.length c2, nv B1 t.1.length d1 B2 t.2.length d2] W (GivesN (orr s t) W) from fun W h k => or_any A1 A2 B1 B2 c1 c2 d1 d2 s t W h k (HO.out.1.le (by omega)) (HO.out.2.1.le (by omega)))
    refine wp_region_F [16, 17, 18, 19, 20, 21, 7, 8] (RInv w1 (planL A1 A2 B1 B2 c1 c2 d1 d2 s t) dstL) rfl (by kernel_rfl) (by kernel_rfl) (RInv.start _ _ _ _ (drewB w1)) ?_ ?_
    · intro i o ho L f W hI hL hd K' hK
      have hi : i < 10 := (Array.getElem?_eq_some_iff.1 ho).1
      rcases (show i = 0 ∨ i = 1 ∨ i = 2 ∨ i = 3 ∨ i = 4 ∨ i = 5 ∨ i = 6 ∨ i = 7 ∨ i = 8 ∨ i = 9 by omega) with rfl | rfl | rfl | rfl | rfl | rfl | rfl | rfl | rfl | rfl <;> simp only [List.getElem?_toArray, List.getElem?_cons_succ, List.getElem?_cons_zero, Option.some.injEq] at ho <;> subst ho
      · refine wp_load24 3 rfl (w.heap.size) A1 s.1.length c1 A2 s.2.length c2 ((eval_out rfl).trans rfl) (Ys.out.up hI.bel).1 (Ys.out.up hI.bel).2.1 (hK _ _ ?_)
        exact hI.step HPO.out (by decide) (fun h => by cases h) (Below.refl _ _) rfl (fun j sj Sj si Si _ h => by cases h)
      · refine wp_load24 4 rfl (w.heap.size + 1) B1 t.1.length d1 B2 t.2.length d2 ((eval_out rfl).trans rfl) (Yt.out.up hI.bel).1 (Yt.out.up hI.bel).2.1 (hK _ _ ?_)
        exact hI.step HPO.out (by decide) (fun h => by cases h) (Below.refl _ _) rfl (fun j sj Sj si Si _ h => by cases h)
      · have ha : f 16 = nv A1 s.1.length c1 A2 s.2.length c2 := hI.spec 0 (hd 0 (by decide))
        have hb : f 17 = nv B1 t.1.length d1 B2 t.2.length d2 := hI.spec 1 (hd 1 (by decide))
        refine wp_call25 16 17 rfl _ _ ((eval_in rfl (of_decide_eq_true rfl)).trans ha) ((eval_in rfl (of_decide_eq_true rfl)).trans hb) (HAn.out W (Ys.out.up hI.bel).ns (Yt.out.up hI.bel).ns) ?_
        rintro e W' ⟨X1, x1, X2, x2, rfl, ⟨hn, _, _⟩, hbb⟩
        exact ⟨_, rfl, hK _ _ (hI.step HPO.out (by decide) (fun h => by cases h) hbb ⟨X1, x1, X2, x2, rfl, hn⟩ (fun j sj Sj si Si _ h => by cases h))⟩
      · refine wp_load24 3 rfl (w.heap.size) A1 s.1.length c1 A2 s.2.length c2 ((eval_out rfl).trans rfl) (Ys.out.up hI.bel).1 (Ys.out.up hI.bel).2.1 (hK _ _ ?_)
        exact hI.step HPO.out (by decide) (fun h => by cases h) (Below.refl _ _) rfl (fun j sj Sj si Si _ h => by cases h)
      · refine wp_load24 4 rfl (w.heap.size + 1) B1 t.1.length d1 B2 t.2.length d2 ((eval_out rfl).trans rfl) (Yt.out.up hI.bel).1 (Yt.out.up hI.bel).2.1 (hK _ _ ?_)
        exact hI.step HPO.out (by decide) (fun h => by cases h) (Below.refl _ _) rfl (fun j sj Sj si Si _ h => by cases h)
      · have ha : f 19 = nv A1 s.1.length c1 A2 s.2.length c2 := hI.spec 3 (hd 3 (by decide))
        have hb : f 20 = nv B1 t.1.length d1 B2 t.2.length d2 := hI.spec 4 (hd 4 (by decide))
        refine wp_call27 19 20 rfl _ _ ((eval_in rfl (of_decide_eq_true rfl)).trans ha) ((eval_in rfl (of_decide_eq_true rfl)).trans hb) (HOr.out W (Ys.out.up hI.bel).ns (Yt.out.up hI.bel).ns) ?_
        rintro e W' ⟨X1, x1, X2, x2, rfl, ⟨hn, _, _⟩, hbb⟩
        exact ⟨_, rfl, hK _ _ (hI.step HPO.out (by decide) (fun h => by cases h) hbb ⟨X1, x1, X2, x2, rfl, hn⟩ (fun j sj Sj si Si _ h => by cases h))⟩
      · exact wp_alloc24 rfl (hK _ _ (hI.alloc HPO.out (by decide) rfl hL))
      · exact wp_alloc24 rfl (hK _ _ (hI.alloc HPO.out (by decide) rfl hL))
      · obtain ⟨b, X1, x1, X2, x2, Y1, m1, y1, Y2, m2, y2, q1, q2, q3, q4, q5, q6, hR⟩ := hI.store (i := 8) HPO.out rfl (k := 6) (c := 2) rfl rfl (hd 6 (by decide)) (hd 2 (by decide))
        exact wp_store24 7 18 rfl rfl b X1 _ x1 X2 _ x2 _ _ ((eval_in rfl (of_decide_eq_true rfl)).trans q1) ((eval_in rfl (of_decide_eq_true rfl)).trans q2) q3 q4 q5 q6 (hK undef _ hR)
      · obtain ⟨b, X1, x1, X2, x2, Y1, m1, y1, Y2, m2, y2, q1, q2, q3, q4, q5, q6, hR⟩ := hI.store (i := 9) HPO.out rfl (k := 7) (c := 5) rfl rfl (hd 7 (by decide)) (hd 5 (by decide))
        exact wp_store24 8 21 rfl rfl b X1 _ x1 X2 _ x2 _ _ ((eval_in rfl (of_decide_eq_true rfl)).trans q1) ((eval_in rfl (of_decide_eq_true rfl)).trans q2) q3 q4 q5 q6 (hK undef _ hR)
    · intro L f W hI hall
      have h6 := hI.spec 6 (hall 6 (of_decide_eq_true rfl))
      have h7 := hI.spec 7 (hall 7 (of_decide_eq_true rfl))
      obtain ⟨ba, X1, x1, X2, x2, ea, hba, Ya0⟩ := BO.byn h6 (hall 8 (of_decide_eq_true rfl))
      obtain ⟨bo, Y1, y1, Y2, y2, eo, hbo, Yo0⟩ := BO.byn h7 (hall 9 (of_decide_eq_true rfl))
      have Ya := Lib.hid Ya0
      have Yo := Lib.hid Yo0
      have Ys2 := Lib.hid (Ys.out.up hI.bel)
      have Yt2 := Lib.hid (Yt.out.up hI.bel)
      have Yr2 := Lib.hid (Yr.out.up hI.bel)
      have HD2 := Lib.hid (HD.out.trans (hI.bel.mono HD.out.size))
      replace ea : f 7 = .pointer (some ⟨ba, 0, none⟩) := ea
      replace eo : f 8 = .pointer (some ⟨bo, 0, none⟩) := eo
      clear h6 h7 hba hbo hall hI Ya0 Yo0 HPO HAn HOr Ys Yt Yr HD
      obtain ⟨wz, rfl⟩ : ∃ wz, wz = W := ⟨W, rfl⟩
      have KP := Lib.hid (show ∀ W : World, Below wz.heap.size wz W → W.cell? ⟨w.heap.size, 0, none⟩ = some (.slice A1 s.1.length c1) ∧ W.cell? ⟨w.heap.size, 1, none⟩ = some (.slice A2 s.2.length c2) ∧ W.cell? ⟨w.heap.size + 1, 0, none⟩ = some (.slice B1 t.1.length d1) ∧ W.cell? ⟨w.heap.size + 1, 1, none⟩ = some (.slice B2 t.2.length d2) ∧ W.cell? ⟨w.heap.size + 1 + 1, 0, none⟩ = some (.slice C1 r.1.length e1) ∧ W.cell? ⟨w.heap.size + 1 + 1, 1, none⟩ = some (.slice C2 r.2.length e2) ∧ W.cell? ⟨bo, 0, none⟩ = some (.slice Y1 (orr s t).1.length y1) ∧ W.cell? ⟨bo, 1, none⟩ = some (.slice Y2 (orr s t).2.length y2) ∧ W.cell? ⟨ba, 0, none⟩ = some (.slice X1 (andd s t).1.length x1) ∧ W.cell? ⟨ba, 1, none⟩ = some (.slice X2 (andd s t).2.length x2) ∧ Below wz.heap.size wz W from fun W hb => ⟨(Ys2.out.up hb).1, (Ys2.out.up hb).2.1, (Yt2.out.up hb).1, (Yt2.out.up hb).2.1, (Yr2.out.up hb).1, (Yr2.out.up hb).2.1, (Yo.out.up hb).1, (Yo.out.up hb).2.1, (Ya.out.up hb).1, (Ya.out.up hb).2.1, hb⟩)
      simp only [putF, putL, List.contains_cons, List.contains_nil, Nat.reduceBEq, Nat.reduceAdd, Bool.or_false, Bool.or_true, Bool.false_eq_true, if_true, if_false, ea, eo]
      go_upto_region 4 with fail
      have b0 : Below wz.heap.size wz wz.drew := drewB wz
      have Kb0 := KP.out _ b0
      have H1 := Lib.hid (show ∀ (W : World) F1 f1 F2 f2 G1 g1 G2 g2, Ns W F1 f1 F2 f2 (t) → Ns W G1 g1 G2 g2 (s) → Calls Try.prog 25 #[nv F1 t.1.length f1 F2 t.2.length f2, nv G1 s.1.length g1 G2 s.2.length g2] W (GivesN (andd t s) W) from fun W F1 f1 F2 f2 G1 g1 G2 g2 h k => and_any F1 F2 G1 G2 f1 f2 g1 g2 (t) (s) W h k (HO.out.2.1.le (by omega)) (HO.out.1.le (by omega)))
      have H2 := Lib.hid (show ∀ (W : World) F1 f1 F2 f2 G1 g1 G2 g2, Ns W F1 f1 F2 f2 (andd s t) → Ns W G1 g1 G2 g2 (andd t s) → Calls Try.prog 14 #[nv F1 (andd s t).1.length f1 F2 (andd s t).2.length f2, nv G1 (andd t s).1.length g1 G2 (andd t s).2.length g2] W (EqIs true W) from fun W F1 f1 F2 f2 G1 g1 G2 g2 h k => by
        have h := same_any F1 F2 G1 G2 f1 f2 g1 g2 (andd s t) (andd t s) W h k ((and_ok HO.out.1 HO.out.2.1).le (by omega)) ((and_ok HO.out.2.1 HO.out.1).le (by omega)); rw [eqN_dec, decide_eq_true (and_comm' s t)] at h; exact h)
      have H3 := Lib.hid (show ∀ (W : World) F1 f1 F2 f2 G1 g1 G2 g2, Ns W F1 f1 F2 f2 (t) → Ns W G1 g1 G2 g2 (s) → Calls Try.prog 27 #[nv F1 t.1.length f1 F2 t.2.length f2, nv G1 s.1.length g1 G2 s.2.length g2] W (GivesN (orr t s) W) from fun W F1 f1 F2 f2 G1 g1 G2 g2 h k => or_any F1 F2 G1 G2 f1 f2 g1 g2 (t) (s) W h k (HO.out.2.1.le (by omega)) (HO.out.1.le (by omega)))
      have H4 := Lib.hid (show ∀ (W : World) F1 f1 F2 f2 G1 g1 G2 g2, Ns W F1 f1 F2 f2 (orr s t) → Ns W G1 g1 G2 g2 (orr t s) → Calls Try.prog 14 #[nv F1 (orr s t).1.length f1 F2 (orr s t).2.length f2, nv G1 (orr t s).1.length g1 G2 (orr t s).2.length g2] W (EqIs true W) from fun W F1 f1 F2 f2 G1 g1 G2 g2 h k => by
        have h := same_any F1 F2 G1 G2 f1 f2 g1 g2 (orr s t) (orr t s) W h k ((or_ok HO.out.1 HO.out.2.1).le (by omega)) ((or_ok HO.out.2.1 HO.out.1).le (by omega)); rw [eqN_dec, decide_eq_true (or_comm' s t)] at h; exact h)
      have H5 := Lib.hid (show ∀ (W : World) F1 f1 F2 f2 G1 g1 G2 g2, Ns W F1 f1 F2 f2 (t) → Ns W G1 g1 G2 g2 (r) → Calls Try.prog 27 #[nv F1 t.1.length f1 F2 t.2.length f2, nv G1 r.1.length g1 G2 r.2.length g2] W (GivesN (orr t r) W) from fun W F1 f1 F2 f2 G1 g1 G2 g2 h k => or_any F1 F2 G1 G2 f1 f2 g1 g2 (t) (r) W h k (HO.out.2.1.le (by omega)) (HO.out.2.2.le (by omega)))
      have H6 := Lib.hid (show ∀ (W : World) F1 f1 F2 f2 G1 g1 G2 g2, Ns W F1 f1 F2 f2 (s) → Ns W G1 g1 G2 g2 (orr t r) → Calls Try.prog 25 #[nv F1 s.1.length f1 F2 s.2.length f2, nv G1 (orr t r).1.length g1 G2 (orr t r).2.length g2] W (GivesN (andd s (orr t r)) W) from fun W F1 f1 F2 f2 G1 g1 G2 g2 h k => and_any F1 F2 G1 G2 f1 f2 g1 g2 (s) (orr t r) W h k (HO.out.1.le (by omega)) ((or_ok HO.out.2.1 HO.out.2.2).le (by omega)))
      have H7 := Lib.hid (show ∀ (W : World) F1 f1 F2 f2 G1 g1 G2 g2, Ns W F1 f1 F2 f2 (s) → Ns W G1 g1 G2 g2 (r) → Calls Try.prog 25 #[nv F1 s.1.length f1 F2 s.2.length f2, nv G1 r.1.length g1 G2 r.2.length g2] W (GivesN (andd s r) W) from fun W F1 f1 F2 f2 G1 g1 G2 g2 h k => and_any F1 F2 G1 G2 f1 f2 g1 g2 (s) (r) W h k (HO.out.1.le (by omega)) (HO.out.2.2.le (by omega)))
      have H8 := Lib.hid (show ∀ (W : World) F1 f1 F2 f2 G1 g1 G2 g2, Ns W F1 f1 F2 f2 (andd s t) → Ns W G1 g1 G2 g2 (andd s r) → Calls Try.prog 27 #[nv F1 (andd s t).1.length f1 F2 (andd s t).2.length f2, nv G1 (andd s r).1.length g1 G2 (andd s r).2.length g2] W (GivesN (orr (andd s t) (andd s r)) W) from fun W F1 f1 F2 f2 G1 g1 G2 g2 h k => or_any F1 F2 G1 G2 f1 f2 g1 g2 (andd s t) (andd s r) W h k ((and_ok HO.out.1 HO.out.2.1).le (by omega)) ((and_ok HO.out.1 HO.out.2.2).le (by omega)))
      have H9 := Lib.hid (show ∀ (W : World) F1 f1 F2 f2 G1 g1 G2 g2, Ns W F1 f1 F2 f2 (andd s (orr t r)) → Ns W G1 g1 G2 g2 (orr (andd s t) (andd s r)) → Calls Try.prog 14 #[nv F1 (andd s (orr t r)).1.length f1 F2 (andd s (orr t r)).2.length f2, nv G1 (orr (andd s t) (andd s r)).1.length g1 G2 (orr (andd s t) (andd s r)).2.length g2] W (EqIs true W) from fun W F1 f1 F2 f2 G1 g1 G2 g2 h k => by
        have h := same_any F1 F2 G1 G2 f1 f2 g1 g2 (andd s (orr t r)) (orr (andd s t) (andd s r)) W h k ((and_ok HO.out.1 (or_ok HO.out.2.1 HO.out.2.2)).le (by omega)) ((or_ok (and_ok HO.out.1 HO.out.2.1) (and_ok HO.out.1 HO.out.2.2)).le (by omega)); rw [eqN_dec, decide_eq_true (and_dist s t r)] at h; exact h)
      have H10 := Lib.hid (show ∀ (W : World) F1 f1 F2 f2, Ns W F1 f1 F2 f2 (orr s t) → Calls Try.prog 29 #[nv F1 (orr s t).1.length f1 F2 (orr s t).2.length f2] W (GivesN (nt (orr s t)) W) from fun W F1 f1 F2 f2 h => not_any F1 F2 f1 f2 (orr s t) W h ((or_ok HO.out.1 HO.out.2.1).le (by omega)))
      have H11 := Lib.hid (show ∀ (W : World) F1 f1 F2 f2, Ns W F1 f1 F2 f2 (s) → Calls Try.prog 29 #[nv F1 s.1.length f1 F2 s.2.length f2] W (GivesN (nt s) W) from fun W F1 f1 F2 f2 h => not_any F1 F2 f1 f2 (s) W h (HO.out.1.le (by omega)))
      have H12 := Lib.hid (show ∀ (W : World) F1 f1 F2 f2, Ns W F1 f1 F2 f2 (t) → Calls Try.prog 29 #[nv F1 t.1.length f1 F2 t.2.length f2] W (GivesN (nt t) W) from fun W F1 f1 F2 f2 h => not_any F1 F2 f1 f2 (t) W h (HO.out.2.1.le (by omega)))
      have H13 := Lib.hid (show ∀ (W : World) F1 f1 F2 f2 G1 g1 G2 g2, Ns W F1 f1 F2 f2 (nt s) → Ns W G1 g1 G2 g2 (nt t) → Calls Try.prog 25 #[nv F1 (nt s).1.length f1 F2 (nt s).2.length f2, nv G1 (nt t).1.length g1 G2 (nt t).2.length g2] W (GivesN (andd (nt s) (nt t)) W) from fun W F1 f1 F2 f2 G1 g1 G2 g2 h k => and_any F1 F2 G1 G2 f1 f2 g1 g2 (nt s) (nt t) W h k ((nt_ok HO.out.1).le (by omega)) ((nt_ok HO.out.2.1).le (by omega)))
      have H14 := Lib.hid (show ∀ (W : World) F1 f1 F2 f2 G1 g1 G2 g2, Ns W F1 f1 F2 f2 (nt (orr s t)) → Ns W G1 g1 G2 g2 (andd (nt s) (nt t)) → Calls Try.prog 14 #[nv F1 (nt (orr s t)).1.length f1 F2 (nt (orr s t)).2.length f2, nv G1 (andd (nt s) (nt t)).1.length g1 G2 (andd (nt s) (nt t)).2.length g2] W (EqIs true W) from fun W F1 f1 F2 f2 G1 g1 G2 g2 h k => by
        have h := same_any F1 F2 G1 G2 f1 f2 g1 g2 (nt (orr s t)) (andd (nt s) (nt t)) W h k ((nt_ok (or_ok HO.out.1 HO.out.2.1)).le (by omega)) ((and_ok (nt_ok HO.out.1) (nt_ok HO.out.2.1)).le (by omega)); rw [eqN_dec, decide_eq_true (de_morgan s t)] at h; exact h)
      go_region_held3 (fun w' => w'.cell? ⟨w.heap.size, 0, none⟩ = some (.slice A1 s.1.length c1) ∧ w'.cell? ⟨w.heap.size, 1, none⟩ = some (.slice A2 s.2.length c2) ∧ w'.cell? ⟨w.heap.size + 1, 0, none⟩ = some (.slice B1 t.1.length d1) ∧ w'.cell? ⟨w.heap.size + 1, 1, none⟩ = some (.slice B2 t.2.length d2) ∧ w'.cell? ⟨w.heap.size + 1 + 1, 0, none⟩ = some (.slice C1 r.1.length e1) ∧ w'.cell? ⟨w.heap.size + 1 + 1, 1, none⟩ = some (.slice C2 r.2.length e2) ∧ w'.cell? ⟨bo, 0, none⟩ = some (.slice Y1 (orr s t).1.length y1) ∧ w'.cell? ⟨bo, 1, none⟩ = some (.slice Y2 (orr s t).2.length y2) ∧ w'.cell? ⟨ba, 0, none⟩ = some (.slice X1 (andd s t).1.length x1) ∧ w'.cell? ⟨ba, 1, none⟩ = some (.slice X2 (andd s t).2.length x2) ∧ Below wz.heap.size wz w')
        (first | assumption | exact KP.out _ (Below.refl _ _) | exact Kb14 | exact Kb13 | exact Kb12 | exact Kb11 | exact Kb10 | exact Kb9 | exact Kb8 | exact Kb7 | exact Kb6 | exact Kb5 | exact Kb4 | exact Kb3 | exact Kb2 | exact Kb1 | exact Kb0)
        (first
          | (go_at_call 14; (with_reducible refine (H14.out _ _ _ _ _ _ _ _ _ (n10x.up ((hb11.trans (hb12.mono hb11.size)).trans (hb13.mono (hb11.trans (hb12.mono hb11.size)).size))) n13x).mono ?_); rintro e v14 ⟨rfl, hb14⟩; have b14 : Below wz.heap.size wz v14 := b13.trans (hb14.mono b13.size); have Kb14 := KP.out _ b14)
          | (go_at_call 25; (with_reducible refine (H13.out _ _ _ _ _ _ _ _ _ (n11x.up hb12) n12x).mono ?_); rintro e v13 ⟨P131, p131, P132, p132, rfl, ⟨n13x, _, _⟩, hb13⟩; have b13 : Below wz.heap.size wz v13 := b12.trans (hb13.mono b12.size); have Kb13 := KP.out _ b13)
          | (go_at_call 29; (with_reducible refine (H12.out _ _ _ _ _ (Yt2.out.up b11).ns).mono ?_); rintro e v12 ⟨P121, p121, P122, p122, rfl, ⟨n12x, _, _⟩, hb12⟩; have b12 : Below wz.heap.size wz v12 := b11.trans (hb12.mono b11.size); have Kb12 := KP.out _ b12)
          | (go_at_call 29; (with_reducible refine (H11.out _ _ _ _ _ (Ys2.out.up b10).ns).mono ?_); rintro e v11 ⟨P111, p111, P112, p112, rfl, ⟨n11x, _, _⟩, hb11⟩; have b11 : Below wz.heap.size wz v11 := b10.trans (hb11.mono b10.size); have Kb11 := KP.out _ b11)
          | (go_at_call 29; (with_reducible refine (H10.out _ _ _ _ _ (Yo.out.up b9).ns).mono ?_); rintro e v10 ⟨P101, p101, P102, p102, rfl, ⟨n10x, _, _⟩, hb10⟩; have b10 : Below wz.heap.size wz v10 := b9.trans (hb10.mono b9.size); have Kb10 := KP.out _ b10)
          | (go_at_call 14; (with_reducible refine (H9.out _ _ _ _ _ _ _ _ _ (n6x.up (hb7.trans (hb8.mono hb7.size))) n8x).mono ?_); rintro e v9 ⟨rfl, hb9⟩; have b9 : Below wz.heap.size wz v9 := b8.trans (hb9.mono b8.size); have Kb9 := KP.out _ b9)
          | (go_at_call 27; (with_reducible refine (H8.out _ _ _ _ _ _ _ _ _ (Ya.out.up b7).ns n7x).mono ?_); rintro e v8 ⟨P81, p81, P82, p82, rfl, ⟨n8x, _, _⟩, hb8⟩; have b8 : Below wz.heap.size wz v8 := b7.trans (hb8.mono b7.size); have Kb8 := KP.out _ b8)
          | (go_at_call 25; (with_reducible refine (H7.out _ _ _ _ _ _ _ _ _ (Ys2.out.up b6).ns (Yr2.out.up b6).ns).mono ?_); rintro e v7 ⟨P71, p71, P72, p72, rfl, ⟨n7x, _, _⟩, hb7⟩; have b7 : Below wz.heap.size wz v7 := b6.trans (hb7.mono b6.size); have Kb7 := KP.out _ b7)
          | (go_at_call 25; (with_reducible refine (H6.out _ _ _ _ _ _ _ _ _ (Ys2.out.up b5).ns n5x).mono ?_); rintro e v6 ⟨P61, p61, P62, p62, rfl, ⟨n6x, _, _⟩, hb6⟩; have b6 : Below wz.heap.size wz v6 := b5.trans (hb6.mono b5.size); have Kb6 := KP.out _ b6)
          | (go_at_call 27; (with_reducible refine (H5.out _ _ _ _ _ _ _ _ _ (Yt2.out.up b4).ns (Yr2.out.up b4).ns).mono ?_); rintro e v5 ⟨P51, p51, P52, p52, rfl, ⟨n5x, _, _⟩, hb5⟩; have b5 : Below wz.heap.size wz v5 := b4.trans (hb5.mono b4.size); have Kb5 := KP.out _ b5)
          | (go_at_call 14; (with_reducible refine (H4.out _ _ _ _ _ _ _ _ _ (Yo.out.up b3).ns n3x).mono ?_); rintro e v4 ⟨rfl, hb4⟩; have b4 : Below wz.heap.size wz v4 := b3.trans (hb4.mono b3.size); have Kb4 := KP.out _ b4)
          | (go_at_call 27; (with_reducible refine (H3.out _ _ _ _ _ _ _ _ _ (Yt2.out.up b2).ns (Ys2.out.up b2).ns).mono ?_); rintro e v3 ⟨P31, p31, P32, p32, rfl, ⟨n3x, _, _⟩, hb3⟩; have b3 : Below wz.heap.size wz v3 := b2.trans (hb3.mono b2.size); have Kb3 := KP.out _ b3)
          | (go_at_call 14; (with_reducible refine (H2.out _ _ _ _ _ _ _ _ _ (Ya.out.up b1).ns n1x).mono ?_); rintro e v2 ⟨rfl, hb2⟩; have b2 : Below wz.heap.size wz v2 := b1.trans (hb2.mono b1.size); have Kb2 := KP.out _ b2)
          | (go_at_call 25; (with_reducible refine (H1.out _ _ _ _ _ _ _ _ _ (Yt2.out.up b0).ns (Ys2.out.up b0).ns).mono ?_); rintro e v1 ⟨P11, p11, P12, p12, rfl, ⟨n1x, _, _⟩, hb1⟩; have b1 : Below wz.heap.size wz v1 := b0.trans (hb1.mono b0.size); have Kb1 := KP.out _ b1))
      clear H1 H2 H3 H4 H5 H6 H7 H8 H9 H10 H11 H12 H13 H14
      go_upto_region 6 with fail
      have b15 : Below wz.heap.size wz v14.drew := b14.trans ((drewB v14).mono b14.size)
      have Kb15 := KP.out _ b15
      have H16 := Lib.hid (show ∀ (W : World) F1 f1 F2 f2 G1 g1 G2 g2, Ns W F1 f1 F2 f2 (s) → Ns W G1 g1 G2 g2 (orr s t) → Calls Try.prog 25 #[nv F1 s.1.length f1 F2 s.2.length f2, nv G1 (orr s t).1.length g1 G2 (orr s t).2.length g2] W (GivesN (andd s (orr s t)) W) from fun W F1 f1 F2 f2 G1 g1 G2 g2 h k => and_any F1 F2 G1 G2 f1 f2 g1 g2 (s) (orr s t) W h k (HO.out.1.le (by omega)) ((or_ok HO.out.1 HO.out.2.1).le (by omega)))
      have H17 := Lib.hid (show ∀ (W : World) F1 f1 F2 f2, Ns W F1 f1 F2 f2 (s) → Calls Try.prog 15 #[nv F1 s.1.length f1 F2 s.2.length f2] W (GivesN (mk s) W) from fun W F1 f1 F2 f2 h => make_any F1 F2 f1 f2 (s) W h (HO.out.1.le (by omega)))
      have H18 := Lib.hid (show ∀ (W : World) F1 f1 F2 f2 G1 g1 G2 g2, Ns W F1 f1 F2 f2 (andd s (orr s t)) → Ns W G1 g1 G2 g2 (mk s) → Calls Try.prog 14 #[nv F1 (andd s (orr s t)).1.length f1 F2 (andd s (orr s t)).2.length f2, nv G1 (mk s).1.length g1 G2 (mk s).2.length g2] W (EqIs true W) from fun W F1 f1 F2 f2 G1 g1 G2 g2 h k => by
        have h := same_any F1 F2 G1 G2 f1 f2 g1 g2 (andd s (orr s t)) (mk s) W h k ((and_ok HO.out.1 (or_ok HO.out.1 HO.out.2.1)).le (by omega)) ((mk_ok HO.out.1).le (by omega)); rw [eqN_dec, decide_eq_true (absorb1 s t)] at h; exact h)
      have H19 := Lib.hid (show ∀ (W : World) F1 f1 F2 f2 G1 g1 G2 g2, Ns W F1 f1 F2 f2 (s) → Ns W G1 g1 G2 g2 (andd s t) → Calls Try.prog 27 #[nv F1 s.1.length f1 F2 s.2.length f2, nv G1 (andd s t).1.length g1 G2 (andd s t).2.length g2] W (GivesN (orr s (andd s t)) W) from fun W F1 f1 F2 f2 G1 g1 G2 g2 h k => or_any F1 F2 G1 G2 f1 f2 g1 g2 (s) (andd s t) W h k (HO.out.1.le (by omega)) ((and_ok HO.out.1 HO.out.2.1).le (by omega)))
      have H20 := Lib.hid (show ∀ (W : World) F1 f1 F2 f2, Ns W F1 f1 F2 f2 (s) → Calls Try.prog 15 #[nv F1 s.1.length f1 F2 s.2.length f2] W (GivesN (mk s) W) from fun W F1 f1 F2 f2 h => make_any F1 F2 f1 f2 (s) W h (HO.out.1.le (by omega)))
      have H21 := Lib.hid (show ∀ (W : World) F1 f1 F2 f2 G1 g1 G2 g2, Ns W F1 f1 F2 f2 (orr s (andd s t)) → Ns W G1 g1 G2 g2 (mk s) → Calls Try.prog 14 #[nv F1 (orr s (andd s t)).1.length f1 F2 (orr s (andd s t)).2.length f2, nv G1 (mk s).1.length g1 G2 (mk s).2.length g2] W (EqIs true W) from fun W F1 f1 F2 f2 G1 g1 G2 g2 h k => by
        have h := same_any F1 F2 G1 G2 f1 f2 g1 g2 (orr s (andd s t)) (mk s) W h k ((or_ok HO.out.1 (and_ok HO.out.1 HO.out.2.1)).le (by omega)) ((mk_ok HO.out.1).le (by omega)); rw [eqN_dec, decide_eq_true (absorb2 s t)] at h; exact h)
      have H22 := Lib.hid (show ∀ (W : World) F1 f1 F2 f2, Ns W F1 f1 F2 f2 (s) → Calls Try.prog 29 #[nv F1 s.1.length f1 F2 s.2.length f2] W (GivesN (nt s) W) from fun W F1 f1 F2 f2 h => not_any F1 F2 f1 f2 (s) W h (HO.out.1.le (by omega)))
      have H23 := Lib.hid (show ∀ (W : World) F1 f1 F2 f2, Ns W F1 f1 F2 f2 (nt s) → Calls Try.prog 29 #[nv F1 (nt s).1.length f1 F2 (nt s).2.length f2] W (GivesN (nt (nt s)) W) from fun W F1 f1 F2 f2 h => not_any F1 F2 f1 f2 (nt s) W h ((nt_ok HO.out.1).le (by omega)))
      have H24 := Lib.hid (show ∀ (W : World) F1 f1 F2 f2, Ns W F1 f1 F2 f2 (s) → Calls Try.prog 15 #[nv F1 s.1.length f1 F2 s.2.length f2] W (GivesN (mk s) W) from fun W F1 f1 F2 f2 h => make_any F1 F2 f1 f2 (s) W h (HO.out.1.le (by omega)))
      have H25 := Lib.hid (show ∀ (W : World) F1 f1 F2 f2 G1 g1 G2 g2, Ns W F1 f1 F2 f2 (nt (nt s)) → Ns W G1 g1 G2 g2 (mk s) → Calls Try.prog 14 #[nv F1 (nt (nt s)).1.length f1 F2 (nt (nt s)).2.length f2, nv G1 (mk s).1.length g1 G2 (mk s).2.length g2] W (EqIs true W) from fun W F1 f1 F2 f2 G1 g1 G2 g2 h k => by
        have h := same_any F1 F2 G1 G2 f1 f2 g1 g2 (nt (nt s)) (mk s) W h k ((nt_ok (nt_ok HO.out.1)).le (by omega)) ((mk_ok HO.out.1).le (by omega)); rw [eqN_dec, decide_eq_true (nt_nt s)] at h; exact h)
      have H26 := Lib.hid (show ∀ (W : World) F1 f1 F2 f2, Ns W F1 f1 F2 f2 (s) → Calls Try.prog 29 #[nv F1 s.1.length f1 F2 s.2.length f2] W (GivesN (nt s) W) from fun W F1 f1 F2 f2 h => not_any F1 F2 f1 f2 (s) W h (HO.out.1.le (by omega)))
      have H27 := Lib.hid (show ∀ (W : World) F1 f1 F2 f2 G1 g1 G2 g2, Ns W F1 f1 F2 f2 (s) → Ns W G1 g1 G2 g2 (nt s) → Calls Try.prog 27 #[nv F1 s.1.length f1 F2 s.2.length f2, nv G1 (nt s).1.length g1 G2 (nt s).2.length g2] W (GivesN (orr s (nt s)) W) from fun W F1 f1 F2 f2 G1 g1 G2 g2 h k => or_any F1 F2 G1 G2 f1 f2 g1 g2 (s) (nt s) W h k (HO.out.1.le (by omega)) ((nt_ok HO.out.1).le (by omega)))
      have H28 := Lib.hid (fun W : World => all_any W)
      have H29 := Lib.hid (show ∀ (W : World) F1 f1 F2 f2 G1 g1 G2 g2, Ns W F1 f1 F2 f2 (orr s (nt s)) → Ns W G1 g1 G2 g2 (allS) → Calls Try.prog 14 #[nv F1 (orr s (nt s)).1.length f1 F2 (orr s (nt s)).2.length f2, nv G1 allS.1.length g1 G2 allS.2.length g2] W (EqIs true W) from fun W F1 f1 F2 f2 G1 g1 G2 g2 h k => by
        have h := same_any F1 F2 G1 G2 f1 f2 g1 g2 (orr s (nt s)) (allS) W h k ((or_ok HO.out.1 (nt_ok HO.out.1)).le (by omega)) (all_ok.le (by omega)); rw [eqN_dec, decide_eq_true (or_nt s)] at h; exact h)
      go_region_held3 (fun w' => w'.cell? ⟨w.heap.size, 0, none⟩ = some (.slice A1 s.1.length c1) ∧ w'.cell? ⟨w.heap.size, 1, none⟩ = some (.slice A2 s.2.length c2) ∧ w'.cell? ⟨w.heap.size + 1, 0, none⟩ = some (.slice B1 t.1.length d1) ∧ w'.cell? ⟨w.heap.size + 1, 1, none⟩ = some (.slice B2 t.2.length d2) ∧ w'.cell? ⟨w.heap.size + 1 + 1, 0, none⟩ = some (.slice C1 r.1.length e1) ∧ w'.cell? ⟨w.heap.size + 1 + 1, 1, none⟩ = some (.slice C2 r.2.length e2) ∧ w'.cell? ⟨bo, 0, none⟩ = some (.slice Y1 (orr s t).1.length y1) ∧ w'.cell? ⟨bo, 1, none⟩ = some (.slice Y2 (orr s t).2.length y2) ∧ w'.cell? ⟨ba, 0, none⟩ = some (.slice X1 (andd s t).1.length x1) ∧ w'.cell? ⟨ba, 1, none⟩ = some (.slice X2 (andd s t).2.length x2) ∧ Below wz.heap.size wz w')
        (first | assumption | exact KP.out _ (Below.refl _ _) | exact Kb29 | exact Kb28 | exact Kb27 | exact Kb26 | exact Kb25 | exact Kb24 | exact Kb23 | exact Kb22 | exact Kb21 | exact Kb20 | exact Kb19 | exact Kb18 | exact Kb17 | exact Kb16 | exact Kb15)
        (first
          | (go_at_call 14; (with_reducible refine (H29.out _ _ _ _ _ _ _ _ _ (n27x.up hb28) n28x).mono ?_); rintro e v29 ⟨rfl, hb29⟩; have b29 : Below wz.heap.size wz v29 := b28.trans (hb29.mono b28.size); have Kb29 := KP.out _ b29)
          | (go_at_call 21; (with_reducible refine (H28.out _  ).mono ?_); rintro e v28 ⟨P281, p281, P282, p282, rfl, ⟨n28x, _, _⟩, hb28⟩; have b28 : Below wz.heap.size wz v28 := b27.trans (hb28.mono b27.size); have Kb28 := KP.out _ b28)
          | (go_at_call 27; (with_reducible refine (H27.out _ _ _ _ _ _ _ _ _ (Ys2.out.up b26).ns n26x).mono ?_); rintro e v27 ⟨P271, p271, P272, p272, rfl, ⟨n27x, _, _⟩, hb27⟩; have b27 : Below wz.heap.size wz v27 := b26.trans (hb27.mono b26.size); have Kb27 := KP.out _ b27)
          | (go_at_call 29; (with_reducible refine (H26.out _ _ _ _ _ (Ys2.out.up b25).ns).mono ?_); rintro e v26 ⟨P261, p261, P262, p262, rfl, ⟨n26x, _, _⟩, hb26⟩; have b26 : Below wz.heap.size wz v26 := b25.trans (hb26.mono b25.size); have Kb26 := KP.out _ b26)
          | (go_at_call 14; (with_reducible refine (H25.out _ _ _ _ _ _ _ _ _ (n23x.up hb24) n24x).mono ?_); rintro e v25 ⟨rfl, hb25⟩; have b25 : Below wz.heap.size wz v25 := b24.trans (hb25.mono b24.size); have Kb25 := KP.out _ b25)
          | (go_at_call 15; (with_reducible refine (H24.out _ _ _ _ _ (Ys2.out.up b23).ns).mono ?_); rintro e v24 ⟨P241, p241, P242, p242, rfl, ⟨n24x, _, _⟩, hb24⟩; have b24 : Below wz.heap.size wz v24 := b23.trans (hb24.mono b23.size); have Kb24 := KP.out _ b24)
          | (go_at_call 29; (with_reducible refine (H23.out _ _ _ _ _ n22x).mono ?_); rintro e v23 ⟨P231, p231, P232, p232, rfl, ⟨n23x, _, _⟩, hb23⟩; have b23 : Below wz.heap.size wz v23 := b22.trans (hb23.mono b22.size); have Kb23 := KP.out _ b23)
          | (go_at_call 29; (with_reducible refine (H22.out _ _ _ _ _ (Ys2.out.up b21).ns).mono ?_); rintro e v22 ⟨P221, p221, P222, p222, rfl, ⟨n22x, _, _⟩, hb22⟩; have b22 : Below wz.heap.size wz v22 := b21.trans (hb22.mono b21.size); have Kb22 := KP.out _ b22)
          | (go_at_call 14; (with_reducible refine (H21.out _ _ _ _ _ _ _ _ _ (n19x.up hb20) n20x).mono ?_); rintro e v21 ⟨rfl, hb21⟩; have b21 : Below wz.heap.size wz v21 := b20.trans (hb21.mono b20.size); have Kb21 := KP.out _ b21)
          | (go_at_call 15; (with_reducible refine (H20.out _ _ _ _ _ (Ys2.out.up b19).ns).mono ?_); rintro e v20 ⟨P201, p201, P202, p202, rfl, ⟨n20x, _, _⟩, hb20⟩; have b20 : Below wz.heap.size wz v20 := b19.trans (hb20.mono b19.size); have Kb20 := KP.out _ b20)
          | (go_at_call 27; (with_reducible refine (H19.out _ _ _ _ _ _ _ _ _ (Ys2.out.up b18).ns (Ya.out.up b18).ns).mono ?_); rintro e v19 ⟨P191, p191, P192, p192, rfl, ⟨n19x, _, _⟩, hb19⟩; have b19 : Below wz.heap.size wz v19 := b18.trans (hb19.mono b18.size); have Kb19 := KP.out _ b19)
          | (go_at_call 14; (with_reducible refine (H18.out _ _ _ _ _ _ _ _ _ (n16x.up hb17) n17x).mono ?_); rintro e v18 ⟨rfl, hb18⟩; have b18 : Below wz.heap.size wz v18 := b17.trans (hb18.mono b17.size); have Kb18 := KP.out _ b18)
          | (go_at_call 15; (with_reducible refine (H17.out _ _ _ _ _ (Ys2.out.up b16).ns).mono ?_); rintro e v17 ⟨P171, p171, P172, p172, rfl, ⟨n17x, _, _⟩, hb17⟩; have b17 : Below wz.heap.size wz v17 := b16.trans (hb17.mono b16.size); have Kb17 := KP.out _ b17)
          | (go_at_call 25; (with_reducible refine (H16.out _ _ _ _ _ _ _ _ _ (Ys2.out.up b15).ns (Yo.out.up b15).ns).mono ?_); rintro e v16 ⟨P161, p161, P162, p162, rfl, ⟨n16x, _, _⟩, hb16⟩; have b16 : Below wz.heap.size wz v16 := b15.trans (hb16.mono b15.size); have Kb16 := KP.out _ b16))
      clear H16 H17 H18 H19 H20 H21 H22 H23 H24 H25 H26 H27 H28 H29
      obtain ⟨q, hq⟩ : ∃ q, q = subB s t := ⟨_, rfl⟩
      go_upto_region 8 with fail
      have b30 : Below wz.heap.size wz v29.drew := b29.trans ((drewB v29).mono b29.size)
      have Kb30 := KP.out _ b30
      have H31 := Lib.hid (show ∀ (W : World) F1 f1 F2 f2 G1 g1 G2 g2, Ns W F1 f1 F2 f2 (s) → Ns W G1 g1 G2 g2 (t) → Calls Try.prog 33 #[nv F1 s.1.length f1 F2 s.2.length f2, nv G1 t.1.length g1 G2 t.2.length g2] W (EqIs q W) from fun W F1 f1 F2 f2 G1 g1 G2 g2 h k => by
        have h := subset_any F1 F2 G1 G2 f1 f2 g1 g2 (s) (t) W h k (HO.out.1.le (by omega)) (HO.out.2.1.le (by omega)); rw [← hq] at h; exact h)
      have H32 := Lib.hid (show ∀ (W : World) F1 f1 F2 f2, Ns W F1 f1 F2 f2 (s) → Calls Try.prog 15 #[nv F1 s.1.length f1 F2 s.2.length f2] W (GivesN (mk s) W) from fun W F1 f1 F2 f2 h => make_any F1 F2 f1 f2 (s) W h (HO.out.1.le (by omega)))
      have H33 := Lib.hid (show ∀ (W : World) F1 f1 F2 f2 G1 g1 G2 g2, Ns W F1 f1 F2 f2 (andd s t) → Ns W G1 g1 G2 g2 (mk s) → Calls Try.prog 14 #[nv F1 (andd s t).1.length f1 F2 (andd s t).2.length f2, nv G1 (mk s).1.length g1 G2 (mk s).2.length g2] W (EqIs q W) from fun W F1 f1 F2 f2 G1 g1 G2 g2 h k => by
        have h := same_any F1 F2 G1 G2 f1 f2 g1 g2 (andd s t) (mk s) W h k ((and_ok HO.out.1 HO.out.2.1).le (by omega)) ((mk_ok HO.out.1).le (by omega)); rw [eqN_dec, ← sub_and, ← hq] at h; exact h)
      have H34 := Lib.hid (show ∀ (W : World) F1 f1 F2 f2 G1 g1 G2 g2, Ns W F1 f1 F2 f2 (andd s t) → Ns W G1 g1 G2 g2 (s) → Calls Try.prog 33 #[nv F1 (andd s t).1.length f1 F2 (andd s t).2.length f2, nv G1 s.1.length g1 G2 s.2.length g2] W (EqIs true W) from fun W F1 f1 F2 f2 G1 g1 G2 g2 h k => by
        have h := subset_any F1 F2 G1 G2 f1 f2 g1 g2 (andd s t) (s) W h k ((and_ok HO.out.1 HO.out.2.1).le (by omega)) (HO.out.1.le (by omega)); rw [sub_and1] at h; exact h)
      have H35 := Lib.hid (show ∀ (W : World) F1 f1 F2 f2 G1 g1 G2 g2, Ns W F1 f1 F2 f2 (s) → Ns W G1 g1 G2 g2 (orr s t) → Calls Try.prog 33 #[nv F1 s.1.length f1 F2 s.2.length f2, nv G1 (orr s t).1.length g1 G2 (orr s t).2.length g2] W (EqIs true W) from fun W F1 f1 F2 f2 G1 g1 G2 g2 h k => by
        have h := subset_any F1 F2 G1 G2 f1 f2 g1 g2 (s) (orr s t) W h k (HO.out.1.le (by omega)) ((or_ok HO.out.1 HO.out.2.1).le (by omega)); rw [sub_or1] at h; exact h)
      have H36 := Lib.hid (show ∀ (W : World) F1 f1 F2 f2 G1 g1 G2 g2, Ns W F1 f1 F2 f2 (s) → Ns W G1 g1 G2 g2 (t) → Calls Try.prog 31 #[nv F1 s.1.length f1 F2 s.2.length f2, nv G1 t.1.length g1 G2 t.2.length g2] W (GivesN (minus s t) W) from fun W F1 f1 F2 f2 G1 g1 G2 g2 h k => minus_any F1 F2 G1 G2 f1 f2 g1 g2 (s) (t) W h k (HO.out.1.le (by omega)) (HO.out.2.1.le (by omega)))
      have H37 := Lib.hid (show ∀ (W : World) F1 f1 F2 f2, Ns W F1 f1 F2 f2 (t) → Calls Try.prog 29 #[nv F1 t.1.length f1 F2 t.2.length f2] W (GivesN (nt t) W) from fun W F1 f1 F2 f2 h => not_any F1 F2 f1 f2 (t) W h (HO.out.2.1.le (by omega)))
      have H38 := Lib.hid (show ∀ (W : World) F1 f1 F2 f2 G1 g1 G2 g2, Ns W F1 f1 F2 f2 (s) → Ns W G1 g1 G2 g2 (nt t) → Calls Try.prog 25 #[nv F1 s.1.length f1 F2 s.2.length f2, nv G1 (nt t).1.length g1 G2 (nt t).2.length g2] W (GivesN (andd s (nt t)) W) from fun W F1 f1 F2 f2 G1 g1 G2 g2 h k => and_any F1 F2 G1 G2 f1 f2 g1 g2 (s) (nt t) W h k (HO.out.1.le (by omega)) ((nt_ok HO.out.2.1).le (by omega)))
      have H39 := Lib.hid (show ∀ (W : World) F1 f1 F2 f2 G1 g1 G2 g2, Ns W F1 f1 F2 f2 (minus s t) → Ns W G1 g1 G2 g2 (andd s (nt t)) → Calls Try.prog 14 #[nv F1 (minus s t).1.length f1 F2 (minus s t).2.length f2, nv G1 (andd s (nt t)).1.length g1 G2 (andd s (nt t)).2.length g2] W (EqIs true W) from fun W F1 f1 F2 f2 G1 g1 G2 g2 h k => by
        have h := same_any F1 F2 G1 G2 f1 f2 g1 g2 (minus s t) (andd s (nt t)) W h k ((minus_ok HO.out.1 HO.out.2.1).le (by omega)) ((and_ok HO.out.1 (nt_ok HO.out.2.1)).le (by omega)); rw [eqN_dec, decide_eq_true (minus_and s t)] at h; exact h)
      clear hq
      cases q
      · go_region_held3 (fun w' => w'.cell? ⟨w.heap.size, 0, none⟩ = some (.slice A1 s.1.length c1) ∧ w'.cell? ⟨w.heap.size, 1, none⟩ = some (.slice A2 s.2.length c2) ∧ w'.cell? ⟨w.heap.size + 1, 0, none⟩ = some (.slice B1 t.1.length d1) ∧ w'.cell? ⟨w.heap.size + 1, 1, none⟩ = some (.slice B2 t.2.length d2) ∧ w'.cell? ⟨w.heap.size + 1 + 1, 0, none⟩ = some (.slice C1 r.1.length e1) ∧ w'.cell? ⟨w.heap.size + 1 + 1, 1, none⟩ = some (.slice C2 r.2.length e2) ∧ w'.cell? ⟨bo, 0, none⟩ = some (.slice Y1 (orr s t).1.length y1) ∧ w'.cell? ⟨bo, 1, none⟩ = some (.slice Y2 (orr s t).2.length y2) ∧ w'.cell? ⟨ba, 0, none⟩ = some (.slice X1 (andd s t).1.length x1) ∧ w'.cell? ⟨ba, 1, none⟩ = some (.slice X2 (andd s t).2.length x2) ∧ Below wz.heap.size wz w')
          (first | assumption | exact KP.out _ (Below.refl _ _) | exact Kb40 | exact Kb39 | exact Kb38 | exact Kb37 | exact Kb36 | exact Kb35 | exact Kb34 | exact Kb33 | exact Kb32 | exact Kb31 | exact Kb30)
          (first
            | (go_at_call 13; (with_reducible refine (HAl.out _).mono ?_); rintro e v40 ⟨rfl, hb40⟩; have b40 : Below wz.heap.size wz v40 := b39.trans (hb40.mono b39.size); have Kb40 := KP.out _ b40)
            | (go_at_call 14; (with_reducible refine (H39.out _ _ _ _ _ _ _ _ _ (n36x.up (hb37.trans (hb38.mono hb37.size))) n38x).mono ?_); rintro e v39 ⟨rfl, hb39⟩; have b39 : Below wz.heap.size wz v39 := b38.trans (hb39.mono b38.size); have Kb39 := KP.out _ b39)
            | (go_at_call 25; (with_reducible refine (H38.out _ _ _ _ _ _ _ _ _ (Ys2.out.up b37).ns n37x).mono ?_); rintro e v38 ⟨P381, p381, P382, p382, rfl, ⟨n38x, _, _⟩, hb38⟩; have b38 : Below wz.heap.size wz v38 := b37.trans (hb38.mono b37.size); have Kb38 := KP.out _ b38)
            | (go_at_call 29; (with_reducible refine (H37.out _ _ _ _ _ (Yt2.out.up b36).ns).mono ?_); rintro e v37 ⟨P371, p371, P372, p372, rfl, ⟨n37x, _, _⟩, hb37⟩; have b37 : Below wz.heap.size wz v37 := b36.trans (hb37.mono b36.size); have Kb37 := KP.out _ b37)
            | (go_at_call 31; (with_reducible refine (H36.out _ _ _ _ _ _ _ _ _ (Ys2.out.up b35).ns (Yt2.out.up b35).ns).mono ?_); rintro e v36 ⟨P361, p361, P362, p362, rfl, ⟨n36x, _, _⟩, hb36⟩; have b36 : Below wz.heap.size wz v36 := b35.trans (hb36.mono b35.size); have Kb36 := KP.out _ b36)
            | (go_at_call 33; (with_reducible refine (H35.out _ _ _ _ _ _ _ _ _ (Ys2.out.up b34).ns (Yo.out.up b34).ns).mono ?_); rintro e v35 ⟨rfl, hb35⟩; have b35 : Below wz.heap.size wz v35 := b34.trans (hb35.mono b34.size); have Kb35 := KP.out _ b35)
            | (go_at_call 33; (with_reducible refine (H34.out _ _ _ _ _ _ _ _ _ (Ya.out.up b33).ns (Ys2.out.up b33).ns).mono ?_); rintro e v34 ⟨rfl, hb34⟩; have b34 : Below wz.heap.size wz v34 := b33.trans (hb34.mono b33.size); have Kb34 := KP.out _ b34)
            | (go_at_call 14; (with_reducible refine (H33.out _ _ _ _ _ _ _ _ _ (Ya.out.up b32).ns n32x).mono ?_); rintro e v33 ⟨rfl, hb33⟩; have b33 : Below wz.heap.size wz v33 := b32.trans (hb33.mono b32.size); have Kb33 := KP.out _ b33)
            | (go_at_call 15; (with_reducible refine (H32.out _ _ _ _ _ (Ys2.out.up b31).ns).mono ?_); rintro e v32 ⟨P321, p321, P322, p322, rfl, ⟨n32x, _, _⟩, hb32⟩; have b32 : Below wz.heap.size wz v32 := b31.trans (hb32.mono b31.size); have Kb32 := KP.out _ b32)
            | (go_at_call 33; (with_reducible refine (H31.out _ _ _ _ _ _ _ _ _ (Ys2.out.up b30).ns (Yt2.out.up b30).ns).mono ?_); rintro e v31 ⟨rfl, hb31⟩; have b31 : Below wz.heap.size wz v31 := b30.trans (hb31.mono b30.size); have Kb31 := KP.out _ b31))
        go_wp2_with fail
        refine bodyPost_ret (v := .bool true) (by simp [results, Try.results8, go_sem]) rfl ?_
        exact ⟨rfl, HD2.out.trans (b40.mono HD2.out.size)⟩
      · go_region_held3 (fun w' => w'.cell? ⟨w.heap.size, 0, none⟩ = some (.slice A1 s.1.length c1) ∧ w'.cell? ⟨w.heap.size, 1, none⟩ = some (.slice A2 s.2.length c2) ∧ w'.cell? ⟨w.heap.size + 1, 0, none⟩ = some (.slice B1 t.1.length d1) ∧ w'.cell? ⟨w.heap.size + 1, 1, none⟩ = some (.slice B2 t.2.length d2) ∧ w'.cell? ⟨w.heap.size + 1 + 1, 0, none⟩ = some (.slice C1 r.1.length e1) ∧ w'.cell? ⟨w.heap.size + 1 + 1, 1, none⟩ = some (.slice C2 r.2.length e2) ∧ w'.cell? ⟨bo, 0, none⟩ = some (.slice Y1 (orr s t).1.length y1) ∧ w'.cell? ⟨bo, 1, none⟩ = some (.slice Y2 (orr s t).2.length y2) ∧ w'.cell? ⟨ba, 0, none⟩ = some (.slice X1 (andd s t).1.length x1) ∧ w'.cell? ⟨ba, 1, none⟩ = some (.slice X2 (andd s t).2.length x2) ∧ Below wz.heap.size wz w')
          (first | assumption | exact KP.out _ (Below.refl _ _) | exact Kb40 | exact Kb39 | exact Kb38 | exact Kb37 | exact Kb36 | exact Kb35 | exact Kb34 | exact Kb33 | exact Kb32 | exact Kb31 | exact Kb30)
          (first
            | (go_at_call 13; (with_reducible refine (HAl.out _).mono ?_); rintro e v40 ⟨rfl, hb40⟩; have b40 : Below wz.heap.size wz v40 := b39.trans (hb40.mono b39.size); have Kb40 := KP.out _ b40)
            | (go_at_call 14; (with_reducible refine (H39.out _ _ _ _ _ _ _ _ _ (n36x.up (hb37.trans (hb38.mono hb37.size))) n38x).mono ?_); rintro e v39 ⟨rfl, hb39⟩; have b39 : Below wz.heap.size wz v39 := b38.trans (hb39.mono b38.size); have Kb39 := KP.out _ b39)
            | (go_at_call 25; (with_reducible refine (H38.out _ _ _ _ _ _ _ _ _ (Ys2.out.up b37).ns n37x).mono ?_); rintro e v38 ⟨P381, p381, P382, p382, rfl, ⟨n38x, _, _⟩, hb38⟩; have b38 : Below wz.heap.size wz v38 := b37.trans (hb38.mono b37.size); have Kb38 := KP.out _ b38)
            | (go_at_call 29; (with_reducible refine (H37.out _ _ _ _ _ (Yt2.out.up b36).ns).mono ?_); rintro e v37 ⟨P371, p371, P372, p372, rfl, ⟨n37x, _, _⟩, hb37⟩; have b37 : Below wz.heap.size wz v37 := b36.trans (hb37.mono b36.size); have Kb37 := KP.out _ b37)
            | (go_at_call 31; (with_reducible refine (H36.out _ _ _ _ _ _ _ _ _ (Ys2.out.up b35).ns (Yt2.out.up b35).ns).mono ?_); rintro e v36 ⟨P361, p361, P362, p362, rfl, ⟨n36x, _, _⟩, hb36⟩; have b36 : Below wz.heap.size wz v36 := b35.trans (hb36.mono b35.size); have Kb36 := KP.out _ b36)
            | (go_at_call 33; (with_reducible refine (H35.out _ _ _ _ _ _ _ _ _ (Ys2.out.up b34).ns (Yo.out.up b34).ns).mono ?_); rintro e v35 ⟨rfl, hb35⟩; have b35 : Below wz.heap.size wz v35 := b34.trans (hb35.mono b34.size); have Kb35 := KP.out _ b35)
            | (go_at_call 33; (with_reducible refine (H34.out _ _ _ _ _ _ _ _ _ (Ya.out.up b33).ns (Ys2.out.up b33).ns).mono ?_); rintro e v34 ⟨rfl, hb34⟩; have b34 : Below wz.heap.size wz v34 := b33.trans (hb34.mono b33.size); have Kb34 := KP.out _ b34)
            | (go_at_call 14; (with_reducible refine (H33.out _ _ _ _ _ _ _ _ _ (Ya.out.up b32).ns n32x).mono ?_); rintro e v33 ⟨rfl, hb33⟩; have b33 : Below wz.heap.size wz v33 := b32.trans (hb33.mono b32.size); have Kb33 := KP.out _ b33)
            | (go_at_call 15; (with_reducible refine (H32.out _ _ _ _ _ (Ys2.out.up b31).ns).mono ?_); rintro e v32 ⟨P321, p321, P322, p322, rfl, ⟨n32x, _, _⟩, hb32⟩; have b32 : Below wz.heap.size wz v32 := b31.trans (hb32.mono b31.size); have Kb32 := KP.out _ b32)
            | (go_at_call 33; (with_reducible refine (H31.out _ _ _ _ _ _ _ _ _ (Ys2.out.up b30).ns (Yt2.out.up b30).ns).mono ?_); rintro e v31 ⟨rfl, hb31⟩; have b31 : Below wz.heap.size wz v31 := b30.trans (hb31.mono b30.size); have Kb31 := KP.out _ b31))
        go_wp2_with fail
        refine bodyPost_ret (v := .bool true) (by simp [results, Try.results8, go_sem]) rfl ?_
        exact ⟨rfl, HD2.out.trans (b40.mono HD2.out.size)⟩
end Go.Proofs.Yteekccjfokoglaa
