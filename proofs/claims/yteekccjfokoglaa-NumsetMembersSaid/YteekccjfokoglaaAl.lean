/-
  NumsetMembers out of what the law's alive gives.
-/
import Derived.Test.YteekccjfokoglaaAg
import Derived.Test.YteekccjfokoglaaAj
namespace Go.Proofs.Yteekccjfokoglaa
open Go.RowKit Go.Sort Go.Lib Go.Proofs
set_option linter.unusedSimpArgs false
set_option linter.unnecessarySimpa false
set_option linter.unusedVariables false
/-- what the operations of region 4 do -/
def planM (A1 A2 B1 B2 : Option Addr) (c1 c2 d1 d2 : Nat) (s t : NS) : Nat → Pl
  | 0 => .load (nv A1 s.1.length c1 A2 s.2.length c2)
  | 1 => .load (nv B1 t.1.length d1 B2 t.2.length d2)
  | 2 => .call (andd s t)
  | 3 => .load (nv A1 s.1.length c1 A2 s.2.length c2)
  | 4 => .load (nv B1 t.1.length d1 B2 t.2.length d2)
  | 5 => .call (orr s t)
  | 6 => .load (nv A1 s.1.length c1 A2 s.2.length c2)
  | 7 => .call (nt s)
  | 8 => .load (nv A1 s.1.length c1 A2 s.2.length c2)
  | 9 => .load (nv B1 t.1.length d1 B2 t.2.length d2)
  | 10 => .call (minus s t)
  | 11 => .alloc 15 (andd s t)
  | 12 => .alloc 16 (orr s t)
  | 13 => .alloc 17 (nt s)
  | 14 => .alloc 18 (minus s t)
  | _ => .store
def dstM (i : Nat) : Nat := [29, 30, 31, 32, 33, 34, 35, 36, 37, 38, 39, 10, 11, 12, 13, 1015, 1016, 1017, 1018].getD i 0
theorem planM_ok (A1 A2 B1 B2 : Option Addr) (c1 c2 d1 d2 : Nat) (s t : NS) : PlOK 19 (planM A1 A2 B1 B2 c1 c2 d1 d2 s t) dstM where
  out j h := by match j, h with | j + 19, _ => rfl
  inj := by
    have : ∀ i, i < 19 → ∀ j, j < 19 → i ≠ j → dstM i ≠ dstM j := by decide
    exact fun i j hi hj hn => this i hi j hj hn
  sts j st S h := by
    match j, h with
    | 11, h => cases h; rfl
    | 12, h => cases h; rfl
    | 13, h => cases h; rfl
    | 14, h => cases h; rfl
  one j k st S S' h h' := by
    match j, k, h, h' with
    | 11, 11, _, _ => rfl
    | 11, 12, h, h2 => cases h; cases h2
    | 11, 13, h, h2 => cases h; cases h2
    | 11, 14, h, h2 => cases h; cases h2
    | 12, 11, h, h2 => cases h; cases h2
    | 12, 12, _, _ => rfl
    | 12, 13, h, h2 => cases h; cases h2
    | 12, 14, h, h2 => cases h; cases h2
    | 13, 11, h, h2 => cases h; cases h2
    | 13, 12, h, h2 => cases h; cases h2
    | 13, 13, _, _ => rfl
    | 13, 14, h, h2 => cases h; cases h2
    | 14, 11, h, h2 => cases h; cases h2
    | 14, 12, h, h2 => cases h; cases h2
    | 14, 13, h, h2 => cases h; cases h2
    | 14, 14, _, _ => rfl
set_option maxRecDepth 100000 in
set_option maxHeartbeats 2000000 in
theorem members_few (A1 A2 B1 B2 : Option Addr) (c1 c2 d1 d2 : Nat) (s t : NS) (u : Int) (w : World) (hs : Ns w A1 c1 A2 c2 s) (ht : Ns w B1 d1 B2 d2 t)
    (HAl : Hid (∀ W, Calls Try.prog 13 #[] W (EqIs true W)))
    (gs : okE s) (gt : okE t) (hu : i64ok u) : Calls Try.prog 7 #[nv A1 s.1.length c1 A2 s.2.length c2, nv B1 t.1.length d1 B2 t.2.length d2, .int .i64 u] w (EqIs true w) := by
  obtain ⟨hb0, hx1, hx2⟩ := box2 hs ht
  have HF := few2 A1 s.1.length c1 A2 s.2.length c2 B1 t.1.length d1 B2 t.2.length d2 (w2s w A1 s.1.length c1 A2 s.2.length c2 B1 t.1.length d1 B2 t.2.length d2)
  have hz : (w2s w A1 s.1.length c1 A2 s.2.length c2 B1 t.1.length d1 B2 t.2.length d2).heap.size = w.heap.size + 1 + 1 := by simp [w2s]
  have hbF := hb0.trans ((bal (w2s w A1 s.1.length c1 A2 s.2.length c2 B1 t.1.length d1 B2 t.2.length d2) (.cells #[.slice A1 s.1.length c1, .slice A2 s.2.length c2, .slice B1 t.1.length d1, .slice B2 t.2.length d2] 24)).mono hb0.size)
  have Xs := Lib.hid (hx1.up (bal _ (.cells #[.slice A1 s.1.length c1, .slice A2 s.2.length c2, .slice B1 t.1.length d1, .slice B2 t.2.length d2] 24)))
  have Xt := Lib.hid (hx2.up (bal _ (.cells #[.slice A1 s.1.length c1, .slice A2 s.2.length c2, .slice B1 t.1.length d1, .slice B2 t.2.length d2] 24)))
  rw [hz] at HF
  have HF' := Lib.hid HF
  clear HF
  have HB := Lib.hid hbF
  obtain ⟨fw, hfw⟩ : ∃ fw, fw = fewL [⟨A1, s.1.length, c1, A2, s.2.length, c2⟩, ⟨B1, t.1.length, d1, B2, t.2.length, d2⟩] := ⟨_, rfl⟩
  rw [← hfw] at HF'
  have HW := Lib.hid hfw
  have HU := Lib.hid hu
  unfold w2s at *
  clear hx1 hx2 hz hb0 hbF hfw hs ht hu
  go_enter Try.func7, Try.ntmps7
  go_wp2_with fail
  refine HF'.out.mono ?_
  rintro e w1 ⟨rfl, hb1⟩
  have Ys0 := Lib.hid (Xs.out.up hb1)
  have Yt0 := Lib.hid (Xt.out.up hb1)
  have HD := Lib.hid (HB.out.trans (hb1.mono HB.out.size))
  clear hb1 HB Xs Xt HF'
  cases fw
  · go_wp2_with fail
    refine (HAl.out _).mono ?_
    rintro e w2 ⟨rfl, hb2⟩
    go_wp2_with fail
    refine bodyPost_ret (v := .bool true) (by simp [results, Try.results7, go_sem]) rfl ?_
    exact ⟨rfl, HD.out.trans (hb2.mono HD.out.size)⟩
  · have hfw := HW.out
    have Os : okN 8 s := gs.few (A1 := A1) (c1 := c1) (A2 := A2) (c2 := c2) (List.all_eq_true.1 hfw.symm _ (by simp [sl2]))
    have Ot : okN 8 t := gt.few (A1 := B1) (c1 := d1) (A2 := B2) (c2 := d2) (List.all_eq_true.1 hfw.symm _ (by simp [sl2]))
    clear hfw gs gt HW
    have HO := Lib.hid (And.intro Os Ot)
    clear Os Ot
    have KP1 := Lib.hid (show ∀ W : World, Below w1.heap.size w1 W → W.cell? ⟨w.heap.size, 0, none⟩ = some (.slice A1 s.1.length c1) ∧ W.cell? ⟨w.heap.size, 1, none⟩ = some (.slice A2 s.2.length c2) ∧ W.cell? ⟨w.heap.size + 1, 0, none⟩ = some (.slice B1 t.1.length d1) ∧ W.cell? ⟨w.heap.size + 1, 1, none⟩ = some (.slice B2 t.2.length d2) ∧ Below w1.heap.size w1 W from fun W hb => ⟨(Ys0.out.up hb).1, (Ys0.out.up hb).2.1, (Yt0.out.up hb).1, (Yt0.out.up hb).2.1, hb⟩)
    obtain ⟨x, hx⟩ : ∃ x, x = hasB s u := ⟨_, rfl⟩
    obtain ⟨y, hy⟩ : ∃ y, y = hasB t u := ⟨_, rfl⟩
    obtain ⟨v, hv⟩ : ∃ v, v = vld u := ⟨_, rfl⟩
    have G1 := Lib.hid (show ∀ (W : World) F1 f1 F2 f2, Ns W F1 f1 F2 f2 (s) → Calls Try.prog 19 #[nv F1 s.1.length f1 F2 s.2.length f2, .int .i64 u] W (EqIs x W) from fun W F1 f1 F2 f2 h => by
      have h := has_any F1 F2 f1 f2 (s) u W h (HO.out.1.le (by omega)) HU.out; rw [← hx] at h; exact h)
    have G2 := Lib.hid (show ∀ (W : World) F1 f1 F2 f2, Ns W F1 f1 F2 f2 (t) → Calls Try.prog 19 #[nv F1 t.1.length f1 F2 t.2.length f2, .int .i64 u] W (EqIs y W) from fun W F1 f1 F2 f2 h => by
      have h := has_any F1 F2 f1 f2 (t) u W h (HO.out.2.le (by omega)) HU.out; rw [← hy] at h; exact h)
    have G4 := Lib.hid (show ∀ (W : World) F1 f1 F2 f2, Ns W F1 f1 F2 f2 (allS) → Calls Try.prog 19 #[nv F1 allS.1.length f1 F2 allS.2.length f2, .int .i64 u] W (EqIs v W) from fun W F1 f1 F2 f2 h => by
      have h := has_any F1 F2 f1 f2 (allS) u W h (all_ok.le (by omega)) HU.out; rw [has_all, ← hv] at h; exact h)
    have G3 := Lib.hid (fun W : World => all_any W)
    have HX := Lib.hid hx
    have HY := Lib.hid hy
    have HV := Lib.hid hv
    have HCs : (u < -1000000000000000 ∧ x = false ∧ y = false ∧ v = false) ∨ (1000000000000000 < u ∧ x = false ∧ y = false ∧ v = false) ∨ ((-1000000000000000 ≤ u ∧ u ≤ 1000000000000000) ∧ v = true) := by
      by_cases h1 : u < -1000000000000000
      · have hn : vld u = false := by rw [Bool.eq_false_iff]; intro h; rw [vld_iff] at h; omega
        exact .inl ⟨h1, by rw [hx]; unfold hasB; rw [hn]; rfl, by rw [hy]; unfold hasB; rw [hn]; rfl, by rw [hv, hn]⟩
      · by_cases h2 : 1000000000000000 < u
        · have hn : vld u = false := by rw [Bool.eq_false_iff]; intro h; rw [vld_iff] at h; omega
          exact .inr (.inl ⟨h2, by rw [hx]; unfold hasB; rw [hn]; rfl, by rw [hy]; unfold hasB; rw [hn]; rfl, by rw [hv, hn]⟩)
        · exact .inr (.inr ⟨⟨by omega, by omega⟩, by rw [hv, vld_iff]; omega⟩)
    have HC := Lib.hid HCs
    clear HCs hx hy hv
    go_upto_region 3 with fail
    have b0 : Below w1.heap.size w1 w1.drew := drewB w1
    have Kb0 := KP1.out _ b0
    go_region_held3 (fun w' => w'.cell? ⟨w.heap.size, 0, none⟩ = some (.slice A1 s.1.length c1) ∧ w'.cell? ⟨w.heap.size, 1, none⟩ = some (.slice A2 s.2.length c2) ∧ w'.cell? ⟨w.heap.size + 1, 0, none⟩ = some (.slice B1 t.1.length d1) ∧ w'.cell? ⟨w.heap.size + 1, 1, none⟩ = some (.slice B2 t.2.length d2) ∧ Below w1.heap.size w1 w')
      (first | assumption | exact KP1.out _ (Below.refl _ _) | exact Kb4 | exact Kb3 | exact Kb2 | exact Kb1 | exact Kb0)
      (first
        | (go_at_call 19; (with_reducible refine (G4.out _ _ _ _ _ n3x).mono ?_); rintro e v4 ⟨rfl, hb4⟩; have b4 : Below w1.heap.size w1 v4 := b3.trans (hb4.mono b3.size); have Kb4 := KP1.out _ b4)
        | (go_at_call 21; (with_reducible refine (G3.out _).mono ?_); rintro e v3 ⟨P1, p1, P2, p2, rfl, ⟨n3x, _, _⟩, hb3⟩; have b3 : Below w1.heap.size w1 v3 := b2.trans (hb3.mono b2.size); have Kb3 := KP1.out _ b3)
        | (go_at_call 19; (with_reducible refine (G2.out _ _ _ _ _ (Yt0.out.up b1).ns).mono ?_); rintro e v2 ⟨rfl, hb2⟩; have b2 : Below w1.heap.size w1 v2 := b1.trans (hb2.mono b1.size); have Kb2 := KP1.out _ b2)
        | (go_at_call 19; (with_reducible refine (G1.out _ _ _ _ _ (Ys0.out.up b0).ns).mono ?_); rintro e v1 ⟨rfl, hb1⟩; have b1 : Below w1.heap.size w1 v1 := b0.trans (hb1.mono b0.size); have Kb1 := KP1.out _ b1))
    have Ys := Lib.hid (Ys0.out.up b4)
    have Yt := Lib.hid (Yt0.out.up b4)
    have HD1 := Lib.hid (HD.out.trans (b4.mono HD.out.size))
    clear HD Ys0 Yt0 KP1 G1 G2 G3 G4 b0 b1 b2 b3 b4 Kb0 Kb1 Kb2 Kb3 Kb4 hb1 hb2 hb3 hb4 n3x
    obtain ⟨wr, rfl⟩ : ∃ wr, wr = v4 := ⟨v4, rfl⟩
    go_upto_region 4 with fail
    have HPO := Lib.hid (planM_ok A1 A2 B1 B2 c1 c2 d1 d2 s t)
    have HAn := Lib.hid (show ∀ W : World, Ns W A1 c1 A2 c2 s → Ns W B1 d1 B2 d2 t → Calls Try.prog 25 #[nv A1 s.1.length c1 A2 s.2.length c2, nv B1 t.1.length d1 B2 t.2.length d2] W (GivesN (andd s t) W) from fun W h k => and_any A1 A2 B1 B2 c1 c2 d1 d2 s t W h k (HO.out.1.le (by omega)) (HO.out.2.le (by omega)))
    have HOr := Lib.hid (show ∀ W : World, Ns W A1 c1 A2 c2 s → Ns W B1 d1 B2 d2 t → Calls Try.prog 27 #[nv A1 s.1.length c1 A2 s.2.length c2, nv B1 t.1.length d1 B2 t.2.length d2] W (GivesN (orr s t) W) from fun W h k => or_any A1 A2 B1 B2 c1 c2 d1 d2 s t W h k (HO.out.1.le (by omega)) (HO.out.2.le (by omega)))
    have HMi := Lib.hid (show ∀ W : World, Ns W A1 c1 A2 c2 s → Ns W B1 d1 B2 d2 t → Calls Try.prog 31 #[nv A1 s.1.length c1 A2 s.2.length c2, nv B1 t.1.length d1 B2 t.2.length d2] W (GivesN (minus s t) W) from fun W h k => minus_any A1 A2 B1 B2 c1 c2 d1 d2 s t W h k (HO.out.1.le (by omega)) (HO.out.2.le (by omega)))
    have HNt := Lib.hid (show ∀ W : World, Ns W A1 c1 A2 c2 s → Calls Try.prog 29 #[nv A1 s.1.length c1 A2 s.2.length c2] W (GivesN (nt s) W) from fun W h => not_any A1 A2 c1 c2 s W h (HO.out.1.le (by omega)))
    refine wp_region_F [29, 30, 31, 32, 33, 34, 35, 36, 37, 38, 39, 10, 11, 12, 13] (RInv wr (planM A1 A2 B1 B2 c1 c2 d1 d2 s t) dstM) rfl (by kernel_rfl) (by kernel_rfl) (RInv.start _ _ _ _ (drewB wr)) ?_ ?_
    · intro i o ho L f W hI hL hd K' hK
      have hi : i < 19 := (Array.getElem?_eq_some_iff.1 ho).1
      rcases (show i = 0 ∨ i = 1 ∨ i = 2 ∨ i = 3 ∨ i = 4 ∨ i = 5 ∨ i = 6 ∨ i = 7 ∨ i = 8 ∨ i = 9 ∨ i = 10 ∨ i = 11 ∨ i = 12 ∨ i = 13 ∨ i = 14 ∨ i = 15 ∨ i = 16 ∨ i = 17 ∨ i = 18 by omega) with rfl | rfl | rfl | rfl | rfl | rfl | rfl | rfl | rfl | rfl | rfl | rfl | rfl | rfl | rfl | rfl | rfl | rfl | rfl <;> simp only [List.getElem?_toArray, List.getElem?_cons_succ, List.getElem?_cons_zero, Option.some.injEq] at ho <;> subst ho
      · refine wp_load24 3 rfl (w.heap.size) A1 s.1.length c1 A2 s.2.length c2 ((eval_out rfl).trans rfl) (Ys.out.up hI.bel).1 (Ys.out.up hI.bel).2.1 (hK _ _ ?_)
        exact hI.step HPO.out (by decide) (fun h => by cases h) (Below.refl _ _) rfl (fun j sj Sj si Si _ h => by cases h)
      · refine wp_load24 4 rfl (w.heap.size + 1) B1 t.1.length d1 B2 t.2.length d2 ((eval_out rfl).trans rfl) (Yt.out.up hI.bel).1 (Yt.out.up hI.bel).2.1 (hK _ _ ?_)
        exact hI.step HPO.out (by decide) (fun h => by cases h) (Below.refl _ _) rfl (fun j sj Sj si Si _ h => by cases h)
      · have ha : f 29 = nv A1 s.1.length c1 A2 s.2.length c2 := hI.spec 0 (hd 0 (by decide))
        have hb : f 30 = nv B1 t.1.length d1 B2 t.2.length d2 := hI.spec 1 (hd 1 (by decide))
        refine wp_call25 29 30 rfl _ _ ((eval_in rfl (of_decide_eq_true rfl)).trans ha) ((eval_in rfl (of_decide_eq_true rfl)).trans hb) (HAn.out W (Ys.out.up hI.bel).ns (Yt.out.up hI.bel).ns) ?_
        rintro e W' ⟨X1, x1, X2, x2, rfl, ⟨hn, _, _⟩, hbb⟩
        exact ⟨_, rfl, hK _ _ (hI.step HPO.out (by decide) (fun h => by cases h) hbb ⟨X1, x1, X2, x2, rfl, hn⟩ (fun j sj Sj si Si _ h => by cases h))⟩
      · refine wp_load24 3 rfl (w.heap.size) A1 s.1.length c1 A2 s.2.length c2 ((eval_out rfl).trans rfl) (Ys.out.up hI.bel).1 (Ys.out.up hI.bel).2.1 (hK _ _ ?_)
        exact hI.step HPO.out (by decide) (fun h => by cases h) (Below.refl _ _) rfl (fun j sj Sj si Si _ h => by cases h)
      · refine wp_load24 4 rfl (w.heap.size + 1) B1 t.1.length d1 B2 t.2.length d2 ((eval_out rfl).trans rfl) (Yt.out.up hI.bel).1 (Yt.out.up hI.bel).2.1 (hK _ _ ?_)
        exact hI.step HPO.out (by decide) (fun h => by cases h) (Below.refl _ _) rfl (fun j sj Sj si Si _ h => by cases h)
      · have ha : f 32 = nv A1 s.1.length c1 A2 s.2.length c2 := hI.spec 3 (hd 3 (by decide))
        have hb : f 33 = nv B1 t.1.length d1 B2 t.2.length d2 := hI.spec 4 (hd 4 (by decide))
        refine wp_call27 32 33 rfl _ _ ((eval_in rfl (of_decide_eq_true rfl)).trans ha) ((eval_in rfl (of_decide_eq_true rfl)).trans hb) (HOr.out W (Ys.out.up hI.bel).ns (Yt.out.up hI.bel).ns) ?_
        rintro e W' ⟨X1, x1, X2, x2, rfl, ⟨hn, _, _⟩, hbb⟩
        exact ⟨_, rfl, hK _ _ (hI.step HPO.out (by decide) (fun h => by cases h) hbb ⟨X1, x1, X2, x2, rfl, hn⟩ (fun j sj Sj si Si _ h => by cases h))⟩
      · refine wp_load24 3 rfl (w.heap.size) A1 s.1.length c1 A2 s.2.length c2 ((eval_out rfl).trans rfl) (Ys.out.up hI.bel).1 (Ys.out.up hI.bel).2.1 (hK _ _ ?_)
        exact hI.step HPO.out (by decide) (fun h => by cases h) (Below.refl _ _) rfl (fun j sj Sj si Si _ h => by cases h)
      · have ha : f 35 = nv A1 s.1.length c1 A2 s.2.length c2 := hI.spec 6 (hd 6 (by decide))
        refine wp_call29 35 rfl _ ((eval_in rfl (of_decide_eq_true rfl)).trans ha) (HNt.out W (Ys.out.up hI.bel).ns) ?_
        rintro e W' ⟨X1, x1, X2, x2, rfl, ⟨hn, _, _⟩, hbb⟩
        exact ⟨_, rfl, hK _ _ (hI.step HPO.out (by decide) (fun h => by cases h) hbb ⟨X1, x1, X2, x2, rfl, hn⟩ (fun j sj Sj si Si _ h => by cases h))⟩
      · refine wp_load24 3 rfl (w.heap.size) A1 s.1.length c1 A2 s.2.length c2 ((eval_out rfl).trans rfl) (Ys.out.up hI.bel).1 (Ys.out.up hI.bel).2.1 (hK _ _ ?_)
        exact hI.step HPO.out (by decide) (fun h => by cases h) (Below.refl _ _) rfl (fun j sj Sj si Si _ h => by cases h)
      · refine wp_load24 4 rfl (w.heap.size + 1) B1 t.1.length d1 B2 t.2.length d2 ((eval_out rfl).trans rfl) (Yt.out.up hI.bel).1 (Yt.out.up hI.bel).2.1 (hK _ _ ?_)
        exact hI.step HPO.out (by decide) (fun h => by cases h) (Below.refl _ _) rfl (fun j sj Sj si Si _ h => by cases h)
      · have ha : f 37 = nv A1 s.1.length c1 A2 s.2.length c2 := hI.spec 8 (hd 8 (by decide))
        have hb : f 38 = nv B1 t.1.length d1 B2 t.2.length d2 := hI.spec 9 (hd 9 (by decide))
        refine wp_call31 37 38 rfl _ _ ((eval_in rfl (of_decide_eq_true rfl)).trans ha) ((eval_in rfl (of_decide_eq_true rfl)).trans hb) (HMi.out W (Ys.out.up hI.bel).ns (Yt.out.up hI.bel).ns) ?_
        rintro e W' ⟨X1, x1, X2, x2, rfl, ⟨hn, _, _⟩, hbb⟩
        exact ⟨_, rfl, hK _ _ (hI.step HPO.out (by decide) (fun h => by cases h) hbb ⟨X1, x1, X2, x2, rfl, hn⟩ (fun j sj Sj si Si _ h => by cases h))⟩
      · exact wp_alloc24 rfl (hK _ _ (hI.alloc HPO.out (by decide) rfl hL))
      · exact wp_alloc24 rfl (hK _ _ (hI.alloc HPO.out (by decide) rfl hL))
      · exact wp_alloc24 rfl (hK _ _ (hI.alloc HPO.out (by decide) rfl hL))
      · exact wp_alloc24 rfl (hK _ _ (hI.alloc HPO.out (by decide) rfl hL))
      · obtain ⟨b, X1, x1, X2, x2, Y1, m1, y1, Y2, m2, y2, q1, q2, q3, q4, q5, q6, hR⟩ := hI.store (i := 15) HPO.out rfl (k := 11) (c := 2) rfl rfl (hd 11 (by decide)) (hd 2 (by decide))
        exact wp_store24 10 31 rfl rfl b X1 _ x1 X2 _ x2 _ _ ((eval_in rfl (of_decide_eq_true rfl)).trans q1) ((eval_in rfl (of_decide_eq_true rfl)).trans q2) q3 q4 q5 q6 (hK undef _ hR)
      · obtain ⟨b, X1, x1, X2, x2, Y1, m1, y1, Y2, m2, y2, q1, q2, q3, q4, q5, q6, hR⟩ := hI.store (i := 16) HPO.out rfl (k := 12) (c := 5) rfl rfl (hd 12 (by decide)) (hd 5 (by decide))
        exact wp_store24 11 34 rfl rfl b X1 _ x1 X2 _ x2 _ _ ((eval_in rfl (of_decide_eq_true rfl)).trans q1) ((eval_in rfl (of_decide_eq_true rfl)).trans q2) q3 q4 q5 q6 (hK undef _ hR)
      · obtain ⟨b, X1, x1, X2, x2, Y1, m1, y1, Y2, m2, y2, q1, q2, q3, q4, q5, q6, hR⟩ := hI.store (i := 17) HPO.out rfl (k := 13) (c := 7) rfl rfl (hd 13 (by decide)) (hd 7 (by decide))
        exact wp_store24 12 36 rfl rfl b X1 _ x1 X2 _ x2 _ _ ((eval_in rfl (of_decide_eq_true rfl)).trans q1) ((eval_in rfl (of_decide_eq_true rfl)).trans q2) q3 q4 q5 q6 (hK undef _ hR)
      · obtain ⟨b, X1, x1, X2, x2, Y1, m1, y1, Y2, m2, y2, q1, q2, q3, q4, q5, q6, hR⟩ := hI.store (i := 18) HPO.out rfl (k := 14) (c := 10) rfl rfl (hd 14 (by decide)) (hd 10 (by decide))
        exact wp_store24 13 39 rfl rfl b X1 _ x1 X2 _ x2 _ _ ((eval_in rfl (of_decide_eq_true rfl)).trans q1) ((eval_in rfl (of_decide_eq_true rfl)).trans q2) q3 q4 q5 q6 (hK undef _ hR)
    · intro L f W hI hall
      have h11 := hI.spec 11 (hall 11 (of_decide_eq_true rfl))
      obtain ⟨ba, X1, x1, X2, x2, e10, hba, Y0⟩ := BO.byn h11 (hall 15 (of_decide_eq_true rfl))
      have Ya := Lib.hid Y0
      replace e10 : f 10 = .pointer (some ⟨ba, 0, none⟩) := e10
      clear h11 hba Y0
      have h12 := hI.spec 12 (hall 12 (of_decide_eq_true rfl))
      obtain ⟨bo, Y1, y1, Y2, y2, e11, hba, Y0⟩ := BO.byn h12 (hall 16 (of_decide_eq_true rfl))
      have Yo := Lib.hid Y0
      replace e11 : f 11 = .pointer (some ⟨bo, 0, none⟩) := e11
      clear h12 hba Y0
      have h13 := hI.spec 13 (hall 13 (of_decide_eq_true rfl))
      obtain ⟨bn, N1, y3, N2, y4, e12, hba, Y0⟩ := BO.byn h13 (hall 17 (of_decide_eq_true rfl))
      have Yn := Lib.hid Y0
      replace e12 : f 12 = .pointer (some ⟨bn, 0, none⟩) := e12
      clear h13 hba Y0
      have h14 := hI.spec 14 (hall 14 (of_decide_eq_true rfl))
      obtain ⟨bm, U1, y5, U2, y6, e13, hba, Y0⟩ := BO.byn h14 (hall 18 (of_decide_eq_true rfl))
      have Ym := Lib.hid Y0
      replace e13 : f 13 = .pointer (some ⟨bm, 0, none⟩) := e13
      clear h14 hba Y0
      have Ys2 := Lib.hid (Ys.out.up hI.bel)
      have Yt2 := Lib.hid (Yt.out.up hI.bel)
      have HD2 := Lib.hid (HD1.out.trans (hI.bel.mono HD1.out.size))
      clear hall hI HPO HAn HOr HMi HNt Ys Yt HD1
      obtain ⟨wz, rfl⟩ : ∃ wz, wz = W := ⟨W, rfl⟩
      have KP := Lib.hid (show ∀ W : World, Below wz.heap.size wz W → W.cell? ⟨w.heap.size, 0, none⟩ = some (.slice A1 s.1.length c1) ∧ W.cell? ⟨w.heap.size, 1, none⟩ = some (.slice A2 s.2.length c2) ∧ W.cell? ⟨w.heap.size + 1, 0, none⟩ = some (.slice B1 t.1.length d1) ∧ W.cell? ⟨w.heap.size + 1, 1, none⟩ = some (.slice B2 t.2.length d2) ∧ W.cell? ⟨ba, 0, none⟩ = some (.slice X1 (andd s t).1.length x1) ∧ W.cell? ⟨ba, 1, none⟩ = some (.slice X2 (andd s t).2.length x2) ∧ W.cell? ⟨bo, 0, none⟩ = some (.slice Y1 (orr s t).1.length y1) ∧ W.cell? ⟨bo, 1, none⟩ = some (.slice Y2 (orr s t).2.length y2) ∧ W.cell? ⟨bn, 0, none⟩ = some (.slice N1 (nt s).1.length y3) ∧ W.cell? ⟨bn, 1, none⟩ = some (.slice N2 (nt s).2.length y4) ∧ W.cell? ⟨bm, 0, none⟩ = some (.slice U1 (minus s t).1.length y5) ∧ W.cell? ⟨bm, 1, none⟩ = some (.slice U2 (minus s t).2.length y6) ∧ Below wz.heap.size wz W from fun W hb => ⟨(Ys2.out.up hb).1, (Ys2.out.up hb).2.1, (Yt2.out.up hb).1, (Yt2.out.up hb).2.1, (Ya.out.up hb).1, (Ya.out.up hb).2.1, (Yo.out.up hb).1, (Yo.out.up hb).2.1, (Yn.out.up hb).1, (Yn.out.up hb).2.1, (Ym.out.up hb).1, (Ym.out.up hb).2.1, hb⟩)
      simp only [putF, putL, List.contains_cons, List.contains_nil, Nat.reduceBEq, Nat.reduceAdd, Bool.or_false, Bool.or_true, Bool.false_eq_true, if_true, if_false, e10, e11, e12, e13]
      clear e10 e11 e12 e13
      have b0 : Below wz.heap.size wz wz := Below.refl _ _
      obtain ⟨k0, k1, k2, k3, k4, k5, k6, k7, k8, k9, k10, k11, _⟩ := KP.out _ b0
      rcases HC.out with ⟨hr, rfl, rfl, rfl⟩ | ⟨hr, rfl, rfl, rfl⟩ | ⟨⟨hr1, hr2⟩, rfl⟩
      · have hxx := HX.out
        have hyy := HY.out
        have hvv := HV.out
        have J1 := Lib.hid (show ∀ (W : World) F1 f1 F2 f2, Ns W F1 f1 F2 f2 (andd s t) → Calls Try.prog 19 #[nv F1 (andd s t).1.length f1 F2 (andd s t).2.length f2, .int .i64 u] W (EqIs (false && false) W) from fun W F1 f1 F2 f2 h => by
          have h := has_any F1 F2 f1 f2 (andd s t) u W h ((and_ok HO.out.1 HO.out.2).le (by omega)) HU.out; rw [has_and, ← hxx, ← hyy] at h; exact h)
        have J2 := Lib.hid (show ∀ (W : World) F1 f1 F2 f2, Ns W F1 f1 F2 f2 (orr s t) → Calls Try.prog 19 #[nv F1 (orr s t).1.length f1 F2 (orr s t).2.length f2, .int .i64 u] W (EqIs (false || false) W) from fun W F1 f1 F2 f2 h => by
          have h := has_any F1 F2 f1 f2 (orr s t) u W h ((or_ok HO.out.1 HO.out.2).le (by omega)) HU.out; rw [has_or, ← hxx, ← hyy] at h; exact h)
        have J3 := Lib.hid (show ∀ (W : World) F1 f1 F2 f2, Ns W F1 f1 F2 f2 (nt s) → Calls Try.prog 19 #[nv F1 (nt s).1.length f1 F2 (nt s).2.length f2, .int .i64 u] W (EqIs (false && !false) W) from fun W F1 f1 F2 f2 h => by
          have h := has_any F1 F2 f1 f2 (nt s) u W h ((nt_ok HO.out.1).le (by omega)) HU.out; rw [has_nt, ← hvv, ← hxx] at h; exact h)
        have J4 := Lib.hid (show ∀ (W : World) F1 f1 F2 f2, Ns W F1 f1 F2 f2 (minus s t) → Calls Try.prog 19 #[nv F1 (minus s t).1.length f1 F2 (minus s t).2.length f2, .int .i64 u] W (EqIs (false && !false) W) from fun W F1 f1 F2 f2 h => by
          have h := has_any F1 F2 f1 f2 (minus s t) u W h ((minus_ok HO.out.1 HO.out.2).le (by omega)) HU.out; rw [has_minus, ← hxx, ← hyy] at h; exact h)
        have L1 := Lib.hid (show ∀ (W : World) F1 f1 F2 f2, Ns W F1 f1 F2 f2 (andd s t) → Calls Try.prog 17 #[nv F1 (andd s t).1.length f1 F2 (andd s t).2.length f2] W (EqIs true W) from fun W F1 f1 F2 f2 h => by
          have h := valid_s F1 F2 f1 f2 (andd s t) W h ((and_ok HO.out.1 HO.out.2).le (by omega)); rw [mk_of_can (can_and s t), eqN_dec, decide_eq_true rfl] at h; exact h)
        have L2 := Lib.hid (show ∀ (W : World) F1 f1 F2 f2, Ns W F1 f1 F2 f2 (orr s t) → Calls Try.prog 17 #[nv F1 (orr s t).1.length f1 F2 (orr s t).2.length f2] W (EqIs true W) from fun W F1 f1 F2 f2 h => by
          have h := valid_s F1 F2 f1 f2 (orr s t) W h ((or_ok HO.out.1 HO.out.2).le (by omega)); rw [mk_of_can (can_or s t), eqN_dec, decide_eq_true rfl] at h; exact h)
        have L3 := Lib.hid (show ∀ (W : World) F1 f1 F2 f2, Ns W F1 f1 F2 f2 (nt s) → Calls Try.prog 17 #[nv F1 (nt s).1.length f1 F2 (nt s).2.length f2] W (EqIs true W) from fun W F1 f1 F2 f2 h => by
          have h := valid_s F1 F2 f1 f2 (nt s) W h ((nt_ok HO.out.1).le (by omega)); rw [mk_of_can (can_nt s), eqN_dec, decide_eq_true rfl] at h; exact h)
        have L4 := Lib.hid (show ∀ (W : World) F1 f1 F2 f2, Ns W F1 f1 F2 f2 (minus s t) → Calls Try.prog 17 #[nv F1 (minus s t).1.length f1 F2 (minus s t).2.length f2] W (EqIs true W) from fun W F1 f1 F2 f2 h => by
          have h := valid_s F1 F2 f1 f2 (minus s t) W h ((minus_ok HO.out.1 HO.out.2).le (by omega)); rw [mk_of_can (can_minus s t), eqN_dec, decide_eq_true rfl] at h; exact h)
        clear hxx hyy hvv
        have g1 : decide ((-1000000000000000 : Int) ≤ u) = false := decide_eq_false (by omega)
        go_wp2_with fail
        refine (J1.out _ _ _ _ _ (Ya.out.up b0).ns).mono ?_
        rintro e v1 ⟨rfl, hb1⟩
        have b1 : Below wz.heap.size wz v1 := b0.trans (hb1.mono b0.size)
        clear k0 k1 k2 k3 k4 k5 k6 k7 k8 k9 k10 k11 hb1
        obtain ⟨k0, k1, k2, k3, k4, k5, k6, k7, k8, k9, k10, k11, _⟩ := KP.out _ b1
        go_wp2_with fail
        refine (J2.out _ _ _ _ _ (Yo.out.up b1).ns).mono ?_
        rintro e v2 ⟨rfl, hb2⟩
        have b2 : Below wz.heap.size wz v2 := b1.trans (hb2.mono b1.size)
        clear k0 k1 k2 k3 k4 k5 k6 k7 k8 k9 k10 k11 hb2
        obtain ⟨k0, k1, k2, k3, k4, k5, k6, k7, k8, k9, k10, k11, _⟩ := KP.out _ b2
        go_wp2_with fail
        refine (J3.out _ _ _ _ _ (Yn.out.up b2).ns).mono ?_
        rintro e v3 ⟨rfl, hb3⟩
        have b3 : Below wz.heap.size wz v3 := b2.trans (hb3.mono b2.size)
        clear k0 k1 k2 k3 k4 k5 k6 k7 k8 k9 k10 k11 hb3
        obtain ⟨k0, k1, k2, k3, k4, k5, k6, k7, k8, k9, k10, k11, _⟩ := KP.out _ b3
        go_wp2_with fail
        refine (J4.out _ _ _ _ _ (Ym.out.up b3).ns).mono ?_
        rintro e v4 ⟨rfl, hb4⟩
        have b4 : Below wz.heap.size wz v4 := b3.trans (hb4.mono b3.size)
        clear k0 k1 k2 k3 k4 k5 k6 k7 k8 k9 k10 k11 hb4
        obtain ⟨k0, k1, k2, k3, k4, k5, k6, k7, k8, k9, k10, k11, _⟩ := KP.out _ b4
        go_wp2_with fail
        refine (L1.out _ _ _ _ _ (Ya.out.up b4).ns).mono ?_
        rintro e v5 ⟨rfl, hb5⟩
        have b5 : Below wz.heap.size wz v5 := b4.trans (hb5.mono b4.size)
        clear k0 k1 k2 k3 k4 k5 k6 k7 k8 k9 k10 k11 hb5
        obtain ⟨k0, k1, k2, k3, k4, k5, k6, k7, k8, k9, k10, k11, _⟩ := KP.out _ b5
        go_wp2_with fail
        refine (L2.out _ _ _ _ _ (Yo.out.up b5).ns).mono ?_
        rintro e v6 ⟨rfl, hb6⟩
        have b6 : Below wz.heap.size wz v6 := b5.trans (hb6.mono b5.size)
        clear k0 k1 k2 k3 k4 k5 k6 k7 k8 k9 k10 k11 hb6
        obtain ⟨k0, k1, k2, k3, k4, k5, k6, k7, k8, k9, k10, k11, _⟩ := KP.out _ b6
        go_wp2_with fail
        refine (L3.out _ _ _ _ _ (Yn.out.up b6).ns).mono ?_
        rintro e v7 ⟨rfl, hb7⟩
        have b7 : Below wz.heap.size wz v7 := b6.trans (hb7.mono b6.size)
        clear k0 k1 k2 k3 k4 k5 k6 k7 k8 k9 k10 k11 hb7
        obtain ⟨k0, k1, k2, k3, k4, k5, k6, k7, k8, k9, k10, k11, _⟩ := KP.out _ b7
        go_wp2_with fail
        refine (L4.out _ _ _ _ _ (Ym.out.up b7).ns).mono ?_
        rintro e v8 ⟨rfl, hb8⟩
        have b8 : Below wz.heap.size wz v8 := b7.trans (hb8.mono b7.size)
        clear k0 k1 k2 k3 k4 k5 k6 k7 k8 k9 k10 k11 hb8
        obtain ⟨k0, k1, k2, k3, k4, k5, k6, k7, k8, k9, k10, k11, _⟩ := KP.out _ b8
        go_wp2_with fail
        refine (HAl.out _).mono ?_
        rintro e v9 ⟨rfl, hb9⟩
        have b9 : Below wz.heap.size wz v9 := b8.trans (hb9.mono b8.size)
        clear k0 k1 k2 k3 k4 k5 k6 k7 k8 k9 k10 k11 hb9
        obtain ⟨k0, k1, k2, k3, k4, k5, k6, k7, k8, k9, k10, k11, _⟩ := KP.out _ b9
        go_wp2_with fail
        refine bodyPost_ret (v := .bool true) (by simp [results, Try.results7, go_sem]) rfl ?_
        exact ⟨rfl, HD2.out.trans (b9.mono HD2.out.size)⟩
      · have hxx := HX.out
        have hyy := HY.out
        have hvv := HV.out
        have J1 := Lib.hid (show ∀ (W : World) F1 f1 F2 f2, Ns W F1 f1 F2 f2 (andd s t) → Calls Try.prog 19 #[nv F1 (andd s t).1.length f1 F2 (andd s t).2.length f2, .int .i64 u] W (EqIs (false && false) W) from fun W F1 f1 F2 f2 h => by
          have h := has_any F1 F2 f1 f2 (andd s t) u W h ((and_ok HO.out.1 HO.out.2).le (by omega)) HU.out; rw [has_and, ← hxx, ← hyy] at h; exact h)
        have J2 := Lib.hid (show ∀ (W : World) F1 f1 F2 f2, Ns W F1 f1 F2 f2 (orr s t) → Calls Try.prog 19 #[nv F1 (orr s t).1.length f1 F2 (orr s t).2.length f2, .int .i64 u] W (EqIs (false || false) W) from fun W F1 f1 F2 f2 h => by
          have h := has_any F1 F2 f1 f2 (orr s t) u W h ((or_ok HO.out.1 HO.out.2).le (by omega)) HU.out; rw [has_or, ← hxx, ← hyy] at h; exact h)
        have J3 := Lib.hid (show ∀ (W : World) F1 f1 F2 f2, Ns W F1 f1 F2 f2 (nt s) → Calls Try.prog 19 #[nv F1 (nt s).1.length f1 F2 (nt s).2.length f2, .int .i64 u] W (EqIs (false && !false) W) from fun W F1 f1 F2 f2 h => by
          have h := has_any F1 F2 f1 f2 (nt s) u W h ((nt_ok HO.out.1).le (by omega)) HU.out; rw [has_nt, ← hvv, ← hxx] at h; exact h)
        have J4 := Lib.hid (show ∀ (W : World) F1 f1 F2 f2, Ns W F1 f1 F2 f2 (minus s t) → Calls Try.prog 19 #[nv F1 (minus s t).1.length f1 F2 (minus s t).2.length f2, .int .i64 u] W (EqIs (false && !false) W) from fun W F1 f1 F2 f2 h => by
          have h := has_any F1 F2 f1 f2 (minus s t) u W h ((minus_ok HO.out.1 HO.out.2).le (by omega)) HU.out; rw [has_minus, ← hxx, ← hyy] at h; exact h)
        have L1 := Lib.hid (show ∀ (W : World) F1 f1 F2 f2, Ns W F1 f1 F2 f2 (andd s t) → Calls Try.prog 17 #[nv F1 (andd s t).1.length f1 F2 (andd s t).2.length f2] W (EqIs true W) from fun W F1 f1 F2 f2 h => by
          have h := valid_s F1 F2 f1 f2 (andd s t) W h ((and_ok HO.out.1 HO.out.2).le (by omega)); rw [mk_of_can (can_and s t), eqN_dec, decide_eq_true rfl] at h; exact h)
        have L2 := Lib.hid (show ∀ (W : World) F1 f1 F2 f2, Ns W F1 f1 F2 f2 (orr s t) → Calls Try.prog 17 #[nv F1 (orr s t).1.length f1 F2 (orr s t).2.length f2] W (EqIs true W) from fun W F1 f1 F2 f2 h => by
          have h := valid_s F1 F2 f1 f2 (orr s t) W h ((or_ok HO.out.1 HO.out.2).le (by omega)); rw [mk_of_can (can_or s t), eqN_dec, decide_eq_true rfl] at h; exact h)
        have L3 := Lib.hid (show ∀ (W : World) F1 f1 F2 f2, Ns W F1 f1 F2 f2 (nt s) → Calls Try.prog 17 #[nv F1 (nt s).1.length f1 F2 (nt s).2.length f2] W (EqIs true W) from fun W F1 f1 F2 f2 h => by
          have h := valid_s F1 F2 f1 f2 (nt s) W h ((nt_ok HO.out.1).le (by omega)); rw [mk_of_can (can_nt s), eqN_dec, decide_eq_true rfl] at h; exact h)
        have L4 := Lib.hid (show ∀ (W : World) F1 f1 F2 f2, Ns W F1 f1 F2 f2 (minus s t) → Calls Try.prog 17 #[nv F1 (minus s t).1.length f1 F2 (minus s t).2.length f2] W (EqIs true W) from fun W F1 f1 F2 f2 h => by
          have h := valid_s F1 F2 f1 f2 (minus s t) W h ((minus_ok HO.out.1 HO.out.2).le (by omega)); rw [mk_of_can (can_minus s t), eqN_dec, decide_eq_true rfl] at h; exact h)
        clear hxx hyy hvv
        have g1 : decide ((-1000000000000000 : Int) ≤ u) = true := decide_eq_true (by omega)
        have g2 : decide (u ≤ 1000000000000000) = false := decide_eq_false (by omega)
        go_wp2_with fail
        refine (J1.out _ _ _ _ _ (Ya.out.up b0).ns).mono ?_
        rintro e v1 ⟨rfl, hb1⟩
        have b1 : Below wz.heap.size wz v1 := b0.trans (hb1.mono b0.size)
        clear k0 k1 k2 k3 k4 k5 k6 k7 k8 k9 k10 k11 hb1
        obtain ⟨k0, k1, k2, k3, k4, k5, k6, k7, k8, k9, k10, k11, _⟩ := KP.out _ b1
        go_wp2_with fail
        refine (J2.out _ _ _ _ _ (Yo.out.up b1).ns).mono ?_
        rintro e v2 ⟨rfl, hb2⟩
        have b2 : Below wz.heap.size wz v2 := b1.trans (hb2.mono b1.size)
        clear k0 k1 k2 k3 k4 k5 k6 k7 k8 k9 k10 k11 hb2
        obtain ⟨k0, k1, k2, k3, k4, k5, k6, k7, k8, k9, k10, k11, _⟩ := KP.out _ b2
        go_wp2_with fail
        refine (J3.out _ _ _ _ _ (Yn.out.up b2).ns).mono ?_
        rintro e v3 ⟨rfl, hb3⟩
        have b3 : Below wz.heap.size wz v3 := b2.trans (hb3.mono b2.size)
        clear k0 k1 k2 k3 k4 k5 k6 k7 k8 k9 k10 k11 hb3
        obtain ⟨k0, k1, k2, k3, k4, k5, k6, k7, k8, k9, k10, k11, _⟩ := KP.out _ b3
        go_wp2_with fail
        refine (J4.out _ _ _ _ _ (Ym.out.up b3).ns).mono ?_
        rintro e v4 ⟨rfl, hb4⟩
        have b4 : Below wz.heap.size wz v4 := b3.trans (hb4.mono b3.size)
        clear k0 k1 k2 k3 k4 k5 k6 k7 k8 k9 k10 k11 hb4
        obtain ⟨k0, k1, k2, k3, k4, k5, k6, k7, k8, k9, k10, k11, _⟩ := KP.out _ b4
        go_wp2_with fail
        refine (L1.out _ _ _ _ _ (Ya.out.up b4).ns).mono ?_
        rintro e v5 ⟨rfl, hb5⟩
        have b5 : Below wz.heap.size wz v5 := b4.trans (hb5.mono b4.size)
        clear k0 k1 k2 k3 k4 k5 k6 k7 k8 k9 k10 k11 hb5
        obtain ⟨k0, k1, k2, k3, k4, k5, k6, k7, k8, k9, k10, k11, _⟩ := KP.out _ b5
        go_wp2_with fail
        refine (L2.out _ _ _ _ _ (Yo.out.up b5).ns).mono ?_
        rintro e v6 ⟨rfl, hb6⟩
        have b6 : Below wz.heap.size wz v6 := b5.trans (hb6.mono b5.size)
        clear k0 k1 k2 k3 k4 k5 k6 k7 k8 k9 k10 k11 hb6
        obtain ⟨k0, k1, k2, k3, k4, k5, k6, k7, k8, k9, k10, k11, _⟩ := KP.out _ b6
        go_wp2_with fail
        refine (L3.out _ _ _ _ _ (Yn.out.up b6).ns).mono ?_
        rintro e v7 ⟨rfl, hb7⟩
        have b7 : Below wz.heap.size wz v7 := b6.trans (hb7.mono b6.size)
        clear k0 k1 k2 k3 k4 k5 k6 k7 k8 k9 k10 k11 hb7
        obtain ⟨k0, k1, k2, k3, k4, k5, k6, k7, k8, k9, k10, k11, _⟩ := KP.out _ b7
        go_wp2_with fail
        refine (L4.out _ _ _ _ _ (Ym.out.up b7).ns).mono ?_
        rintro e v8 ⟨rfl, hb8⟩
        have b8 : Below wz.heap.size wz v8 := b7.trans (hb8.mono b7.size)
        clear k0 k1 k2 k3 k4 k5 k6 k7 k8 k9 k10 k11 hb8
        obtain ⟨k0, k1, k2, k3, k4, k5, k6, k7, k8, k9, k10, k11, _⟩ := KP.out _ b8
        go_wp2_with fail
        refine (HAl.out _).mono ?_
        rintro e v9 ⟨rfl, hb9⟩
        have b9 : Below wz.heap.size wz v9 := b8.trans (hb9.mono b8.size)
        clear k0 k1 k2 k3 k4 k5 k6 k7 k8 k9 k10 k11 hb9
        obtain ⟨k0, k1, k2, k3, k4, k5, k6, k7, k8, k9, k10, k11, _⟩ := KP.out _ b9
        go_wp2_with fail
        refine bodyPost_ret (v := .bool true) (by simp [results, Try.results7, go_sem]) rfl ?_
        exact ⟨rfl, HD2.out.trans (b9.mono HD2.out.size)⟩
      · cases x
        · cases y
          · have hxx := HX.out
            have hyy := HY.out
            have hvv := HV.out
            have J1 := Lib.hid (show ∀ (W : World) F1 f1 F2 f2, Ns W F1 f1 F2 f2 (andd s t) → Calls Try.prog 19 #[nv F1 (andd s t).1.length f1 F2 (andd s t).2.length f2, .int .i64 u] W (EqIs (false && false) W) from fun W F1 f1 F2 f2 h => by
              have h := has_any F1 F2 f1 f2 (andd s t) u W h ((and_ok HO.out.1 HO.out.2).le (by omega)) HU.out; rw [has_and, ← hxx, ← hyy] at h; exact h)
            have J2 := Lib.hid (show ∀ (W : World) F1 f1 F2 f2, Ns W F1 f1 F2 f2 (orr s t) → Calls Try.prog 19 #[nv F1 (orr s t).1.length f1 F2 (orr s t).2.length f2, .int .i64 u] W (EqIs (false || false) W) from fun W F1 f1 F2 f2 h => by
              have h := has_any F1 F2 f1 f2 (orr s t) u W h ((or_ok HO.out.1 HO.out.2).le (by omega)) HU.out; rw [has_or, ← hxx, ← hyy] at h; exact h)
            have J3 := Lib.hid (show ∀ (W : World) F1 f1 F2 f2, Ns W F1 f1 F2 f2 (nt s) → Calls Try.prog 19 #[nv F1 (nt s).1.length f1 F2 (nt s).2.length f2, .int .i64 u] W (EqIs (true && !false) W) from fun W F1 f1 F2 f2 h => by
              have h := has_any F1 F2 f1 f2 (nt s) u W h ((nt_ok HO.out.1).le (by omega)) HU.out; rw [has_nt, ← hvv, ← hxx] at h; exact h)
            have J4 := Lib.hid (show ∀ (W : World) F1 f1 F2 f2, Ns W F1 f1 F2 f2 (minus s t) → Calls Try.prog 19 #[nv F1 (minus s t).1.length f1 F2 (minus s t).2.length f2, .int .i64 u] W (EqIs (false && !false) W) from fun W F1 f1 F2 f2 h => by
              have h := has_any F1 F2 f1 f2 (minus s t) u W h ((minus_ok HO.out.1 HO.out.2).le (by omega)) HU.out; rw [has_minus, ← hxx, ← hyy] at h; exact h)
            have L1 := Lib.hid (show ∀ (W : World) F1 f1 F2 f2, Ns W F1 f1 F2 f2 (andd s t) → Calls Try.prog 17 #[nv F1 (andd s t).1.length f1 F2 (andd s t).2.length f2] W (EqIs true W) from fun W F1 f1 F2 f2 h => by
              have h := valid_s F1 F2 f1 f2 (andd s t) W h ((and_ok HO.out.1 HO.out.2).le (by omega)); rw [mk_of_can (can_and s t), eqN_dec, decide_eq_true rfl] at h; exact h)
            have L2 := Lib.hid (show ∀ (W : World) F1 f1 F2 f2, Ns W F1 f1 F2 f2 (orr s t) → Calls Try.prog 17 #[nv F1 (orr s t).1.length f1 F2 (orr s t).2.length f2] W (EqIs true W) from fun W F1 f1 F2 f2 h => by
              have h := valid_s F1 F2 f1 f2 (orr s t) W h ((or_ok HO.out.1 HO.out.2).le (by omega)); rw [mk_of_can (can_or s t), eqN_dec, decide_eq_true rfl] at h; exact h)
            have L3 := Lib.hid (show ∀ (W : World) F1 f1 F2 f2, Ns W F1 f1 F2 f2 (nt s) → Calls Try.prog 17 #[nv F1 (nt s).1.length f1 F2 (nt s).2.length f2] W (EqIs true W) from fun W F1 f1 F2 f2 h => by
              have h := valid_s F1 F2 f1 f2 (nt s) W h ((nt_ok HO.out.1).le (by omega)); rw [mk_of_can (can_nt s), eqN_dec, decide_eq_true rfl] at h; exact h)
            have L4 := Lib.hid (show ∀ (W : World) F1 f1 F2 f2, Ns W F1 f1 F2 f2 (minus s t) → Calls Try.prog 17 #[nv F1 (minus s t).1.length f1 F2 (minus s t).2.length f2] W (EqIs true W) from fun W F1 f1 F2 f2 h => by
              have h := valid_s F1 F2 f1 f2 (minus s t) W h ((minus_ok HO.out.1 HO.out.2).le (by omega)); rw [mk_of_can (can_minus s t), eqN_dec, decide_eq_true rfl] at h; exact h)
            clear hxx hyy hvv
            have g1 : decide ((-1000000000000000 : Int) ≤ u) = true := decide_eq_true (by omega)
            have g2 : decide (u ≤ 1000000000000000) = true := decide_eq_true (by omega)
            go_wp2_with fail
            refine (J1.out _ _ _ _ _ (Ya.out.up b0).ns).mono ?_
            rintro e v1 ⟨rfl, hb1⟩
            have b1 : Below wz.heap.size wz v1 := b0.trans (hb1.mono b0.size)
            clear k0 k1 k2 k3 k4 k5 k6 k7 k8 k9 k10 k11 hb1
            obtain ⟨k0, k1, k2, k3, k4, k5, k6, k7, k8, k9, k10, k11, _⟩ := KP.out _ b1
            go_wp2_with fail
            refine (J2.out _ _ _ _ _ (Yo.out.up b1).ns).mono ?_
            rintro e v2 ⟨rfl, hb2⟩
            have b2 : Below wz.heap.size wz v2 := b1.trans (hb2.mono b1.size)
            clear k0 k1 k2 k3 k4 k5 k6 k7 k8 k9 k10 k11 hb2
            obtain ⟨k0, k1, k2, k3, k4, k5, k6, k7, k8, k9, k10, k11, _⟩ := KP.out _ b2
            go_wp2_with fail
            refine (J3.out _ _ _ _ _ (Yn.out.up b2).ns).mono ?_
            rintro e v3 ⟨rfl, hb3⟩
            have b3 : Below wz.heap.size wz v3 := b2.trans (hb3.mono b2.size)
            clear k0 k1 k2 k3 k4 k5 k6 k7 k8 k9 k10 k11 hb3
            obtain ⟨k0, k1, k2, k3, k4, k5, k6, k7, k8, k9, k10, k11, _⟩ := KP.out _ b3
            go_wp2_with fail
            refine (J4.out _ _ _ _ _ (Ym.out.up b3).ns).mono ?_
            rintro e v4 ⟨rfl, hb4⟩
            have b4 : Below wz.heap.size wz v4 := b3.trans (hb4.mono b3.size)
            clear k0 k1 k2 k3 k4 k5 k6 k7 k8 k9 k10 k11 hb4
            obtain ⟨k0, k1, k2, k3, k4, k5, k6, k7, k8, k9, k10, k11, _⟩ := KP.out _ b4
            go_wp2_with fail
            refine (L1.out _ _ _ _ _ (Ya.out.up b4).ns).mono ?_
            rintro e v5 ⟨rfl, hb5⟩
            have b5 : Below wz.heap.size wz v5 := b4.trans (hb5.mono b4.size)
            clear k0 k1 k2 k3 k4 k5 k6 k7 k8 k9 k10 k11 hb5
            obtain ⟨k0, k1, k2, k3, k4, k5, k6, k7, k8, k9, k10, k11, _⟩ := KP.out _ b5
            go_wp2_with fail
            refine (L2.out _ _ _ _ _ (Yo.out.up b5).ns).mono ?_
            rintro e v6 ⟨rfl, hb6⟩
            have b6 : Below wz.heap.size wz v6 := b5.trans (hb6.mono b5.size)
            clear k0 k1 k2 k3 k4 k5 k6 k7 k8 k9 k10 k11 hb6
            obtain ⟨k0, k1, k2, k3, k4, k5, k6, k7, k8, k9, k10, k11, _⟩ := KP.out _ b6
            go_wp2_with fail
            refine (L3.out _ _ _ _ _ (Yn.out.up b6).ns).mono ?_
            rintro e v7 ⟨rfl, hb7⟩
            have b7 : Below wz.heap.size wz v7 := b6.trans (hb7.mono b6.size)
            clear k0 k1 k2 k3 k4 k5 k6 k7 k8 k9 k10 k11 hb7
            obtain ⟨k0, k1, k2, k3, k4, k5, k6, k7, k8, k9, k10, k11, _⟩ := KP.out _ b7
            go_wp2_with fail
            refine (L4.out _ _ _ _ _ (Ym.out.up b7).ns).mono ?_
            rintro e v8 ⟨rfl, hb8⟩
            have b8 : Below wz.heap.size wz v8 := b7.trans (hb8.mono b7.size)
            clear k0 k1 k2 k3 k4 k5 k6 k7 k8 k9 k10 k11 hb8
            obtain ⟨k0, k1, k2, k3, k4, k5, k6, k7, k8, k9, k10, k11, _⟩ := KP.out _ b8
            go_wp2_with fail
            refine (HAl.out _).mono ?_
            rintro e v9 ⟨rfl, hb9⟩
            have b9 : Below wz.heap.size wz v9 := b8.trans (hb9.mono b8.size)
            clear k0 k1 k2 k3 k4 k5 k6 k7 k8 k9 k10 k11 hb9
            obtain ⟨k0, k1, k2, k3, k4, k5, k6, k7, k8, k9, k10, k11, _⟩ := KP.out _ b9
            go_wp2_with fail
            refine bodyPost_ret (v := .bool true) (by simp [results, Try.results7, go_sem]) rfl ?_
            exact ⟨rfl, HD2.out.trans (b9.mono HD2.out.size)⟩
          · have hxx := HX.out
            have hyy := HY.out
            have hvv := HV.out
            have J1 := Lib.hid (show ∀ (W : World) F1 f1 F2 f2, Ns W F1 f1 F2 f2 (andd s t) → Calls Try.prog 19 #[nv F1 (andd s t).1.length f1 F2 (andd s t).2.length f2, .int .i64 u] W (EqIs (false && true) W) from fun W F1 f1 F2 f2 h => by
              have h := has_any F1 F2 f1 f2 (andd s t) u W h ((and_ok HO.out.1 HO.out.2).le (by omega)) HU.out; rw [has_and, ← hxx, ← hyy] at h; exact h)
            have J2 := Lib.hid (show ∀ (W : World) F1 f1 F2 f2, Ns W F1 f1 F2 f2 (orr s t) → Calls Try.prog 19 #[nv F1 (orr s t).1.length f1 F2 (orr s t).2.length f2, .int .i64 u] W (EqIs (false || true) W) from fun W F1 f1 F2 f2 h => by
              have h := has_any F1 F2 f1 f2 (orr s t) u W h ((or_ok HO.out.1 HO.out.2).le (by omega)) HU.out; rw [has_or, ← hxx, ← hyy] at h; exact h)
            have J3 := Lib.hid (show ∀ (W : World) F1 f1 F2 f2, Ns W F1 f1 F2 f2 (nt s) → Calls Try.prog 19 #[nv F1 (nt s).1.length f1 F2 (nt s).2.length f2, .int .i64 u] W (EqIs (true && !false) W) from fun W F1 f1 F2 f2 h => by
              have h := has_any F1 F2 f1 f2 (nt s) u W h ((nt_ok HO.out.1).le (by omega)) HU.out; rw [has_nt, ← hvv, ← hxx] at h; exact h)
            have J4 := Lib.hid (show ∀ (W : World) F1 f1 F2 f2, Ns W F1 f1 F2 f2 (minus s t) → Calls Try.prog 19 #[nv F1 (minus s t).1.length f1 F2 (minus s t).2.length f2, .int .i64 u] W (EqIs (false && !true) W) from fun W F1 f1 F2 f2 h => by
              have h := has_any F1 F2 f1 f2 (minus s t) u W h ((minus_ok HO.out.1 HO.out.2).le (by omega)) HU.out; rw [has_minus, ← hxx, ← hyy] at h; exact h)
            have L1 := Lib.hid (show ∀ (W : World) F1 f1 F2 f2, Ns W F1 f1 F2 f2 (andd s t) → Calls Try.prog 17 #[nv F1 (andd s t).1.length f1 F2 (andd s t).2.length f2] W (EqIs true W) from fun W F1 f1 F2 f2 h => by
              have h := valid_s F1 F2 f1 f2 (andd s t) W h ((and_ok HO.out.1 HO.out.2).le (by omega)); rw [mk_of_can (can_and s t), eqN_dec, decide_eq_true rfl] at h; exact h)
            have L2 := Lib.hid (show ∀ (W : World) F1 f1 F2 f2, Ns W F1 f1 F2 f2 (orr s t) → Calls Try.prog 17 #[nv F1 (orr s t).1.length f1 F2 (orr s t).2.length f2] W (EqIs true W) from fun W F1 f1 F2 f2 h => by
              have h := valid_s F1 F2 f1 f2 (orr s t) W h ((or_ok HO.out.1 HO.out.2).le (by omega)); rw [mk_of_can (can_or s t), eqN_dec, decide_eq_true rfl] at h; exact h)
            have L3 := Lib.hid (show ∀ (W : World) F1 f1 F2 f2, Ns W F1 f1 F2 f2 (nt s) → Calls Try.prog 17 #[nv F1 (nt s).1.length f1 F2 (nt s).2.length f2] W (EqIs true W) from fun W F1 f1 F2 f2 h => by
              have h := valid_s F1 F2 f1 f2 (nt s) W h ((nt_ok HO.out.1).le (by omega)); rw [mk_of_can (can_nt s), eqN_dec, decide_eq_true rfl] at h; exact h)
            have L4 := Lib.hid (show ∀ (W : World) F1 f1 F2 f2, Ns W F1 f1 F2 f2 (minus s t) → Calls Try.prog 17 #[nv F1 (minus s t).1.length f1 F2 (minus s t).2.length f2] W (EqIs true W) from fun W F1 f1 F2 f2 h => by
              have h := valid_s F1 F2 f1 f2 (minus s t) W h ((minus_ok HO.out.1 HO.out.2).le (by omega)); rw [mk_of_can (can_minus s t), eqN_dec, decide_eq_true rfl] at h; exact h)
            clear hxx hyy hvv
            have g1 : decide ((-1000000000000000 : Int) ≤ u) = true := decide_eq_true (by omega)
            have g2 : decide (u ≤ 1000000000000000) = true := decide_eq_true (by omega)
            go_wp2_with fail
            refine (J1.out _ _ _ _ _ (Ya.out.up b0).ns).mono ?_
            rintro e v1 ⟨rfl, hb1⟩
            have b1 : Below wz.heap.size wz v1 := b0.trans (hb1.mono b0.size)
            clear k0 k1 k2 k3 k4 k5 k6 k7 k8 k9 k10 k11 hb1
            obtain ⟨k0, k1, k2, k3, k4, k5, k6, k7, k8, k9, k10, k11, _⟩ := KP.out _ b1
            go_wp2_with fail
            refine (J2.out _ _ _ _ _ (Yo.out.up b1).ns).mono ?_
            rintro e v2 ⟨rfl, hb2⟩
            have b2 : Below wz.heap.size wz v2 := b1.trans (hb2.mono b1.size)
            clear k0 k1 k2 k3 k4 k5 k6 k7 k8 k9 k10 k11 hb2
            obtain ⟨k0, k1, k2, k3, k4, k5, k6, k7, k8, k9, k10, k11, _⟩ := KP.out _ b2
            go_wp2_with fail
            refine (J3.out _ _ _ _ _ (Yn.out.up b2).ns).mono ?_
            rintro e v3 ⟨rfl, hb3⟩
            have b3 : Below wz.heap.size wz v3 := b2.trans (hb3.mono b2.size)
            clear k0 k1 k2 k3 k4 k5 k6 k7 k8 k9 k10 k11 hb3
            obtain ⟨k0, k1, k2, k3, k4, k5, k6, k7, k8, k9, k10, k11, _⟩ := KP.out _ b3
            go_wp2_with fail
            refine (J4.out _ _ _ _ _ (Ym.out.up b3).ns).mono ?_
            rintro e v4 ⟨rfl, hb4⟩
            have b4 : Below wz.heap.size wz v4 := b3.trans (hb4.mono b3.size)
            clear k0 k1 k2 k3 k4 k5 k6 k7 k8 k9 k10 k11 hb4
            obtain ⟨k0, k1, k2, k3, k4, k5, k6, k7, k8, k9, k10, k11, _⟩ := KP.out _ b4
            go_wp2_with fail
            refine (L1.out _ _ _ _ _ (Ya.out.up b4).ns).mono ?_
            rintro e v5 ⟨rfl, hb5⟩
            have b5 : Below wz.heap.size wz v5 := b4.trans (hb5.mono b4.size)
            clear k0 k1 k2 k3 k4 k5 k6 k7 k8 k9 k10 k11 hb5
            obtain ⟨k0, k1, k2, k3, k4, k5, k6, k7, k8, k9, k10, k11, _⟩ := KP.out _ b5
            go_wp2_with fail
            refine (L2.out _ _ _ _ _ (Yo.out.up b5).ns).mono ?_
            rintro e v6 ⟨rfl, hb6⟩
            have b6 : Below wz.heap.size wz v6 := b5.trans (hb6.mono b5.size)
            clear k0 k1 k2 k3 k4 k5 k6 k7 k8 k9 k10 k11 hb6
            obtain ⟨k0, k1, k2, k3, k4, k5, k6, k7, k8, k9, k10, k11, _⟩ := KP.out _ b6
            go_wp2_with fail
            refine (L3.out _ _ _ _ _ (Yn.out.up b6).ns).mono ?_
            rintro e v7 ⟨rfl, hb7⟩
            have b7 : Below wz.heap.size wz v7 := b6.trans (hb7.mono b6.size)
            clear k0 k1 k2 k3 k4 k5 k6 k7 k8 k9 k10 k11 hb7
            obtain ⟨k0, k1, k2, k3, k4, k5, k6, k7, k8, k9, k10, k11, _⟩ := KP.out _ b7
            go_wp2_with fail
            refine (L4.out _ _ _ _ _ (Ym.out.up b7).ns).mono ?_
            rintro e v8 ⟨rfl, hb8⟩
            have b8 : Below wz.heap.size wz v8 := b7.trans (hb8.mono b7.size)
            clear k0 k1 k2 k3 k4 k5 k6 k7 k8 k9 k10 k11 hb8
            obtain ⟨k0, k1, k2, k3, k4, k5, k6, k7, k8, k9, k10, k11, _⟩ := KP.out _ b8
            go_wp2_with fail
            refine (HAl.out _).mono ?_
            rintro e v9 ⟨rfl, hb9⟩
            have b9 : Below wz.heap.size wz v9 := b8.trans (hb9.mono b8.size)
            clear k0 k1 k2 k3 k4 k5 k6 k7 k8 k9 k10 k11 hb9
            obtain ⟨k0, k1, k2, k3, k4, k5, k6, k7, k8, k9, k10, k11, _⟩ := KP.out _ b9
            go_wp2_with fail
            refine bodyPost_ret (v := .bool true) (by simp [results, Try.results7, go_sem]) rfl ?_
            exact ⟨rfl, HD2.out.trans (b9.mono HD2.out.size)⟩
        · cases y
          · have hxx := HX.out
            have hyy := HY.out
            have hvv := HV.out
            have J1 := Lib.hid (show ∀ (W : World) F1 f1 F2 f2, Ns W F1 f1 F2 f2 (andd s t) → Calls Try.prog 19 #[nv F1 (andd s t).1.length f1 F2 (andd s t).2.length f2, .int .i64 u] W (EqIs (true && false) W) from fun W F1 f1 F2 f2 h => by
              have h := has_any F1 F2 f1 f2 (andd s t) u W h ((and_ok HO.out.1 HO.out.2).le (by omega)) HU.out; rw [has_and, ← hxx, ← hyy] at h; exact h)
            have J2 := Lib.hid (show ∀ (W : World) F1 f1 F2 f2, Ns W F1 f1 F2 f2 (orr s t) → Calls Try.prog 19 #[nv F1 (orr s t).1.length f1 F2 (orr s t).2.length f2, .int .i64 u] W (EqIs (true || false) W) from fun W F1 f1 F2 f2 h => by
              have h := has_any F1 F2 f1 f2 (orr s t) u W h ((or_ok HO.out.1 HO.out.2).le (by omega)) HU.out; rw [has_or, ← hxx, ← hyy] at h; exact h)
            have J3 := Lib.hid (show ∀ (W : World) F1 f1 F2 f2, Ns W F1 f1 F2 f2 (nt s) → Calls Try.prog 19 #[nv F1 (nt s).1.length f1 F2 (nt s).2.length f2, .int .i64 u] W (EqIs (true && !true) W) from fun W F1 f1 F2 f2 h => by
              have h := has_any F1 F2 f1 f2 (nt s) u W h ((nt_ok HO.out.1).le (by omega)) HU.out; rw [has_nt, ← hvv, ← hxx] at h; exact h)
            have J4 := Lib.hid (show ∀ (W : World) F1 f1 F2 f2, Ns W F1 f1 F2 f2 (minus s t) → Calls Try.prog 19 #[nv F1 (minus s t).1.length f1 F2 (minus s t).2.length f2, .int .i64 u] W (EqIs (true && !false) W) from fun W F1 f1 F2 f2 h => by
              have h := has_any F1 F2 f1 f2 (minus s t) u W h ((minus_ok HO.out.1 HO.out.2).le (by omega)) HU.out; rw [has_minus, ← hxx, ← hyy] at h; exact h)
            have J5 := Lib.hid (show ∀ (W : World) F1 f1 F2 f2 G1 g1 G2 g2, Ns W F1 f1 F2 f2 s → Ns W G1 g1 G2 g2 t → Calls Try.prog 33 #[nv F1 s.1.length f1 F2 s.2.length f2, nv G1 t.1.length g1 G2 t.2.length g2] W (EqIs false W) from fun W F1 f1 F2 f2 G1 g1 G2 g2 h k => by
              have h := subset_any F1 F2 G1 G2 f1 f2 g1 g2 s t W h k (HO.out.1.le (by omega)) (HO.out.2.le (by omega))
              have hq := mem_sub s t u
              rw [← hxx, ← hyy] at hq
              rw [show subB s t = false from hq] at h; exact h)
            have L1 := Lib.hid (show ∀ (W : World) F1 f1 F2 f2, Ns W F1 f1 F2 f2 (andd s t) → Calls Try.prog 17 #[nv F1 (andd s t).1.length f1 F2 (andd s t).2.length f2] W (EqIs true W) from fun W F1 f1 F2 f2 h => by
              have h := valid_s F1 F2 f1 f2 (andd s t) W h ((and_ok HO.out.1 HO.out.2).le (by omega)); rw [mk_of_can (can_and s t), eqN_dec, decide_eq_true rfl] at h; exact h)
            have L2 := Lib.hid (show ∀ (W : World) F1 f1 F2 f2, Ns W F1 f1 F2 f2 (orr s t) → Calls Try.prog 17 #[nv F1 (orr s t).1.length f1 F2 (orr s t).2.length f2] W (EqIs true W) from fun W F1 f1 F2 f2 h => by
              have h := valid_s F1 F2 f1 f2 (orr s t) W h ((or_ok HO.out.1 HO.out.2).le (by omega)); rw [mk_of_can (can_or s t), eqN_dec, decide_eq_true rfl] at h; exact h)
            have L3 := Lib.hid (show ∀ (W : World) F1 f1 F2 f2, Ns W F1 f1 F2 f2 (nt s) → Calls Try.prog 17 #[nv F1 (nt s).1.length f1 F2 (nt s).2.length f2] W (EqIs true W) from fun W F1 f1 F2 f2 h => by
              have h := valid_s F1 F2 f1 f2 (nt s) W h ((nt_ok HO.out.1).le (by omega)); rw [mk_of_can (can_nt s), eqN_dec, decide_eq_true rfl] at h; exact h)
            have L4 := Lib.hid (show ∀ (W : World) F1 f1 F2 f2, Ns W F1 f1 F2 f2 (minus s t) → Calls Try.prog 17 #[nv F1 (minus s t).1.length f1 F2 (minus s t).2.length f2] W (EqIs true W) from fun W F1 f1 F2 f2 h => by
              have h := valid_s F1 F2 f1 f2 (minus s t) W h ((minus_ok HO.out.1 HO.out.2).le (by omega)); rw [mk_of_can (can_minus s t), eqN_dec, decide_eq_true rfl] at h; exact h)
            clear hxx hyy hvv
            have g1 : decide ((-1000000000000000 : Int) ≤ u) = true := decide_eq_true (by omega)
            have g2 : decide (u ≤ 1000000000000000) = true := decide_eq_true (by omega)
            go_wp2_with fail
            refine (J1.out _ _ _ _ _ (Ya.out.up b0).ns).mono ?_
            rintro e v1 ⟨rfl, hb1⟩
            have b1 : Below wz.heap.size wz v1 := b0.trans (hb1.mono b0.size)
            clear k0 k1 k2 k3 k4 k5 k6 k7 k8 k9 k10 k11 hb1
            obtain ⟨k0, k1, k2, k3, k4, k5, k6, k7, k8, k9, k10, k11, _⟩ := KP.out _ b1
            go_wp2_with fail
            refine (J2.out _ _ _ _ _ (Yo.out.up b1).ns).mono ?_
            rintro e v2 ⟨rfl, hb2⟩
            have b2 : Below wz.heap.size wz v2 := b1.trans (hb2.mono b1.size)
            clear k0 k1 k2 k3 k4 k5 k6 k7 k8 k9 k10 k11 hb2
            obtain ⟨k0, k1, k2, k3, k4, k5, k6, k7, k8, k9, k10, k11, _⟩ := KP.out _ b2
            go_wp2_with fail
            refine (J3.out _ _ _ _ _ (Yn.out.up b2).ns).mono ?_
            rintro e v3 ⟨rfl, hb3⟩
            have b3 : Below wz.heap.size wz v3 := b2.trans (hb3.mono b2.size)
            clear k0 k1 k2 k3 k4 k5 k6 k7 k8 k9 k10 k11 hb3
            obtain ⟨k0, k1, k2, k3, k4, k5, k6, k7, k8, k9, k10, k11, _⟩ := KP.out _ b3
            go_wp2_with fail
            refine (J4.out _ _ _ _ _ (Ym.out.up b3).ns).mono ?_
            rintro e v4 ⟨rfl, hb4⟩
            have b4 : Below wz.heap.size wz v4 := b3.trans (hb4.mono b3.size)
            clear k0 k1 k2 k3 k4 k5 k6 k7 k8 k9 k10 k11 hb4
            obtain ⟨k0, k1, k2, k3, k4, k5, k6, k7, k8, k9, k10, k11, _⟩ := KP.out _ b4
            go_wp2_with fail
            refine (J5.out _ _ _ _ _ _ _ _ _ (Ys2.out.up b4).ns (Yt2.out.up b4).ns).mono ?_
            rintro e v5 ⟨rfl, hb5⟩
            have b5 : Below wz.heap.size wz v5 := b4.trans (hb5.mono b4.size)
            clear k0 k1 k2 k3 k4 k5 k6 k7 k8 k9 k10 k11 hb5
            obtain ⟨k0, k1, k2, k3, k4, k5, k6, k7, k8, k9, k10, k11, _⟩ := KP.out _ b5
            go_wp2_with fail
            refine (L1.out _ _ _ _ _ (Ya.out.up b5).ns).mono ?_
            rintro e v6 ⟨rfl, hb6⟩
            have b6 : Below wz.heap.size wz v6 := b5.trans (hb6.mono b5.size)
            clear k0 k1 k2 k3 k4 k5 k6 k7 k8 k9 k10 k11 hb6
            obtain ⟨k0, k1, k2, k3, k4, k5, k6, k7, k8, k9, k10, k11, _⟩ := KP.out _ b6
            go_wp2_with fail
            refine (L2.out _ _ _ _ _ (Yo.out.up b6).ns).mono ?_
            rintro e v7 ⟨rfl, hb7⟩
            have b7 : Below wz.heap.size wz v7 := b6.trans (hb7.mono b6.size)
            clear k0 k1 k2 k3 k4 k5 k6 k7 k8 k9 k10 k11 hb7
            obtain ⟨k0, k1, k2, k3, k4, k5, k6, k7, k8, k9, k10, k11, _⟩ := KP.out _ b7
            go_wp2_with fail
            refine (L3.out _ _ _ _ _ (Yn.out.up b7).ns).mono ?_
            rintro e v8 ⟨rfl, hb8⟩
            have b8 : Below wz.heap.size wz v8 := b7.trans (hb8.mono b7.size)
            clear k0 k1 k2 k3 k4 k5 k6 k7 k8 k9 k10 k11 hb8
            obtain ⟨k0, k1, k2, k3, k4, k5, k6, k7, k8, k9, k10, k11, _⟩ := KP.out _ b8
            go_wp2_with fail
            refine (L4.out _ _ _ _ _ (Ym.out.up b8).ns).mono ?_
            rintro e v9 ⟨rfl, hb9⟩
            have b9 : Below wz.heap.size wz v9 := b8.trans (hb9.mono b8.size)
            clear k0 k1 k2 k3 k4 k5 k6 k7 k8 k9 k10 k11 hb9
            obtain ⟨k0, k1, k2, k3, k4, k5, k6, k7, k8, k9, k10, k11, _⟩ := KP.out _ b9
            go_wp2_with fail
            refine (HAl.out _).mono ?_
            rintro e v10 ⟨rfl, hb10⟩
            have b10 : Below wz.heap.size wz v10 := b9.trans (hb10.mono b9.size)
            clear k0 k1 k2 k3 k4 k5 k6 k7 k8 k9 k10 k11 hb10
            obtain ⟨k0, k1, k2, k3, k4, k5, k6, k7, k8, k9, k10, k11, _⟩ := KP.out _ b10
            go_wp2_with fail
            refine bodyPost_ret (v := .bool true) (by simp [results, Try.results7, go_sem]) rfl ?_
            exact ⟨rfl, HD2.out.trans (b10.mono HD2.out.size)⟩
          · have hxx := HX.out
            have hyy := HY.out
            have hvv := HV.out
            have J1 := Lib.hid (show ∀ (W : World) F1 f1 F2 f2, Ns W F1 f1 F2 f2 (andd s t) → Calls Try.prog 19 #[nv F1 (andd s t).1.length f1 F2 (andd s t).2.length f2, .int .i64 u] W (EqIs (true && true) W) from fun W F1 f1 F2 f2 h => by
              have h := has_any F1 F2 f1 f2 (andd s t) u W h ((and_ok HO.out.1 HO.out.2).le (by omega)) HU.out; rw [has_and, ← hxx, ← hyy] at h; exact h)
            have J2 := Lib.hid (show ∀ (W : World) F1 f1 F2 f2, Ns W F1 f1 F2 f2 (orr s t) → Calls Try.prog 19 #[nv F1 (orr s t).1.length f1 F2 (orr s t).2.length f2, .int .i64 u] W (EqIs (true || true) W) from fun W F1 f1 F2 f2 h => by
              have h := has_any F1 F2 f1 f2 (orr s t) u W h ((or_ok HO.out.1 HO.out.2).le (by omega)) HU.out; rw [has_or, ← hxx, ← hyy] at h; exact h)
            have J3 := Lib.hid (show ∀ (W : World) F1 f1 F2 f2, Ns W F1 f1 F2 f2 (nt s) → Calls Try.prog 19 #[nv F1 (nt s).1.length f1 F2 (nt s).2.length f2, .int .i64 u] W (EqIs (true && !true) W) from fun W F1 f1 F2 f2 h => by
              have h := has_any F1 F2 f1 f2 (nt s) u W h ((nt_ok HO.out.1).le (by omega)) HU.out; rw [has_nt, ← hvv, ← hxx] at h; exact h)
            have J4 := Lib.hid (show ∀ (W : World) F1 f1 F2 f2, Ns W F1 f1 F2 f2 (minus s t) → Calls Try.prog 19 #[nv F1 (minus s t).1.length f1 F2 (minus s t).2.length f2, .int .i64 u] W (EqIs (true && !true) W) from fun W F1 f1 F2 f2 h => by
              have h := has_any F1 F2 f1 f2 (minus s t) u W h ((minus_ok HO.out.1 HO.out.2).le (by omega)) HU.out; rw [has_minus, ← hxx, ← hyy] at h; exact h)
            have L1 := Lib.hid (show ∀ (W : World) F1 f1 F2 f2, Ns W F1 f1 F2 f2 (andd s t) → Calls Try.prog 17 #[nv F1 (andd s t).1.length f1 F2 (andd s t).2.length f2] W (EqIs true W) from fun W F1 f1 F2 f2 h => by
              have h := valid_s F1 F2 f1 f2 (andd s t) W h ((and_ok HO.out.1 HO.out.2).le (by omega)); rw [mk_of_can (can_and s t), eqN_dec, decide_eq_true rfl] at h; exact h)
            have L2 := Lib.hid (show ∀ (W : World) F1 f1 F2 f2, Ns W F1 f1 F2 f2 (orr s t) → Calls Try.prog 17 #[nv F1 (orr s t).1.length f1 F2 (orr s t).2.length f2] W (EqIs true W) from fun W F1 f1 F2 f2 h => by
              have h := valid_s F1 F2 f1 f2 (orr s t) W h ((or_ok HO.out.1 HO.out.2).le (by omega)); rw [mk_of_can (can_or s t), eqN_dec, decide_eq_true rfl] at h; exact h)
            have L3 := Lib.hid (show ∀ (W : World) F1 f1 F2 f2, Ns W F1 f1 F2 f2 (nt s) → Calls Try.prog 17 #[nv F1 (nt s).1.length f1 F2 (nt s).2.length f2] W (EqIs true W) from fun W F1 f1 F2 f2 h => by
              have h := valid_s F1 F2 f1 f2 (nt s) W h ((nt_ok HO.out.1).le (by omega)); rw [mk_of_can (can_nt s), eqN_dec, decide_eq_true rfl] at h; exact h)
            have L4 := Lib.hid (show ∀ (W : World) F1 f1 F2 f2, Ns W F1 f1 F2 f2 (minus s t) → Calls Try.prog 17 #[nv F1 (minus s t).1.length f1 F2 (minus s t).2.length f2] W (EqIs true W) from fun W F1 f1 F2 f2 h => by
              have h := valid_s F1 F2 f1 f2 (minus s t) W h ((minus_ok HO.out.1 HO.out.2).le (by omega)); rw [mk_of_can (can_minus s t), eqN_dec, decide_eq_true rfl] at h; exact h)
            clear hxx hyy hvv
            have g1 : decide ((-1000000000000000 : Int) ≤ u) = true := decide_eq_true (by omega)
            have g2 : decide (u ≤ 1000000000000000) = true := decide_eq_true (by omega)
            go_wp2_with fail
            refine (J1.out _ _ _ _ _ (Ya.out.up b0).ns).mono ?_
            rintro e v1 ⟨rfl, hb1⟩
            have b1 : Below wz.heap.size wz v1 := b0.trans (hb1.mono b0.size)
            clear k0 k1 k2 k3 k4 k5 k6 k7 k8 k9 k10 k11 hb1
            obtain ⟨k0, k1, k2, k3, k4, k5, k6, k7, k8, k9, k10, k11, _⟩ := KP.out _ b1
            go_wp2_with fail
            refine (J2.out _ _ _ _ _ (Yo.out.up b1).ns).mono ?_
            rintro e v2 ⟨rfl, hb2⟩
            have b2 : Below wz.heap.size wz v2 := b1.trans (hb2.mono b1.size)
            clear k0 k1 k2 k3 k4 k5 k6 k7 k8 k9 k10 k11 hb2
            obtain ⟨k0, k1, k2, k3, k4, k5, k6, k7, k8, k9, k10, k11, _⟩ := KP.out _ b2
            go_wp2_with fail
            refine (J3.out _ _ _ _ _ (Yn.out.up b2).ns).mono ?_
            rintro e v3 ⟨rfl, hb3⟩
            have b3 : Below wz.heap.size wz v3 := b2.trans (hb3.mono b2.size)
            clear k0 k1 k2 k3 k4 k5 k6 k7 k8 k9 k10 k11 hb3
            obtain ⟨k0, k1, k2, k3, k4, k5, k6, k7, k8, k9, k10, k11, _⟩ := KP.out _ b3
            go_wp2_with fail
            refine (J4.out _ _ _ _ _ (Ym.out.up b3).ns).mono ?_
            rintro e v4 ⟨rfl, hb4⟩
            have b4 : Below wz.heap.size wz v4 := b3.trans (hb4.mono b3.size)
            clear k0 k1 k2 k3 k4 k5 k6 k7 k8 k9 k10 k11 hb4
            obtain ⟨k0, k1, k2, k3, k4, k5, k6, k7, k8, k9, k10, k11, _⟩ := KP.out _ b4
            go_wp2_with fail
            refine (L1.out _ _ _ _ _ (Ya.out.up b4).ns).mono ?_
            rintro e v5 ⟨rfl, hb5⟩
            have b5 : Below wz.heap.size wz v5 := b4.trans (hb5.mono b4.size)
            clear k0 k1 k2 k3 k4 k5 k6 k7 k8 k9 k10 k11 hb5
            obtain ⟨k0, k1, k2, k3, k4, k5, k6, k7, k8, k9, k10, k11, _⟩ := KP.out _ b5
            go_wp2_with fail
            refine (L2.out _ _ _ _ _ (Yo.out.up b5).ns).mono ?_
            rintro e v6 ⟨rfl, hb6⟩
            have b6 : Below wz.heap.size wz v6 := b5.trans (hb6.mono b5.size)
            clear k0 k1 k2 k3 k4 k5 k6 k7 k8 k9 k10 k11 hb6
            obtain ⟨k0, k1, k2, k3, k4, k5, k6, k7, k8, k9, k10, k11, _⟩ := KP.out _ b6
            go_wp2_with fail
            refine (L3.out _ _ _ _ _ (Yn.out.up b6).ns).mono ?_
            rintro e v7 ⟨rfl, hb7⟩
            have b7 : Below wz.heap.size wz v7 := b6.trans (hb7.mono b6.size)
            clear k0 k1 k2 k3 k4 k5 k6 k7 k8 k9 k10 k11 hb7
            obtain ⟨k0, k1, k2, k3, k4, k5, k6, k7, k8, k9, k10, k11, _⟩ := KP.out _ b7
            go_wp2_with fail
            refine (L4.out _ _ _ _ _ (Ym.out.up b7).ns).mono ?_
            rintro e v8 ⟨rfl, hb8⟩
            have b8 : Below wz.heap.size wz v8 := b7.trans (hb8.mono b7.size)
            clear k0 k1 k2 k3 k4 k5 k6 k7 k8 k9 k10 k11 hb8
            obtain ⟨k0, k1, k2, k3, k4, k5, k6, k7, k8, k9, k10, k11, _⟩ := KP.out _ b8
            go_wp2_with fail
            refine (HAl.out _).mono ?_
            rintro e v9 ⟨rfl, hb9⟩
            have b9 : Below wz.heap.size wz v9 := b8.trans (hb9.mono b8.size)
            clear k0 k1 k2 k3 k4 k5 k6 k7 k8 k9 k10 k11 hb9
            obtain ⟨k0, k1, k2, k3, k4, k5, k6, k7, k8, k9, k10, k11, _⟩ := KP.out _ b9
            go_wp2_with fail
            refine bodyPost_ret (v := .bool true) (by simp [results, Try.results7, go_sem]) rfl ?_
            exact ⟨rfl, HD2.out.trans (b9.mono HD2.out.size)⟩
end Go.Proofs.Yteekccjfokoglaa
