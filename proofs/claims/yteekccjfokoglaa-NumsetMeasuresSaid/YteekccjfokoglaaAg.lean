/-
  NumsetCounts out of what the law's alive gives.
-/
import Derived.Test.YteekccjfokoglaaAf
namespace Go.Proofs.Yteekccjfokoglaa
open Go.RowKit Go.Sort Go.Lib Go.Proofs
set_option linter.unusedSimpArgs false
set_option linter.unnecessarySimpa false
set_option linter.unusedVariables false
theorem few2 (A1 : Option Addr) (n1 c1 : Nat) (A2 : Option Addr) (n2 c2 : Nat) (B1 : Option Addr) (m1 d1 : Nat) (B2 : Option Addr) (m2 d2 : Nat) (W : World) :
    Calls Try.prog 12 #[.slice (some ⟨W.heap.size, 0, none⟩) 2 2] (W.alloc (.cells #[.slice A1 n1 c1, .slice A2 n2 c2, .slice B1 m1 d1, .slice B2 m2 d2] 24)) (EqIs (fewL [⟨A1, n1, c1, A2, n2, c2⟩, ⟨B1, m1, d1, B2, m2, d2⟩]) (W.alloc (.cells #[.slice A1 n1 c1, .slice A2 n2 c2, .slice B1 m1 d1, .slice B2 m2 d2] 24))) := by
  refine few_any W.heap.size 0 [⟨A1, n1, c1, A2, n2, c2⟩, ⟨B1, m1, d1, B2, m2, d2⟩] 2 _ (fun i hi => ?_) (by simp) (by simp)
  rcases (show i = 0 ∨ i = 1 by simp at hi; omega) with rfl | rfl <;> exact ⟨by simp, by simp⟩
abbrev w2s (w : World) (A1 : Option Addr) (n1 c1 : Nat) (A2 : Option Addr) (n2 c2 : Nat) (B1 : Option Addr) (m1 d1 : Nat) (B2 : Option Addr) (m2 d2 : Nat) : World :=
  (w.alloc (.cells #[.slice A1 n1 c1, .slice A2 n2 c2] 24)).alloc (.cells #[.slice B1 m1 d1, .slice B2 m2 d2] 24)
theorem box2 {A1 A2 B1 B2 : Option Addr} {c1 c2 d1 d2 : Nat} {s t : NS} {w : World} (hs : Ns w A1 c1 A2 c2 s) (ht : Ns w B1 d1 B2 d2 t) :
    Below w.heap.size w (w2s w A1 s.1.length c1 A2 s.2.length c2 B1 t.1.length d1 B2 t.2.length d2) ∧
    Byn (w2s w A1 s.1.length c1 A2 s.2.length c2 B1 t.1.length d1 B2 t.2.length d2) w.heap.size A1 c1 A2 c2 s ∧
    Byn (w2s w A1 s.1.length c1 A2 s.2.length c2 B1 t.1.length d1 B2 t.2.length d2) (w.heap.size + 1) B1 d1 B2 d2 t := by
  have b2 := bal (w.alloc (.cells #[.slice A1 s.1.length c1, .slice A2 s.2.length c2] 24)) (.cells #[.slice B1 t.1.length d1, .slice B2 t.2.length d2] 24)
  have b1 := bal w (.cells #[.slice A1 s.1.length c1, .slice A2 s.2.length c2] 24)
  have k2 := byn_new (ht.up b1)
  rw [show (w.alloc (.cells #[.slice A1 s.1.length c1, .slice A2 s.2.length c2] 24)).heap.size = w.heap.size + 1 by simp] at k2
  exact ⟨b1.trans (b2.mono b1.size), (byn_new hs).up b2, k2⟩
/-- how the number of elements, Least and Single belong together -/
theorem count_cases (a : NS) : (countS a = 0 ∧ leastO a = none ∧ singB a = false ∧ singV a = 0 ∧ ∀ u, hasB a u = false) ∨
    (∃ l, countS a = 1 ∧ leastO a = some l ∧ singB a = true ∧ singV a = l ∧ IsLeast a l) ∨
    (∃ l, 2 ≤ countS a ∧ leastO a = some l ∧ singB a = false ∧ singV a = 0 ∧ IsLeast a l) := by
  obtain ⟨h0, h1⟩ := count_pos a
  rcases least_spec a with ⟨e, h⟩ | ⟨l, e, h⟩
  · have hz := h1.2 h
    exact .inl ⟨hz, e, by simp [singB, hz], by simp [singV, hz], h⟩
  · have hn : countS a ≠ 0 := fun hz => by have := h1.1 hz l; rw [h.1] at this; exact absurd this (by simp)
    by_cases hone : countS a = 1
    · exact .inr (.inl ⟨l, hone, e, by simp [singB, hone, e], by simp [singV, hone, e, lv], h⟩)
    · exact .inr (.inr ⟨l, by omega, e, by simp [singB, hone], by simp [singV, hone], h⟩)
theorem count_le (a : NS) : countS a ≤ countS allS := by
  have h := count_nt a
  have h' := (count_pos (nt a)).1
  show _ ≤ countS (nt ([], []))
  omega
theorem count_all : countS allS ≤ 4000000000000000 := by
  have h : mk allS = allS := mk_of_can (can_nt _)
  unfold countS; rw [h, all_eq]; decide
set_option maxRecDepth 100000 in
set_option maxHeartbeats 2000000 in
theorem counts_few (A1 A2 B1 B2 : Option Addr) (c1 c2 d1 d2 : Nat) (s t : NS) (u : Int) (w : World) (hs : Ns w A1 c1 A2 c2 s) (ht : Ns w B1 d1 B2 d2 t)
    (HAl : Hid (∀ W, Calls Try.prog 13 #[] W (EqIs true W)))
    (gs : okE s) (gt : okE t) (hu : i64ok u) : Calls Try.prog 10 #[nv A1 s.1.length c1 A2 s.2.length c2, nv B1 t.1.length d1 B2 t.2.length d2, .int .i64 u] w (EqIs true w) := by
  obtain ⟨hb0, hx1, hx2⟩ := box2 hs ht
  have HF := few2 A1 s.1.length c1 A2 s.2.length c2 B1 t.1.length d1 B2 t.2.length d2 (w2s w A1 s.1.length c1 A2 s.2.length c2 B1 t.1.length d1 B2 t.2.length d2)
  have hz : (w2s w A1 s.1.length c1 A2 s.2.length c2 B1 t.1.length d1 B2 t.2.length d2).heap.size = w.heap.size + 1 + 1 := by simp [w2s]
  have hbF := hb0.trans ((bal (w2s w A1 s.1.length c1 A2 s.2.length c2 B1 t.1.length d1 B2 t.2.length d2) (.cells #[.slice A1 s.1.length c1, .slice A2 s.2.length c2, .slice B1 t.1.length d1, .slice B2 t.2.length d2] 24)).mono hb0.size)
  have Xs := Lib.hid (hx1.up (bal _ (.cells #[.slice A1 s.1.length c1, .slice A2 s.2.length c2, .slice B1 t.1.length d1, .slice B2 t.2.length d2] 24)))
  have Xt := Lib.hid (hx2.up (bal _ (.cells #[.slice A1 s.1.length c1, .slice A2 s.2.length c2, .slice B1 t.1.length d1, .slice B2 t.2.length d2] 24)))
  rw [hz] at HF
  have HF' := Lib.hid HF
  clear HF
  have HB := Lib.hid hbF
  obtain ⟨fw, hfw⟩ : ∃ fw, fw = fewL [⟨A1, s.1.length, c1, A2, s.2.length, c2⟩, ⟨B1, t.1.length, d1, B2, t.2.length, d2⟩] := ⟨_, rfl⟩
  rw [← hfw] at HF'
  have HW := Lib.hid hfw
  have HU := Lib.hid hu
  unfold w2s at *
  clear hx1 hx2 hz hb0 hbF hfw hs ht hu
  go_enter Try.func10, Try.ntmps10
  go_wp2_with fail
  refine HF'.out.mono ?_
  rintro e w1 ⟨rfl, hb1⟩
  have Ys := Lib.hid (Xs.out.up hb1)
  have Yt := Lib.hid (Xt.out.up hb1)
  have HD := Lib.hid (HB.out.trans (hb1.mono HB.out.size))
  clear hb1 HB Xs Xt HF'
  cases fw
  · go_wp2_with fail
    refine (HAl.out _).mono ?_
    rintro e w2 ⟨rfl, hb2⟩
    go_wp2_with fail
    refine bodyPost_ret (v := .bool true) (by simp [results, Try.results10, go_sem]) rfl ?_
    exact ⟨rfl, HD.out.trans (hb2.mono HD.out.size)⟩
  · have hfw := HW.out
    have Os : okN 8 s := gs.few (A1 := A1) (c1 := c1) (A2 := A2) (c2 := c2) (List.all_eq_true.1 hfw.symm _ (by simp [sl2]))
    have Ot : okN 8 t := gt.few (A1 := B1) (c1 := d1) (A2 := B2) (c2 := d2) (List.all_eq_true.1 hfw.symm _ (by simp [sl2]))
    clear hfw gs gt
    have HCs := Lib.hid (show ∀ (W : World) F1 f1 F2 f2, Ns W F1 f1 F2 f2 (s) → Calls Try.prog 43 #[nv F1 (s).1.length f1 F2 (s).2.length f2] W (NumIs (countS (s)) W) from fun W F1 f1 F2 f2 h => count_any F1 F2 f1 f2 (s) W h (Os.le (by omega)))
    have HCt := Lib.hid (show ∀ (W : World) F1 f1 F2 f2, Ns W F1 f1 F2 f2 (t) → Calls Try.prog 43 #[nv F1 (t).1.length f1 F2 (t).2.length f2] W (NumIs (countS (t)) W) from fun W F1 f1 F2 f2 h => count_any F1 F2 f1 f2 (t) W h (Ot.le (by omega)))
    have HCo := Lib.hid (show ∀ (W : World) F1 f1 F2 f2, Ns W F1 f1 F2 f2 (orr s t) → Calls Try.prog 43 #[nv F1 (orr s t).1.length f1 F2 (orr s t).2.length f2] W (NumIs (countS (orr s t)) W) from fun W F1 f1 F2 f2 h => count_any F1 F2 f1 f2 (orr s t) W h ((or_ok Os Ot).le (by omega)))
    have HCa := Lib.hid (show ∀ (W : World) F1 f1 F2 f2, Ns W F1 f1 F2 f2 (andd s t) → Calls Try.prog 43 #[nv F1 (andd s t).1.length f1 F2 (andd s t).2.length f2] W (NumIs (countS (andd s t)) W) from fun W F1 f1 F2 f2 h => count_any F1 F2 f1 f2 (andd s t) W h ((and_ok Os Ot).le (by omega)))
    have HCn := Lib.hid (show ∀ (W : World) F1 f1 F2 f2, Ns W F1 f1 F2 f2 (nt s) → Calls Try.prog 43 #[nv F1 (nt s).1.length f1 F2 (nt s).2.length f2] W (NumIs (countS (nt s)) W) from fun W F1 f1 F2 f2 h => count_any F1 F2 f1 f2 (nt s) W h ((nt_ok Os).le (by omega)))
    have HCl := Lib.hid (show ∀ (W : World) F1 f1 F2 f2, Ns W F1 f1 F2 f2 (allS) → Calls Try.prog 43 #[nv F1 (allS).1.length f1 F2 (allS).2.length f2] W (NumIs (countS (allS)) W) from fun W F1 f1 F2 f2 h => count_any F1 F2 f1 f2 (allS) W h (all_ok.le (by omega)))
    have HOr := Lib.hid (show ∀ W : World, Ns W A1 c1 A2 c2 s → Ns W B1 d1 B2 d2 t → Calls Try.prog 27 #[nv A1 s.1.length c1 A2 s.2.length c2, nv B1 t.1.length d1 B2 t.2.length d2] W (GivesN (orr s t) W) from fun W h k => or_any A1 A2 B1 B2 c1 c2 d1 d2 s t W h k (Os.le (by omega)) (Ot.le (by omega)))
    have HAn := Lib.hid (show ∀ W : World, Ns W A1 c1 A2 c2 s → Ns W B1 d1 B2 d2 t → Calls Try.prog 25 #[nv A1 s.1.length c1 A2 s.2.length c2, nv B1 t.1.length d1 B2 t.2.length d2] W (GivesN (andd s t) W) from fun W h k => and_any A1 A2 B1 B2 c1 c2 d1 d2 s t W h k (Os.le (by omega)) (Ot.le (by omega)))
    have HNt := Lib.hid (show ∀ W : World, Ns W A1 c1 A2 c2 s → Calls Try.prog 29 #[nv A1 s.1.length c1 A2 s.2.length c2] W (GivesN (nt s) W) from fun W h => not_any A1 A2 c1 c2 s W h (Os.le (by omega)))
    have HLe := Lib.hid (show ∀ W : World, Ns W A1 c1 A2 c2 s → Calls Try.prog 39 #[nv A1 s.1.length c1 A2 s.2.length c2] W (LeastIs s W) from fun W h => least_any A1 A2 c1 c2 s W h (Os.le (by omega)))
    have HSi := Lib.hid (show ∀ W : World, Ns W A1 c1 A2 c2 s → Calls Try.prog 41 #[nv A1 s.1.length c1 A2 s.2.length c2] W (SingleIs s W) from fun W h => single_any A1 A2 c1 c2 s W h (Os.le (by omega)))
    have HHas := Lib.hid (show ∀ (x : Int) (W : World), i64ok x → Ns W A1 c1 A2 c2 s → Calls Try.prog 19 #[nv A1 s.1.length c1 A2 s.2.length c2, .int .i64 x] W (EqIs (hasB s x) W) from fun x W hx h => has_any A1 A2 c1 c2 s x W h (Os.le (by omega)) hx)
    have HAll := Lib.hid (fun W => all_any W)
    have KP := Lib.hid (show ∀ W : World, Below w1.heap.size w1 W → W.cell? ⟨w.heap.size, 0, none⟩ = some (.slice A1 s.1.length c1) ∧ W.cell? ⟨w.heap.size, 1, none⟩ = some (.slice A2 s.2.length c2) ∧ W.cell? ⟨w.heap.size + 1, 0, none⟩ = some (.slice B1 t.1.length d1) ∧ W.cell? ⟨w.heap.size + 1, 1, none⟩ = some (.slice B2 t.2.length d2) ∧ Below w1.heap.size w1 W from fun W hb => ⟨(Ys.out.up hb).1, (Ys.out.up hb).2.1, (Yt.out.up hb).1, (Yt.out.up hb).2.1, hb⟩)
    clear Os Ot
    obtain ⟨k0, k1, k2, k3, _⟩ := KP.out w1 (Below.refl _ _)
    have HQ1 := Lib.hid (show IntKind.i64.wrap (countS s + countS t) = IntKind.i64.wrap (countS (orr s t) + countS (andd s t)) by rw [count_or])
    have HQ2 := Lib.hid (show IntKind.i64.wrap (countS s + countS (nt s)) = countS allS by
      have h1 := count_all
      have h2 := (count_pos allS).1
      have h := count_nt s
      have h' : countS s + countS (nt s) = countS allS := h
      rw [h', IntKind.wrap_i64]; omega)
    have HCC := Lib.hid (count_cases s)
    have HC0 := Lib.hid (count_pos s).1
    go_wp2_with fail
    refine (HCs.out _ A1 c1 A2 c2 Ys.out.ns).mono ?_
    rintro e v1 ⟨rfl, hb1⟩
    have b1 : Below w1.heap.size w1 v1 := hb1
    clear k0 k1 k2 k3 hb1
    go_upto_region 4 with fail
    have b2 : Below w1.heap.size w1 v1.drew := b1.trans ((drewB v1).mono b1.size)
    have Kb2 := KP.out _ b2
    generalize countS s = n at *
    generalize countS t = m at *
    generalize countS (orr s t) = n1 at *
    generalize countS (andd s t) = n2 at *
    generalize countS (nt s) = n3 at *
    generalize countS allS = n4 at *
    have q1 := HQ1.out
    have q2 := HQ2.out
    have q3 : decide (n < 0) = false := decide_eq_false (by have := HC0.out; omega)
    go_region_held3 (fun w' => w'.cell? ⟨w.heap.size, 0, none⟩ = some (.slice A1 s.1.length c1) ∧ w'.cell? ⟨w.heap.size, 1, none⟩ = some (.slice A2 s.2.length c2) ∧ w'.cell? ⟨w.heap.size + 1, 0, none⟩ = some (.slice B1 t.1.length d1) ∧ w'.cell? ⟨w.heap.size + 1, 1, none⟩ = some (.slice B2 t.2.length d2) ∧ Below w1.heap.size w1 w')
      (first | assumption | exact KP.out _ (Below.refl _ _) | exact Kb11 | exact Kb10 | exact Kb9 | exact Kb8 | exact Kb7 | exact Kb6 | exact Kb5 | exact Kb4 | exact Kb3 | exact Kb2)
      (first
        | (go_at_call 43; (with_reducible refine (HCl.out _ L1 l1 L2 l2 nL).mono ?_); rintro e v11 ⟨rfl, hb11⟩; have b11 : Below w1.heap.size w1 v11 := b10.trans (hb11.mono b10.size); have Kb11 := KP.out _ b11)
        | (go_at_call 21; (with_reducible refine (HAll.out _).mono ?_); rintro e v10 ⟨L1, l1, L2, l2, rfl, ⟨nL, _, _⟩, hb10⟩; have b10 : Below w1.heap.size w1 v10 := b9.trans (hb10.mono b9.size); have Kb10 := KP.out _ b10)
        | (go_at_call 43; (with_reducible refine (HCn.out _ T1 t1 T2 t2 nT).mono ?_); rintro e v9 ⟨rfl, hb9⟩; have b9 : Below w1.heap.size w1 v9 := b8.trans (hb9.mono b8.size); have Kb9 := KP.out _ b9)
        | (go_at_call 29; (with_reducible refine (HNt.out _ (Ys.out.up b7).ns).mono ?_); rintro e v8 ⟨T1, t1, T2, t2, rfl, ⟨nT, _, _⟩, hb8⟩; have b8 : Below w1.heap.size w1 v8 := b7.trans (hb8.mono b7.size); have Kb8 := KP.out _ b8)
        | (go_at_call 43; (with_reducible refine (HCa.out _ N1 n1 N2 n2 nN).mono ?_); rintro e v7 ⟨rfl, hb7⟩; have b7 : Below w1.heap.size w1 v7 := b6.trans (hb7.mono b6.size); have Kb7 := KP.out _ b7)
        | (go_at_call 25; (with_reducible refine (HAn.out _ (Ys.out.up b5).ns (Yt.out.up b5).ns).mono ?_); rintro e v6 ⟨N1, n1, N2, n2, rfl, ⟨nN, _, _⟩, hb6⟩; have b6 : Below w1.heap.size w1 v6 := b5.trans (hb6.mono b5.size); have Kb6 := KP.out _ b6)
        | (go_at_call 43; (with_reducible refine (HCo.out _ O1 o1 O2 o2 nO).mono ?_); rintro e v5 ⟨rfl, hb5⟩; have b5 : Below w1.heap.size w1 v5 := b4.trans (hb5.mono b4.size); have Kb5 := KP.out _ b5)
        | (go_at_call 27; (with_reducible refine (HOr.out _ (Ys.out.up b3).ns (Yt.out.up b3).ns).mono ?_); rintro e v4 ⟨O1, o1, O2, o2, rfl, ⟨nO, _, _⟩, hb4⟩; have b4 : Below w1.heap.size w1 v4 := b3.trans (hb4.mono b3.size); have Kb4 := KP.out _ b4)
        | (go_at_call 43; (with_reducible refine (HCt.out _ B1 d1 B2 d2 (Yt.out.up b2).ns).mono ?_); rintro e v3 ⟨rfl, hb3⟩; have b3 : Below w1.heap.size w1 v3 := b2.trans (hb3.mono b2.size); have Kb3 := KP.out _ b3))
    rcases HCC.out with ⟨e1, e2, e3, e4, e5⟩ | ⟨l, e1, e2, e3, e4, e5⟩ | ⟨l, e1, e2, e3, e4, e5⟩
    · subst e1
      have HL' := Lib.hid (show ∀ W : World, Ns W A1 c1 A2 c2 s → Calls Try.prog 39 #[nv A1 s.1.length c1 A2 s.2.length c2] W (fun e w' => e = .returned (.tuple #[.int .i64 0, .bool false]) ∧ Below W.heap.size W w') from fun W h => by
        have h := HLe.out W h; unfold LeastIs at h; rw [e2] at h; exact h)
      have HS' := Lib.hid (show ∀ W : World, Ns W A1 c1 A2 c2 s → Calls Try.prog 41 #[nv A1 s.1.length c1 A2 s.2.length c2] W (fun e w' => e = .returned (.tuple #[.int .i64 0, .bool false]) ∧ Below W.heap.size W w') from fun W h => by
        have h := HSi.out W h; unfold SingleIs at h; rw [e3, e4] at h; exact h)
      have HHu := Lib.hid (show ∀ W : World, Ns W A1 c1 A2 c2 s → Calls Try.prog 19 #[nv A1 s.1.length c1 A2 s.2.length c2, .int .i64 u] W (EqIs false W) from fun W h => by
        have h := HHas.out u W HU.out h; rw [e5 u] at h; exact h)
      clear e2 e3 e4 e5 q1 q2 q3
      obtain ⟨k0, k1, k2, k3, _⟩ := Kb11
      go_wp2_with fail
      refine (HL'.out _ (Ys.out.up b11).ns).mono ?_
      rintro e v12 ⟨rfl, hb12⟩
      have b12 : Below w1.heap.size w1 v12 := b11.trans (hb12.mono b11.size)
      clear k0 k1 k2 k3 hb12
      obtain ⟨k0, k1, k2, k3, _⟩ := KP.out _ b12
      go_wp2_with fail
      refine (HS'.out _ (Ys.out.up b12).ns).mono ?_
      rintro e v13 ⟨rfl, hb13⟩
      have b13 : Below w1.heap.size w1 v13 := b12.trans (hb13.mono b12.size)
      clear k0 k1 k2 k3 hb13
      obtain ⟨k0, k1, k2, k3, _⟩ := KP.out _ b13
      go_wp2_with fail
      refine (HHu.out _ (Ys.out.up b13).ns).mono ?_
      rintro e v14 ⟨rfl, hb14⟩
      have b14 : Below w1.heap.size w1 v14 := b13.trans (hb14.mono b13.size)
      clear k0 k1 k2 k3 hb14
      obtain ⟨k0, k1, k2, k3, _⟩ := KP.out _ b14
      go_wp2_with fail
      refine (HAl.out _ ).mono ?_
      rintro e v15 ⟨rfl, hb15⟩
      have b15 : Below w1.heap.size w1 v15 := b14.trans (hb15.mono b14.size)
      clear k0 k1 k2 k3 hb15
      obtain ⟨k0, k1, k2, k3, _⟩ := KP.out _ b15
      go_wp2_with fail
      refine bodyPost_ret (v := .bool true) (by simp [results, Try.results10, go_sem]) rfl ?_
      exact ⟨rfl, HD.out.trans (b15.mono HD.out.size)⟩
    · subst e1
      have HL' := Lib.hid (show ∀ W : World, Ns W A1 c1 A2 c2 s → Calls Try.prog 39 #[nv A1 s.1.length c1 A2 s.2.length c2] W (fun e w' => e = .returned (.tuple #[.int .i64 l, .bool true]) ∧ Below W.heap.size W w') from fun W h => by
        have h := HLe.out W h; unfold LeastIs at h; rw [e2] at h; exact h)
      have HS' := Lib.hid (show ∀ W : World, Ns W A1 c1 A2 c2 s → Calls Try.prog 41 #[nv A1 s.1.length c1 A2 s.2.length c2] W (fun e w' => e = .returned (.tuple #[.int .i64 l, .bool true]) ∧ Below W.heap.size W w') from fun W h => by
        have h := HSi.out W h; unfold SingleIs at h; rw [e3, e4] at h; exact h)
      have hl64 : i64ok l := by have := (vld_iff l).1 (has_vld e5.1); unfold i64ok; omega
      have HHl := Lib.hid (show ∀ W : World, Ns W A1 c1 A2 c2 s → Calls Try.prog 19 #[nv A1 s.1.length c1 A2 s.2.length c2, .int .i64 l] W (EqIs true W) from fun W h => by
        have h := HHas.out l W hl64 h; rw [e5.1] at h; exact h)
      cases hh : hasB s u
      · have HHu := Lib.hid (show ∀ W : World, Ns W A1 c1 A2 c2 s → Calls Try.prog 19 #[nv A1 s.1.length c1 A2 s.2.length c2, .int .i64 u] W (EqIs false W) from fun W h => by
          have h := HHas.out u W HU.out h; rw [hh] at h; exact h)
        clear hh
        clear e2 e3 e4 e5 hl64 q1 q2 q3
        obtain ⟨k0, k1, k2, k3, _⟩ := Kb11
        go_wp2_with fail
        refine (HL'.out _ (Ys.out.up b11).ns).mono ?_
        rintro e v12 ⟨rfl, hb12⟩
        have b12 : Below w1.heap.size w1 v12 := b11.trans (hb12.mono b11.size)
        clear k0 k1 k2 k3 hb12
        obtain ⟨k0, k1, k2, k3, _⟩ := KP.out _ b12
        go_wp2_with fail
        refine (HS'.out _ (Ys.out.up b12).ns).mono ?_
        rintro e v13 ⟨rfl, hb13⟩
        have b13 : Below w1.heap.size w1 v13 := b12.trans (hb13.mono b12.size)
        clear k0 k1 k2 k3 hb13
        obtain ⟨k0, k1, k2, k3, _⟩ := KP.out _ b13
        go_wp2_with fail
        refine (HHl.out _ (Ys.out.up b13).ns).mono ?_
        rintro e v14 ⟨rfl, hb14⟩
        have b14 : Below w1.heap.size w1 v14 := b13.trans (hb14.mono b13.size)
        clear k0 k1 k2 k3 hb14
        obtain ⟨k0, k1, k2, k3, _⟩ := KP.out _ b14
        go_wp2_with fail
        refine (HHu.out _ (Ys.out.up b14).ns).mono ?_
        rintro e v15 ⟨rfl, hb15⟩
        have b15 : Below w1.heap.size w1 v15 := b14.trans (hb15.mono b14.size)
        clear k0 k1 k2 k3 hb15
        obtain ⟨k0, k1, k2, k3, _⟩ := KP.out _ b15
        go_wp2_with fail
        refine (HAl.out _ ).mono ?_
        rintro e v16 ⟨rfl, hb16⟩
        have b16 : Below w1.heap.size w1 v16 := b15.trans (hb16.mono b15.size)
        clear k0 k1 k2 k3 hb16
        obtain ⟨k0, k1, k2, k3, _⟩ := KP.out _ b16
        go_wp2_with fail
        refine bodyPost_ret (v := .bool true) (by simp [results, Try.results10, go_sem]) rfl ?_
        exact ⟨rfl, HD.out.trans (b16.mono HD.out.size)⟩
      · by_cases hul : u = l
        · subst hul
          have HHu := Lib.hid (show ∀ W : World, Ns W A1 c1 A2 c2 s → Calls Try.prog 19 #[nv A1 s.1.length c1 A2 s.2.length c2, .int .i64 u] W (EqIs true W) from fun W h => by
            have h := HHas.out u W HU.out h; rw [hh] at h; exact h)
          clear hh
          clear e2 e3 e4 e5 hl64 q1 q2 q3
          obtain ⟨k0, k1, k2, k3, _⟩ := Kb11
          go_wp2_with fail
          refine (HL'.out _ (Ys.out.up b11).ns).mono ?_
          rintro e v12 ⟨rfl, hb12⟩
          have b12 : Below w1.heap.size w1 v12 := b11.trans (hb12.mono b11.size)
          clear k0 k1 k2 k3 hb12
          obtain ⟨k0, k1, k2, k3, _⟩ := KP.out _ b12
          go_wp2_with fail
          refine (HS'.out _ (Ys.out.up b12).ns).mono ?_
          rintro e v13 ⟨rfl, hb13⟩
          have b13 : Below w1.heap.size w1 v13 := b12.trans (hb13.mono b12.size)
          clear k0 k1 k2 k3 hb13
          obtain ⟨k0, k1, k2, k3, _⟩ := KP.out _ b13
          go_wp2_with fail
          refine (HHl.out _ (Ys.out.up b13).ns).mono ?_
          rintro e v14 ⟨rfl, hb14⟩
          have b14 : Below w1.heap.size w1 v14 := b13.trans (hb14.mono b13.size)
          clear k0 k1 k2 k3 hb14
          obtain ⟨k0, k1, k2, k3, _⟩ := KP.out _ b14
          go_wp2_with fail
          refine (HHu.out _ (Ys.out.up b14).ns).mono ?_
          rintro e v15 ⟨rfl, hb15⟩
          have b15 : Below w1.heap.size w1 v15 := b14.trans (hb15.mono b14.size)
          clear k0 k1 k2 k3 hb15
          obtain ⟨k0, k1, k2, k3, _⟩ := KP.out _ b15
          go_wp2_with fail
          refine (HAl.out _ ).mono ?_
          rintro e v16 ⟨rfl, hb16⟩
          have b16 : Below w1.heap.size w1 v16 := b15.trans (hb16.mono b15.size)
          clear k0 k1 k2 k3 hb16
          obtain ⟨k0, k1, k2, k3, _⟩ := KP.out _ b16
          go_wp2_with fail
          refine bodyPost_ret (v := .bool true) (by simp [results, Try.results10, go_sem]) rfl ?_
          exact ⟨rfl, HD.out.trans (b16.mono HD.out.size)⟩
        · have hn := (e5.2 u hh).resolve_left hul
          have gul : (u == l) = false := beq_eq_false_iff_ne.2 hul
          have HN := Lib.hid (show ∀ W : World, Calls Try.prog 47 #[.int .i64 l, .int .i64 u] W (EqIs true W) from fun W => by
            have h1 := (vld_iff l).1 (has_vld e5.1)
            have h2 := (vld_iff u).1 (has_vld hh)
            refine (Nearer_any l u W (by unfold bd62; omega) (by unfold bd62; omega)).mono ?_
            rintro e w' ⟨rfl, rfl⟩
            rw [hn]; exact ⟨rfl, Below.refl _ _⟩)
          have HHu := Lib.hid (show ∀ W : World, Ns W A1 c1 A2 c2 s → Calls Try.prog 19 #[nv A1 s.1.length c1 A2 s.2.length c2, .int .i64 u] W (EqIs true W) from fun W h => by
            have h := HHas.out u W HU.out h; rw [hh] at h; exact h)
          clear hh hn hul
          clear e2 e3 e4 e5 hl64 q1 q2 q3
          obtain ⟨k0, k1, k2, k3, _⟩ := Kb11
          go_wp2_with fail
          refine (HL'.out _ (Ys.out.up b11).ns).mono ?_
          rintro e v12 ⟨rfl, hb12⟩
          have b12 : Below w1.heap.size w1 v12 := b11.trans (hb12.mono b11.size)
          clear k0 k1 k2 k3 hb12
          obtain ⟨k0, k1, k2, k3, _⟩ := KP.out _ b12
          go_wp2_with fail
          refine (HS'.out _ (Ys.out.up b12).ns).mono ?_
          rintro e v13 ⟨rfl, hb13⟩
          have b13 : Below w1.heap.size w1 v13 := b12.trans (hb13.mono b12.size)
          clear k0 k1 k2 k3 hb13
          obtain ⟨k0, k1, k2, k3, _⟩ := KP.out _ b13
          go_wp2_with fail
          refine (HHl.out _ (Ys.out.up b13).ns).mono ?_
          rintro e v14 ⟨rfl, hb14⟩
          have b14 : Below w1.heap.size w1 v14 := b13.trans (hb14.mono b13.size)
          clear k0 k1 k2 k3 hb14
          obtain ⟨k0, k1, k2, k3, _⟩ := KP.out _ b14
          go_wp2_with fail
          refine (HHu.out _ (Ys.out.up b14).ns).mono ?_
          rintro e v15 ⟨rfl, hb15⟩
          have b15 : Below w1.heap.size w1 v15 := b14.trans (hb15.mono b14.size)
          clear k0 k1 k2 k3 hb15
          obtain ⟨k0, k1, k2, k3, _⟩ := KP.out _ b15
          go_wp2_with fail
          refine (HN.out _ ).mono ?_
          rintro e v16 ⟨rfl, hb16⟩
          have b16 : Below w1.heap.size w1 v16 := b15.trans (hb16.mono b15.size)
          clear k0 k1 k2 k3 hb16
          obtain ⟨k0, k1, k2, k3, _⟩ := KP.out _ b16
          go_wp2_with fail
          refine (HAl.out _ ).mono ?_
          rintro e v17 ⟨rfl, hb17⟩
          have b17 : Below w1.heap.size w1 v17 := b16.trans (hb17.mono b16.size)
          clear k0 k1 k2 k3 hb17
          obtain ⟨k0, k1, k2, k3, _⟩ := KP.out _ b17
          go_wp2_with fail
          refine bodyPost_ret (v := .bool true) (by simp [results, Try.results10, go_sem]) rfl ?_
          exact ⟨rfl, HD.out.trans (b17.mono HD.out.size)⟩
    · have HL' := Lib.hid (show ∀ W : World, Ns W A1 c1 A2 c2 s → Calls Try.prog 39 #[nv A1 s.1.length c1 A2 s.2.length c2] W (fun e w' => e = .returned (.tuple #[.int .i64 l, .bool true]) ∧ Below W.heap.size W w') from fun W h => by
        have h := HLe.out W h; unfold LeastIs at h; rw [e2] at h; exact h)
      have HS' := Lib.hid (show ∀ W : World, Ns W A1 c1 A2 c2 s → Calls Try.prog 41 #[nv A1 s.1.length c1 A2 s.2.length c2] W (fun e w' => e = .returned (.tuple #[.int .i64 0, .bool false]) ∧ Below W.heap.size W w') from fun W h => by
        have h := HSi.out W h; unfold SingleIs at h; rw [e3, e4] at h; exact h)
      have hl64 : i64ok l := by have := (vld_iff l).1 (has_vld e5.1); unfold i64ok; omega
      have HHl := Lib.hid (show ∀ W : World, Ns W A1 c1 A2 c2 s → Calls Try.prog 19 #[nv A1 s.1.length c1 A2 s.2.length c2, .int .i64 l] W (EqIs true W) from fun W h => by
        have h := HHas.out l W hl64 h; rw [e5.1] at h; exact h)
      have g1 : decide (0 < n) = true := decide_eq_true (by omega)
      have g2 : (n == 1) = false := beq_eq_false_iff_ne.2 (by omega)
      clear e1
      cases hh : hasB s u
      · have HHu := Lib.hid (show ∀ W : World, Ns W A1 c1 A2 c2 s → Calls Try.prog 19 #[nv A1 s.1.length c1 A2 s.2.length c2, .int .i64 u] W (EqIs false W) from fun W h => by
          have h := HHas.out u W HU.out h; rw [hh] at h; exact h)
        clear hh
        clear e2 e3 e4 e5 hl64 q1 q2 q3
        obtain ⟨k0, k1, k2, k3, _⟩ := Kb11
        go_wp2_with fail
        refine (HL'.out _ (Ys.out.up b11).ns).mono ?_
        rintro e v12 ⟨rfl, hb12⟩
        have b12 : Below w1.heap.size w1 v12 := b11.trans (hb12.mono b11.size)
        clear k0 k1 k2 k3 hb12
        obtain ⟨k0, k1, k2, k3, _⟩ := KP.out _ b12
        go_wp2_with fail
        refine (HS'.out _ (Ys.out.up b12).ns).mono ?_
        rintro e v13 ⟨rfl, hb13⟩
        have b13 : Below w1.heap.size w1 v13 := b12.trans (hb13.mono b12.size)
        clear k0 k1 k2 k3 hb13
        obtain ⟨k0, k1, k2, k3, _⟩ := KP.out _ b13
        go_wp2_with fail
        refine (HHl.out _ (Ys.out.up b13).ns).mono ?_
        rintro e v14 ⟨rfl, hb14⟩
        have b14 : Below w1.heap.size w1 v14 := b13.trans (hb14.mono b13.size)
        clear k0 k1 k2 k3 hb14
        obtain ⟨k0, k1, k2, k3, _⟩ := KP.out _ b14
        go_wp2_with fail
        refine (HHu.out _ (Ys.out.up b14).ns).mono ?_
        rintro e v15 ⟨rfl, hb15⟩
        have b15 : Below w1.heap.size w1 v15 := b14.trans (hb15.mono b14.size)
        clear k0 k1 k2 k3 hb15
        obtain ⟨k0, k1, k2, k3, _⟩ := KP.out _ b15
        go_wp2_with fail
        refine (HAl.out _ ).mono ?_
        rintro e v16 ⟨rfl, hb16⟩
        have b16 : Below w1.heap.size w1 v16 := b15.trans (hb16.mono b15.size)
        clear k0 k1 k2 k3 hb16
        obtain ⟨k0, k1, k2, k3, _⟩ := KP.out _ b16
        go_wp2_with fail
        refine bodyPost_ret (v := .bool true) (by simp [results, Try.results10, go_sem]) rfl ?_
        exact ⟨rfl, HD.out.trans (b16.mono HD.out.size)⟩
      · by_cases hul : u = l
        · subst hul
          have HHu := Lib.hid (show ∀ W : World, Ns W A1 c1 A2 c2 s → Calls Try.prog 19 #[nv A1 s.1.length c1 A2 s.2.length c2, .int .i64 u] W (EqIs true W) from fun W h => by
            have h := HHas.out u W HU.out h; rw [hh] at h; exact h)
          clear hh
          clear e2 e3 e4 e5 hl64 q1 q2 q3
          obtain ⟨k0, k1, k2, k3, _⟩ := Kb11
          go_wp2_with fail
          refine (HL'.out _ (Ys.out.up b11).ns).mono ?_
          rintro e v12 ⟨rfl, hb12⟩
          have b12 : Below w1.heap.size w1 v12 := b11.trans (hb12.mono b11.size)
          clear k0 k1 k2 k3 hb12
          obtain ⟨k0, k1, k2, k3, _⟩ := KP.out _ b12
          go_wp2_with fail
          refine (HS'.out _ (Ys.out.up b12).ns).mono ?_
          rintro e v13 ⟨rfl, hb13⟩
          have b13 : Below w1.heap.size w1 v13 := b12.trans (hb13.mono b12.size)
          clear k0 k1 k2 k3 hb13
          obtain ⟨k0, k1, k2, k3, _⟩ := KP.out _ b13
          go_wp2_with fail
          refine (HHl.out _ (Ys.out.up b13).ns).mono ?_
          rintro e v14 ⟨rfl, hb14⟩
          have b14 : Below w1.heap.size w1 v14 := b13.trans (hb14.mono b13.size)
          clear k0 k1 k2 k3 hb14
          obtain ⟨k0, k1, k2, k3, _⟩ := KP.out _ b14
          go_wp2_with fail
          refine (HHu.out _ (Ys.out.up b14).ns).mono ?_
          rintro e v15 ⟨rfl, hb15⟩
          have b15 : Below w1.heap.size w1 v15 := b14.trans (hb15.mono b14.size)
          clear k0 k1 k2 k3 hb15
          obtain ⟨k0, k1, k2, k3, _⟩ := KP.out _ b15
          go_wp2_with fail
          refine (HAl.out _ ).mono ?_
          rintro e v16 ⟨rfl, hb16⟩
          have b16 : Below w1.heap.size w1 v16 := b15.trans (hb16.mono b15.size)
          clear k0 k1 k2 k3 hb16
          obtain ⟨k0, k1, k2, k3, _⟩ := KP.out _ b16
          go_wp2_with fail
          refine bodyPost_ret (v := .bool true) (by simp [results, Try.results10, go_sem]) rfl ?_
          exact ⟨rfl, HD.out.trans (b16.mono HD.out.size)⟩
        · have hn := (e5.2 u hh).resolve_left hul
          have gul : (u == l) = false := beq_eq_false_iff_ne.2 hul
          have HN := Lib.hid (show ∀ W : World, Calls Try.prog 47 #[.int .i64 l, .int .i64 u] W (EqIs true W) from fun W => by
            have h1 := (vld_iff l).1 (has_vld e5.1)
            have h2 := (vld_iff u).1 (has_vld hh)
            refine (Nearer_any l u W (by unfold bd62; omega) (by unfold bd62; omega)).mono ?_
            rintro e w' ⟨rfl, rfl⟩
            rw [hn]; exact ⟨rfl, Below.refl _ _⟩)
          have HHu := Lib.hid (show ∀ W : World, Ns W A1 c1 A2 c2 s → Calls Try.prog 19 #[nv A1 s.1.length c1 A2 s.2.length c2, .int .i64 u] W (EqIs true W) from fun W h => by
            have h := HHas.out u W HU.out h; rw [hh] at h; exact h)
          clear hh hn hul
          clear e2 e3 e4 e5 hl64 q1 q2 q3
          obtain ⟨k0, k1, k2, k3, _⟩ := Kb11
          go_wp2_with fail
          refine (HL'.out _ (Ys.out.up b11).ns).mono ?_
          rintro e v12 ⟨rfl, hb12⟩
          have b12 : Below w1.heap.size w1 v12 := b11.trans (hb12.mono b11.size)
          clear k0 k1 k2 k3 hb12
          obtain ⟨k0, k1, k2, k3, _⟩ := KP.out _ b12
          go_wp2_with fail
          refine (HS'.out _ (Ys.out.up b12).ns).mono ?_
          rintro e v13 ⟨rfl, hb13⟩
          have b13 : Below w1.heap.size w1 v13 := b12.trans (hb13.mono b12.size)
          clear k0 k1 k2 k3 hb13
          obtain ⟨k0, k1, k2, k3, _⟩ := KP.out _ b13
          go_wp2_with fail
          refine (HHl.out _ (Ys.out.up b13).ns).mono ?_
          rintro e v14 ⟨rfl, hb14⟩
          have b14 : Below w1.heap.size w1 v14 := b13.trans (hb14.mono b13.size)
          clear k0 k1 k2 k3 hb14
          obtain ⟨k0, k1, k2, k3, _⟩ := KP.out _ b14
          go_wp2_with fail
          refine (HHu.out _ (Ys.out.up b14).ns).mono ?_
          rintro e v15 ⟨rfl, hb15⟩
          have b15 : Below w1.heap.size w1 v15 := b14.trans (hb15.mono b14.size)
          clear k0 k1 k2 k3 hb15
          obtain ⟨k0, k1, k2, k3, _⟩ := KP.out _ b15
          go_wp2_with fail
          refine (HN.out _ ).mono ?_
          rintro e v16 ⟨rfl, hb16⟩
          have b16 : Below w1.heap.size w1 v16 := b15.trans (hb16.mono b15.size)
          clear k0 k1 k2 k3 hb16
          obtain ⟨k0, k1, k2, k3, _⟩ := KP.out _ b16
          go_wp2_with fail
          refine (HAl.out _ ).mono ?_
          rintro e v17 ⟨rfl, hb17⟩
          have b17 : Below w1.heap.size w1 v17 := b16.trans (hb17.mono b16.size)
          clear k0 k1 k2 k3 hb17
          obtain ⟨k0, k1, k2, k3, _⟩ := KP.out _ b17
          go_wp2_with fail
          refine bodyPost_ret (v := .bool true) (by simp [results, Try.results10, go_sem]) rfl ?_
          exact ⟨rfl, HD.out.trans (b17.mono HD.out.size)⟩
end Go.Proofs.Yteekccjfokoglaa
