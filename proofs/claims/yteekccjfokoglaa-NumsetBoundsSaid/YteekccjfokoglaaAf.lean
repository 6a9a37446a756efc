/-
  NumsetCompare out of what the law's alive gives.
-/
import Derived.Test.YteekccjfokoglaaAe
namespace Go.Proofs.Yteekccjfokoglaa
open Go.RowKit Go.Sort Go.Lib Go.Proofs
set_option linter.unusedSimpArgs false
set_option linter.unnecessarySimpa false
set_option linter.unusedVariables false
/-- the entries are 64-bit numbers -/
def okE (s : NS) : Prop := (∀ x ∈ s.1, i64ok x.1 ∧ i64ok x.2) ∧ (∀ x ∈ s.2, i64ok x.1 ∧ i64ok x.2)
def sl2 (A1 : Option Addr) (c1 : Nat) (A2 : Option Addr) (c2 : Nat) (s : NS) : Sl2 := ⟨A1, s.1.length, c1, A2, s.2.length, c2⟩
/-- a box at b with the set s -/
def Byn (W : World) (b : Nat) (A1 : Option Addr) (c1 : Nat) (A2 : Option Addr) (c2 : Nat) (s : NS) : Prop :=
  W.cell? ⟨b, 0, none⟩ = some (.slice A1 s.1.length c1) ∧ W.cell? ⟨b, 1, none⟩ = some (.slice A2 s.2.length c2) ∧ Ns W A1 c1 A2 c2 s ∧ b < W.heap.size
theorem Byn.ns {W : World} {b : Nat} {A1 A2 : Option Addr} {c1 c2 : Nat} {s : NS} (h : Byn W b A1 c1 A2 c2 s) : Ns W A1 c1 A2 c2 s := h.2.2.1
theorem Byn.up {W W' : World} {b : Nat} {A1 A2 : Option Addr} {c1 c2 : Nat} {s : NS} (h : Byn W b A1 c1 A2 c2 s) (hb : Below W.heap.size W W') : Byn W' b A1 c1 A2 c2 s :=
  ⟨(hb.cell (p := ⟨b, 0, none⟩) h.2.2.2).trans h.1, (hb.cell (p := ⟨b, 1, none⟩) h.2.2.2).trans h.2.1, h.2.2.1.up hb, Nat.lt_of_lt_of_le h.2.2.2 hb.size⟩
theorem byn_new {W : World} {A1 A2 : Option Addr} {c1 c2 : Nat} {s : NS} (h : Ns W A1 c1 A2 c2 s) : Byn (W.alloc (.cells #[.slice A1 s.1.length c1, .slice A2 s.2.length c2] 24)) W.heap.size A1 c1 A2 c2 s :=
  ⟨by simp, by simp, h.up (bal W _), by simp⟩
theorem okE.few {A1 : Option Addr} {c1 : Nat} {A2 : Option Addr} {c2 : Nat} {s : NS} (h : okE s) (hf : fewX (sl2 A1 c1 A2 c2 s) = true) : okN 8 s := by
  simp only [fewX, sl2, Bool.and_eq_true] at hf; exact ⟨of_decide_eq_true hf.1, of_decide_eq_true hf.2, h.1, h.2⟩
theorem few3 (A1 : Option Addr) (n1 c1 : Nat) (A2 : Option Addr) (n2 c2 : Nat) (B1 : Option Addr) (m1 d1 : Nat) (B2 : Option Addr) (m2 d2 : Nat) (C1 : Option Addr) (k1 e1 : Nat) (C2 : Option Addr) (k2 e2 : Nat) (W : World) :
    Calls Try.prog 12 #[.slice (some ⟨W.heap.size, 0, none⟩) 3 3] (W.alloc (.cells #[.slice A1 n1 c1, .slice A2 n2 c2, .slice B1 m1 d1, .slice B2 m2 d2, .slice C1 k1 e1, .slice C2 k2 e2] 24)) (EqIs (fewL [⟨A1, n1, c1, A2, n2, c2⟩, ⟨B1, m1, d1, B2, m2, d2⟩, ⟨C1, k1, e1, C2, k2, e2⟩]) (W.alloc (.cells #[.slice A1 n1 c1, .slice A2 n2 c2, .slice B1 m1 d1, .slice B2 m2 d2, .slice C1 k1 e1, .slice C2 k2 e2] 24))) := by
  refine few_any W.heap.size 0 [⟨A1, n1, c1, A2, n2, c2⟩, ⟨B1, m1, d1, B2, m2, d2⟩, ⟨C1, k1, e1, C2, k2, e2⟩] 3 _ (fun i hi => ?_) (by simp) (by simp)
  rcases (show i = 0 ∨ i = 1 ∨ i = 2 by simp at hi; omega) with rfl | rfl | rfl <;> exact ⟨by simp, by simp⟩
abbrev w3s (w : World) (A1 : Option Addr) (n1 c1 : Nat) (A2 : Option Addr) (n2 c2 : Nat) (B1 : Option Addr) (m1 d1 : Nat) (B2 : Option Addr) (m2 d2 : Nat) (C1 : Option Addr) (k1 e1 : Nat) (C2 : Option Addr) (k2 e2 : Nat) : World :=
  ((w.alloc (.cells #[.slice A1 n1 c1, .slice A2 n2 c2] 24)).alloc (.cells #[.slice B1 m1 d1, .slice B2 m2 d2] 24)).alloc (.cells #[.slice C1 k1 e1, .slice C2 k2 e2] 24)
theorem box3 {A1 A2 B1 B2 C1 C2 : Option Addr} {c1 c2 d1 d2 e1 e2 : Nat} {s t r : NS} {w : World} (hs : Ns w A1 c1 A2 c2 s) (ht : Ns w B1 d1 B2 d2 t) (hr : Ns w C1 e1 C2 e2 r) :
    Below w.heap.size w (w3s w A1 s.1.length c1 A2 s.2.length c2 B1 t.1.length d1 B2 t.2.length d2 C1 r.1.length e1 C2 r.2.length e2) ∧
    Byn (w3s w A1 s.1.length c1 A2 s.2.length c2 B1 t.1.length d1 B2 t.2.length d2 C1 r.1.length e1 C2 r.2.length e2) w.heap.size A1 c1 A2 c2 s ∧
    Byn (w3s w A1 s.1.length c1 A2 s.2.length c2 B1 t.1.length d1 B2 t.2.length d2 C1 r.1.length e1 C2 r.2.length e2) (w.heap.size + 1) B1 d1 B2 d2 t ∧
    Byn (w3s w A1 s.1.length c1 A2 s.2.length c2 B1 t.1.length d1 B2 t.2.length d2 C1 r.1.length e1 C2 r.2.length e2) (w.heap.size + 1 + 1) C1 e1 C2 e2 r := by
  have hb : Below w.heap.size w (w3s w A1 s.1.length c1 A2 s.2.length c2 B1 t.1.length d1 B2 t.2.length d2 C1 r.1.length e1 C2 r.2.length e2) := (((Below.refl _ _).alloc (Nat.le_refl _) _).alloc (by simp) _).alloc (by simp; omega) _
  have b2 := bal (w.alloc (.cells #[.slice A1 s.1.length c1, .slice A2 s.2.length c2] 24)) (.cells #[.slice B1 t.1.length d1, .slice B2 t.2.length d2] 24)
  have b3 := bal ((w.alloc (.cells #[.slice A1 s.1.length c1, .slice A2 s.2.length c2] 24)).alloc (.cells #[.slice B1 t.1.length d1, .slice B2 t.2.length d2] 24)) (.cells #[.slice C1 r.1.length e1, .slice C2 r.2.length e2] 24)
  have b1 := bal w (.cells #[.slice A1 s.1.length c1, .slice A2 s.2.length c2] 24)
  have k2 := byn_new (ht.up b1)
  have k3 := byn_new (hr.up (b1.trans (b2.mono b1.size)))
  rw [show (w.alloc (.cells #[.slice A1 s.1.length c1, .slice A2 s.2.length c2] 24)).heap.size = w.heap.size + 1 by simp] at k2
  rw [show ((w.alloc (.cells #[.slice A1 s.1.length c1, .slice A2 s.2.length c2] 24)).alloc (.cells #[.slice B1 t.1.length d1, .slice B2 t.2.length d2] 24)).heap.size = w.heap.size + 1 + 1 by simp] at k3
  exact ⟨hb, ((byn_new hs).up b2).up b3, k2.up b3, k3⟩
set_option maxRecDepth 100000 in
set_option maxHeartbeats 1000000 in
theorem compare_few (A1 A2 B1 B2 C1 C2 : Option Addr) (c1 c2 d1 d2 e1 e2 : Nat) (s t r : NS) (w : World) (hs : Ns w A1 c1 A2 c2 s) (ht : Ns w B1 d1 B2 d2 t) (hr : Ns w C1 e1 C2 e2 r)
    (HAl : Hid (∀ W, Calls Try.prog 13 #[] W (EqIs true W)))
    (gs : okE s) (gt : okE t) (gr : okE r) : Calls Try.prog 9 #[nv A1 s.1.length c1 A2 s.2.length c2, nv B1 t.1.length d1 B2 t.2.length d2, nv C1 r.1.length e1 C2 r.2.length e2] w (EqIs true w) := by
  obtain ⟨hb0, hx1, hx2, hx3⟩ := box3 hs ht hr
  have HF := few3 A1 s.1.length c1 A2 s.2.length c2 B1 t.1.length d1 B2 t.2.length d2 C1 r.1.length e1 C2 r.2.length e2 (w3s w A1 s.1.length c1 A2 s.2.length c2 B1 t.1.length d1 B2 t.2.length d2 C1 r.1.length e1 C2 r.2.length e2)
  have hz : (w3s w A1 s.1.length c1 A2 s.2.length c2 B1 t.1.length d1 B2 t.2.length d2 C1 r.1.length e1 C2 r.2.length e2).heap.size = w.heap.size + 1 + 1 + 1 := by simp [w3s]
  have hbF := hb0.trans ((bal (w3s w A1 s.1.length c1 A2 s.2.length c2 B1 t.1.length d1 B2 t.2.length d2 C1 r.1.length e1 C2 r.2.length e2) (.cells #[.slice A1 s.1.length c1, .slice A2 s.2.length c2, .slice B1 t.1.length d1, .slice B2 t.2.length d2, .slice C1 r.1.length e1, .slice C2 r.2.length e2] 24)).mono hb0.size)
  have Xs := Lib.hid (hx1.up (bal _ (.cells #[.slice A1 s.1.length c1, .slice A2 s.2.length c2, .slice B1 t.1.length d1, .slice B2 t.2.length d2, .slice C1 r.1.length e1, .slice C2 r.2.length e2] 24)))
  have Xt := Lib.hid (hx2.up (bal _ (.cells #[.slice A1 s.1.length c1, .slice A2 s.2.length c2, .slice B1 t.1.length d1, .slice B2 t.2.length d2, .slice C1 r.1.length e1, .slice C2 r.2.length e2] 24)))
  have Xr := Lib.hid (hx3.up (bal _ (.cells #[.slice A1 s.1.length c1, .slice A2 s.2.length c2, .slice B1 t.1.length d1, .slice B2 t.2.length d2, .slice C1 r.1.length e1, .slice C2 r.2.length e2] 24)))
  rw [hz] at HF
  have HF' := Lib.hid HF
  clear HF
  have HB := Lib.hid hbF
  obtain ⟨fw, hfw⟩ : ∃ fw, fw = fewL [⟨A1, s.1.length, c1, A2, s.2.length, c2⟩, ⟨B1, t.1.length, d1, B2, t.2.length, d2⟩, ⟨C1, r.1.length, e1, C2, r.2.length, e2⟩] := ⟨_, rfl⟩
  rw [← hfw] at HF'
  have HW := Lib.hid hfw
  unfold w3s at *
  clear hx1 hx2 hx3 hz hb0 hbF hfw hs ht hr
  go_enter Try.func9, Try.ntmps9
  go_wp2_with fail
  refine HF'.out.mono ?_
  rintro e w1 ⟨rfl, hb1⟩
  have Ys := Lib.hid (Xs.out.up hb1)
  have Yt := Lib.hid (Xt.out.up hb1)
  have Yr := Lib.hid (Xr.out.up hb1)
  have HD := Lib.hid (HB.out.trans (hb1.mono HB.out.size))
  clear hb1 HB Xs Xt Xr HF'
  cases fw
  · go_wp2_with fail
    refine (HAl.out _).mono ?_
    rintro e w2 ⟨rfl, hb2⟩
    go_wp2_with fail
    refine bodyPost_ret (v := .bool true) (by simp [results, Try.results9, go_sem]) rfl ?_
    exact ⟨rfl, HD.out.trans (hb2.mono HD.out.size)⟩
  · go_upto_region 3 with fail
    have hfw := HW.out
    have Os : okN 8 s := gs.few (A1 := A1) (c1 := c1) (A2 := A2) (c2 := c2) (List.all_eq_true.1 hfw.symm _ (by simp [sl2]))
    have Ot : okN 8 t := gt.few (A1 := B1) (c1 := d1) (A2 := B2) (c2 := d2) (List.all_eq_true.1 hfw.symm _ (by simp [sl2]))
    have Or : okN 8 r := gr.few (A1 := C1) (c1 := e1) (A2 := C2) (c2 := e2) (List.all_eq_true.1 hfw.symm _ (by simp [sl2]))
    clear hfw gs gt gr
    have HST := Lib.hid (show ∀ W : World, Ns W A1 c1 A2 c2 s → Ns W B1 d1 B2 d2 t → Calls Try.prog 45 #[nv A1 s.1.length c1 A2 s.2.length c2, nv B1 t.1.length d1 B2 t.2.length d2] W (NumIs (cmpS s t) W) from fun W h k => by
      have h := compare_any A1 A2 B1 B2 c1 c2 d1 d2 s t W h k (Os.le (by omega)) (Ot.le (by omega)); exact h)
    have HTR := Lib.hid (show ∀ W : World, Ns W B1 d1 B2 d2 t → Ns W C1 e1 C2 e2 r → Calls Try.prog 45 #[nv B1 t.1.length d1 B2 t.2.length d2, nv C1 r.1.length e1 C2 r.2.length e2] W (NumIs (cmpS t r) W) from fun W h k => by
      have h := compare_any B1 B2 C1 C2 d1 d2 e1 e2 t r W h k (Ot.le (by omega)) (Or.le (by omega)); exact h)
    have HSR := Lib.hid (show ∀ W : World, Ns W A1 c1 A2 c2 s → Ns W C1 e1 C2 e2 r → Calls Try.prog 45 #[nv A1 s.1.length c1 A2 s.2.length c2, nv C1 r.1.length e1 C2 r.2.length e2] W (NumIs (cmpS s r) W) from fun W h k => by
      have h := compare_any A1 A2 C1 C2 c1 c2 e1 e2 s r W h k (Os.le (by omega)) (Or.le (by omega)); exact h)
    have KP := Lib.hid (show ∀ W : World, Below w1.heap.size w1 W → W.cell? ⟨w.heap.size, 0, none⟩ = some (.slice A1 s.1.length c1) ∧ W.cell? ⟨w.heap.size, 1, none⟩ = some (.slice A2 s.2.length c2) ∧ W.cell? ⟨w.heap.size + 1, 0, none⟩ = some (.slice B1 t.1.length d1) ∧ W.cell? ⟨w.heap.size + 1, 1, none⟩ = some (.slice B2 t.2.length d2) ∧ W.cell? ⟨w.heap.size + 1 + 1, 0, none⟩ = some (.slice C1 r.1.length e1) ∧ W.cell? ⟨w.heap.size + 1 + 1, 1, none⟩ = some (.slice C2 r.2.length e2) ∧ Below w1.heap.size w1 W from fun W hb => ⟨(Ys.out.up hb).1, (Ys.out.up hb).2.1, (Yt.out.up hb).1, (Yt.out.up hb).2.1, (Yr.out.up hb).1, (Yr.out.up hb).2.1, hb⟩)
    have b0 : Below w1.heap.size w1 w1.drew := drewB w1
    have Kb0 := KP.out _ b0
    have HO := Lib.hid (And.intro Os (And.intro Ot Or))
    clear Os Ot Or
    go_region_held3 (fun w' => w'.cell? ⟨w.heap.size, 0, none⟩ = some (.slice A1 s.1.length c1) ∧ w'.cell? ⟨w.heap.size, 1, none⟩ = some (.slice A2 s.2.length c2) ∧ w'.cell? ⟨w.heap.size + 1, 0, none⟩ = some (.slice B1 t.1.length d1) ∧ w'.cell? ⟨w.heap.size + 1, 1, none⟩ = some (.slice B2 t.2.length d2) ∧ w'.cell? ⟨w.heap.size + 1 + 1, 0, none⟩ = some (.slice C1 r.1.length e1) ∧ w'.cell? ⟨w.heap.size + 1 + 1, 1, none⟩ = some (.slice C2 r.2.length e2) ∧ Below w1.heap.size w1 w')
      (first | assumption | exact KP.out _ (Below.refl _ _) | exact Kb3 | exact Kb2 | exact Kb1 | exact Kb0)
      (first
        | (go_at_call 45; (with_reducible refine (HSR.out _ (Ys.out.up b2).ns (Yr.out.up b2).ns).mono ?_); rintro e v3 ⟨rfl, hb3⟩; have b3 : Below w1.heap.size w1 v3 := b2.trans (hb3.mono b2.size); have Kb3 := KP.out _ b3)
        | (go_at_call 45; (with_reducible refine (HTR.out _ (Yt.out.up b1).ns (Yr.out.up b1).ns).mono ?_); rintro e v2 ⟨rfl, hb2⟩; have b2 : Below w1.heap.size w1 v2 := b1.trans (hb2.mono b1.size); have Kb2 := KP.out _ b2)
        | (go_at_call 45; (with_reducible refine (HST.out _ (Ys.out.up b0).ns (Yt.out.up b0).ns).mono ?_); rintro e v1 ⟨rfl, hb1⟩; have b1 : Below w1.heap.size w1 v1 := b0.trans (hb1.mono b0.size); have Kb1 := KP.out _ b1))
    obtain ⟨Os, Ot, Or⟩ := HO.out
    have HTS := Lib.hid (show ∀ W : World, Ns W B1 d1 B2 d2 t → Ns W A1 c1 A2 c2 s → Calls Try.prog 45 #[nv B1 t.1.length d1 B2 t.2.length d2, nv A1 s.1.length c1 A2 s.2.length c2] W (NumIs (-cmpS s t) W) from fun W h k => by
      have h := compare_any B1 B2 A1 A2 d1 d2 c1 c2 t s W h k (Ot.le (by omega)) (Os.le (by omega)); rw [cmp_neg s t] at h; exact h)
    have HSS := Lib.hid (show ∀ W : World, Ns W A1 c1 A2 c2 s → Ns W A1 c1 A2 c2 s → Calls Try.prog 45 #[nv A1 s.1.length c1 A2 s.2.length c2, nv A1 s.1.length c1 A2 s.2.length c2] W (NumIs (0) W) from fun W h k => by
      have h := compare_any A1 A2 A1 A2 c1 c2 c1 c2 s s W h k (Os.le (by omega)) (Os.le (by omega)); rw [cmp_self s] at h; exact h)
    have HMs := Lib.hid (show ∀ W : World, Ns W A1 c1 A2 c2 s → Calls Try.prog 15 #[nv A1 s.1.length c1 A2 s.2.length c2] W (GivesN (mk s) W) from fun W h => make_any A1 A2 c1 c2 s W h (Os.le (by omega)))
    have HMt := Lib.hid (show ∀ W : World, Ns W B1 d1 B2 d2 t → Calls Try.prog 15 #[nv B1 t.1.length d1 B2 t.2.length d2] W (GivesN (mk t) W) from fun W h => make_any B1 B2 d1 d2 t W h (Ot.le (by omega)))
    have HSm := Lib.hid (show ∀ (W : World) F1 f1 F2 f2 G1 g1 G2 g2, Ns W F1 f1 F2 f2 (mk s) → Ns W G1 g1 G2 g2 (mk t) → Calls Try.prog 14 #[nv F1 (mk s).1.length f1 F2 (mk s).2.length f2, nv G1 (mk t).1.length g1 G2 (mk t).2.length g2] W (EqIs (decide (cmpS s t = 0)) W) from fun W F1 f1 F2 f2 G1 g1 G2 g2 h k => by
      have h := same_any F1 F2 G1 G2 f1 f2 g1 g2 _ _ W h k ((mk_ok Os).le (by omega)) ((mk_ok Ot).le (by omega)); rw [eqN_dec, show decide (mk s = mk t) = decide (cmpS s t = 0) from decide_eq_decide.2 (cmp_zero s t).symm] at h; exact h)
    have HOr := Lib.hid (show ∀ W : World, Ns W A1 c1 A2 c2 s → Ns W B1 d1 B2 d2 t → Calls Try.prog 27 #[nv A1 s.1.length c1 A2 s.2.length c2, nv B1 t.1.length d1 B2 t.2.length d2] W (GivesN (orr s t) W) from fun W h k => or_any A1 A2 B1 B2 c1 c2 d1 d2 s t W h k (Os.le (by omega)) (Ot.le (by omega)))
    have HCO := Lib.hid (show ∀ (W : World) F1 f1 F2 f2, Ns W A1 c1 A2 c2 s → Ns W F1 f1 F2 f2 (orr s t) → Calls Try.prog 45 #[nv A1 s.1.length c1 A2 s.2.length c2, nv F1 (orr s t).1.length f1 F2 (orr s t).2.length f2] W (NumIs (cmpS s (orr s t)) W) from fun W F1 f1 F2 f2 h k => compare_any A1 A2 F1 F2 c1 c2 f1 f2 s (orr s t) W h k (Os.le (by omega)) ((or_ok Os Ot).le (by omega)))
    have HSu := Lib.hid (show ∀ W : World, Ns W A1 c1 A2 c2 s → Ns W B1 d1 B2 d2 t → Calls Try.prog 33 #[nv B1 t.1.length d1 B2 t.2.length d2, nv A1 s.1.length c1 A2 s.2.length c2] W (EqIs (subB t s) W) from fun W h k => subset_any B1 B2 A1 A2 d1 d2 c1 c2 t s W k h (Ot.le (by omega)) (Os.le (by omega)))
    have hq1 : (cmpS s (orr s t) == 1) = !subB t s := by
      have h := cmp_sup s t
      cases hsb : subB t s
      · rw [h.2 hsb]; rfl
      · rw [Bool.not_true, beq_eq_false_iff_ne]; intro e; rw [h.1 e] at hsb; exact absurd hsb (by simp)
    have HX := Lib.hid (show cmpS s t = -1 ∨ cmpS s t = 0 ∨ cmpS s t = 1 by have := cmp_bd s t; omega)
    have HTr := Lib.hid (cmp_tr s t r)
    clear Os Ot Or
    generalize cmpS s (orr s t) = q at *
    generalize subB t s = sb at *
    obtain ⟨nx, hnx⟩ : ∃ n, n = -cmpS s t := ⟨_, rfl⟩
    rw [← hnx] at HTS
    generalize cmpS s t = x at *
    have HN := Lib.hid hnx
    clear hnx
    generalize cmpS t r = y at *
    generalize cmpS s r = z at *
    have HQ := Lib.hid hq1
    clear hq1
    go_upto_region 4 with fail
    have b4 : Below w1.heap.size w1 v3.drew := b3.trans ((drewB v3).mono b3.size)
    have Kb4 := KP.out _ b4
    rcases HX.out with rfl | rfl | rfl
    · obtain rfl : nx = 1 := by have := HN.out; omega
      have hw : IntKind.i64.wrap (-1) = -1 := by decide
      go_region_held3 (fun w' => w'.cell? ⟨w.heap.size, 0, none⟩ = some (.slice A1 s.1.length c1) ∧ w'.cell? ⟨w.heap.size, 1, none⟩ = some (.slice A2 s.2.length c2) ∧ w'.cell? ⟨w.heap.size + 1, 0, none⟩ = some (.slice B1 t.1.length d1) ∧ w'.cell? ⟨w.heap.size + 1, 1, none⟩ = some (.slice B2 t.2.length d2) ∧ w'.cell? ⟨w.heap.size + 1 + 1, 0, none⟩ = some (.slice C1 r.1.length e1) ∧ w'.cell? ⟨w.heap.size + 1 + 1, 1, none⟩ = some (.slice C2 r.2.length e2) ∧ Below w1.heap.size w1 w')
        (first | assumption | exact KP.out _ (Below.refl _ _) | exact Kb9 | exact Kb8 | exact Kb7 | exact Kb6 | exact Kb5 | exact Kb4)
        (first
          | (go_at_call 14; (with_reducible refine (HSm.out _ M1 m1 M2 m2 P1 p1 P2 p2 (nM.up hb8) nP).mono ?_); rintro e v9 ⟨rfl, hb9⟩; have b9 : Below w1.heap.size w1 v9 := b8.trans (hb9.mono b8.size); have Kb9 := KP.out _ b9)
          | (go_at_call 15; (with_reducible refine (HMt.out _ (Yt.out.up b7).ns).mono ?_); rintro e v8 ⟨P1, p1, P2, p2, rfl, ⟨nP, _, _⟩, hb8⟩; have b8 : Below w1.heap.size w1 v8 := b7.trans (hb8.mono b7.size); have Kb8 := KP.out _ b8)
          | (go_at_call 15; (with_reducible refine (HMs.out _ (Ys.out.up b6).ns).mono ?_); rintro e v7 ⟨M1, m1, M2, m2, rfl, ⟨nM, _, _⟩, hb7⟩; have b7 : Below w1.heap.size w1 v7 := b6.trans (hb7.mono b6.size); have Kb7 := KP.out _ b7)
          | (go_at_call 45; (with_reducible refine (HSS.out _ (Ys.out.up b5).ns (Ys.out.up b5).ns).mono ?_); rintro e v6 ⟨rfl, hb6⟩; have b6 : Below w1.heap.size w1 v6 := b5.trans (hb6.mono b5.size); have Kb6 := KP.out _ b6)
          | (go_at_call 45; (with_reducible refine (HTS.out _ (Yt.out.up b4).ns (Ys.out.up b4).ns).mono ?_); rintro e v5 ⟨rfl, hb5⟩; have b5 : Below w1.heap.size w1 v5 := b4.trans (hb5.mono b4.size); have Kb5 := KP.out _ b5))
      have hT := HTr.out
      by_cases hy : y ≤ 0
      · have hz := hT (by omega) hy
        have gy : decide (y ≤ 0) = true := decide_eq_true hy
        have gz : decide (0 < z) = false := decide_eq_false (by omega)
        have gz0 : (z == 0) = false := beq_eq_false_iff_ne.2 (fun e => hz.2 e (.inl (by omega)))
        clear hT hy hz
        go_upto_region 8 with fail
        have b10 : Below w1.heap.size w1 v9.drew := b9.trans ((drewB v9).mono b9.size)
        have Kb10 := KP.out _ b10
        have hq1 := HQ.out
        go_region_held3 (fun w' => w'.cell? ⟨w.heap.size, 0, none⟩ = some (.slice A1 s.1.length c1) ∧ w'.cell? ⟨w.heap.size, 1, none⟩ = some (.slice A2 s.2.length c2) ∧ w'.cell? ⟨w.heap.size + 1, 0, none⟩ = some (.slice B1 t.1.length d1) ∧ w'.cell? ⟨w.heap.size + 1, 1, none⟩ = some (.slice B2 t.2.length d2) ∧ w'.cell? ⟨w.heap.size + 1 + 1, 0, none⟩ = some (.slice C1 r.1.length e1) ∧ w'.cell? ⟨w.heap.size + 1 + 1, 1, none⟩ = some (.slice C2 r.2.length e2) ∧ Below w1.heap.size w1 w')
          (first | assumption | exact KP.out _ (Below.refl _ _) | exact Kb14 | exact Kb13 | exact Kb12 | exact Kb11 | exact Kb10)
          (first
            | (go_at_call 13; (with_reducible refine (HAl.out _).mono ?_); rintro e v14 ⟨rfl, hb14⟩; have b14 : Below w1.heap.size w1 v14 := b13.trans (hb14.mono b13.size); have Kb14 := KP.out _ b14)
            | (go_at_call 33; (with_reducible refine (HSu.out _ (Ys.out.up b12).ns (Yt.out.up b12).ns).mono ?_); rintro e v13 ⟨rfl, hb13⟩; have b13 : Below w1.heap.size w1 v13 := b12.trans (hb13.mono b12.size); have Kb13 := KP.out _ b13)
            | (go_at_call 45; (with_reducible refine (HCO.out _ Q1 q1 Q2 q2 (Ys.out.up b11).ns nQ).mono ?_); rintro e v12 ⟨rfl, hb12⟩; have b12 : Below w1.heap.size w1 v12 := b11.trans (hb12.mono b11.size); have Kb12 := KP.out _ b12)
            | (go_at_call 27; (with_reducible refine (HOr.out _ (Ys.out.up b10).ns (Yt.out.up b10).ns).mono ?_); rintro e v11 ⟨Q1, q1, Q2, q2, rfl, ⟨nQ, _, _⟩, hb11⟩; have b11 : Below w1.heap.size w1 v11 := b10.trans (hb11.mono b10.size); have Kb11 := KP.out _ b11))
        go_wp2_with fail
        refine bodyPost_ret (v := .bool true) (by simp [results, Try.results9, go_sem]) rfl ?_
        exact ⟨rfl, HD.out.trans (b14.mono HD.out.size)⟩
      · have gy : decide (y ≤ 0) = false := decide_eq_false hy
        clear hT hy
        go_upto_region 8 with fail
        have b10 : Below w1.heap.size w1 v9.drew := b9.trans ((drewB v9).mono b9.size)
        have Kb10 := KP.out _ b10
        have hq1 := HQ.out
        go_region_held3 (fun w' => w'.cell? ⟨w.heap.size, 0, none⟩ = some (.slice A1 s.1.length c1) ∧ w'.cell? ⟨w.heap.size, 1, none⟩ = some (.slice A2 s.2.length c2) ∧ w'.cell? ⟨w.heap.size + 1, 0, none⟩ = some (.slice B1 t.1.length d1) ∧ w'.cell? ⟨w.heap.size + 1, 1, none⟩ = some (.slice B2 t.2.length d2) ∧ w'.cell? ⟨w.heap.size + 1 + 1, 0, none⟩ = some (.slice C1 r.1.length e1) ∧ w'.cell? ⟨w.heap.size + 1 + 1, 1, none⟩ = some (.slice C2 r.2.length e2) ∧ Below w1.heap.size w1 w')
          (first | assumption | exact KP.out _ (Below.refl _ _) | exact Kb14 | exact Kb13 | exact Kb12 | exact Kb11 | exact Kb10)
          (first
            | (go_at_call 13; (with_reducible refine (HAl.out _).mono ?_); rintro e v14 ⟨rfl, hb14⟩; have b14 : Below w1.heap.size w1 v14 := b13.trans (hb14.mono b13.size); have Kb14 := KP.out _ b14)
            | (go_at_call 33; (with_reducible refine (HSu.out _ (Ys.out.up b12).ns (Yt.out.up b12).ns).mono ?_); rintro e v13 ⟨rfl, hb13⟩; have b13 : Below w1.heap.size w1 v13 := b12.trans (hb13.mono b12.size); have Kb13 := KP.out _ b13)
            | (go_at_call 45; (with_reducible refine (HCO.out _ Q1 q1 Q2 q2 (Ys.out.up b11).ns nQ).mono ?_); rintro e v12 ⟨rfl, hb12⟩; have b12 : Below w1.heap.size w1 v12 := b11.trans (hb12.mono b11.size); have Kb12 := KP.out _ b12)
            | (go_at_call 27; (with_reducible refine (HOr.out _ (Ys.out.up b10).ns (Yt.out.up b10).ns).mono ?_); rintro e v11 ⟨Q1, q1, Q2, q2, rfl, ⟨nQ, _, _⟩, hb11⟩; have b11 : Below w1.heap.size w1 v11 := b10.trans (hb11.mono b10.size); have Kb11 := KP.out _ b11))
        go_wp2_with fail
        refine bodyPost_ret (v := .bool true) (by simp [results, Try.results9, go_sem]) rfl ?_
        exact ⟨rfl, HD.out.trans (b14.mono HD.out.size)⟩
    · obtain rfl : nx = 0 := by have := HN.out; omega
      have hw : IntKind.i64.wrap (0) = 0 := by decide
      go_region_held3 (fun w' => w'.cell? ⟨w.heap.size, 0, none⟩ = some (.slice A1 s.1.length c1) ∧ w'.cell? ⟨w.heap.size, 1, none⟩ = some (.slice A2 s.2.length c2) ∧ w'.cell? ⟨w.heap.size + 1, 0, none⟩ = some (.slice B1 t.1.length d1) ∧ w'.cell? ⟨w.heap.size + 1, 1, none⟩ = some (.slice B2 t.2.length d2) ∧ w'.cell? ⟨w.heap.size + 1 + 1, 0, none⟩ = some (.slice C1 r.1.length e1) ∧ w'.cell? ⟨w.heap.size + 1 + 1, 1, none⟩ = some (.slice C2 r.2.length e2) ∧ Below w1.heap.size w1 w')
        (first | assumption | exact KP.out _ (Below.refl _ _) | exact Kb9 | exact Kb8 | exact Kb7 | exact Kb6 | exact Kb5 | exact Kb4)
        (first
          | (go_at_call 14; (with_reducible refine (HSm.out _ M1 m1 M2 m2 P1 p1 P2 p2 (nM.up hb8) nP).mono ?_); rintro e v9 ⟨rfl, hb9⟩; have b9 : Below w1.heap.size w1 v9 := b8.trans (hb9.mono b8.size); have Kb9 := KP.out _ b9)
          | (go_at_call 15; (with_reducible refine (HMt.out _ (Yt.out.up b7).ns).mono ?_); rintro e v8 ⟨P1, p1, P2, p2, rfl, ⟨nP, _, _⟩, hb8⟩; have b8 : Below w1.heap.size w1 v8 := b7.trans (hb8.mono b7.size); have Kb8 := KP.out _ b8)
          | (go_at_call 15; (with_reducible refine (HMs.out _ (Ys.out.up b6).ns).mono ?_); rintro e v7 ⟨M1, m1, M2, m2, rfl, ⟨nM, _, _⟩, hb7⟩; have b7 : Below w1.heap.size w1 v7 := b6.trans (hb7.mono b6.size); have Kb7 := KP.out _ b7)
          | (go_at_call 45; (with_reducible refine (HSS.out _ (Ys.out.up b5).ns (Ys.out.up b5).ns).mono ?_); rintro e v6 ⟨rfl, hb6⟩; have b6 : Below w1.heap.size w1 v6 := b5.trans (hb6.mono b5.size); have Kb6 := KP.out _ b6)
          | (go_at_call 45; (with_reducible refine (HTS.out _ (Yt.out.up b4).ns (Ys.out.up b4).ns).mono ?_); rintro e v5 ⟨rfl, hb5⟩; have b5 : Below w1.heap.size w1 v5 := b4.trans (hb5.mono b4.size); have Kb5 := KP.out _ b5))
      have hT := HTr.out
      by_cases hy : y ≤ 0
      · have hz := hT (by omega) hy
        have gy : decide (y ≤ 0) = true := decide_eq_true hy
        have gz : decide (0 < z) = false := decide_eq_false (by omega)
        by_cases hz0 : z = 0
        · have gz0 : (z == 0) = true := by rw [hz0]; rfl
          have gy0 : decide (y < 0) = false := decide_eq_false (fun h => hz.2 hz0 (.inr h))
          clear hT hy hz hz0
          go_upto_region 8 with fail
          have b10 : Below w1.heap.size w1 v9.drew := b9.trans ((drewB v9).mono b9.size)
          have Kb10 := KP.out _ b10
          have hq1 := HQ.out
          go_region_held3 (fun w' => w'.cell? ⟨w.heap.size, 0, none⟩ = some (.slice A1 s.1.length c1) ∧ w'.cell? ⟨w.heap.size, 1, none⟩ = some (.slice A2 s.2.length c2) ∧ w'.cell? ⟨w.heap.size + 1, 0, none⟩ = some (.slice B1 t.1.length d1) ∧ w'.cell? ⟨w.heap.size + 1, 1, none⟩ = some (.slice B2 t.2.length d2) ∧ w'.cell? ⟨w.heap.size + 1 + 1, 0, none⟩ = some (.slice C1 r.1.length e1) ∧ w'.cell? ⟨w.heap.size + 1 + 1, 1, none⟩ = some (.slice C2 r.2.length e2) ∧ Below w1.heap.size w1 w')
            (first | assumption | exact KP.out _ (Below.refl _ _) | exact Kb14 | exact Kb13 | exact Kb12 | exact Kb11 | exact Kb10)
            (first
              | (go_at_call 13; (with_reducible refine (HAl.out _).mono ?_); rintro e v14 ⟨rfl, hb14⟩; have b14 : Below w1.heap.size w1 v14 := b13.trans (hb14.mono b13.size); have Kb14 := KP.out _ b14)
              | (go_at_call 33; (with_reducible refine (HSu.out _ (Ys.out.up b12).ns (Yt.out.up b12).ns).mono ?_); rintro e v13 ⟨rfl, hb13⟩; have b13 : Below w1.heap.size w1 v13 := b12.trans (hb13.mono b12.size); have Kb13 := KP.out _ b13)
              | (go_at_call 45; (with_reducible refine (HCO.out _ Q1 q1 Q2 q2 (Ys.out.up b11).ns nQ).mono ?_); rintro e v12 ⟨rfl, hb12⟩; have b12 : Below w1.heap.size w1 v12 := b11.trans (hb12.mono b11.size); have Kb12 := KP.out _ b12)
              | (go_at_call 27; (with_reducible refine (HOr.out _ (Ys.out.up b10).ns (Yt.out.up b10).ns).mono ?_); rintro e v11 ⟨Q1, q1, Q2, q2, rfl, ⟨nQ, _, _⟩, hb11⟩; have b11 : Below w1.heap.size w1 v11 := b10.trans (hb11.mono b10.size); have Kb11 := KP.out _ b11))
          go_wp2_with fail
          refine bodyPost_ret (v := .bool true) (by simp [results, Try.results9, go_sem]) rfl ?_
          exact ⟨rfl, HD.out.trans (b14.mono HD.out.size)⟩
        · have gz0 : (z == 0) = false := beq_eq_false_iff_ne.2 hz0
          clear hT hy hz hz0
          go_upto_region 8 with fail
          have b10 : Below w1.heap.size w1 v9.drew := b9.trans ((drewB v9).mono b9.size)
          have Kb10 := KP.out _ b10
          have hq1 := HQ.out
          go_region_held3 (fun w' => w'.cell? ⟨w.heap.size, 0, none⟩ = some (.slice A1 s.1.length c1) ∧ w'.cell? ⟨w.heap.size, 1, none⟩ = some (.slice A2 s.2.length c2) ∧ w'.cell? ⟨w.heap.size + 1, 0, none⟩ = some (.slice B1 t.1.length d1) ∧ w'.cell? ⟨w.heap.size + 1, 1, none⟩ = some (.slice B2 t.2.length d2) ∧ w'.cell? ⟨w.heap.size + 1 + 1, 0, none⟩ = some (.slice C1 r.1.length e1) ∧ w'.cell? ⟨w.heap.size + 1 + 1, 1, none⟩ = some (.slice C2 r.2.length e2) ∧ Below w1.heap.size w1 w')
            (first | assumption | exact KP.out _ (Below.refl _ _) | exact Kb14 | exact Kb13 | exact Kb12 | exact Kb11 | exact Kb10)
            (first
              | (go_at_call 13; (with_reducible refine (HAl.out _).mono ?_); rintro e v14 ⟨rfl, hb14⟩; have b14 : Below w1.heap.size w1 v14 := b13.trans (hb14.mono b13.size); have Kb14 := KP.out _ b14)
              | (go_at_call 33; (with_reducible refine (HSu.out _ (Ys.out.up b12).ns (Yt.out.up b12).ns).mono ?_); rintro e v13 ⟨rfl, hb13⟩; have b13 : Below w1.heap.size w1 v13 := b12.trans (hb13.mono b12.size); have Kb13 := KP.out _ b13)
              | (go_at_call 45; (with_reducible refine (HCO.out _ Q1 q1 Q2 q2 (Ys.out.up b11).ns nQ).mono ?_); rintro e v12 ⟨rfl, hb12⟩; have b12 : Below w1.heap.size w1 v12 := b11.trans (hb12.mono b11.size); have Kb12 := KP.out _ b12)
              | (go_at_call 27; (with_reducible refine (HOr.out _ (Ys.out.up b10).ns (Yt.out.up b10).ns).mono ?_); rintro e v11 ⟨Q1, q1, Q2, q2, rfl, ⟨nQ, _, _⟩, hb11⟩; have b11 : Below w1.heap.size w1 v11 := b10.trans (hb11.mono b10.size); have Kb11 := KP.out _ b11))
          go_wp2_with fail
          refine bodyPost_ret (v := .bool true) (by simp [results, Try.results9, go_sem]) rfl ?_
          exact ⟨rfl, HD.out.trans (b14.mono HD.out.size)⟩
      · have gy : decide (y ≤ 0) = false := decide_eq_false hy
        clear hT hy
        go_upto_region 8 with fail
        have b10 : Below w1.heap.size w1 v9.drew := b9.trans ((drewB v9).mono b9.size)
        have Kb10 := KP.out _ b10
        have hq1 := HQ.out
        go_region_held3 (fun w' => w'.cell? ⟨w.heap.size, 0, none⟩ = some (.slice A1 s.1.length c1) ∧ w'.cell? ⟨w.heap.size, 1, none⟩ = some (.slice A2 s.2.length c2) ∧ w'.cell? ⟨w.heap.size + 1, 0, none⟩ = some (.slice B1 t.1.length d1) ∧ w'.cell? ⟨w.heap.size + 1, 1, none⟩ = some (.slice B2 t.2.length d2) ∧ w'.cell? ⟨w.heap.size + 1 + 1, 0, none⟩ = some (.slice C1 r.1.length e1) ∧ w'.cell? ⟨w.heap.size + 1 + 1, 1, none⟩ = some (.slice C2 r.2.length e2) ∧ Below w1.heap.size w1 w')
          (first | assumption | exact KP.out _ (Below.refl _ _) | exact Kb14 | exact Kb13 | exact Kb12 | exact Kb11 | exact Kb10)
          (first
            | (go_at_call 13; (with_reducible refine (HAl.out _).mono ?_); rintro e v14 ⟨rfl, hb14⟩; have b14 : Below w1.heap.size w1 v14 := b13.trans (hb14.mono b13.size); have Kb14 := KP.out _ b14)
            | (go_at_call 33; (with_reducible refine (HSu.out _ (Ys.out.up b12).ns (Yt.out.up b12).ns).mono ?_); rintro e v13 ⟨rfl, hb13⟩; have b13 : Below w1.heap.size w1 v13 := b12.trans (hb13.mono b12.size); have Kb13 := KP.out _ b13)
            | (go_at_call 45; (with_reducible refine (HCO.out _ Q1 q1 Q2 q2 (Ys.out.up b11).ns nQ).mono ?_); rintro e v12 ⟨rfl, hb12⟩; have b12 : Below w1.heap.size w1 v12 := b11.trans (hb12.mono b11.size); have Kb12 := KP.out _ b12)
            | (go_at_call 27; (with_reducible refine (HOr.out _ (Ys.out.up b10).ns (Yt.out.up b10).ns).mono ?_); rintro e v11 ⟨Q1, q1, Q2, q2, rfl, ⟨nQ, _, _⟩, hb11⟩; have b11 : Below w1.heap.size w1 v11 := b10.trans (hb11.mono b10.size); have Kb11 := KP.out _ b11))
        go_wp2_with fail
        refine bodyPost_ret (v := .bool true) (by simp [results, Try.results9, go_sem]) rfl ?_
        exact ⟨rfl, HD.out.trans (b14.mono HD.out.size)⟩
    · obtain rfl : nx = -1 := by have := HN.out; omega
      have hw : IntKind.i64.wrap (1) = 1 := by decide
      go_region_held3 (fun w' => w'.cell? ⟨w.heap.size, 0, none⟩ = some (.slice A1 s.1.length c1) ∧ w'.cell? ⟨w.heap.size, 1, none⟩ = some (.slice A2 s.2.length c2) ∧ w'.cell? ⟨w.heap.size + 1, 0, none⟩ = some (.slice B1 t.1.length d1) ∧ w'.cell? ⟨w.heap.size + 1, 1, none⟩ = some (.slice B2 t.2.length d2) ∧ w'.cell? ⟨w.heap.size + 1 + 1, 0, none⟩ = some (.slice C1 r.1.length e1) ∧ w'.cell? ⟨w.heap.size + 1 + 1, 1, none⟩ = some (.slice C2 r.2.length e2) ∧ Below w1.heap.size w1 w')
        (first | assumption | exact KP.out _ (Below.refl _ _) | exact Kb9 | exact Kb8 | exact Kb7 | exact Kb6 | exact Kb5 | exact Kb4)
        (first
          | (go_at_call 14; (with_reducible refine (HSm.out _ M1 m1 M2 m2 P1 p1 P2 p2 (nM.up hb8) nP).mono ?_); rintro e v9 ⟨rfl, hb9⟩; have b9 : Below w1.heap.size w1 v9 := b8.trans (hb9.mono b8.size); have Kb9 := KP.out _ b9)
          | (go_at_call 15; (with_reducible refine (HMt.out _ (Yt.out.up b7).ns).mono ?_); rintro e v8 ⟨P1, p1, P2, p2, rfl, ⟨nP, _, _⟩, hb8⟩; have b8 : Below w1.heap.size w1 v8 := b7.trans (hb8.mono b7.size); have Kb8 := KP.out _ b8)
          | (go_at_call 15; (with_reducible refine (HMs.out _ (Ys.out.up b6).ns).mono ?_); rintro e v7 ⟨M1, m1, M2, m2, rfl, ⟨nM, _, _⟩, hb7⟩; have b7 : Below w1.heap.size w1 v7 := b6.trans (hb7.mono b6.size); have Kb7 := KP.out _ b7)
          | (go_at_call 45; (with_reducible refine (HSS.out _ (Ys.out.up b5).ns (Ys.out.up b5).ns).mono ?_); rintro e v6 ⟨rfl, hb6⟩; have b6 : Below w1.heap.size w1 v6 := b5.trans (hb6.mono b5.size); have Kb6 := KP.out _ b6)
          | (go_at_call 45; (with_reducible refine (HTS.out _ (Yt.out.up b4).ns (Ys.out.up b4).ns).mono ?_); rintro e v5 ⟨rfl, hb5⟩; have b5 : Below w1.heap.size w1 v5 := b4.trans (hb5.mono b4.size); have Kb5 := KP.out _ b5))
      go_upto_region 8 with fail
      have b10 : Below w1.heap.size w1 v9.drew := b9.trans ((drewB v9).mono b9.size)
      have Kb10 := KP.out _ b10
      have hq1 := HQ.out
      go_region_held3 (fun w' => w'.cell? ⟨w.heap.size, 0, none⟩ = some (.slice A1 s.1.length c1) ∧ w'.cell? ⟨w.heap.size, 1, none⟩ = some (.slice A2 s.2.length c2) ∧ w'.cell? ⟨w.heap.size + 1, 0, none⟩ = some (.slice B1 t.1.length d1) ∧ w'.cell? ⟨w.heap.size + 1, 1, none⟩ = some (.slice B2 t.2.length d2) ∧ w'.cell? ⟨w.heap.size + 1 + 1, 0, none⟩ = some (.slice C1 r.1.length e1) ∧ w'.cell? ⟨w.heap.size + 1 + 1, 1, none⟩ = some (.slice C2 r.2.length e2) ∧ Below w1.heap.size w1 w')
        (first | assumption | exact KP.out _ (Below.refl _ _) | exact Kb14 | exact Kb13 | exact Kb12 | exact Kb11 | exact Kb10)
        (first
          | (go_at_call 13; (with_reducible refine (HAl.out _).mono ?_); rintro e v14 ⟨rfl, hb14⟩; have b14 : Below w1.heap.size w1 v14 := b13.trans (hb14.mono b13.size); have Kb14 := KP.out _ b14)
          | (go_at_call 33; (with_reducible refine (HSu.out _ (Ys.out.up b12).ns (Yt.out.up b12).ns).mono ?_); rintro e v13 ⟨rfl, hb13⟩; have b13 : Below w1.heap.size w1 v13 := b12.trans (hb13.mono b12.size); have Kb13 := KP.out _ b13)
          | (go_at_call 45; (with_reducible refine (HCO.out _ Q1 q1 Q2 q2 (Ys.out.up b11).ns nQ).mono ?_); rintro e v12 ⟨rfl, hb12⟩; have b12 : Below w1.heap.size w1 v12 := b11.trans (hb12.mono b11.size); have Kb12 := KP.out _ b12)
          | (go_at_call 27; (with_reducible refine (HOr.out _ (Ys.out.up b10).ns (Yt.out.up b10).ns).mono ?_); rintro e v11 ⟨Q1, q1, Q2, q2, rfl, ⟨nQ, _, _⟩, hb11⟩; have b11 : Below w1.heap.size w1 v11 := b10.trans (hb11.mono b10.size); have Kb11 := KP.out _ b11))
      go_wp2_with fail
      refine bodyPost_ret (v := .bool true) (by simp [results, Try.results9, go_sem]) rfl ?_
      exact ⟨rfl, HD.out.trans (b14.mono HD.out.size)⟩
end Go.Proofs.Yteekccjfokoglaa
