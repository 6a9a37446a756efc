/-
  Or. No condition but the bounds on the lists.
-/
import Derived.Test.YteekccjfokoglaaP
namespace Go.Proofs.Yteekccjfokoglaa
open Go.RowKit Go.Sort Go.Lib Go.Proofs
set_option linter.unusedSimpArgs false
set_option linter.unnecessarySimpa false
set_option linter.unusedVariables false
theorem Two.up {w w' : World} {g : Nat} {A1 : Option Addr} {n1 c1 : Nat} {A2 : Option Addr} {n2 c2 : Nat} (h : Two w w.heap.size g A1 n1 c1 A2 n2 c2) (hb : Below w.heap.size w w') : Two w' w'.heap.size g A1 n1 c1 A2 n2 c2 :=
  ⟨(h.below hb).c0, (h.below hb).c1, Nat.lt_of_lt_of_le h.lt hb.size⟩
theorem two_new (W : World) (A1 : Option Addr) (n1 c1 : Nat) (A2 : Option Addr) (n2 c2 : Nat) (T : TypeId) : Two (W.alloc (.cells #[.slice A1 n1 c1, .slice A2 n2 c2] T)) (W.alloc (.cells #[.slice A1 n1 c1, .slice A2 n2 c2] T)).heap.size W.heap.size A1 n1 c1 A2 n2 c2 := ⟨by simp, by simp, by simp⟩
theorem bal (W : World) (o : Obj) : Below W.heap.size W (W.alloc o) := (Below.refl _ _).alloc (Nat.le_refl _) _
/-- two boxes and a result's box -/
abbrev w3b (w : World) (A1 : Option Addr) (n1 c1 : Nat) (A2 : Option Addr) (n2 c2 : Nat) (B1 : Option Addr) (m1 d1 : Nat) (B2 : Option Addr) (m2 d2 : Nat) : World :=
  ((w.alloc (.cells #[.slice A1 n1 c1, .slice A2 n2 c2] 24)).alloc (.cells #[.slice B1 m1 d1, .slice B2 m2 d2] 24)).alloc (.cells #[.slice none 0 0, .slice none 0 0] 24)
theorem yb_new (W : World) : Yb W.heap.size (W.alloc (.cells #[.slice none 0 0, .slice none 0 0] 24)) := ⟨by simp, by simp, by simp, by simp, by simp⟩
theorem boxes (w : World) (A1 : Option Addr) (n1 c1 : Nat) (A2 : Option Addr) (n2 c2 : Nat) (B1 : Option Addr) (m1 d1 : Nat) (B2 : Option Addr) (m2 d2 : Nat) :
    Below w.heap.size w (w3b w A1 n1 c1 A2 n2 c2 B1 m1 d1 B2 m2 d2) ∧ Yb (w.heap.size + 1 + 1) (w3b w A1 n1 c1 A2 n2 c2 B1 m1 d1 B2 m2 d2) ∧
    (w3b w A1 n1 c1 A2 n2 c2 B1 m1 d1 B2 m2 d2).cell? ⟨w.heap.size, 0, none⟩ = some (.slice A1 n1 c1) ∧ (w3b w A1 n1 c1 A2 n2 c2 B1 m1 d1 B2 m2 d2).cell? ⟨w.heap.size, 1, none⟩ = some (.slice A2 n2 c2) ∧
    (w3b w A1 n1 c1 A2 n2 c2 B1 m1 d1 B2 m2 d2).cell? ⟨w.heap.size + 1, 0, none⟩ = some (.slice B1 m1 d1) ∧ (w3b w A1 n1 c1 A2 n2 c2 B1 m1 d1 B2 m2 d2).cell? ⟨w.heap.size + 1, 1, none⟩ = some (.slice B2 m2 d2) := by
  refine ⟨(((Below.refl _ _).alloc (Nat.le_refl _) _).alloc (by simp) _).alloc (by simp; omega) _, ?_, ?_, ?_, ?_, ?_⟩
  · have := yb_new ((w.alloc (.cells #[.slice A1 n1 c1, .slice A2 n2 c2] 24)).alloc (.cells #[.slice B1 m1 d1, .slice B2 m2 d2] 24))
    simpa using this
  · exact cell?_alloc_some _ (cell?_alloc_some _ (by simp))
  · exact cell?_alloc_some _ (cell?_alloc_some _ (by simp))
  · refine cell?_alloc_some _ ?_
    have := World.cell?_alloc_new (w.alloc (.cells #[.slice A1 n1 c1, .slice A2 n2 c2] 24)) #[.slice B1 m1 d1, .slice B2 m2 d2] 24
    simp
  · refine cell?_alloc_some _ ?_
    simp
theorem make_app (E1 E2 : Option Addr) (e1 e2 : Nat) (s t : NS) (w : World) (h1 : Re w w.heap.size E1 (s.1 ++ t.1)) (h2 : Re w w.heap.size E2 (s.2 ++ t.2)) (p1 : Plain E1 e1) (p2 : Plain E2 e2) (hk : okN 40000 s) (hj : okN 40000 t) :
    Calls Try.prog 15 #[nv E1 (s.1.length + t.1.length) e1 E2 (s.2.length + t.2.length) e2] w (GivesN (orr s t) w) := by
  have h := make_any E1 E2 e1 e2 (s.1 ++ t.1, s.2 ++ t.2) w ⟨h1, h2, p1, p2⟩ ((app_ok hk hj).le (by omega))
  rw [show (s.1 ++ t.1, s.2 ++ t.2).1.length = s.1.length + t.1.length from List.length_append, show (s.1 ++ t.1, s.2 ++ t.2).2.length = s.2.length + t.2.length from List.length_append] at h
  exact h
set_option maxRecDepth 100000 in
set_option maxHeartbeats 1000000 in
theorem or_any (A1 A2 B1 B2 : Option Addr) (c1 c2 d1 d2 : Nat) (s t : NS) (w : World) (hN : Ns w A1 c1 A2 c2 s) (hM : Ns w B1 d1 B2 d2 t) (hk : okN 40000 s) (hj : okN 40000 t) :
    Calls Try.prog 27 #[nv A1 s.1.length c1 A2 s.2.length c2, nv B1 t.1.length d1 B2 t.2.length d2] w (GivesN (orr s t) w) := by
  have HN := Lib.hid hN
  have HM := Lib.hid hM
  have HK := Lib.hid hk
  have HJ := Lib.hid hj
  clear hN hk hM hj
  go_enter Try.func27, Try.ntmps27
  go_wp2_with fail
  obtain ⟨hb0, hY, a0, a1, a2, a3⟩ := boxes w A1 s.1.length c1 A2 s.2.length c2 B1 t.1.length d1 B2 t.2.length d2
  unfold w3b at *
  generalize ((w.alloc (.cells #[.slice A1 s.1.length c1, .slice A2 s.2.length c2] 24)).alloc (.cells #[.slice B1 t.1.length d1, .slice B2 t.2.length d2] 24)).alloc (.cells #[.slice none 0 0, .slice none 0 0] 24) = w1 at *
  obtain ⟨r, hr⟩ : ∃ r, r = w.heap.size + 1 + 1 := ⟨_, rfl⟩
  have z0 : w.heap.size < r := by omega
  have z1 : w.heap.size + 1 < r := by omega
  rw [← hr] at hY ⊢
  have S0 : w1.cell? ⟨w.heap.size, 0, none⟩ = some (.slice A1 s.1.length c1) ∧ w1.cell? ⟨w.heap.size, 1, none⟩ = some (.slice A2 s.2.length c2) ∧ w1.cell? ⟨w.heap.size + 1, 0, none⟩ = some (.slice B1 t.1.length d1) ∧ w1.cell? ⟨w.heap.size + 1, 1, none⟩ = some (.slice B2 t.2.length d2) ∧ Below r w1 w1 := ⟨a0, a1, a2, a3, Below.refl _ _⟩
  have N1 := HN.out.up hb0
  have M1 := HM.out.up hb0
  have yl := hY.lt
  have HB0 := Lib.hid hb0
  have HR := Lib.hid hr
  have l1 := HK.out.1
  have l2 := HK.out.2.1
  have l3 := HJ.out.1
  have l4 := HJ.out.2.1
  have rw1 : r ≤ w1.heap.size := Nat.le_of_lt yl
  have rw2 : r ≤ w1.heap.size + 1 := by omega
  clear hb0 a0 a1 a2 a3 hr
  go_region_held3 (fun w' => w'.cell? ⟨w.heap.size, 0, none⟩ = some (.slice A1 s.1.length c1) ∧ w'.cell? ⟨w.heap.size, 1, none⟩ = some (.slice A2 s.2.length c2) ∧ w'.cell? ⟨w.heap.size + 1, 0, none⟩ = some (.slice B1 t.1.length d1) ∧ w'.cell? ⟨w.heap.size + 1, 1, none⟩ = some (.slice B2 t.2.length d2) ∧ Below r w1 w')
    (first | assumption | exact S0 | exact keepF z0 z0 z1 z1 S0 ((Below.refl _ _).drew) | exact keepF z0 z0 z1 z1 S0 ((Below.refl _ _).alloc rw1 _) | exact keepF z0 z0 z1 z1 S0 (((Below.refl _ _).alloc rw1 _).drew) | exact keepF z0 z0 z1 z1 S0 (((Below.refl _ _).alloc rw1 _).alloc (by simp; omega) _) | exact keepF z0 z0 z1 z1 S0 ((((Below.refl _ _).alloc rw1 _).alloc (by simp; omega) _).drew) | exact keepF z0 z0 z1 z1 S0 (bw5.mono rw1) | exact keepF z0 z0 z1 z1 S0 (bw4.mono rw1) | exact keepF z0 z0 z1 z1 S0 ((bw3.mono rw1).alloc (Nat.le_trans rw1 bw3.size) _) | exact keepF z0 z0 z1 z1 S0 (bw3.mono rw1) | exact keepF z0 z0 z1 z1 S0 (((bw5.mono rw1).setCell (p := ⟨r, 0, none⟩) (Nat.le_refl _) _).setCell (p := ⟨r, 1, none⟩) (Nat.le_refl _) _))
    (first
      | (go_at_call 62; have bwx : Below w1.heap.size w1 w3 := bw3; refine (concat_any _ A2 B2 c2 d2 s.2 t.2 _ (by first | (with_reducible exact Two.up ⟨by simp, by simp, by first | (simp; done) | (simp; omega)⟩ hb3) | exact ⟨by simp, by simp, by first | (simp; done) | (simp; omega)⟩) (by omega) (by omega) (N1.r2.up (by first | (with_reducible exact bw3) | (with_reducible exact bw3.alloc bw3.size _))) (M1.r2.up (by first | (with_reducible exact bw3) | (with_reducible exact bw3.alloc bw3.size _))) N1.p2 M1.p2).mono ?_; rintro e w4 ⟨E2, e2, rfl, hr4, ⟨hp4, hh4⟩, hb4⟩; have hr34 := hr3.up (by first | (with_reducible exact hb4) | (with_reducible exact (bal _ _).trans (hb4.mono (by simp)))); have bw4 : Below w1.heap.size w1 w4 := (by first | (with_reducible exact bw3.trans (hb4.mono bw3.size)) | (with_reducible exact (bw3.alloc bw3.size _).trans (hb4.mono (by simp; have := bw3.size; omega)))))
      | (go_at_call 62; refine (concat_any _ A1 B1 c1 d1 s.1 t.1 _ ⟨by simp, by simp, by first | (simp; done) | (simp; omega)⟩ (by omega) (by omega) (N1.r1.up (by first | (with_reducible exact (bal w1 _).drew) | (with_reducible exact (((bal w1 _).alloc (by simp) _).drew)))) (M1.r1.up (by first | (with_reducible exact (bal w1 _).drew) | (with_reducible exact (((bal w1 _).alloc (by simp) _).drew)))) N1.p1 M1.p1).mono ?_; rintro e w3 ⟨E1, e1, rfl, hr3, ⟨hp3, hh3⟩, hb3⟩; have bw3 : Below w1.heap.size w1 w3 := (by first | (with_reducible exact ((bal w1 _).drew).trans (hb3.mono (by simp))) | (with_reducible exact (((bal w1 _).alloc (by simp) _).drew).trans (hb3.mono (by simp; omega)))))
      | (go_at_call 15; refine (make_app E1 E2 e1 e2 s t w4 hr34 hr4 hp3 hp4 HK.out HJ.out).mono ?_; rintro e w5 ⟨F1, g1, F2, g2, rfl, ⟨hns, hf1, hf2⟩, hb5⟩; have bw5 : Below w1.heap.size w1 w5 := bw4.trans (hb5.mono bw4.size); have Y5 := hY.up bw5; obtain ⟨y0, y1, f0, f1, yl5⟩ := id Y5; have hi1 : Hi (r + 1) F1 := hf1.le (by have := bw4.size; omega); have hi2 : Hi (r + 1) F2 := hf2.le (by have := bw4.size; omega)))
  all_goals
    obtain ⟨⟨q0, q1⟩, hfn, hfb⟩ := fin_set Y5 hns hi1 hi2 (orr s t).1.length (orr s t).2.length
    have HE := Lib.hid (show GivesN (orr s t) w (.returned (nv F1 (orr s t).1.length g1 F2 (orr s t).2.length g2)) ((w5.setCell ⟨r, 0, none⟩ (.slice F1 (orr s t).1.length g1)).setCell ⟨r, 1, none⟩ (.slice F2 (orr s t).2.length g2)) from
      ⟨F1, g1, F2, g2, rfl, ⟨hfn, hi1.le (by omega), hi2.le (by omega)⟩, HB0.out.trans ((((bw5.mono rw1).trans hfb)).mono (by omega))⟩)
    clear hfn hfb hns hi1 hi2 hf1 hf2 Y5 y0 y1 f0 f1 bw5 bw4 hb5 hb4 bw3 hb3 hr3 hr34 hr4 hh3 hh4 hp3 hp4
    generalize (w5.setCell ⟨r, 0, none⟩ (.slice F1 (orr s t).1.length g1)).setCell ⟨r, 1, none⟩ (.slice F2 (orr s t).2.length g2) = Wf at *
    go_wp2_with fail
    refine bodyPost_ret (v := nv F1 (orr s t).1.length g1 F2 (orr s t).2.length g2) (by simp [results, Try.results27, go_sem, q0, q1]) rfl HE.out
end Go.Proofs.Yteekccjfokoglaa
