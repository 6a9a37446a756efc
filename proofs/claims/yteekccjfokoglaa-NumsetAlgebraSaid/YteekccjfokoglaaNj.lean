/-
  The specification's Not, Or, And, Minus, Empty, Subset. Condition: at most 10000 spans of each kind, their ends 64-bit integers.
-/
import Derived.Test.YteekccjfokoglaaNi
import Derived.Laws.AppendOwnNone
namespace Go.Proofs.Yteekccjfokoglaa
open Go.RowKit Go.Sort Go.Lib Go.Proofs
set_option linter.unusedSimpArgs false
set_option linter.unnecessarySimpa false
set_option linter.unusedVariables false
theorem rnF_bd15 (l : List Sp) : ∀ x ∈ rn (fr l), bd15 x := fun x hx => by
  have h := rnF_line l x hx
  have h2 := (rnF_spec l).1.1 x hx
  unfold bd15; omega
theorem rnI_bd15 (l : List Sp) : ∀ x ∈ rn (l.map clipI), bd15 x := fun x hx => by
  have h := rnI_line l x hx
  have h2 := (rnI_spec l).1.1 x hx
  unfold bd15; omega
theorem nt_rg (s : NS) : nt s = (rg 100000000000 (-100000000000) (rn (s.1.map clipI)), (rg 999899999999999 (-999900000000000) (rn (fr s.2))).map unS) := by
  have h2 := gapF_cpl s.2
  rw [show (999900000000 * 1000 - 1 : Int) = 999899999999999 by decide, show (-999900000000 * 1000 : Int) = -999900000000000 by decide] at h2
  rw [gapI_cpl, h2]; rfl
theorem gF_spec (l : List Sp) : (∀ x ∈ rg 999899999999999 (-999900000000000) (rn (fr l)), bdu x.1 ∧ bdu x.2) ∧ (rg 999899999999999 (-999900000000000) (rn (fr l))).length ≤ l.length + 1 := by
  obtain ⟨a, b, c, d⟩ := rg_spec 999899999999999 (rn (fr l)) (-999900000000000) (rnF_spec l).1 (fun s hs => by have := rnF_line l s hs; omega)
  have h := (rnF_spec l).2.1
  refine ⟨fun x hx => ?_, by omega⟩
  have h1 := b x hx
  have h2 := a.1 x hx
  unfold bdu; omega
set_option maxRecDepth 100000 in
set_option maxHeartbeats 2000000 in
theorem rnot_any (A1 A2 : Option Addr) (c1 c2 : Nat) (s : NS) (w : World) (hN_s : Ns w A1 c1 A2 c2 s) (hk_s : okN 100000 s) :
    Calls Try.prog 30 #[nv A1 s.1.length c1 A2 s.2.length c2] w (GivesN (nt s) w) := by
  have HN_s := Lib.hid hN_s
  have HK_s := Lib.hid hk_s
  clear hN_s hk_s
  obtain ⟨w1, hw1⟩ : ∃ w1, w1 = ((w.alloc (.cells #[.slice A1 s.1.length c1, .slice A2 s.2.length c2] 24)).alloc (.cells #[.slice none 0 0, .slice none 0 0] 24)) := ⟨_, rfl⟩
  obtain ⟨r, hr⟩ : ∃ r, r = w.heap.size + 1 := ⟨_, rfl⟩
  have hb0 : Below w.heap.size w w1 := by rw [hw1]; exact ((Below.refl _ _).alloc (Nat.le_refl _) _).alloc (by simp) _
  have a0 : w1.cell? ⟨w.heap.size, 0, none⟩ = some (.slice A1 s.1.length c1) := by rw [hw1]; simp
  have a1 : w1.cell? ⟨w.heap.size, 1, none⟩ = some (.slice A2 s.2.length c2) := by rw [hw1]; simp
  have hY : Yb r w1 := by rw [hw1, hr]; exact ⟨by simp, by simp, by simp, by simp, by simp⟩
  have z0 : w.heap.size < r := by omega
  have KP := Lib.hid (show ∀ W : World, Below r w1 W → W.cell? ⟨w.heap.size, 0, none⟩ = some (.slice A1 s.1.length c1) ∧ W.cell? ⟨w.heap.size, 1, none⟩ = some (.slice A2 s.2.length c2) ∧ Below r w1 W from fun W hb => ⟨(hb.cell (p := ⟨w.heap.size, 0, none⟩) (by show w.heap.size < r; omega)).trans a0, (hb.cell (p := ⟨w.heap.size, 1, none⟩) (by show w.heap.size < r; omega)).trans a1, hb⟩)
  have HB0 := Lib.hid hb0
  have HR := Lib.hid hr
  have HY := Lib.hid hY
  have rl : r ≤ w1.heap.size := Nat.le_of_lt hY.lt
  have HM_s := Lib.hid (HN_s.out.up hb0)
  obtain ⟨LI, hLI⟩ : ∃ LI, LI = rn (s.1.map clipI) := ⟨_, rfl⟩
  obtain ⟨LF, hLF⟩ : ∃ LF, LF = rn (fr s.2) := ⟨_, rfl⟩
  obtain ⟨GI, hGI⟩ : ∃ GI, GI = rg 100000000000 (-100000000000) LI := ⟨_, rfl⟩
  obtain ⟨GF, hGF⟩ : ∃ GF, GF = rg 999899999999999 (-999900000000000) LF := ⟨_, rfl⟩
  obtain ⟨FF, hFF⟩ : ∃ FF, FF = GF.map unS := ⟨_, rfl⟩
  have HC1 := Lib.hid (show ∀ W : World, Ns W A1 c1 A2 c2 s → Calls Try.prog 55 #[nv A1 s.1.length c1 A2 s.2.length c2] W (Gives LI W) from fun W h => by
    rw [hLI]; exact (rints_any A1 A2 c1 c2 s W h HK_s.out).mono fun e w' h => rn_gives h)
  have HC2 := Lib.hid (show ∀ (W : World) P p, Re W W.heap.size P LI → Calls Try.prog 64 #[.slice P LI.length p, .int .i64 (-100000000000), .int .i64 100000000000] W (Gives GI W) from fun W P p h => by
    rw [hGI]; exact rgaps_any P p LI _ _ W h (by have := (rnI_spec s.1).2; have := HK_s.out.1; rw [hLI]; omega) (by rw [hLI]; exact rnI_bd15 s.1) (by omega) (by omega) (by omega) (by omega))
  have HC3 := Lib.hid (show ∀ W : World, Ns W A1 c1 A2 c2 s → Calls Try.prog 56 #[nv A1 s.1.length c1 A2 s.2.length c2] W (Gives LF W) from fun W h => by
    rw [hLF]; exact (rfracs_any A1 A2 c1 c2 s W h HK_s.out).mono fun e w' h => rn_gives h)
  have HC4 := Lib.hid (show ∀ (W : World) P p, Re W W.heap.size P LF → Calls Try.prog 64 #[.slice P LF.length p, .int .i64 (-999900000000000), .int .i64 999899999999999] W (Gives GF W) from fun W P p h => by
    rw [hGF]; exact rgaps_any P p LF _ _ W h (by have := (rnF_spec s.2).2.1; have := HK_s.out.2.1; rw [hLF]; omega) (by rw [hLF]; exact rnF_bd15 s.2) (by omega) (by omega) (by omega) (by omega))
  have HC5 := Lib.hid (show ∀ (W : World) P p Q q, Ns W P p Q q (GI, GF) → Calls Try.prog 54 #[.slice P GI.length p, .slice Q GF.length q] W (OfIs P p (GI, FF) W) from fun W P p Q q h => by
    rw [hFF]; exact rof_any P Q p q (GI, GF) W h (by have := (gF_spec s.2).2; have := HK_s.out.2.1; rw [hGF, hLF]; show (rg 999899999999999 (-999900000000000) (rn (fr s.2))).length ≤ 200000; omega) (by rw [hGF, hLF]; exact (gF_spec s.2).1))
  have HMK := Lib.hid (show nt s = (GI, FF) by rw [nt_rg, hFF, hGF, hGI, hLI, hLF])
  clear hLI hLF hFF hGI hGF
  go_enter Try.func30, Try.ntmps30
  go_wp2_with fail
  rw [← hw1, ← hr]
  clear hb0 hY hr hw1 a0 a1
  have b0 : Below w1.heap.size w1 w1.drew := drewB w1
  go_region_held3 (fun w' => w'.cell? ⟨w.heap.size, 0, none⟩ = some (.slice A1 s.1.length c1) ∧ w'.cell? ⟨w.heap.size, 1, none⟩ = some (.slice A2 s.2.length c2) ∧ Below r w1 w')
    (first | assumption | exact KP.out _ (Below.refl _ _) | exact KP.out _ (b5.mono rl) | exact KP.out _ (b4.mono rl) | exact KP.out _ (b3.mono rl) | exact KP.out _ (b2.mono rl) | exact KP.out _ (b1.mono rl) | exact KP.out _ (b0.mono rl) | exact KP.out _ (((b5.mono rl).setCell (p := ⟨r, 0, none⟩) (Nat.le_refl _) _).setCell (p := ⟨r, 1, none⟩) (Nat.le_refl _) _))
    (first
      | (go_at_call 54; (with_reducible refine (HC5.out _ P2 p2 Q2 q2 ⟨hr2.up (hb3.trans (hb4.mono hb3.size)), hr4, hp2, hp4⟩).mono ?_); rintro e v5 ⟨T, t, rfl, hns, hh5, hb5⟩; have b5 : Below w1.heap.size w1 v5 := b4.trans (hb5.mono b4.size); obtain ⟨y0, y1, f0, f1, yl⟩ := HY.out.up b5)
      | (go_at_call 64; (with_reducible refine (HC4.out _ Q q hr3).mono ?_); rintro e v4 ⟨Q2, q2, rfl, hr4, ⟨hp4, hh4⟩, hb4⟩; have b4 : Below w1.heap.size w1 v4 := b3.trans (hb4.mono b3.size))
      | (go_at_call 56; (with_reducible refine (HC3.out _ (HM_s.out.up b2)).mono ?_); rintro e v3 ⟨Q, q, rfl, hr3, ⟨hp3, hh3⟩, hb3⟩; have b3 : Below w1.heap.size w1 v3 := b2.trans (hb3.mono b2.size))
      | (go_at_call 64; (with_reducible refine (HC2.out _ P p hr1).mono ?_); rintro e v2 ⟨P2, p2, rfl, hr2, ⟨hp2, hh2⟩, hb2⟩; have b2 : Below w1.heap.size w1 v2 := b1.trans (hb2.mono b1.size))
      | (go_at_call 55; (with_reducible refine (HC1.out _ (HM_s.out.up b0)).mono ?_); rintro e v1 ⟨P, p, rfl, hr1, ⟨hp1, hh1⟩, hb1⟩; have b1 : Below w1.heap.size w1 v1 := b0.trans (hb1.mono b0.size)))
  all_goals
    obtain ⟨q0, q1, hup⟩ := st_cell y0 y1 P2 GI.length p2 T FF.length t
    have HE := Lib.hid (show GivesN (nt s) w (.returned (nv P2 GI.length p2 T FF.length t)) (stW v5 r P2 GI.length p2 T FF.length t) from by
      have hns := hup (hns)
      have hbE : Below w.heap.size w (stW v5 r P2 GI.length p2 T FF.length t) := (((HB0.out.trans (b5.mono HB0.out.size)).setCell (p := ⟨r, 0, none⟩) (by have := HR.out; show w.heap.size ≤ r; omega) _).setCell (p := ⟨r, 1, none⟩) (by have := HR.out; show w.heap.size ≤ r; omega) _)
      rw [HMK.out]
      exact ⟨P2, p2, T, t, rfl, ⟨hns, hh2.le (Nat.le_trans HB0.out.size b1.size), hh5.le (Nat.le_trans HB0.out.size b4.size)⟩, hbE⟩)
    unfold stW at q0 q1 HE
    clear hup y0 y1 f0 f1
    generalize (v5.setCell ⟨r, 0, none⟩ (.slice P2 GI.length p2)).setCell ⟨r, 1, none⟩ (.slice T FF.length t) = Wf at *
    go_wp2_with fail
    refine bodyPost_ret (v := nv P2 GI.length p2 T FF.length t) (by simp [results, Try.results30, go_sem, q0, q1]) rfl HE.out
theorem Rv.setL {W0 : World} {bk B k k' : Nat} {v vo : Value} {Ao : Option Addr} {l lo : List Sp} {w W5 : World} {v' : Value} {m : List Sp} (h : Rv W0 bk B k k' v vo Ao l lo w) (hk : k ≠ k')
    (hown : W5.ownsRow B 46 2 v' m.length (flat m)) (hg : w.grownBy W5 v.ownBlock) : Rv W0 bk B k k' v' vo Ao m lo (W5.setCell ⟨bk, k, none⟩ v') := by
  have hb : Below B w W5 := (Below.refl B w).grown hg h.le (fun j hj => (h.own.lt j hj).1)
  have c0 : W5.cell? ⟨bk, k, none⟩ = some v := by rw [hb.cell (p := ⟨bk, k, none⟩) h.lt]; exact h.ck
  obtain ⟨A, c, rfl⟩ := own_slice h.own
  refine ⟨World.cell?_setCell_same _ _ _ c0, ?_, ?_, ?_, own_set hown h.lt _, (h.re.below hb).put c0 _, ?_, h.lt, ?_⟩
  · rw [World.cell?_setCell_other _ _ _ _ (by simp [hk]), hb.cell (p := ⟨bk, k', none⟩) h.lt]; exact h.co
  · rw [World.frozen?_setCell, hb.frozen (p := ⟨bk, k, none⟩) h.lt]; exact h.fk
  · rw [World.frozen?_setCell, hb.frozen (p := ⟨bk, k', none⟩) h.lt]; exact h.fo
  · exact (h.bel.trans (hb.mono (Nat.le_of_lt h.lt))).setCell (p := ⟨bk, k, none⟩) (Nat.le_refl _) _
  · rw [heap_setCell]; exact Nat.le_trans h.le hb.size
theorem cell_keep (W : World) (o : Obj) (b j : Nat) (h : b < W.heap.size) : (W.alloc o).cell? ⟨b, j, none⟩ = W.cell? ⟨b, j, none⟩ := (bal W o).cell (p := ⟨b, j, none⟩) h
theorem frozen_keep (W : World) (o : Obj) (b j : Nat) (h : b < W.heap.size) : (W.alloc o).frozen? ⟨b, j, none⟩ = W.frozen? ⟨b, j, none⟩ := (bal W o).frozen (p := ⟨b, j, none⟩) h
set_option maxRecDepth 100000 in
set_option maxHeartbeats 2000000 in
theorem ror_any (A1 A2 B1 B2 : Option Addr) (c1 c2 d1 d2 : Nat) (s t : NS) (w : World) (hN_s : Ns w A1 c1 A2 c2 s) (hN_t : Ns w B1 d1 B2 d2 t) (hk_s : okN 50000 s) (hk_t : okN 50000 t) :
    Calls Try.prog 28 #[nv A1 s.1.length c1 A2 s.2.length c2, nv B1 t.1.length d1 B2 t.2.length d2] w (GivesN (orr s t) w) := by
  have HK_s := Lib.hid hk_s
  have HK_t := Lib.hid hk_t
  obtain ⟨Wf, hWf⟩ : ∃ Wf, Wf = ((((w.alloc (.cells #[.slice A1 s.1.length c1, .slice A2 s.2.length c2] 24)).alloc (.cells #[.slice B1 t.1.length d1, .slice B2 t.2.length d2] 24)).alloc (.cells #[.slice none 0 0, .slice none 0 0] 24)).alloc (.cells #[.slice none 0 0, .slice none 0 0] 24)) := ⟨_, rfl⟩
  obtain ⟨r, hr⟩ : ∃ r, r = w.heap.size + 1 + 1 := ⟨_, rfl⟩
  obtain ⟨bk, hbk⟩ : ∃ bk, bk = w.heap.size + 1 + 1 + 1 := ⟨_, rfl⟩
  have hbf : Below w.heap.size w Wf := by rw [hWf]; exact ((((Below.refl _ _).alloc (Nat.le_refl _) _).alloc (by simp) _).alloc (by simp; omega) _).alloc (by simp; omega) _
  have HZ := Lib.hid (show w.heap.size < bk ∧ w.heap.size + 1 < bk by omega)
  have HRr := Lib.hid (show w.heap.size ≤ r ∧ r < bk by omega)
  have HKA := Lib.hid (show (Wf.cell? ⟨w.heap.size, 0, none⟩ = some (.slice A1 s.1.length c1) ∧ Wf.cell? ⟨w.heap.size, 1, none⟩ = some (.slice A2 s.2.length c2)) ∧ (Wf.cell? ⟨w.heap.size + 1, 0, none⟩ = some (.slice B1 t.1.length d1) ∧ Wf.cell? ⟨w.heap.size + 1, 1, none⟩ = some (.slice B2 t.2.length d2)) by
    rw [hWf]; refine ⟨⟨?_, ?_⟩, ⟨?_, ?_⟩⟩
    · rw [cell_keep _ _ _ _ (by simp; omega), cell_keep _ _ _ _ (by simp; omega), cell_keep _ _ _ _ (by simp)]; simp
    · rw [cell_keep _ _ _ _ (by simp; omega), cell_keep _ _ _ _ (by simp; omega), cell_keep _ _ _ _ (by simp)]; simp
    · rw [cell_keep _ _ _ _ (by simp), cell_keep _ _ _ _ (by simp)]; try simp
    · rw [cell_keep _ _ _ _ (by simp), cell_keep _ _ _ _ (by simp)]; try simp)
  have HYr := Lib.hid (show Wf.cell? ⟨r, 0, none⟩ = some (.slice none 0 0) ∧ Wf.cell? ⟨r, 1, none⟩ = some (.slice none 0 0) ∧ Wf.frozen? ⟨r, 0, none⟩ = false ∧ Wf.frozen? ⟨r, 1, none⟩ = false by
    have hsr : ((w.alloc (.cells #[.slice A1 s.1.length c1, .slice A2 s.2.length c2] 24)).alloc (.cells #[.slice B1 t.1.length d1, .slice B2 t.2.length d2] 24)).heap.size = r := by rw [hr]; simp
    rw [hWf]
    generalize (w.alloc (.cells #[.slice A1 s.1.length c1, .slice A2 s.2.length c2] 24)).alloc (.cells #[.slice B1 t.1.length d1, .slice B2 t.2.length d2] 24) = Wx at hsr ⊢
    rw [← hsr]; refine ⟨?_, ?_, ?_, ?_⟩
    · rw [cell_keep _ _ _ _ (by simp)]; simp
    · rw [cell_keep _ _ _ _ (by simp)]; simp
    · rw [frozen_keep _ _ _ _ (by simp)]; simp
    · rw [frozen_keep _ _ _ _ (by simp)]; simp)
  have HRA := Lib.hid (show (Re Wf bk A1 s.1 ∧ Re Wf bk A2 s.2) ∧ (Re Wf bk B1 t.1 ∧ Re Wf bk B2 t.2) from
    ⟨⟨(hN_s.r1.below hbf).le (by omega), (hN_s.r2.below hbf).le (by omega)⟩, ⟨(hN_t.r1.below hbf).le (by omega), (hN_t.r2.below hbf).le (by omega)⟩⟩)
  have HPA := Lib.hid (show (Plain A1 c1 ∧ Plain A2 c2) ∧ (Plain B1 d1 ∧ Plain B2 d2) from ⟨⟨hN_s.p1, hN_s.p2⟩, ⟨hN_t.p1, hN_t.p2⟩⟩)
  have HBF := Lib.hid hbf
  have HRv := Lib.hid (show Rv Wf bk Wf.heap.size 0 1 (.slice none 0 0) (.slice none 0 0) none ([] : List Sp) [] Wf from by
    have hsz : (((((w.alloc (.cells #[.slice A1 s.1.length c1, .slice A2 s.2.length c2] 24)).alloc (.cells #[.slice B1 t.1.length d1, .slice B2 t.2.length d2] 24))).alloc (.cells #[.slice none 0 0, .slice none 0 0] 24))).heap.size = bk := by rw [hbk]; simp
    have hwf2 : Wf = (((w.alloc (.cells #[.slice A1 s.1.length c1, .slice A2 s.2.length c2] 24)).alloc (.cells #[.slice B1 t.1.length d1, .slice B2 t.2.length d2] 24)).alloc (.cells #[.slice none 0 0, .slice none 0 0] 24)).alloc (.cells #[.slice none 0 0, .slice none 0 0] 24) := hWf
    generalize ((w.alloc (.cells #[.slice A1 s.1.length c1, .slice A2 s.2.length c2] 24)).alloc (.cells #[.slice B1 t.1.length d1, .slice B2 t.2.length d2] 24)).alloc (.cells #[.slice none 0 0, .slice none 0 0] 24) = Wx at hsz hwf2
    refine ⟨?_, ?_, ?_, ?_, World.ownsRow_nil _ _ _ _, re_nil _ _ _, Below.refl _ _, ?_, Nat.le_refl _⟩ <;> rw [hwf2, ← hsz] <;> simp)
  obtain ⟨L1, hL1⟩ : ∃ L1, L1 = s.1 ++ t.1 := ⟨_, rfl⟩
  obtain ⟨L2, hL2⟩ : ∃ L2, L2 = s.2 ++ t.2 := ⟨_, rfl⟩
  have HL := Lib.hid (And.intro hL1 hL2)
  have hOk : okN 100000 (L1, L2) := by rw [hL1, hL2]; exact app_ok hk_s hk_t
  have HM := Lib.hid (show ∀ (W : World) P p Q q, Ns W P p Q q (L1, L2) → Calls Try.prog 16 #[nv P L1.length p Q L2.length q] W (GivesN (orr s t) W) from fun W P p Q q h => by
    have h := rmake_any P Q p q (L1, L2) W h hOk
    rw [show mk (L1, L2) = orr s t by rw [hL1, hL2]; rfl] at h; exact h)
  clear hbf hN_s hN_t hk_s hk_t hOk hL1 hL2
  go_enter Try.func28, Try.ntmps28
  go_upto_region 2 with fail
  rw [← hWf, ← hbk, ← hr]
  clear hWf hbk hr
  have u0 : Wf.cell? ⟨w.heap.size, 0, none⟩ = some (.slice A1 s.1.length c1) := by rw [HRv.out.bel.cell (p := ⟨w.heap.size, 0, none⟩) HZ.out.1]; exact HKA.out.1.1
  have hck := HRv.out.ck
  have hre := HRA.out.1.1.below HRv.out.bel
  have hln : ([] : List Sp).length + s.1.length ≤ 4000000 := by have h1 := HK_s.out.1; have h2 := HK_s.out.2.1; have h3 := HK_t.out.1; have h4 := HK_t.out.2.1; (try simp only [List.length_nil]); omega
  go_wp2_with (at_builtin; refine wpList_append_re rfl _ _ rfl Wf.heap.size bk _ ([] : List Sp).length (flat ([] : List Sp)) rfl ?a1 A1 c1 s.1 rfl ?a2 ?a3 ?a4 ?a5 ?_)
  case a1 => exact HRv.out.own
  case a2 => exact hre
  case a3 => exact HPA.out.1.1
  case a4 => exact hln
  case a5 => exact HRv.out.le
  intro v1 w1 hown1 hg1
  have hown : w1.ownsRow Wf.heap.size 46 2 v1 (s.1).length (flat (s.1)) := by simpa [flat_nil] using hown1
  obtain ⟨gA1, gc1, rfl⟩ := own_slice hown
  have hnx := HRv.out.setL (by decide) hown hg1
  obtain ⟨gx, gy⟩ := HRv.out.facts (Below.refl _ _) hg1
  have glb : bk < w1.heap.size := Nat.lt_of_lt_of_le HRv.out.lt (Nat.le_trans HRv.out.le hg1.size)
  obtain ⟨y1, hwn⟩ : ∃ x, x = w1.setCell ⟨bk, 0, none⟩ (.slice gA1 (s.1).length gc1) := ⟨_, rfl⟩
  rw [← hwn] at hnx
  clear hck hre hln u0 hown1 hg1 hown
  go_upto_region 3 with fail
  rw [← hwn]
  clear hwn gx gy glb
  replace HRv := Lib.hid hnx
  clear hnx
  have u0 : y1.cell? ⟨w.heap.size + 1, 0, none⟩ = some (.slice B1 t.1.length d1) := by rw [HRv.out.bel.cell (p := ⟨w.heap.size + 1, 0, none⟩) HZ.out.2]; exact HKA.out.2.1
  have hck := HRv.out.ck
  have hre := HRA.out.2.1.below HRv.out.bel
  have hln : (s.1).length + t.1.length ≤ 4000000 := by have h1 := HK_s.out.1; have h2 := HK_s.out.2.1; have h3 := HK_t.out.1; have h4 := HK_t.out.2.1; (try simp only [List.length_nil]); omega
  go_wp2_with (at_builtin; refine wpList_append_re rfl _ _ rfl Wf.heap.size bk _ (s.1).length (flat (s.1)) rfl ?a1 B1 d1 t.1 rfl ?a2 ?a3 ?a4 ?a5 ?_)
  case a1 => exact HRv.out.own
  case a2 => exact hre
  case a3 => exact HPA.out.2.1
  case a4 => exact hln
  case a5 => exact HRv.out.le
  intro v2 w2 hown2 hg2
  have hown : w2.ownsRow Wf.heap.size 46 2 v2 (L1).length (flat (L1)) := by rw [HL.out.1, flat_append, List.length_append]; exact hown2
  obtain ⟨gA2, gc2, rfl⟩ := own_slice hown
  have hnx := HRv.out.setL (by decide) hown hg2
  obtain ⟨gx, gy⟩ := HRv.out.facts (Below.refl _ _) hg2
  have glb : bk < w2.heap.size := Nat.lt_of_lt_of_le HRv.out.lt (Nat.le_trans HRv.out.le hg2.size)
  obtain ⟨y2, hwn⟩ : ∃ x, x = w2.setCell ⟨bk, 0, none⟩ (.slice gA2 (L1).length gc2) := ⟨_, rfl⟩
  rw [← hwn] at hnx
  clear hck hre hln u0 hown2 hg2 hown
  go_upto_region 4 with fail
  rw [← hwn]
  clear hwn gx gy glb
  replace HRv := Lib.hid hnx
  clear hnx
  obtain ⟨A5, c5, hv5, hre5, hp5, hhi5⟩ := re_of_own HRv.out.own
  have h5 := HRv.out
  rw [hv5] at h5
  have HR5 := Lib.hid (And.intro hp5 hhi5)
  injection hv5 with e1 e2 e3
  subst e1 e3
  have HRx := Lib.hid (show Rv Wf bk y2.heap.size 1 0 (.slice none 0 0) (.slice gA2 L1.length gc2) gA2 ([] : List Sp) L1 y2 from
    ⟨h5.co, h5.ck, h5.fo, h5.fk, World.ownsRow_nil _ _ _ _, hre5, h5.bel, Nat.lt_of_lt_of_le h5.lt h5.le, Nat.le_refl _⟩)
  clear HRv hre5 hp5 hhi5 h5 e2
  have HRv := HRx
  clear HRx
  have u0 : y2.cell? ⟨w.heap.size, 1, none⟩ = some (.slice A2 s.2.length c2) := by rw [HRv.out.bel.cell (p := ⟨w.heap.size, 1, none⟩) HZ.out.1]; exact HKA.out.1.2
  have hck := HRv.out.ck
  have hre := HRA.out.1.2.below HRv.out.bel
  have hln : ([] : List Sp).length + s.2.length ≤ 4000000 := by have h1 := HK_s.out.1; have h2 := HK_s.out.2.1; have h3 := HK_t.out.1; have h4 := HK_t.out.2.1; (try simp only [List.length_nil]); omega
  go_wp2_with (at_builtin; refine wpList_append_re rfl _ _ rfl y2.heap.size bk _ ([] : List Sp).length (flat ([] : List Sp)) rfl ?a1 A2 c2 s.2 rfl ?a2 ?a3 ?a4 ?a5 ?_)
  case a1 => exact HRv.out.own
  case a2 => exact hre
  case a3 => exact HPA.out.1.2
  case a4 => exact hln
  case a5 => exact HRv.out.le
  intro v3 w3 hown3 hg3
  have hown : w3.ownsRow y2.heap.size 46 2 v3 (s.2).length (flat (s.2)) := by simpa [flat_nil] using hown3
  obtain ⟨gA3, gc3, rfl⟩ := own_slice hown
  have hnx := HRv.out.setL (by decide) hown hg3
  obtain ⟨gx, gy⟩ := HRv.out.facts (Below.refl _ _) hg3
  have glb : bk < w3.heap.size := Nat.lt_of_lt_of_le HRv.out.lt (Nat.le_trans HRv.out.le hg3.size)
  obtain ⟨y3, hwn⟩ : ∃ x, x = w3.setCell ⟨bk, 1, none⟩ (.slice gA3 (s.2).length gc3) := ⟨_, rfl⟩
  rw [← hwn] at hnx
  clear hck hre hln u0 hown3 hg3 hown
  go_upto_region 5 with fail
  rw [← hwn]
  clear hwn gx gy glb
  replace HRv := Lib.hid hnx
  clear hnx
  have u0 : y3.cell? ⟨w.heap.size + 1, 1, none⟩ = some (.slice B2 t.2.length d2) := by rw [HRv.out.bel.cell (p := ⟨w.heap.size + 1, 1, none⟩) HZ.out.2]; exact HKA.out.2.2
  have hck := HRv.out.ck
  have hre := HRA.out.2.2.below HRv.out.bel
  have hln : (s.2).length + t.2.length ≤ 4000000 := by have h1 := HK_s.out.1; have h2 := HK_s.out.2.1; have h3 := HK_t.out.1; have h4 := HK_t.out.2.1; (try simp only [List.length_nil]); omega
  go_wp2_with (at_builtin; refine wpList_append_re rfl _ _ rfl y2.heap.size bk _ (s.2).length (flat (s.2)) rfl ?a1 B2 d2 t.2 rfl ?a2 ?a3 ?a4 ?a5 ?_)
  case a1 => exact HRv.out.own
  case a2 => exact hre
  case a3 => exact HPA.out.2.2
  case a4 => exact hln
  case a5 => exact HRv.out.le
  intro v4 w4 hown4 hg4
  have hown : w4.ownsRow y2.heap.size 46 2 v4 (L2).length (flat (L2)) := by rw [HL.out.2, flat_append, List.length_append]; exact hown4
  obtain ⟨gA4, gc4, rfl⟩ := own_slice hown
  have hnx := HRv.out.setL (by decide) hown hg4
  obtain ⟨gx, gy⟩ := HRv.out.facts (Below.refl _ _) hg4
  have glb : bk < w4.heap.size := Nat.lt_of_lt_of_le HRv.out.lt (Nat.le_trans HRv.out.le hg4.size)
  obtain ⟨y4, hwn⟩ : ∃ x, x = w4.setCell ⟨bk, 1, none⟩ (.slice gA4 (L2).length gc4) := ⟨_, rfl⟩
  rw [← hwn] at hnx
  clear hck hre hln u0 hown4 hg4 hown
  go_upto_region 6 with fail
  rw [← hwn]
  clear hwn gx gy glb
  replace HRv := Lib.hid hnx
  clear hnx
  obtain ⟨A6, c6, hv6, hre6, hp6, hhi6⟩ := re_of_own HRv.out.own
  have h6 := HRv.out
  rw [hv6] at h6
  injection hv6 with e1 e2 e3
  subst e1 e3
  have hns : Ns y4 gA2 gc2 gA4 gc4 (L1, L2) := ⟨h6.re.le h6.le, hre6, HR5.out.1, hp6⟩
  have k0 := h6.co
  have k1 := h6.ck
  have r0 : y4.cell? ⟨r, 0, none⟩ = some (.slice none 0 0) := by rw [h6.bel.cell (p := ⟨r, 0, none⟩) HRr.out.2]; exact HYr.out.1
  have r1 : y4.cell? ⟨r, 1, none⟩ = some (.slice none 0 0) := by rw [h6.bel.cell (p := ⟨r, 1, none⟩) HRr.out.2]; exact HYr.out.2.1
  have f0 : y4.frozen? ⟨r, 0, none⟩ = false := by rw [h6.bel.frozen (p := ⟨r, 0, none⟩) HRr.out.2]; exact HYr.out.2.2.1
  have f1 : y4.frozen? ⟨r, 1, none⟩ = false := by rw [h6.bel.frozen (p := ⟨r, 1, none⟩) HRr.out.2]; exact HYr.out.2.2.2
  have lr : r < y4.heap.size := Nat.lt_trans HRr.out.2 (Nat.lt_of_lt_of_le h6.lt h6.le)
  have HBy := Lib.hid (HBF.out.trans (h6.bel.mono (Nat.le_of_lt HZ.out.1)))
  have HNs := Lib.hid hns
  clear e2 h6 hre6 hp6 hhi6 HRv hns
  go_wp2_with fail
  refine (HM.out _ gA2 gc2 gA4 gc4 HNs.out).mono ?_
  rintro e w9 ⟨P, p, Q, q, rfl, ⟨hns, hh1, hh2⟩, hb9⟩
  have s0 : w9.cell? ⟨r, 0, none⟩ = some (.slice none 0 0) := by rw [hb9.cell (p := ⟨r, 0, none⟩) lr]; exact r0
  have s1 : w9.cell? ⟨r, 1, none⟩ = some (.slice none 0 0) := by rw [hb9.cell (p := ⟨r, 1, none⟩) lr]; exact r1
  have g0 : w9.frozen? ⟨r, 0, none⟩ = false := by rw [hb9.frozen (p := ⟨r, 0, none⟩) lr]; exact f0
  have g1 : w9.frozen? ⟨r, 1, none⟩ = false := by rw [hb9.frozen (p := ⟨r, 1, none⟩) lr]; exact f1
  have lr9 : r < w9.heap.size := Nat.lt_of_lt_of_le lr hb9.size
  obtain ⟨q0, q1, hup⟩ := st_cell s0 s1 P (orr s t).1.length p Q (orr s t).2.length q
  have HE := Lib.hid (show GivesN (orr s t) w (.returned (nv P (orr s t).1.length p Q (orr s t).2.length q)) (stW w9 r P (orr s t).1.length p Q (orr s t).2.length q) from
    ⟨P, p, Q, q, rfl, ⟨hup hns, hh1.le HBy.out.size, hh2.le HBy.out.size⟩, ((HBy.out.trans (hb9.mono HBy.out.size)).setCell (p := ⟨r, 0, none⟩) HRr.out.1 _).setCell (p := ⟨r, 1, none⟩) HRr.out.1 _⟩)
  unfold stW at q0 q1 HE
  clear hup hns hh1 hh2 hb9 r0 r1 f0 f1 k0 k1
  go_wp2_with fail
  refine bodyPost_ret (v := nv P (orr s t).1.length p Q (orr s t).2.length q) (by simp [results, Try.results28, go_sem, q0, q1]) rfl HE.out
end Go.Proofs.Yteekccjfokoglaa
