/-
  The specification's All, Ints, Valid and Has. Condition: at most 100000 spans, their ends 64-bit integers.
-/
import Derived.Test.YteekccjfokoglaaNf
import Derived.Test.YteekccjfokoglaaAd
namespace Go.Proofs.Yteekccjfokoglaa
open Go.RowKit Go.Sort Go.Lib Go.Proofs
set_option linter.unusedSimpArgs false
set_option linter.unnecessarySimpa false
set_option linter.unusedVariables false
theorem rall_any (w : World) : Calls Try.prog 22 #[] w (GivesN allS w) := by
  have HE := Lib.hid (show GivesN allS w (.returned (nv (some ⟨w.heap.size + 1, 0, none⟩) 1 1 (some ⟨w.heap.size + 1 + 1, 0, none⟩) 1 1)) (((w.alloc (.cells #[.slice (some ⟨w.heap.size + 1, 0, none⟩) 1 1, .slice (some ⟨w.heap.size + 1 + 1, 0, none⟩) 1 1] 24)).alloc (.cells #[.int .i64 (-100000000000), .int .i64 100000000000] 46)).alloc (.cells #[.int .i64 (-999999999999999), .int .i64 999999999999999] 46)) by
    rw [all_eq]
    have hb1 := bal w (.cells #[.slice (some ⟨w.heap.size + 1, 0, none⟩) 1 1, .slice (some ⟨w.heap.size + 1 + 1, 0, none⟩) 1 1] 24)
    have hs1 : (w.alloc (.cells #[.slice (some ⟨w.heap.size + 1, 0, none⟩) 1 1, .slice (some ⟨w.heap.size + 1 + 1, 0, none⟩) 1 1] 24)).heap.size = w.heap.size + 1 := by simp
    generalize w.alloc (.cells #[.slice (some ⟨w.heap.size + 1, 0, none⟩) 1 1, .slice (some ⟨w.heap.size + 1 + 1, 0, none⟩) 1 1] 24) = W1 at *
    have hR1 := re_one W1 (-100000000000) 100000000000
    have hb2 := bal W1 (.cells #[.int .i64 (-100000000000), .int .i64 100000000000] 46)
    have hs2 : (W1.alloc (.cells #[.int .i64 (-100000000000), .int .i64 100000000000] 46)).heap.size = w.heap.size + 1 + 1 := by simp [hs1]
    generalize W1.alloc (.cells #[.int .i64 (-100000000000), .int .i64 100000000000] 46) = W2 at *
    have hR2 := re_one W2 (-999999999999999) 999999999999999
    have hb3 := bal W2 (.cells #[.int .i64 (-999999999999999), .int .i64 999999999999999] 46)
    rw [hs2] at hR2
    rw [hs1] at hR1
    exact ⟨some ⟨w.heap.size + 1, 0, none⟩, 1, some ⟨w.heap.size + 1 + 1, 0, none⟩, 1, rfl, ⟨⟨hR1.up hb3, hR2, plain_at _ _, plain_at _ _⟩, hi_at (by omega), hi_at (by omega)⟩, (hb1.trans (hb2.mono hb1.size)).trans (hb3.mono (by omega))⟩)
  go_enter Try.func22, Try.ntmps22
  go_wp2
  refine bodyPost_ret (v := nv (some ⟨w.heap.size + 1, 0, none⟩) 1 1 (some ⟨w.heap.size + 1 + 1, 0, none⟩) 1 1) (by simp [results, Try.results22, go_sem]) rfl HE.out
set_option maxRecDepth 100000 in
set_option maxHeartbeats 1000000 in
theorem rintset_any (w : World) : Calls Try.prog 24 #[] w (GivesN intS w) := by
  have H := Lib.hid (fun W => rall_any W)
  have HY := Lib.hid (yb_new w)
  go_enter Try.func24, Try.ntmps24
  go_wp2_with fail
  refine (H.out _).mono ?_
  rintro e w2 ⟨E1, e1, E2, e2, rfl, ⟨hns, h1, h2⟩, hb2⟩
  have hY2 := HY.out.up hb2
  obtain ⟨y0, y1, f0, f1, yl⟩ := id hY2
  have i1 : Hi (w.heap.size + 1) E1 := h1.le (by simp)
  have hB2 := (bal w (.cells #[.slice none 0 0, .slice none 0 0] 24)).trans (hb2.mono (by simp))
  obtain ⟨⟨q0, q1⟩, hfn, hfb⟩ := fin_set (F2 := none) (g2 := 0) (s := intS) hY2 ⟨hns.r1, re_nil _ _ _, hns.p1, plain_nil⟩ i1 (hi_nil _) allS.1.length 0
  have HE := Lib.hid (show GivesN intS w (.returned (nv E1 allS.1.length e1 none 0 0)) ((w2.setCell ⟨w.heap.size, 0, none⟩ (.slice E1 allS.1.length e1)).setCell ⟨w.heap.size, 1, none⟩ (.slice none 0 0)) from
    ⟨E1, e1, none, 0, rfl, ⟨hfn, i1.le (by omega), hi_nil _⟩, hB2.trans hfb⟩)
  clear hfn hfb hB2 i1 hY2 hns h1 h2 hb2
  have hf := fun W => field24 E1 allS.1.length e1 E2 allS.2.length e2 W
  go_wp2_with fail
  refine bodyPost_ret (v := nv E1 allS.1.length e1 none 0 0) (by simp [results, Try.results24, go_sem, q0, q1]) rfl HE.out
set_option maxRecDepth 100000 in
set_option maxHeartbeats 1000000 in
theorem rvalid_s (A1 A2 : Option Addr) (c1 c2 : Nat) (s : NS) (w : World) (hN : Ns w A1 c1 A2 c2 s) (hk : okN 100000 s) :
    Calls Try.prog 18 #[nv A1 s.1.length c1 A2 s.2.length c2] w (EqIs (eqN s (mk s)) w) := by
  obtain ⟨w1, hw1⟩ : ∃ w1, w1 = w.alloc (.cells #[.slice A1 s.1.length c1, .slice A2 s.2.length c2] 24) := ⟨_, rfl⟩
  have hb0 : Below w.heap.size w w1 := by rw [hw1]; exact bal w _
  have a0 : w1.cell? ⟨w.heap.size, 0, none⟩ = some (.slice A1 s.1.length c1) := by rw [hw1]; simp
  have a1 : w1.cell? ⟨w.heap.size, 1, none⟩ = some (.slice A2 s.2.length c2) := by rw [hw1]; simp
  have l0 : w.heap.size < w1.heap.size := by rw [hw1]; simp
  have HM := Lib.hid (hN.up hb0)
  have KP := Lib.hid (show ∀ W : World, Below w1.heap.size w1 W → W.cell? ⟨w.heap.size, 0, none⟩ = some (.slice A1 s.1.length c1) ∧ W.cell? ⟨w.heap.size, 1, none⟩ = some (.slice A2 s.2.length c2) ∧ Below w1.heap.size w1 W from fun W hb => ⟨(hb.cell (p := ⟨w.heap.size, 0, none⟩) l0).trans a0, (hb.cell (p := ⟨w.heap.size, 1, none⟩) l0).trans a1, hb⟩)
  have H1 := Lib.hid (show ∀ W : World, Ns W A1 c1 A2 c2 s → Calls Try.prog 16 #[nv A1 s.1.length c1 A2 s.2.length c2] W (GivesN (mk s) W) from fun W h => rmake_any A1 A2 c1 c2 s W h hk)
  have H2 := Lib.hid (show ∀ (W : World) P p Q q, Ns W A1 c1 A2 c2 s → Ns W P p Q q (mk s) → Calls Try.prog 14 #[nv A1 s.1.length c1 A2 s.2.length c2, nv P (mk s).1.length p Q (mk s).2.length q] W (EqIs (eqN s (mk s)) W) from fun W P p Q q h k => same_any A1 A2 P Q c1 c2 p q s (mk s) W h k hk (mk_ok hk))
  have HB0 := Lib.hid hb0
  clear a0 a1 hb0 hN hk
  go_enter Try.func18, Try.ntmps18
  go_wp2_with fail
  rw [← hw1]
  clear hw1
  have b0 : Below w1.heap.size w1 w1.drew := drewB w1
  go_region_held3 (fun w' => w'.cell? ⟨w.heap.size, 0, none⟩ = some (.slice A1 s.1.length c1) ∧ w'.cell? ⟨w.heap.size, 1, none⟩ = some (.slice A2 s.2.length c2) ∧ Below w1.heap.size w1 w')
    (first | assumption | exact KP.out _ (Below.refl _ _) | exact KP.out _ b2 | exact KP.out _ b1 | exact KP.out _ b0)
    (first
      | (go_at_call 14; (with_reducible refine (H2.out _ P p Q q (HM.out.up b1) hns).mono ?_); rintro e v2 ⟨rfl, hb2⟩; have b2 : Below w1.heap.size w1 v2 := b1.trans (hb2.mono b1.size))
      | (go_at_call 16; (with_reducible refine (H1.out _ (HM.out.up b0)).mono ?_); rintro e v1 ⟨P, p, Q, q, rfl, ⟨hns, _, _⟩, hb1⟩; have b1 : Below w1.heap.size w1 v1 := b0.trans (hb1.mono b0.size)))
  all_goals
    go_wp2_with fail
    go_ret
    exact ⟨rfl, HB0.out.trans (b2.mono HB0.out.size)⟩
theorem tq_whole {u : Int} (h : u % 10000 = 0) : u.tdiv 10000 = u / 10000 := by
  obtain ⟨k, rfl⟩ := Int.dvd_of_emod_eq_zero h
  rw [Int.mul_tdiv_cancel_left _ (by omega), Int.mul_ediv_cancel_left _ (by omega)]
theorem memb_no {l : List Sp} {n : Int} (h : ∀ j (hj : j < l.length), ¬(l[j].1 ≤ n ∧ n ≤ l[j].2)) : memb l n = false := by
  rw [Bool.eq_false_iff, Ne, memb_iff]
  rintro ⟨s, hs, h1⟩
  obtain ⟨j, hj, rfl⟩ := List.getElem_of_mem hs
  exact h j hj h1
theorem memb_yes {l : List Sp} {n : Int} {j : Nat} (hj : j < l.length) (h : l[j].1 ≤ n ∧ n ≤ l[j].2) : memb l n = true := by
  rw [memb_iff]; exact ⟨l[j], List.getElem_mem hj, h⟩
set_option maxRecDepth 100000 in
set_option maxHeartbeats 1000000 in
theorem rhas_any (A1 A2 : Option Addr) (c1 c2 : Nat) (s : NS) (u : Int) (w : World) (hN : Ns w A1 c1 A2 c2 s) (hk : okN 100000 s) (hu : i64ok u) :
    Calls Try.prog 20 #[nv A1 s.1.length c1 A2 s.2.length c2, .int .i64 u] w (EqIs (hasB s u) w) := by
  obtain ⟨w1, hw1⟩ : ∃ w1, w1 = w.alloc (.cells #[.slice A1 s.1.length c1, .slice A2 s.2.length c2] 24) := ⟨_, rfl⟩
  have hb0 : Below w.heap.size w w1 := by rw [hw1]; exact bal w _
  have a0 : w1.cell? ⟨w.heap.size, 0, none⟩ = some (.slice A1 s.1.length c1) := by rw [hw1]; simp
  have a1 : w1.cell? ⟨w.heap.size, 1, none⟩ = some (.slice A2 s.2.length c2) := by rw [hw1]; simp
  have HR1 := Lib.hid (hN.r1.up hb0)
  have HR2 := Lib.hid (hN.r2.up hb0)
  have HV := Lib.hid (fun W => rvalid_any u W hu)
  have HWh := Lib.hid (fun W => rwhole_any u W)
  have HB0 := Lib.hid hb0
  have hl1 : s.1.length ≤ 100000 := hk.1
  have hl2 : s.2.length ≤ 100000 := hk.2.1
  have hu' := hu
  unfold i64ok at hu'
  clear hb0 hN hk
  cases hv : vld u
  · rw [hv] at HV
    have HE := Lib.hid (show hasB s u = false by unfold hasB; rw [hv]; rfl)
    clear hv
    go_enter Try.func20, Try.ntmps20
    go_wp2_with fail
    rw [← hw1]
    clear hw1
    refine (HV.out _).mono ?_
    rintro e w' ⟨rfl, rfl⟩
    go_wp2_with fail
    go_ret
    exact ⟨ret_bool HE.out.symm, HB0.out⟩
  · rw [hv] at HV
    by_cases hw : u % 10000 = 0
    · rw [decide_eq_true hw] at HWh
      have HE := Lib.hid (show hasB s u = memb s.1 (u / 10000) by unfold hasB; rw [hv, if_pos hw]; rfl)
      have q1 : IntKind.i64.wrap (u.tdiv 10000) = u / 10000 := by rw [tq_whole hw]; exact IntWalk.i64_in _ (by omega)
      obtain ⟨n, hn⟩ : ∃ n, n = u / 10000 := ⟨_, rfl⟩
      rw [← hn] at HE q1
      clear hv hw hn
      go_enter Try.func20, Try.ntmps20
      go_wp2_with fail
      rw [← hw1]
      clear hw1
      refine (HV.out _).mono ?_
      rintro e w' ⟨rfl, rfl⟩
      go_wp2_with fail
      refine (HWh.out _).mono ?_
      rintro e w' ⟨rfl, rfl⟩
      go_wp2_with fail
      go_loopw [23] (fun s23 wr => ∃ k : Nat, s23 = .int .i64 (k : Int) ∧ k ≤ s.1.length ∧ Hid (∀ j (hj : j < s.1.length), j < k → ¬(s.1[j].1 ≤ n ∧ n ≤ s.1[j].2)) ∧ Hid (Below w1.heap.size w1 wr)) (fun s23 _ => (s.1.length - intOf s23).toNat)
      case atStart => exact ⟨0, rfl, by omega, Lib.hid (fun j hj h => absurd h (Nat.not_lt_zero _)), Lib.hid (Below.refl _ _)⟩
      case round =>
        obtain ⟨k, rfl, hk, HN, HB⟩ := hrel
        by_cases hlt : k < s.1.length
        · obtain ⟨b, o, hA, hbl, d0, d1⟩ := HR1.out.at_ k hlt
          subst hA
          rw [← HB.out.cell (p := ⟨b, o + k * 2, none⟩) hbl] at d0
          rw [← HB.out.cell (p := ⟨b, o + k * 2 + 1, none⟩) hbl] at d1
          have HY := Lib.hid (fun h => memb_yes (n := n) hlt h)
          have HS := Lib.hid (fun (h : ¬(s.1[k].1 ≤ n ∧ n ≤ s.1[k].2)) => (show ∀ j (hj : j < s.1.length), j < k + 1 → ¬(s.1[j].1 ≤ n ∧ n ≤ s.1[j].2) from fun j hj h1 => by
            by_cases e : j = k
            · subst e; exact h
            · exact HN.out j hj (by omega)))
          obtain ⟨x, hx⟩ : ∃ x, x = s.1[k] := ⟨_, rfl⟩
          rw [← hx] at d0 d1 HY HS
          have hkl : (k : Int) < (s.1.length : Int) := by omega
          have hwr : w1.heap.size ≤ wr.heap.size := HB.out.size
          have HB2 := Lib.hid (HB.out.alloc hwr (.cells #[.int .i64 x.1, .int .i64 x.2] 46))
          clear hx HN HB
          by_cases h1 : x.1 ≤ n
          · by_cases h2 : n ≤ x.2
            · have HQ := Lib.hid (HY.out ⟨h1, h2⟩)
              have g1 : decide (x.1 ≤ n) = true := decide_eq_true h1
              have g2 : decide (n ≤ x.2) = true := decide_eq_true h2
              clear h1 h2 HY HS
              go_wp2_with fail
              go_ret
              exact ⟨ret_bool (by rw [HE.out, HQ.out]), HB0.out.trans (HB2.out.mono HB0.out.size)⟩
            · have HQ := Lib.hid (HS.out (fun h => h2 h.2))
              have g1 : decide (x.1 ≤ n) = true := decide_eq_true h1
              have g2 : decide (n ≤ x.2) = false := decide_eq_false h2
              clear h1 h2 HY HS
              go_wp2_with fail
              go_roundw
              case rel => exact ⟨k + 1, by go_num, by omega, HQ, HB2⟩
              case measure => simp [intOf]; omega
          · have HQ := Lib.hid (HS.out (fun h => h1 h.1))
            have g1 : decide (x.1 ≤ n) = false := decide_eq_false h1
            clear h1 HY HS
            go_wp2_with fail
            go_roundw
            case rel => exact ⟨k + 1, by go_num, by omega, HQ, HB2⟩
            case measure => simp [intOf]; omega
        · obtain rfl : k = s.1.length := by omega
          have HQ := Lib.hid (memb_no (fun j hj => HN.out j hj hj))
          clear HN
          go_wp2_with fail
          go_ret
          exact ⟨ret_bool (by rw [HE.out, HQ.out]), HB0.out.trans (HB.out.mono HB0.out.size)⟩
    · rw [decide_eq_false hw] at HWh
      have HE := Lib.hid (show hasB s u = memb s.2 u by unfold hasB; rw [hv, if_neg hw]; rfl)
      clear hv hw
      go_enter Try.func20, Try.ntmps20
      go_wp2_with fail
      rw [← hw1]
      clear hw1
      refine (HV.out _).mono ?_
      rintro e w' ⟨rfl, rfl⟩
      go_wp2_with fail
      refine (HWh.out _).mono ?_
      rintro e w' ⟨rfl, rfl⟩
      go_wp2_with fail
      go_loopw [23] (fun s23 wr => ∃ k : Nat, s23 = .int .i64 (k : Int) ∧ k ≤ s.2.length ∧ Hid (∀ j (hj : j < s.2.length), j < k → ¬(s.2[j].1 ≤ u ∧ u ≤ s.2[j].2)) ∧ Hid (Below w1.heap.size w1 wr)) (fun s23 _ => (s.2.length - intOf s23).toNat)
      case atStart => exact ⟨0, rfl, by omega, Lib.hid (fun j hj h => absurd h (Nat.not_lt_zero _)), Lib.hid (Below.refl _ _)⟩
      case round =>
        obtain ⟨k, rfl, hk, HN, HB⟩ := hrel
        by_cases hlt : k < s.2.length
        · obtain ⟨b, o, hA, hbl, d0, d1⟩ := HR2.out.at_ k hlt
          subst hA
          rw [← HB.out.cell (p := ⟨b, o + k * 2, none⟩) hbl] at d0
          rw [← HB.out.cell (p := ⟨b, o + k * 2 + 1, none⟩) hbl] at d1
          have HY := Lib.hid (fun h => memb_yes (n := u) hlt h)
          have HS := Lib.hid (fun (h : ¬(s.2[k].1 ≤ u ∧ u ≤ s.2[k].2)) => (show ∀ j (hj : j < s.2.length), j < k + 1 → ¬(s.2[j].1 ≤ u ∧ u ≤ s.2[j].2) from fun j hj h1 => by
            by_cases e : j = k
            · subst e; exact h
            · exact HN.out j hj (by omega)))
          obtain ⟨x, hx⟩ : ∃ x, x = s.2[k] := ⟨_, rfl⟩
          rw [← hx] at d0 d1 HY HS
          have hkl : (k : Int) < (s.2.length : Int) := by omega
          have hwr : w1.heap.size ≤ wr.heap.size := HB.out.size
          have HB2 := Lib.hid (HB.out.alloc hwr (.cells #[.int .i64 x.1, .int .i64 x.2] 46))
          clear hx HN HB
          by_cases h1 : x.1 ≤ u
          · by_cases h2 : u ≤ x.2
            · have HQ := Lib.hid (HY.out ⟨h1, h2⟩)
              have g1 : decide (x.1 ≤ u) = true := decide_eq_true h1
              have g2 : decide (u ≤ x.2) = true := decide_eq_true h2
              clear h1 h2 HY HS
              go_wp2_with fail
              go_ret
              exact ⟨ret_bool (by rw [HE.out, HQ.out]), HB0.out.trans (HB2.out.mono HB0.out.size)⟩
            · have HQ := Lib.hid (HS.out (fun h => h2 h.2))
              have g1 : decide (x.1 ≤ u) = true := decide_eq_true h1
              have g2 : decide (u ≤ x.2) = false := decide_eq_false h2
              clear h1 h2 HY HS
              go_wp2_with fail
              go_roundw
              case rel => exact ⟨k + 1, by go_num, by omega, HQ, HB2⟩
              case measure => simp [intOf]; omega
          · have HQ := Lib.hid (HS.out (fun h => h1 h.1))
            have g1 : decide (x.1 ≤ u) = false := decide_eq_false h1
            clear h1 HY HS
            go_wp2_with fail
            go_roundw
            case rel => exact ⟨k + 1, by go_num, by omega, HQ, HB2⟩
            case measure => simp [intOf]; omega
        · obtain rfl : k = s.2.length := by omega
          have HQ := Lib.hid (memb_no (fun j hj => HN.out j hj hj))
          clear HN
          go_wp2_with fail
          go_ret
          exact ⟨ret_bool (by rw [HE.out, HQ.out]), HB0.out.trans (HB.out.mono HB0.out.size)⟩
end Go.Proofs.Yteekccjfokoglaa
