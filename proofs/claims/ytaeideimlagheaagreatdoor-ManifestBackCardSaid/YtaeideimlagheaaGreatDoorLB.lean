/-
  The law of Back. Conditions: the table of powers of ten, internal/bytealg.MaxLen holds some number, the two error variables of strconv hold interface values.
-/
import Derived.Test.YtaeideimlagheaaGreatDoorLR
namespace Go.Proofs.YtaeideimlagheaaGreatDoor
open Go.RowKit Go.Sort Go.Lib Go.Shelf Go.Proofs
set_option linter.unusedSimpArgs false
set_option linter.unnecessarySimpa false
set_option linter.unusedVariables false
theorem sort_sort (l : List Md) : sortM (sortM l) = sortM l := sortM_turn (sortM_perm l)
theorem sort_less {x : Md} {l : List Md} (hc : chkM x l = 0) : ∀ j (h : j + 1 < (sortM l).length), cmpM (sortM l)[j] (sortM l)[j + 1] < 0 := by
  intro j h
  have h1 : cmpM (sortM l)[j] (sortM l)[j + 1] ≤ 0 := List.pairwise_iff_getElem.1 (sortM_sorted l) j (j + 1) (by omega) h (by omega)
  have hn := (chk_few hc).2
  rw [List.map_cons, List.nodup_cons] at hn
  have hn2 : ((sortM l).map (·.1)).Nodup := ((sortM_perm l).map _).nodup_iff.2 hn.2
  rcases Int.lt_or_eq_of_le h1 with h2 | h2
  · exact h2
  · have e := cmpM_ok.eq _ _ h2
    have := List.pairwise_iff_getElem.1 hn2 j (j + 1) (by simp; omega) (by simpa using h) (by omega)
    simp only [List.getElem_map] at this
    exact absurd (by rw [e]) this
/-- is a module among the first j -/
def fnd (S : List Md) (y : Md) (j : Nat) : Bool := (S.take j).any fun z => decide (y = z)
theorem fnd_zero (S : List Md) (y : Md) : fnd S y 0 = false := rfl
theorem fnd_snoc (S : List Md) (y : Md) (j : Nat) (h : j < S.length) : fnd S y (j + 1) = (fnd S y j || decide (y = S[j])) := by
  unfold fnd
  rw [← List.take_append_getElem h, List.any_append]
  simp
theorem fnd_all {S : List Md} {y : Md} (h : y ∈ S) : fnd S y S.length = true := by
  unfold fnd
  rw [List.take_length, List.any_eq_true]
  exact ⟨y, h, by simp⟩
theorem S84 {W0 W W' : World} {p g o b : Nat} {x y : Md} {v : Value} (h : S8 W0 p x g o y W ∧ W.cell? ⟨b, 4, none⟩ = some v) (hb : Below W.heap.size W W') : S8 W0 p x g o y W' ∧ W'.cell? ⟨b, 4, none⟩ = some v := ⟨S8.keep h.1 hb, cell_keep h.2 hb⟩
set_option maxRecDepth 100000 in
set_option maxHeartbeats 4000000 in
theorem back_no (x : Md) (A : Option Addr) (c : Nat) (l : List Md) (w : World) (hC : Cond w) (hR : RM w w.heap.size A l) (hf : Plain A c) (hn : chkM x l ≠ 0 ∨ 80 < l.length) :
    Calls Tryz.prog 6 #[mf x A l.length c] w fun e w' => e = .returned (.bool true) ∧ Below w.heap.size w w' := by
  obtain ⟨W0, hW0⟩ : ∃ W0, W0 = w.alloc (mblk x A l.length c 28) := ⟨_, rfl⟩
  have hb0 : Below w.heap.size w W0 := by rw [hW0]; exact bal w _
  have hS : S28 W0 w.heap.size x A l.length c W0 := by rw [hW0]; exact S28.new w x A l.length c
  have HB0 := Lib.hid hb0
  have HC := Lib.hid (hC.keep hb0)
  have HW := Lib.hid hW0
  have KS := Lib.hid (fun W => small_any x A c l W)
  have KA := Lib.hid (fun W (hb : Below W0.heap.size W0 W) => alive_any W (HC.out.keep hb))
  by_cases hsm : l.length ≤ 80
  · rw [decide_eq_true hsm] at KS
    have hch : chkM x l ≠ 0 := by rcases hn with h | h; exact h; omega
    have hRR := hR.up hb0
    have K18 := Lib.hid (fun W (hb : Below W0.heap.size W0 W) => text_any x A c l W (HC.out.keep hb).max (HC.out.keep hb).tab (hRR.up hb) hf hsm)
    have K14 := Lib.hid (fun W (hb : Below W0.heap.size W0 W) => check_any x A c l W (HC.out.keep hb).max (hRR.up hb) hf (by omega))
    rw [show textB x l = ⟨#[]⟩ by unfold textB; rw [if_neg hch]] at K18
    obtain ⟨n, hnn⟩ : ∃ n, n = chkM x l := ⟨_, rfl⟩
    rw [← hnn] at K18 K14 hch
    have q1 : (n != 0) = true := by simp [hch]
    clear hsm hR hf hC hb0 hW0 hRR hnn hch hn
    unfold mf at *
    go_enter Tryz.func6, Tryz.ntmps6
    go_wp2_with fail
    rw [← HW.out]
    refine (KS.out _).mono ?_
    rintro e w1 ⟨rfl, hb1⟩
    have hS1 := S28.keep hS hb1
    obtain ⟨hbb, s0, s1, s2, s3, s4⟩ := id hS1
    clear hb1 hS
    go_wp2_with fail
    refine (K18.out _ hbb).mono ?_
    rintro e w2 ⟨rfl, hb2⟩
    have hS2 := S28.keep hS1 hb2
    clear hbb s0 s1 s2 s3 s4 hb2 hS1
    obtain ⟨hbb, s0, s1, s2, s3, s4⟩ := id hS2
    go_wp2_with fail
    refine (K14.out _ hbb).mono ?_
    rintro e w3 ⟨rfl, hb3⟩
    have hS3 := S28.keep hS2 hb3
    clear hbb s0 s1 s2 s3 s4 hb3 hS2
    have e2 : (n == n) = true := by simp
    go_wp2_with fail
    refine (KA.out _ hS3.1).mono ?_
    rintro e w4 ⟨rfl, hb4⟩
    have HE := Lib.hid (HB0.out.trans ((S28.keep hS3 hb4).1.mono HB0.out.size))
    clear hb4 hS3
    go_wp2_with fail
    go_ret
    exact ⟨by simp, HE.out⟩
  · rw [decide_eq_false hsm] at KS
    clear hR hf hC hb0 hW0 hn
    unfold mf at *
    go_enter Tryz.func6, Tryz.ntmps6
    go_wp2_with fail
    rw [← HW.out]
    refine (KS.out _).mono ?_
    rintro e w1 ⟨rfl, hb1⟩
    have hS1 := S28.keep hS hb1
    clear hb1 hS
    go_wp2_with fail
    refine (KA.out _ hS1.1).mono ?_
    rintro e w2 ⟨rfl, hb2⟩
    have HE := Lib.hid (HB0.out.trans ((S28.keep hS1 hb2).1.mono HB0.out.size))
    clear hb2 hS1
    go_wp2_with fail
    go_ret
    exact ⟨rfl, HE.out⟩
set_option maxRecDepth 100000 in
set_option maxHeartbeats 4000000 in
theorem back_yes (x : Md) (A : Option Addr) (c : Nat) (l : List Md) (w : World) (hC : Cond w) (hR : RM w w.heap.size A l) (hf : Plain A c) (hch : chkM x l = 0) (hsm : l.length ≤ 80) :
    Calls Tryz.prog 6 #[mf x A l.length c] w fun e w' => e = .returned (.bool true) ∧ Below w.heap.size w w' := by
  obtain ⟨W0, hW0⟩ : ∃ W0, W0 = w.alloc (mblk x A l.length c 28) := ⟨_, rfl⟩
  have hb0 : Below w.heap.size w W0 := by rw [hW0]; exact bal w _
  have hS : S28 W0 w.heap.size x A l.length c W0 := by rw [hW0]; exact S28.new w x A l.length c
  have HB0 := Lib.hid hb0
  have HC := Lib.hid (hC.keep hb0)
  have HW := Lib.hid hW0
  have KS := Lib.hid (fun W => small_any x A c l W)
  have KA := Lib.hid (fun W (hb : Below W0.heap.size W0 W) => alive_any W (HC.out.keep hb))
  rw [decide_eq_true hsm] at KS
  have hRR := hR.up hb0
  have K18 := Lib.hid (fun W (hb : Below W0.heap.size W0 W) => text_any x A c l W (HC.out.keep hb).max (HC.out.keep hb).tab (hRR.up hb) hf hsm)
  obtain ⟨q, hq⟩ : ∃ q, q = textB x l := ⟨_, rfl⟩
  have hqd : q = ⟨(textL x (sortM l)).toArray⟩ := by rw [hq]; unfold textB; rw [if_pos hch]
  have hsl := sortM_length l
  obtain ⟨S, hSd⟩ : ∃ S, S = sortM l := ⟨_, rfl⟩
  have HPO := Lib.hid (show outP q.data.toList = ((x, S), 0, 0) by rw [hqd, hSd]; exact outP_inr (parse_text hch))
  have K2 := Lib.hid (fun W (hb : Below W0.heap.size W0 W) A1 c1 (h1 : RM W W.heap.size A1 S) (h2 : Plain A1 c1) => text_any x A1 c1 S W (HC.out.keep hb).max (HC.out.keep hb).tab h1 h2 (by rw [hSd, sortM_length]; omega))
  rw [show textB x S = q by rw [hq]; unfold textB; rw [hSd, sort_sort, chkM_turn (sortM_perm l)], show chkM x S = 0 by rw [hSd, chkM_turn (sortM_perm l)]; exact hch] at K2
  have HLT := Lib.hid (show ∀ j (h : j + 1 < S.length), cmpM S[j] S[j + 1] < 0 by rw [hSd]; exact sort_less hch)
  have HMEM := Lib.hid (show ∀ y ∈ l, y ∈ S by rw [hSd]; exact fun y hy => (sortM_perm l).mem_iff.2 hy)
  have HPQ := Lib.hid (fun W hb => parse_any q W (HC.out.keep (w' := W) hb))
  rw [← hq, hch] at K18
  have HRR := Lib.hid hRR
  have HSL := Lib.hid (show S.length = l.length by rw [hSd]; exact hsl)
  have HL8 := Lib.hid hsm
  have q0 : (q.toList == q.toList) = true := by simp
  clear hR hf hC hb0 hW0 hRR hch hq hqd hSd hsl hsm
  unfold mf at *
  go_enter Tryz.func6, Tryz.ntmps6
  go_wp2_with fail
  rw [← HW.out]
  refine (KS.out _).mono ?_
  rintro e w1 ⟨rfl, hb1⟩
  have hS1 := S28.keep hS hb1
  obtain ⟨hbb, s0, s1, s2, s3, s4⟩ := id hS1
  clear hb1 hS
  go_wp2_with fail
  refine (K18.out _ hbb).mono ?_
  rintro e w2 ⟨rfl, hb2⟩
  have hS2 := S28.keep hS1 hb2
  clear hbb s0 s1 s2 s3 s4 hb2 hS1
  obtain ⟨hbb, s0, s1, s2, s3, s4⟩ := id hS2
  go_wp2_with fail
  refine (HPQ.out _ hbb).mono ?_
  intro e w3 he
  obtain ⟨A1, c1, rfl, hre, hpl, hb3⟩ := parse_out he HPO.out
  have hS3 := S28.keep hS2 hb3
  clear hbb s0 s1 s2 s3 s4 he hS2
  obtain ⟨h5, h2, hn⟩ := two_new w3 x A1 S.length c1 0 0
  have hS4 := S28.keep hS3 hn
  have HR4 := Lib.hid (hre.up hn)
  have HPL := Lib.hid hpl
  have H5 := Lib.hid h5
  have H2 := Lib.hid h2
  clear hn hS3 hre hpl hb3
  obtain ⟨y0, y1, y2, y3, y4⟩ := h5
  obtain ⟨z0, z1⟩ := h2
  go_wp2_with fail
  generalize w3.heap.size = b3 at *
  generalize ((w3.alloc (mblk x A1 S.length c1 28)).alloc (.cells #[.int .i64 0, .int .i64 0] 38)) = w4 at *
  refine (K2.out _ hS4.1 A1 c1 HR4.out HPL.out).mono ?_
  rintro e w5 ⟨rfl, hb5⟩
  have hS5 := S28.keep hS4 hb5
  have HR5 := Lib.hid (HR4.out.up hb5)
  have H55 := Lib.hid (H5.out.keep hb5)
  obtain ⟨z0, z1⟩ := H2.out.keep hb5
  clear y0 y1 y2 y3 y4 HR4 H5 H2 hS4 hb5
  obtain ⟨y0, y1, y2, y3, y4⟩ := H55.out
  obtain ⟨hbb, s0, s1, s2, s3, s4⟩ := id hS5
  have hsl : ((S.length : Int) != (l.length : Int)) = false := by rw [HSL.out]; simp
  have q3 := fun w => eqMd x x w
  rw [show decide (x = x) = true by simp] at q3
  go_wp2_with fail
  clear q3 q0 y0 y1 y2 y3 y4 s0 s1 s2 s3 s4 z0 z1 hsl
  have HW5 := Lib.hid hS5.1
  clear hS5 hbb
  go_loopw [10, 11, 12, 13, 77] (fun _ _ _ _ s77 wr => ∃ k : Nat, s77 = .int .i64 (k : Int) ∧ k ≤ l.length ∧ Hid (Below w5.heap.size w5 wr)) (fun _ _ _ _ s77 _ => (l.length - intOf s77).toNat)
  case atStart => exact ⟨0, rfl, by omega, Lib.hid (Below.refl _ _)⟩
  case round =>
    obtain ⟨k, rfl, hk, HB⟩ := hrel
    by_cases hlt : k < l.length
    · obtain ⟨g, o, hA, hgl, c0, c1', c2, c3⟩ := HRR.out.four k hlt
      subst hA
      have hBW := HW5.out.trans (HB.out.mono HW5.out.size)
      rw [← hBW.cell (p := ⟨g, o + k * 4, none⟩) hgl] at c0
      rw [← hBW.cell (p := ⟨g, o + k * 4 + 1, none⟩) hgl] at c1'
      rw [← hBW.cell (p := ⟨g, o + k * 4 + 2, none⟩) hgl] at c2
      rw [← hBW.cell (p := ⟨g, o + k * 4 + 3, none⟩) hgl] at c3
      have hkl : (k : Int) < (l.length : Int) := by omega
      have HMK := Lib.hid (HMEM.out _ (List.getElem_mem hlt))
      have HK1 := Lib.hid (show k + 1 ≤ l.length by omega)
      have hk80 : k ≤ 80 := by have := HL8.out; omega
      generalize l[k] = xk at *
      have HB5 := Lib.hid (HB.out.alloc HB.out.size (.cells #[.string xk.1, .int .i64 xk.2.1, .int .i64 xk.2.2.1, .int .i64 xk.2.2.2] 25))
      have HX := Lib.hid (C4.new wr xk 25)
      obtain ⟨_, _, _, _, y4⟩ := H55.out.keep HB5.out
      clear hBW HB hlt
      go_wp2_with fail
      clear c0 c1' c2 c3
      generalize wr.alloc (.cells #[.string xk.1, .int .i64 xk.2.1, .int .i64 xk.2.2.1, .int .i64 xk.2.2.2] 25) = W2 at *
      generalize wr.heap.size = b10 at *
      go_loopw [11, 12, 13, 84] (fun s11 _ _ s84 wz => ∃ j : Nat, s84 = .int .i64 (j : Int) ∧ s11 = .bool (fnd S xk j) ∧ j ≤ S.length ∧ Hid (Below W2.heap.size W2 wz)) (fun _ _ _ s84 _ => (S.length - intOf s84).toNat)
      case atStart => exact ⟨0, rfl, by rw [fnd_zero], by omega, Lib.hid (Below.refl _ _)⟩
      case round =>
        rename World => wz
        obtain ⟨j, rfl, rfl, hj, HZ⟩ := hrel
        by_cases hjl : j < S.length
        · obtain ⟨g3, o3, hA3, hg3, d0, d1, d2, d3⟩ := HR5.out.four j hjl
          subst hA3
          have hBz := HB5.out.trans (HZ.out.mono HB5.out.size)
          rw [← hBz.cell (p := ⟨g3, o3 + j * 4, none⟩) hg3] at d0
          rw [← hBz.cell (p := ⟨g3, o3 + j * 4 + 1, none⟩) hg3] at d1
          rw [← hBz.cell (p := ⟨g3, o3 + j * 4 + 2, none⟩) hg3] at d2
          rw [← hBz.cell (p := ⟨g3, o3 + j * 4 + 3, none⟩) hg3] at d3
          have hji : (j : Int) < (S.length : Int) := by omega
          have HJ1 := Lib.hid (show j + 1 ≤ S.length by omega)
          generalize hy : S[j] = y at *
          have HY := Lib.hid hy.symm
          have hj80 : j ≤ 80 := by have := HL8.out; have := HSL.out; omega
          clear hy
          have hBy := HZ.out.alloc HZ.out.size (.cells #[.string y.1, .int .i64 y.2.1, .int .i64 y.2.2.1, .int .i64 y.2.2.2] 25)
          obtain ⟨x0, x1, x2, x3⟩ := C4.keep HX.out hBy
          obtain ⟨_, _, _, _, y4'⟩ := (H55.out.keep HB5.out).keep hBy
          clear hBz hBy y4
          cases hfd : fnd S xk j with
          | true =>
            have HFN := Lib.hid (show fnd S xk (j + 1) = true by rw [fnd_snoc _ _ _ hjl, hfd]; rfl)
            clear hfd
            by_cases hjz : j = 0
            ·
              have hj0 : ¬ (0 : Int) < (j : Int) := by omega
              have hjn : ¬ 0 < j := by omega
              clear hjz
              have HZ2 := Lib.hid (HZ.out.alloc HZ.out.size (.cells #[.string y.1, .int .i64 y.2.1, .int .i64 y.2.2.1, .int .i64 y.2.2.2] 25))
              have HZ3 := Lib.hid HZ2.out.drew
              clear HZ
              go_wp2_with fail
              go_region
              go_wp2_with fail
              go_roundw
              case rel => exact ⟨j + 1, by go_num, by rw [HFN.out], HJ1.out, by first | exact HZ3 | exact HZ2⟩
              case measure => have := HJ1.out; first | (simp [intOf]; done) | (simp [intOf]; omega)
            ·
              have hj0 : (0 : Int) < (j : Int) := by omega
              have hjn : 0 < j := by omega
              obtain ⟨i, hi⟩ : ∃ i, j = i + 1 := ⟨j - 1, by omega⟩
              have hil : i < S.length := by omega
              clear hjz
              obtain ⟨g1, o1, hA1, hg1, d0, d1, d2, d3⟩ := HR5.out.four i hil
              simp only [Option.some.injEq, Addr.mk.injEq] at hA1
              obtain ⟨rfl, rfl, _⟩ := hA1
              have hBz := HB5.out.trans (HZ.out.mono HB5.out.size)
              have hBzz : Below w5.heap.size w5 (wz.alloc (.cells #[.string y.1, .int .i64 y.2.1, .int .i64 y.2.2.1, .int .i64 y.2.2.2] 25)) := hBz.alloc hBz.size _
              rw [← hBzz.cell (p := ⟨g3, o3 + i * 4, none⟩) hg1] at d0
              rw [← hBzz.cell (p := ⟨g3, o3 + i * 4 + 1, none⟩) hg1] at d1
              rw [← hBzz.cell (p := ⟨g3, o3 + i * 4 + 2, none⟩) hg1] at d2
              rw [← hBzz.cell (p := ⟨g3, o3 + i * 4 + 3, none⟩) hg1] at d3
              have hc := HLT.out i (by omega)
              have hq9 : cmpM S[i] y < 0 := by rw [HY.out]; have e : S[i + 1] = S[j] := by simp only [hi]
                                               rw [← e]; exact hc
              obtain ⟨q, hqd⟩ : ∃ q, q = cmpM S[i] y := ⟨_, rfl⟩
              rw [← hqd] at hq9
              have KC := Lib.hid (fun W => mcompare_any S[i] y q hqd.symm W)
              have HS8 : S8 wz wz.heap.size y g3 (o3 + i * 4) S[i] (wz.alloc (.cells #[.string y.1, .int .i64 y.2.1, .int .i64 y.2.2.1, .int .i64 y.2.2.2] 25)) ∧ (wz.alloc (.cells #[.string y.1, .int .i64 y.2.1, .int .i64 y.2.2.1, .int .i64 y.2.2.2] 25)).cell? ⟨b3, 4, none⟩ = some (.slice (some ⟨g3, o3, none⟩) S.length c1) := ⟨⟨bal _ _, C4.new wz y 25, d0, d1, d2, d3⟩, y4'⟩
              have hdq : decide (0 ≤ q) = false := by simpa using hq9
              have hdq2 : ¬ 0 ≤ q := by omega
              have hin : (i : Int) < (S.length : Int) := by omega
              have t1 : IntKind.i64.wrap ((j : Int) - 1) = (i : Int) := by rw [show (j : Int) - 1 = (i : Int) by omega]; exact IntWalk.i64_in _ (by have := HL8.out; have := HSL.out; omega)
              have HI := Lib.hid hi
              generalize S[i] = z at *
              clear hc hqd d0 d1 d2 d3 hBz hBzz hi hq9
              go_wp2_with fail
              go_region_held3 (fun w' => S8 wz wz.heap.size y g3 (o3 + i * 4) z w' ∧ w'.cell? ⟨b3, 4, none⟩ = some (.slice (some ⟨g3, o3, none⟩) S.length c1)) (first | (with_reducible assumption) | ((with_reducible refine S84 ?_ ((Below.refl _ _).drew)); with_reducible assumption) | ((with_reducible refine S84 ?_ (by with_reducible assumption)); with_reducible assumption))
                (first | (go_at_call 23; ((with_reducible refine (KC.out _).mono ?_)); rintro e w' ⟨rfl, hbN⟩))
              have HZ2 := Lib.hid (HZ.out.trans ((show S8 wz wz.heap.size y g3 (o3 + i * 4) z _ ∧ _ by assumption).1.1.mono HZ.out.size))
              go_wp2_with fail
              go_roundw
              case rel => exact ⟨j + 1, by go_num, by rw [HFN.out], HJ1.out, HZ2⟩
              case measure => have := HJ1.out; first | (simp [intOf]; done) | (simp [intOf]; omega)
          | false =>
            have HFN := Lib.hid (show fnd S xk (j + 1) = decide (xk = y) by have e := HY.out; subst e; rw [fnd_snoc _ _ _ hjl, hfd]; rfl)
            have qe := fun w => eqMd xk y w
            clear hfd
            by_cases hjz : j = 0
            ·
              have hj0 : ¬ (0 : Int) < (j : Int) := by omega
              have hjn : ¬ 0 < j := by omega
              clear hjz
              have HZ2 := Lib.hid (HZ.out.alloc HZ.out.size (.cells #[.string y.1, .int .i64 y.2.1, .int .i64 y.2.2.1, .int .i64 y.2.2.2] 25))
              have HZ3 := Lib.hid HZ2.out.drew
              clear HZ
              go_wp2_with fail
              go_region
              go_wp2_with fail
              go_roundw
              case rel => exact ⟨j + 1, by go_num, by rw [HFN.out], HJ1.out, by first | exact HZ3 | exact HZ2⟩
              case measure => have := HJ1.out; first | (simp [intOf]; done) | (simp [intOf]; omega)
            ·
              have hj0 : (0 : Int) < (j : Int) := by omega
              have hjn : 0 < j := by omega
              obtain ⟨i, hi⟩ : ∃ i, j = i + 1 := ⟨j - 1, by omega⟩
              have hil : i < S.length := by omega
              clear hjz
              obtain ⟨g1, o1, hA1, hg1, d0, d1, d2, d3⟩ := HR5.out.four i hil
              simp only [Option.some.injEq, Addr.mk.injEq] at hA1
              obtain ⟨rfl, rfl, _⟩ := hA1
              have hBz := HB5.out.trans (HZ.out.mono HB5.out.size)
              have hBzz : Below w5.heap.size w5 (wz.alloc (.cells #[.string y.1, .int .i64 y.2.1, .int .i64 y.2.2.1, .int .i64 y.2.2.2] 25)) := hBz.alloc hBz.size _
              rw [← hBzz.cell (p := ⟨g3, o3 + i * 4, none⟩) hg1] at d0
              rw [← hBzz.cell (p := ⟨g3, o3 + i * 4 + 1, none⟩) hg1] at d1
              rw [← hBzz.cell (p := ⟨g3, o3 + i * 4 + 2, none⟩) hg1] at d2
              rw [← hBzz.cell (p := ⟨g3, o3 + i * 4 + 3, none⟩) hg1] at d3
              have hc := HLT.out i (by omega)
              have hq9 : cmpM S[i] y < 0 := by rw [HY.out]; have e : S[i + 1] = S[j] := by simp only [hi]
                                               rw [← e]; exact hc
              obtain ⟨q, hqd⟩ : ∃ q, q = cmpM S[i] y := ⟨_, rfl⟩
              rw [← hqd] at hq9
              have KC := Lib.hid (fun W => mcompare_any S[i] y q hqd.symm W)
              have HS8 : S8 wz wz.heap.size y g3 (o3 + i * 4) S[i] (wz.alloc (.cells #[.string y.1, .int .i64 y.2.1, .int .i64 y.2.2.1, .int .i64 y.2.2.2] 25)) ∧ (wz.alloc (.cells #[.string y.1, .int .i64 y.2.1, .int .i64 y.2.2.1, .int .i64 y.2.2.2] 25)).cell? ⟨b3, 4, none⟩ = some (.slice (some ⟨g3, o3, none⟩) S.length c1) := ⟨⟨bal _ _, C4.new wz y 25, d0, d1, d2, d3⟩, y4'⟩
              have hdq : decide (0 ≤ q) = false := by simpa using hq9
              have hdq2 : ¬ 0 ≤ q := by omega
              have hin : (i : Int) < (S.length : Int) := by omega
              have t1 : IntKind.i64.wrap ((j : Int) - 1) = (i : Int) := by rw [show (j : Int) - 1 = (i : Int) by omega]; exact IntWalk.i64_in _ (by have := HL8.out; have := HSL.out; omega)
              have HI := Lib.hid hi
              generalize S[i] = z at *
              clear hc hqd d0 d1 d2 d3 hBz hBzz hi hq9
              go_wp2_with fail
              go_region_held3 (fun w' => S8 wz wz.heap.size y g3 (o3 + i * 4) z w' ∧ w'.cell? ⟨b3, 4, none⟩ = some (.slice (some ⟨g3, o3, none⟩) S.length c1)) (first | (with_reducible assumption) | ((with_reducible refine S84 ?_ ((Below.refl _ _).drew)); with_reducible assumption) | ((with_reducible refine S84 ?_ (by with_reducible assumption)); with_reducible assumption))
                (first | (go_at_call 23; ((with_reducible refine (KC.out _).mono ?_)); rintro e w' ⟨rfl, hbN⟩))
              have HZ2 := Lib.hid (HZ.out.trans ((show S8 wz wz.heap.size y g3 (o3 + i * 4) z _ ∧ _ by assumption).1.1.mono HZ.out.size))
              go_wp2_with fail
              go_roundw
              case rel => exact ⟨j + 1, by go_num, by rw [HFN.out], HJ1.out, HZ2⟩
              case measure => have := HJ1.out; first | (simp [intOf]; done) | (simp [intOf]; omega)
        · have hji : ¬ (j : Int) < (S.length : Int) := by omega
          obtain rfl : j = S.length := by omega
          rw [fnd_all HMK.out]
          have HB6 := Lib.hid (HB5.out.trans (HZ.out.mono HB5.out.size))
          clear hjl hj HZ
          go_wp2_with fail
          go_roundw
          case rel => exact ⟨k + 1, by go_num, HK1.out, HB6⟩
          case measure => have := HK1.out; first | (simp [intOf]; done) | (simp [intOf]; omega)
    · have hkl : ¬ (k : Int) < (l.length : Int) := by omega
      have hBW := HW5.out.trans (HB.out.mono HW5.out.size)
      have HBW := Lib.hid hBW
      clear hlt hBW
      go_wp2_with fail
      refine (KA.out _ HBW.out).mono ?_
      rintro e w6 ⟨rfl, hb6⟩
      have HE := Lib.hid (HB0.out.trans ((HBW.out.trans (hb6.mono HBW.out.size)).mono HB0.out.size))
      clear hb6
      go_wp2_with fail
      go_ret
      exact ⟨rfl, HE.out⟩
theorem law_back (x : Md) (A : Option Addr) (c : Nat) (l : List Md) (w : World) (hC : Cond w) (hR : RM w w.heap.size A l) (hf : Plain A c) :
    Calls Tryz.prog 6 #[mf x A l.length c] w fun e w' => e = .returned (.bool true) ∧ Below w.heap.size w w' := by
  by_cases h1 : chkM x l = 0
  · by_cases h2 : l.length ≤ 80
    · exact back_yes x A c l w hC hR hf h1 h2
    · exact back_no x A c l w hC hR hf (.inr (by omega))
  · exact back_no x A c l w hC hR hf (.inl h1)
end Go.Proofs.YtaeideimlagheaaGreatDoor
