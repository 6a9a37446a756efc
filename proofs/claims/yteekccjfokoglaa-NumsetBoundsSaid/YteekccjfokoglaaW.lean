/-
  Count and few. No condition but the bounds on the lists.
-/
import Derived.Test.YteekccjfokoglaaV
import Derived.Test.YteekccjfokoglaaM5
namespace Go.Proofs.Yteekccjfokoglaa
open Go.RowKit Go.Sort Go.Lib Go.Proofs
set_option linter.unusedSimpArgs false
set_option linter.unnecessarySimpa false
set_option linter.unusedVariables false
theorem floor_q (u : Int) (w : World) (hu : vld u = true) : Calls Try.prog 71 #[.int .i64 u] w fun e w' => e = .returned (.int .i64 (u / 10000 * 10000)) ∧ Below w.heap.size w w' := by
  refine (floor_any u w hu).mono ?_
  rintro e w' ⟨rfl, rfl⟩
  exact ⟨ret_int (by omega), Below.refl _ _⟩
def NumIs (n : Int) (w : World) (e : Ending) (w' : World) : Prop := e = .returned (.int .i64 n) ∧ Below w.heap.size w w'
theorem wsum_step (b : Bool) (l : List Sp) (k : Nat) (h : k < l.length) : wsum b (l.take (k + 1)) = wsum b (l.take k) + wgt b l[k] := by
  rw [← List.take_append_getElem h, wsum_append]; simp [wsum]
set_option maxRecDepth 100000 in
set_option maxHeartbeats 2000000 in
theorem count_any (A1 A2 : Option Addr) (c1 c2 : Nat) (s : NS) (w : World) (hN : Ns w A1 c1 A2 c2 s) (hk : okN 1000 s) :
    Calls Try.prog 43 #[nv A1 s.1.length c1 A2 s.2.length c2] w (NumIs (countS s) w) := by
  have hb0 := bal w (.cells #[.slice A1 s.1.length c1, .slice A2 s.2.length c2] 24)
  have HM := Lib.hid (make_any A1 A2 c1 c2 s _ (hN.up hb0) (hk.le (by omega)))
  have HMK := Lib.hid (mk_ok hk)
  have HC := Lib.hid (can_mk s)
  have ml1 := (mk_ok hk).1
  have ml2 := (mk_ok hk).2.1
  have HCS := Lib.hid (show countS s = wsum false (mk s).1 + wsum true (mk s).2 from rfl)
  clear hN hk
  obtain ⟨M, hM⟩ : ∃ M, M = mk s := ⟨_, rfl⟩
  rw [← hM] at HM HMK HC ml1 ml2 HCS
  clear hM
  generalize countS s = cs at *
  go_enter Try.func43, Try.ntmps43
  go_wp2_with fail
  refine HM.out.mono ?_
  rintro e w2 ⟨E1, e1, E2, e2, rfl, ⟨hns, hi1, hi2⟩, hb2⟩
  have y0 : w2.cell? ⟨w.heap.size, 0, none⟩ = some (.slice A1 s.1.length c1) := by rw [hb2.cell (p := ⟨w.heap.size, 0, none⟩) (by show w.heap.size < _; simp)]; simp
  have y1 : w2.cell? ⟨w.heap.size, 1, none⟩ = some (.slice A2 s.2.length c2) := by rw [hb2.cell (p := ⟨w.heap.size, 1, none⟩) (by show w.heap.size < _; simp)]; simp
  have f0 : w2.frozen? ⟨w.heap.size, 0, none⟩ = false := by rw [hb2.frozen (p := ⟨w.heap.size, 0, none⟩) (by show w.heap.size < _; simp)]; simp
  have f1 : w2.frozen? ⟨w.heap.size, 1, none⟩ = false := by rw [hb2.frozen (p := ⟨w.heap.size, 1, none⟩) (by show w.heap.size < _; simp)]; simp
  have j1 : Hi (w.heap.size + 1) E1 := hi1.le (by simp)
  have j2 : Hi (w.heap.size + 1) E2 := hi2.le (by simp)
  obtain ⟨q0, q1⟩ := put2 y0 y1 (.slice E1 M.1.length e1) (.slice E2 M.2.length e2)
  have HR1 := Lib.hid ((hns.r1.set_other (j := 0) j1 (.slice E1 M.1.length e1)).set_other (j := 1) j1 (.slice E2 M.2.length e2))
  have HR2 := Lib.hid ((hns.r2.set_other (j := 0) j2 (.slice E1 M.1.length e1)).set_other (j := 1) j2 (.slice E2 M.2.length e2))
  have HB := Lib.hid (((hb0.trans (hb2.mono hb0.size)).setCell (p := ⟨w.heap.size, 0, none⟩) (Nat.le_refl _) (.slice E1 M.1.length e1)).setCell (p := ⟨w.heap.size, 1, none⟩) (Nat.le_refl _) (.slice E2 M.2.length e2))
  have hz : w.heap.size < ((w2.setCell ⟨w.heap.size, 0, none⟩ (.slice E1 M.1.length e1)).setCell ⟨w.heap.size, 1, none⟩ (.slice E2 M.2.length e2)).heap.size := by have := hb2.size; simp at this ⊢; omega
  have hsz : ((w2.setCell ⟨w.heap.size, 0, none⟩ (.slice E1 M.1.length e1)).setCell ⟨w.heap.size, 1, none⟩ (.slice E2 M.2.length e2)).heap.size = w2.heap.size := by simp
  rw [← hsz] at HR1 HR2
  clear hns hi1 hi2 hb2 hb0 j1 j2 hsz
  go_wp2_with fail
  clear y0 y1 f0 f1
  generalize (w2.setCell ⟨w.heap.size, 0, none⟩ (.slice E1 M.1.length e1)).setCell ⟨w.heap.size, 1, none⟩ (.slice E2 M.2.length e2) = W at *
  go_loopw [3, 14] (fun s3 s14 wr => ∃ k : Nat, s14 = .int .i64 (k : Int) ∧ k ≤ M.1.length ∧ s3 = .int .i64 (wsum false (M.1.take k)) ∧ Hid (Below W.heap.size W wr)) (fun _ s14 _ => (M.1.length - intOf s14).toNat)
  case atStart => exact ⟨0, rfl, by omega, rfl, Lib.hid (Below.refl _ _)⟩
  case round =>
    obtain ⟨k, rfl, hk, rfl, HBw⟩ := hrel
    by_cases hlt : k < M.1.length
    · obtain ⟨b1, o1, hA1, hb1, x0, x1⟩ := HR1.out.at_ k hlt
      subst hA1
      rw [← HBw.out.cell (p := ⟨b1, o1 + k * 2, none⟩) hb1] at x0
      rw [← HBw.out.cell (p := ⟨b1, o1 + k * 2 + 1, none⟩) hb1] at x1
      have hs := HC.out.1.1 M.1[k] (List.getElem_mem hlt)
      have hsb := ok_bd hs
      have hwb := wsum_bd HC.out.1 k (by omega)
      have hst := wsum_step false M.1 k hlt
      have hwg : wgt false M.1[k] = M.1[k].2 - M.1[k].1 + 1 := by simp [wgt]
      have HST := Lib.hid (hst.trans (by rw [hwg]))
      have hgb := wgt_bd hs
      rw [hwg] at hgb
      obtain ⟨x, hx⟩ : ∃ x, x = M.1[k] := ⟨_, rfl⟩
      rw [← hx] at x0 x1 hsb HST hgb
      have hkl : (k : Int) < (M.1.length : Int) := by omega
      have hwr := HBw.out.size
      clear hst hwg hs hx
      generalize wsum false (M.1.take k) = ws at *
      have hk1000 : (k : Int) * 2000000000000001 ≤ 2000000000000001000 := by omega
      go_wp2_with fail
      go_roundw
      case rel => exact ⟨k + 1, by go_num, by omega, by rw [HST.out], Lib.hid (HBw.out.alloc hwr _)⟩
      case measure => simp [intOf]; omega
    · obtain rfl : k = M.1.length := by omega
      have q1' : wr.cell? ⟨w.heap.size, 1, none⟩ = some (.slice E2 M.2.length e2) := by rw [HBw.out.cell (p := ⟨w.heap.size, 1, none⟩) hz]; exact q1
      have hwr := HBw.out.size
      have hW1 := wsum_bd HC.out.1 _ (Nat.le_refl _)
      rw [List.take_length] at *
      have HB1 := Lib.hid HBw.out
      have hk1000 : (M.1.length : Int) * 2000000000000001 ≤ 2000000000000001000 := by omega
      generalize wsum false M.1 = WS at *
      go_wp2_with fail
      go_loopw [3, 7, 8, 30] (fun s3 _ _ s30 wr => ∃ k : Nat, s30 = .int .i64 (k : Int) ∧ k ≤ M.2.length ∧ s3 = .int .i64 (WS + wsum true (M.2.take k)) ∧ Hid (Below W.heap.size W wr)) (fun _ _ _ s30 _ => (M.2.length - intOf s30).toNat)
      case atStart => exact ⟨0, rfl, by omega, by simp [wsum], HB1⟩
      case round =>
        clear HBw hwr q1'
        obtain ⟨k, rfl, hk, rfl, HBw⟩ := hrel
        by_cases hlt : k < M.2.length
        · obtain ⟨b1, o1, hA1, hb1, x0, x1⟩ := HR2.out.at_ k hlt
          subst hA1
          rw [← HBw.out.cell (p := ⟨b1, o1 + k * 2, none⟩) hb1] at x0
          rw [← HBw.out.cell (p := ⟨b1, o1 + k * 2 + 1, none⟩) hb1] at x1
          have hs := HC.out.2.1 M.2[k] (List.getElem_mem hlt)
          have hsb := ok_bd hs
          have hwb := wsum_bd HC.out.2 k (by omega)
          have hst := wsum_step true M.2 k hlt
          have hgb := wgt_bd hs
          have hwg : wgt true M.2[k] = M.2[k].2 - M.2[k].1 + 1 - (M.2[k].2 / 10000 - M.2[k].1 / 10000) := by simp [wgt]
          have HST := Lib.hid (hst.trans (by rw [hwg]))
          rw [hwg] at hgb
          have HFh := Lib.hid (fun W => floor_q M.2[k].2 W ((vld_iff _).2 ⟨hsb.2.2.1, hsb.2.2.2⟩))
          have HFl := Lib.hid (fun W => floor_q M.2[k].1 W ((vld_iff _).2 ⟨hsb.1, hsb.2.1⟩))
          have hle := hs.1
          obtain ⟨x, hx⟩ : ∃ x, x = M.2[k] := ⟨_, rfl⟩
          rw [← hx] at x0 x1 hsb HST hgb HFh HFl hle
          have hkl : (k : Int) < (M.2.length : Int) := by omega
          have hwr := HBw.out.size
          clear hst hwg hs hx
          have hq1 : x.1 / 10000 ≤ x.2 / 10000 := Int.ediv_le_ediv (by decide) hle
          have hq2 : -100000000000 ≤ x.1 / 10000 := by omega
          have hq3 : x.2 / 10000 ≤ 100000000000 := by omega
          generalize wsum true (M.2.take k) = ws at *
          generalize x.2 / 10000 = qh at *
          generalize x.1 / 10000 = ql at *
          have hk1001 : (k : Int) * 2000000000000001 ≤ 2000000000000001000 := by omega
          have t1 : IntKind.i64.wrap (qh * 10000 - ql * 10000) = qh * 10000 - ql * 10000 := IntWalk.i64_in _ (by omega)
          have t2 : (qh * 10000 - ql * 10000).tdiv 10000 = qh - ql := by
            rw [show qh * 10000 - ql * 10000 = (qh - ql) * 10000 by omega]; exact Int.mul_tdiv_cancel _ (by decide)
          have t3 : IntKind.i64.wrap (qh - ql) = qh - ql := IntWalk.i64_in _ (by omega)
          have T := Lib.hid (And.intro t1 (And.intro t2 t3))
          clear t1 t2 t3
          go_wp2_with fail
          have b0 : (wr.alloc (.cells #[.int .i64 x.1, .int .i64 x.2] 46)).cell? ⟨wr.heap.size, 0, none⟩ = some (.int .i64 x.1) := by simp
          have b1 : (wr.alloc (.cells #[.int .i64 x.1, .int .i64 x.2] 46)).cell? ⟨wr.heap.size, 1, none⟩ = some (.int .i64 x.2) := by simp
          have HBN := Lib.hid (HBw.out.alloc hwr (.cells #[.int .i64 x.1, .int .i64 x.2] 46))
          have hz1 : wr.heap.size < (wr.alloc (.cells #[.int .i64 x.1, .int .i64 x.2] 46)).heap.size := by simp
          clear x0 x1
          generalize wr.alloc (.cells #[.int .i64 x.1, .int .i64 x.2] 46) = W0 at *
          have S0 : W0.cell? ⟨wr.heap.size, 0, none⟩ = some (.int .i64 x.1) ∧ W0.cell? ⟨wr.heap.size, 1, none⟩ = some (.int .i64 x.2) ∧ Below W0.heap.size W0 W0 := ⟨b0, b1, Below.refl _ _⟩
          obtain ⟨t1, t2, t3⟩ := T.out
          go_region_held3 (fun w' => w'.cell? ⟨wr.heap.size, 0, none⟩ = some (.int .i64 x.1) ∧ w'.cell? ⟨wr.heap.size, 1, none⟩ = some (.int .i64 x.2) ∧ Below W0.heap.size W0 w')
            (first | assumption | exact S0 | exact keep2 hz1 hz1 S0 (drewB _) | exact keep2 hz1 hz1 (by assumption) hb7 | exact keep2 hz1 hz1 (by assumption) hb8 | exact keep2 hz1 hz1 (by assumption) (drewB _))
            (first | (go_at_call 71; with_reducible refine (HFh.out _).mono ?_; rintro e w7 ⟨rfl, hb7⟩) | (go_at_call 71; with_reducible refine (HFl.out _).mono ?_; rintro e w8 ⟨rfl, hb8⟩))
          all_goals
            have hS8 : w8.cell? ⟨wr.heap.size, 0, none⟩ = some (.int .i64 x.1) ∧ w8.cell? ⟨wr.heap.size, 1, none⟩ = some (.int .i64 x.2) ∧ Below W0.heap.size W0 w8 := by assumption
            obtain ⟨s0, s1, s2⟩ := id hS8
            have HBE := Lib.hid (HBN.out.trans (s2.mono (Nat.le_of_lt (Nat.lt_of_le_of_lt hwr hz1))))
            clear s2 hb7 hb8 t1 t2 t3 hS8 S0 b0 b1
            go_wp2_with fail
            go_roundw
            case rel => exact ⟨k + 1, by go_num, by omega, by rw [HST.out]; go_num, HBE⟩
            case measure => simp [intOf]; omega
        · obtain rfl : k = M.2.length := by omega
          rw [List.take_length] at *
          go_wp2_with fail
          go_ret
          exact ⟨ret_int HCS.out.symm, HB.out.trans (HBw.out.mono (Nat.le_of_lt hz))⟩
end Go.Proofs.Yteekccjfokoglaa
