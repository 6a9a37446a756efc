/-
  covered, Has, nearer and Nearer, remainder and Floor, Ints. No condition but the bounds on the lists.
-/
import Derived.Test.YteekccjfokoglaaU
namespace Go.Proofs.Yteekccjfokoglaa
open Go.RowKit Go.Sort Go.Lib Go.Shelf Go.Proofs
set_option linter.unusedSimpArgs false
set_option linter.unnecessarySimpa false
set_option linter.unusedVariables false
theorem idx0 (A : Option Addr) (c : Nat) (f : Value) (w : World) : Calls Try.prog 89 #[.slice A 0 c, f] w fun e w' => e = .returned (.int .i64 (-1)) ∧ w = w' := by
  go_enter Try.func89, Try.ntmps89
  go_wp2_with fail
  refine wp_loop_rounds 1 ?_
  rw [rounds_succ]
  go_wp2_with fail
  go_ret
  exact ⟨rfl, rfl⟩
theorem cont0 (A : Option Addr) (c : Nat) (f : Value) (w : World) : Calls Try.prog 82 #[.slice A 0 c, f] w fun e w' => e = .returned (.bool false) ∧ w = w' := by
  have H := Lib.hid (fun W => idx0 A c f W)
  go_enter Try.func82, Try.ntmps82
  go_wp2_with fail
  refine (H.out _).mono ?_
  rintro e w' ⟨rfl, rfl⟩
  go_wp2_with fail
  go_ret
  exact ⟨ret_bool (by decide), rfl⟩
theorem pred83 (n : Int) (B : Nat) (w : World) (hB : B < w.heap.size) (hcell : w.cell? ⟨B, 0, none⟩ = some (.int .i64 n)) :
    PredBelow Try.prog 83 #[.pointer (some ⟨B, 0, none⟩)] (fun x => .agg (enc2 x).toArray) (fun x => decide (x.1 ≤ n) && decide (n ≤ x.2)) w := fun W x hb => by
  have hc : W.cell? ⟨B, 0, none⟩ = some (.int .i64 n) := (hb.cell (p := ⟨B, 0, none⟩) hB).trans hcell
  have hBW : B < W.heap.size := Nat.lt_of_lt_of_le hB hb.size
  have hne : B ≠ W.heap.size := by omega
  have HB := Lib.hid (hb.alloc hb.size (.cells #[.int .i64 x.1, .int .i64 x.2] 46))
  clear hb
  show Calls Try.prog 83 #[.agg #[.int .i64 x.1, .int .i64 x.2], .pointer (some ⟨B, 0, none⟩)] W _
  have hc2 : (W.alloc (.cells #[.int .i64 x.1, .int .i64 x.2] 46)).cell? ⟨B, 0, none⟩ = some (.int .i64 n) := cell?_alloc_some _ hc
  by_cases h1 : x.1 ≤ n <;> by_cases h2 : n ≤ x.2 <;> (
    go_enter Try.func83, Try.ntmps83
    go_wp2_with fail
    go_ret
    exact ⟨ret_bool (by simp [h1, h2]), HB.out⟩)
set_option maxRecDepth 100000 in
theorem covered_any (A : Option Addr) (c : Nat) (l : List Sp) (n : Int) (w : World) (hR : Re w w.heap.size A l) (hl : l.length ≤ 1000000) (hf : Plain A c) :
    Calls Try.prog 60 #[.slice A l.length c, .int .i64 n] w (EqIs (memb l n) w) := by
  have hb0 := bal w (.cells #[.int .i64 n] 2)
  have HB := Lib.hid hb0
  have hC : Calls Try.prog 82 #[.slice A l.length c, .func (.func 83) #[] #[.pointer (some ⟨w.heap.size, 0, none⟩)]] (w.alloc (.cells #[.int .i64 n] 2)) (EqIs (memb l n) (w.alloc (.cells #[.int .i64 n] 2))) := by
    by_cases hnil : l = []
    · subst hnil
      exact (cont0 A c _ _).mono fun e w' ⟨h1, h2⟩ => ⟨h1, by rw [← h2]; exact Below.refl _ _⟩
    · have hpos : 0 < l.length := List.length_pos_iff.2 hnil
      obtain ⟨b, o, rfl, hbl, _⟩ := (hR.up hb0).at_ 0 hpos
      have eg : ∀ args w, (callFunc 83 args).run Try.prog w = .ok (.enter 83 args) w := enters_of Try.func83 (by kernel_rfl) rfl
      have hcon := AnyQ.slices_ContainsFunc Try.contB 2 Try.isAgg46 Try.sizeOf46 enc2 (fun _ => rfl) (fun x => decide (x.1 ≤ n) && decide (n ≤ x.2)) 83 #[.pointer (some ⟨w.heap.size, 0, none⟩)] eg b o l.length c l (w.alloc (.cells #[.int .i64 n] 2))
        (pred83 n w.heap.size _ (by simp) (by simp)) (Nat.le_refl _) (by omega) hbl (fun j hj i v hi => by
          obtain ⟨b', o', e, _, x0, x1⟩ := (hR.up hb0).at_ j hj
          simp only [Option.some.injEq, Addr.mk.injEq] at e
          obtain ⟨rfl, rfl, _⟩ := e
          have ej : l[j]! = l[j] := by simp [hj]
          rw [ej] at hi
          match i, hi with
          | 0, hi => simp [enc2] at hi; rw [← hi]; exact x0
          | 1, hi => simp [enc2] at hi; rw [← hi]; exact x1
          | i + 2, hi => simp [enc2] at hi)
      rw [List.take_length] at hcon
      exact hcon
  have HC := Lib.hid hC
  clear hC hb0 hR
  generalize memb l n = r at *
  go_enter Try.func60, Try.ntmps60
  go_wp2_with fail
  refine HC.out.mono ?_
  rintro e w2 ⟨rfl, hb2⟩
  have HB2 := Lib.hid (HB.out.trans (hb2.mono HB.out.size))
  clear hb2
  go_wp2_with fail
  go_ret
  exact ⟨rfl, HB2.out⟩
theorem vb {x : Int} {r : Bool} (h : i64ok x) (e : vld x = r) (w : World) : Calls Try.prog 58 #[.int .i64 x] w fun e w' => e = .returned (.bool r) ∧ w = w' := by rw [← e]; exact valid_any x w h
set_option maxRecDepth 100000 in
set_option maxHeartbeats 1000000 in
theorem has_any (A1 A2 : Option Addr) (c1 c2 : Nat) (s : NS) (u : Int) (w : World) (hN : Ns w A1 c1 A2 c2 s) (hk : okN 100000 s) (hu : i64ok u) :
    Calls Try.prog 19 #[nv A1 s.1.length c1 A2 s.2.length c2, .int .i64 u] w (EqIs (hasB s u) w) := by
  have hb0 := bal w (.cells #[.slice A1 s.1.length c1, .slice A2 s.2.length c2] 24)
  have HB := Lib.hid hb0
  have H1 := Lib.hid (covered_any A1 c1 s.1 (u / 10000) _ (hN.r1.up hb0) (by have := hk.1; omega) hN.p1)
  have H2 := Lib.hid (covered_any A2 c2 s.2 u _ (hN.r2.up hb0) (by have := hk.2.1; omega) hN.p2)
  clear hb0 hN hk
  cases hv : vld u
  · have HV := Lib.hid (fun W => vb hu hv W)
    have HE := Lib.hid (show hasB s u = false by unfold hasB; rw [hv]; rfl)
    clear hv
    go_enter Try.func19, Try.ntmps19
    go_wp2_with (go_at_call 58; with_reducible refine (HV.out _).mono ?_; rintro e w' ⟨rfl, rfl⟩)
    go_ret
    exact ⟨ret_bool HE.out.symm, HB.out⟩
  · have HV := Lib.hid (fun W => vb hu hv W)
    have hvv := (vld_iff u).1 hv
    by_cases hw : u % 10000 = 0
    · have hwh : whl u = true := (whl_iff u).2 ⟨hvv.1, hvv.2, hw⟩
      have HW := Lib.hid (fun W => wb hu hwh W)
      have HE := Lib.hid (show hasB s u = memb s.1 (u / 10000) by unfold hasB; rw [hv, if_pos hw]; rfl)
      have ht : u.tdiv 10000 = u / 10000 := Int.tdiv_eq_ediv_of_dvd (Int.dvd_of_emod_eq_zero hw)
      have hb1 : -100000000000 ≤ u / 10000 ∧ u / 10000 ≤ 100000000000 := by omega
      obtain ⟨q, hq⟩ : ∃ q, q = u / 10000 := ⟨_, rfl⟩
      rw [← hq] at H1 HE ht hb1
      have ht2 : IntKind.i64.wrap (u.tdiv 10000) = q := by rw [ht]; exact IntWalk.i64_in _ (by omega)
      have ht3 : wrap64 (u.tdiv 10000) = q := by rw [ht]; unfold wrap64; omega
      clear hv hwh hvv hw hq hu
      go_enter Try.func19, Try.ntmps19
      go_wp2_with (first | (go_at_call 58; with_reducible refine (HV.out _).mono ?_; rintro e w' ⟨rfl, rfl⟩) | (go_at_call 59; with_reducible refine (HW.out _).mono ?_; rintro e w' ⟨rfl, rfl⟩))
      refine H1.out.mono ?_
      rintro e w2 ⟨rfl, hb2⟩
      have HB2 := Lib.hid (HB.out.trans (hb2.mono HB.out.size))
      clear hb2
      go_wp2_with fail
      go_ret
      exact ⟨ret_bool HE.out.symm, HB2.out⟩
    · have hwh : whl u = false := by
        cases h : whl u
        · rfl
        · exact absurd ((whl_iff u).1 h).2.2 hw
      have HW := Lib.hid (fun W => wb hu hwh W)
      have HE := Lib.hid (show hasB s u = memb s.2 u by unfold hasB; rw [hv, if_neg hw]; rfl)
      clear hv hwh hvv hw hu
      go_enter Try.func19, Try.ntmps19
      go_wp2_with (first | (go_at_call 58; with_reducible refine (HV.out _).mono ?_; rintro e w' ⟨rfl, rfl⟩) | (go_at_call 59; with_reducible refine (HW.out _).mono ?_; rintro e w' ⟨rfl, rfl⟩))
      refine H2.out.mono ?_
      rintro e w2 ⟨rfl, hb2⟩
      have HB2 := Lib.hid (HB.out.trans (hb2.mono HB.out.size))
      clear hb2
      go_wp2_with fail
      go_ret
      exact ⟨ret_bool HE.out.symm, HB2.out⟩
def bd62 (u : Int) : Prop := -4611686018427387904 ≤ u ∧ u ≤ 4611686018427387904
theorem nearer_any (u v : Int) (w : World) (hu : bd62 u) (hv : bd62 v) : Calls Try.prog 70 #[.int .i64 u, .int .i64 v] w fun e w' => e = .returned (.bool (nearB u v)) ∧ w = w' := by
  obtain ⟨h1, h2⟩ := hu
  obtain ⟨h3, h4⟩ := hv
  go_enter Try.func70, Try.ntmps70
  go_wp2
  all_goals
    go_ret
    refine ⟨ret_bool ?_, rfl⟩
    rw [Bool.eq_iff_iff, nearB_iff]
    simp
    try omega
theorem Nearer_any (u v : Int) (w : World) (hu : bd62 u) (hv : bd62 v) : Calls Try.prog 47 #[.int .i64 u, .int .i64 v] w fun e w' => e = .returned (.bool (nearB u v)) ∧ w = w' := by
  obtain ⟨h1, h2⟩ := hu
  obtain ⟨h3, h4⟩ := hv
  have z1 : (0 : Int) - u = -u := by omega
  have z2 : (0 : Int) - v = -v := by omega
  go_enter Try.func47, Try.ntmps47
  go_wp2
  all_goals
    go_ret
    refine ⟨ret_bool ?_, rfl⟩
    rw [Bool.eq_iff_iff, nearB_iff]
    simp
    try omega
theorem rem_any (u : Int) (w : World) (hu : bd62 u) : Calls Try.prog 88 #[.int .i64 u, .int .i64 10000] w fun e w' => e = .returned (.int .i64 (u % 10000)) ∧ w = w' := by
  obtain ⟨h1, h2⟩ := hu
  have hm := Int.emod_nonneg u (show (10000 : Int) ≠ 0 by decide)
  have hl := Int.emod_lt_of_pos u (show (0 : Int) < 10000 by decide)
  by_cases h0 : u % 10000 = 0
  · have ht : u.tmod 10000 = 0 := Int.tmod_eq_zero_of_dvd (Int.dvd_of_emod_eq_zero h0)
    rw [h0]
    have t1 : ((u.tmod 10000 : Int) == 0) = true := by simp [ht]
    have t2 : ((u.tmod 10000 : Int) != 0) = false := by simp [ht]
    clear hm hl h0
    go_enter Try.func88, Try.ntmps88
    go_wp2
    all_goals
      go_ret
      exact ⟨ret_int (by simp [ht]), rfl⟩
  · by_cases hn : 0 ≤ u
    · have ht : u.tmod 10000 = u % 10000 := Int.tmod_eq_emod_of_nonneg hn
      obtain ⟨r, hr⟩ : ∃ r, r = u % 10000 := ⟨_, rfl⟩
      rw [← hr] at ht h0 hm hl ⊢
      have t1 : ((r : Int) == 0) = false := beq_eq_false_iff_ne.2 h0
      have t2 : ((r : Int) != 0) = true := by rw [bne, t1]; rfl
      have t3 : decide (r < 0) = false := decide_eq_false (by omega)
      clear hr
      go_enter Try.func88, Try.ntmps88
      go_wp2
      all_goals
        go_ret
        exact ⟨ret_int (by first | rfl | simp [ht] | omega), rfl⟩
    · have ht : u.tmod 10000 = u % 10000 - 10000 := by
        have := Int.tmod_eq_emod (a := u) (b := 10000)
        rw [this, if_neg (fun hh => hh.elim hn (fun h => h0 (Int.emod_eq_zero_of_dvd h)))]
        rfl
      obtain ⟨r, hr⟩ : ∃ r, r = u % 10000 := ⟨_, rfl⟩
      rw [← hr] at ht h0 hm hl ⊢
      have t1 : ((r - 10000 : Int) == 0) = false := beq_eq_false_iff_ne.2 (by omega)
      have t2 : ((r - 10000 : Int) != 0) = true := by rw [bne, t1]; rfl
      have t3 : decide (r - 10000 < 0) = true := decide_eq_true (by omega)
      have t4 : r - 10000 + 10000 = r := by omega
      clear hr
      go_enter Try.func88, Try.ntmps88
      go_wp2
      all_goals
        go_ret
        exact ⟨ret_int (by first | rfl | simp [ht] | omega), rfl⟩
theorem floor_any (u : Int) (w : World) (hu : vld u = true) : Calls Try.prog 71 #[.int .i64 u] w fun e w' => e = .returned (.int .i64 (u - u % 10000)) ∧ w = w' := by
  have hb := (vld_iff u).1 hu
  have HV := Lib.hid (fun W => vb (by unfold i64ok; omega) hu W)
  have HR := Lib.hid (fun W => rem_any u W (by unfold bd62; omega))
  have hm := Int.emod_nonneg u (show (10000 : Int) ≠ 0 by decide)
  have hl := Int.emod_lt_of_pos u (show (0 : Int) < 10000 by decide)
  obtain ⟨h1, h2⟩ := hb
  generalize u % 10000 = r at *
  clear hu
  go_enter Try.func71, Try.ntmps71
  go_wp2_with (first | (go_at_call 58; with_reducible refine (HV.out _).mono ?_; rintro e w' ⟨rfl, rfl⟩) | (go_at_call 88; with_reducible refine (HR.out _).mono ?_; rintro e w' ⟨rfl, rfl⟩))
  go_ret
  exact ⟨rfl, rfl⟩
end Go.Proofs.Yteekccjfokoglaa
