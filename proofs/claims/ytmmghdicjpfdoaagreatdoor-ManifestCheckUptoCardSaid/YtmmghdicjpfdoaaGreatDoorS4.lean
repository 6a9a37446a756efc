/-
  Check of the program. Condition: internal/bytealg.MaxLen holds some number; at most 90000 requirements.
-/
import Derived.Test.YtmmghdicjpfdoaaGreatDoorS3
namespace Go.Proofs.YtmmghdicjpfdoaaGreatDoor
open Go.RowKit Go.Sort Go.Lib Go.Shelf Go.Proofs
set_option linter.unusedSimpArgs false
set_option linter.unnecessarySimpa false
set_option linter.unusedVariables false
theorem eg32 : ∀ args w, (callFunc 32 args).run Tryz.prog w = .ok (.enter 32 args) w := enters_of Tryz.func32 (by kernel_rfl) rfl
theorem eg33 : ∀ args w, (callFunc 33 args).run Tryz.prog w = .ok (.enter 33 args) w := enters_of Tryz.func33 (by kernel_rfl) rfl
def p1 (x : Md) : Bool := !pathB x.1.data.toList
def p2 (x : Md) : Bool := !okV x.2.1 x.2.2.1 x.2.2.2
theorem chkM_def (m : Md) (R : List Md) : chkM m R = if (m :: R).any p1 then 5 else if (m :: R).any p2 then 11 else if twiceB (m :: R) then 6 else if 64 < R.length then 2 else 0 := rfl
theorem cont32 (A : Option Addr) (c : Nat) (l : List Md) (w : World) (hM : Mx w) (hR : RM w w.heap.size A l) (hl : l.length ≤ 100000) (hne : l ≠ []) (v : Bool) (hv : l.any p1 = v) :
    Calls Tryz.prog 31 #[.slice A l.length c, .func (.func 32) #[] #[]] w fun e w' => e = .returned (.bool v) ∧ Below w.heap.size w w' := by
  subst hv
  exact cont_any 32 p1 A c l w hR hl (fun W x hW => closure32 x W (hM.keep hW hM.1)) eg32 hne
theorem cont33 (A : Option Addr) (c : Nat) (l : List Md) (w : World) (hR : RM w w.heap.size A l) (hl : l.length ≤ 100000) (hne : l ≠ []) (v : Bool) (hv : l.any p2 = v) :
    Calls Tryz.prog 31 #[.slice A l.length c, .func (.func 33) #[] #[]] w fun e w' => e = .returned (.bool v) ∧ Below w.heap.size w w' := by
  subst hv
  exact cont_any 33 p2 A c l w hR hl (fun W x hW => closure33 x W) eg33 hne
theorem rep_at (A : Option Addr) (c : Nat) (l : List Md) (w : World) (hR : RM w w.heap.size A l) (hf : Plain A c) (hl : l.length ≤ 100000) (v : Bool) (hv : twiceB l = v) :
    Calls Tryz.prog 35 #[.slice A l.length c] w fun e w' => e = .returned (.bool v) ∧ Below w.heap.size w w' := by
  subst hv; exact repeated_any A c l w hR hf hl
set_option maxRecDepth 100000 in
set_option maxHeartbeats 4000000 in
theorem check_any (x : Md) (A : Option Addr) (c : Nat) (l : List Md) (w : World) (hM : Mx w) (hR : RM w w.heap.size A l) (hf : Plain A c) (hl : l.length ≤ 90000) :
    Calls Tryz.prog 14 #[mf x A l.length c] w fun e w' => e = .returned (.int .i64 (chkM x l)) ∧ Below w.heap.size w w' := by
  have hb0 := bal w (mblk x A l.length c 28)
  have K := Lib.hid (modules_any x A c l _ (hR.up hb0) hf hl)
  have HM0 := Lib.hid (hM.keep hb0 hM.1)
  have HB0 := Lib.hid hb0
  have c4 : (w.alloc (mblk x A l.length c 28)).cell? ⟨w.heap.size, 4, none⟩ = some (.slice A l.length c) := by simp
  have HC4 := Lib.hid c4
  have hlen : (x :: l).length ≤ 100000 := by simp; omega
  have hne : x :: l ≠ [] := by simp
  have HL := Lib.hid (And.intro hlen hne)
  have hcd := chkM_def x l
  obtain ⟨V, hV⟩ : ∃ V, V = chkM x l := ⟨_, rfl⟩
  rw [← hV] at hcd ⊢
  have HV := Lib.hid hcd
  obtain ⟨X, hX⟩ : ∃ X, X = x :: l := ⟨_, rfl⟩
  rw [← hX] at K HL HV
  have hn4 : l.length ≤ 90000 := hl
  clear hb0 hM hR hf hlen hne hV hcd hX c4 hl
  unfold mf at *
  unfold mblk at *
  go_enter Tryz.func14, Tryz.ntmps14
  go_wp2_with fail
  refine K.out.mono ?_
  rintro e w1 ⟨A1, c1, rfl, hre, ⟨hpl, _⟩, hb1⟩
  have HB1 := Lib.hid (HB0.out.trans (hb1.mono HB0.out.size))
  have HM1 := Lib.hid (HM0.out.keep hb1 HM0.out.1)
  have HC1 := Lib.hid (cell_keep HC4.out hb1)
  have HRE := Lib.hid (And.intro hre hpl)
  clear hre hpl hb1 K HB0 HM0 HC4
  cases hB1 : X.any p1 with
  | true =>
    have HVV := Lib.hid (show V = 5 by rw [HV.out, hB1]; rfl)
    have K1 := Lib.hid (cont32 A1 c1 X w1 HM1.out HRE.out.1 HL.out.1 HL.out.2 _ hB1)
    clear hB1
    go_wp2_with fail
    refine K1.out.mono ?_
    rintro e w2 ⟨rfl, hb2⟩
    have HB2 := Lib.hid (HB1.out.trans (hb2.mono HB1.out.size))
    clear hb2
    go_wp2_with fail
    go_ret
    exact ⟨ret_int HVV.out.symm, HB2.out⟩
  | false =>
    have HV1 := Lib.hid (show V = if X.any p2 then 11 else if twiceB X then 6 else if 64 < l.length then 2 else 0 by rw [HV.out, hB1]; rfl)
    have K1 := Lib.hid (cont32 A1 c1 X w1 HM1.out HRE.out.1 HL.out.1 HL.out.2 _ hB1)
    clear hB1 HV
    go_wp2_with fail
    refine K1.out.mono ?_
    rintro e w2 ⟨rfl, hb2⟩
    have HB2 := Lib.hid (HB1.out.trans (hb2.mono HB1.out.size))
    have HC2 := Lib.hid (cell_keep HC1.out hb2)
    have HRE2 := Lib.hid (And.intro (HRE.out.1.up hb2) HRE.out.2)
    clear hb2 HB1 HC1 HRE HM1 K1
    cases hB2 : X.any p2 with
    | true =>
      have HVV := Lib.hid (show V = 11 by rw [HV1.out, hB2]; rfl)
      have K1 := Lib.hid (cont33 A1 c1 X w2 HRE2.out.1 HL.out.1 HL.out.2 _ hB2)
      clear hB2
      go_wp2_with fail
      refine K1.out.mono ?_
      rintro e w3 ⟨rfl, hb3⟩
      have HB3 := Lib.hid (HB2.out.trans (hb3.mono HB2.out.size))
      clear hb3
      go_wp2_with fail
      go_ret
      exact ⟨ret_int HVV.out.symm, HB3.out⟩
    | false =>
      have HV2 := Lib.hid (show V = if twiceB X then 6 else if 64 < l.length then 2 else 0 by rw [HV1.out, hB2]; rfl)
      have K1 := Lib.hid (cont33 A1 c1 X w2 HRE2.out.1 HL.out.1 HL.out.2 _ hB2)
      clear hB2 HV1
      go_wp2_with fail
      refine K1.out.mono ?_
      rintro e w3 ⟨rfl, hb3⟩
      have HB3 := Lib.hid (HB2.out.trans (hb3.mono HB2.out.size))
      have HC3 := Lib.hid (cell_keep HC2.out hb3)
      have HRE3 := Lib.hid (And.intro (HRE2.out.1.up hb3) HRE2.out.2)
      clear hb3 HB2 HC2 HRE2 K1
      cases hB3 : twiceB X with
      | true =>
        have HVV := Lib.hid (show V = 6 by rw [HV2.out, hB3]; rfl)
        have K1 := Lib.hid (rep_at A1 c1 X w3 HRE3.out.1 HRE3.out.2 HL.out.1 _ hB3)
        clear hB3
        go_wp2_with fail
        refine K1.out.mono ?_
        rintro e w4 ⟨rfl, hb4⟩
        have HB4 := Lib.hid (HB3.out.trans (hb4.mono HB3.out.size))
        clear hb4
        go_wp2_with fail
        go_ret
        exact ⟨ret_int HVV.out.symm, HB4.out⟩
      | false =>
        have HV3 := Lib.hid (show V = if 64 < l.length then 2 else 0 by rw [HV2.out, hB3]; rfl)
        have K1 := Lib.hid (rep_at A1 c1 X w3 HRE3.out.1 HRE3.out.2 HL.out.1 _ hB3)
        clear hB3 HV2
        go_wp2_with fail
        refine K1.out.mono ?_
        rintro e w4 ⟨rfl, hb4⟩
        have HB4 := Lib.hid (HB3.out.trans (hb4.mono HB3.out.size))
        have d4 := cell_keep HC3.out hb4
        clear hb4 HB3 HC3 HRE3 K1
        by_cases h64 : 64 < l.length
        · have HVV := Lib.hid (show V = 2 by rw [HV3.out, if_pos h64])
          have q : (64 : Int) < (l.length : Int) := by omega
          go_wp2_with fail
          go_ret
          exact ⟨ret_int HVV.out.symm, HB4.out⟩
        · have HVV := Lib.hid (show V = 0 by rw [HV3.out, if_neg h64])
          have q : ¬ (64 : Int) < (l.length : Int) := by omega
          go_wp2_with fail
          go_ret
          exact ⟨ret_int HVV.out.symm, HB4.out⟩
end Go.Proofs.YtmmghdicjpfdoaaGreatDoor
