/-
  The law DigestRelease, by the contracts of both. Conditions: every path of a module at most 2000000 bytes long, the table of powers of ten, internal/bytealg.MaxLen holds some number.
-/
import Derived.Test.YthlcdimofagmfaaGreatDoorSM
import Derived.Test.YthlcdimofagmfaaGreatDoorWS
import Derived.Test.YthlcdimofagmfaaGreatDoorRR
namespace Go.Proofs.YthlcdimofagmfaaGreatDoor
open Go.RowKit Go.Sort Go.Lib Go.Shelf Go.Proofs
set_option linter.unusedSimpArgs false
set_option linter.unusedVariables false
set_option maxRecDepth 100000 in
set_option maxHeartbeats 4000000 in
theorem law_release (x : Md) (A A2 : Option Addr) (c c2 : Nat) (l : List Md) (S : List Src) (w : World) (hM : Mx w) (hT : P10 w) (hR : RM w w.heap.size A l) (hf : Plain A c)
    (hS : RN w w.heap.size A2 S) (hf2 : Plain A2 c2) (hl : S.length ≤ 9223372036854775807) (hp : ∀ y ∈ x :: l, y.1.size ≤ 2000000) :
    Calls Tryz.prog 6 #[rl x A l.length c A2 S.length c2] w fun e w' => e = .returned (.bool true) ∧ Below w.heap.size w w' := by
  have hb0 := bal w (rblk x A l.length c A2 S.length c2 40)
  have HB0 := Lib.hid hb0
  have HX := Lib.hid (B6.new w x A A2 l.length c S.length c2 40)
  have KSM := Lib.hid (small_any x A A2 l.length c c2 S (w.alloc (rblk x A l.length c A2 S.length c2 40)) (hS.up hb0) hl)
  have HAL := Lib.hid (alive_at w hM hT)
  obtain ⟨v, hv⟩ : ∃ v, v = smallB S l.length := ⟨_, rfl⟩
  rw [← hv] at KSM
  have HV := Lib.hid hv
  have KP : Hid (v = true → ∀ W, Below w.heap.size w W → Calls Tryz.prog 19 #[rl x A l.length c A2 S.length c2] W (RelIs (relOut x l S) W) ∧ Calls Tryz.prog 20 #[rl x A l.length c A2 S.length c2] W (RelIs (relOut x l S) W)) := Lib.hid fun e W hb => by
    rw [hv] at e
    unfold smallB at e
    simp only [Bool.and_eq_true, decide_eq_true_eq, List.all_eq_true] at e
    obtain ⟨e1, e2, e3⟩ := e
    have hz2 : ∀ y ∈ S, y.1.size ≤ 200 ∧ y.2.size ≤ 1000 := fun y hy => by
      have := e1 y hy
      unfold okS at this
      simp only [Bool.and_eq_true, decide_eq_true_eq] at this
      exact this
    have hz : ∀ y ∈ S, y.1.size ≤ 100000 ∧ y.2.size ≤ 1000000 := fun y hy => by
      have := hz2 y hy
      omega
    exact ⟨release_any x A A2 c c2 l S W (hM.keep hb hM.1) (P10.keep hT hb) (hR.up hb) hf (by omega) (hS.up hb) hf2 (by omega) hz,
      rrel_any x A A2 c c2 l S W (hM.keep hb hM.1) (P10.keep hT hb) (hR.up hb) hf (by omega) hp (hS.up hb) hf2 (by omega) hz2⟩
  clear hb0 hM hT hR hf hS hf2 hl hp hv HV
  generalize relOut x l S = O at *
  generalize l.length = n at *
  generalize S.length = m at *
  unfold rl at *
  unfold rblk at *
  cases v with
  | false =>
    clear KP
    go_enter Tryz.func6, Tryz.ntmps6
    obtain ⟨x0, x1, x2, x3, x4, x5⟩ := HX.out
    go_wp2_with fail
    refine KSM.out.mono ?_
    rintro e w1 ⟨rfl, hb1⟩
    have HB1 := Lib.hid (HB0.out.trans (hb1.mono HB0.out.size))
    clear hb1
    go_wp2_with fail
    refine (HAL.out _ HB1.out).mono ?_
    rintro e w2 ⟨rfl, hb2⟩
    have HB2 := Lib.hid (HB1.out.trans (hb2.mono HB1.out.size))
    clear hb2
    go_wp2_with fail
    go_ret
    exact ⟨rfl, HB2.out⟩
  | true =>
    have KQ := Lib.hid (KP.out rfl)
    clear KP
    go_enter Tryz.func6, Tryz.ntmps6
    obtain ⟨x0, x1, x2, x3, x4, x5⟩ := HX.out
    go_wp2_with fail
    refine KSM.out.mono ?_
    rintro e w1 ⟨rfl, hb1⟩
    have HB1 := Lib.hid (HB0.out.trans (hb1.mono HB0.out.size))
    have HX1 := Lib.hid (HX.out.keep hb1)
    clear hb1 x0 x1 x2 x3 x4 x5 HX KSM HB0
    obtain ⟨x0, x1, x2, x3, x4, x5⟩ := HX1.out
    go_wp2_with fail
    refine (KQ.out _ HB1.out).1.mono ?_
    rintro e w2 ⟨rfl, hb2⟩
    have HB2 := Lib.hid (HB1.out.trans (hb2.mono HB1.out.size))
    have HX2 := Lib.hid (HX1.out.keep hb2)
    clear hb2 x0 x1 x2 x3 x4 x5 HX1 HB1
    obtain ⟨x0, x1, x2, x3, x4, x5⟩ := HX2.out
    go_wp2_with fail
    refine (KQ.out _ HB2.out).2.mono ?_
    rintro e w3 ⟨rfl, hb3⟩
    have HB3 := Lib.hid (HB2.out.trans (hb3.mono HB2.out.size))
    clear hb3 x0 x1 x2 x3 x4 x5 HX2 HB2 KQ
    obtain ⟨o1, o2⟩ := O
    go_wp2_with fail
    refine (HAL.out _ HB3.out).mono ?_
    rintro e w4 ⟨rfl, hb4⟩
    have HB4 := Lib.hid (HB3.out.trans (hb4.mono HB3.out.size))
    clear hb4
    go_wp2_with fail
    go_ret
    exact ⟨rfl, HB4.out⟩
end Go.Proofs.YthlcdimofagmfaaGreatDoor
