/-
  Two bytes lie in one part exactly if the sets do not part them; every byte lies in exactly one part: the law BytesetSplits. Condition: the table deBruijn64tab.
-/
import Derived.Test.YtmkmbpiaolmncaaDoorPm
import Derived.Test.YtmkmbpiaolmncaaDoorAwake
import Derived.BigQuiet
import Derived.Deep.QuietTactic
namespace Go.Proofs.YtmkmbpiaolmncaaDoor
open Go.RowKit
set_option linter.unusedSimpArgs false
set_option linter.unnecessarySimpa false
set_option linter.unusedVariables false
theorem bdrewN {B : Nat} {a w : World} (h : Below B a w) (n : Nat) : Below B a (w.drewN n) := ⟨h.os, h.tape, h.output, h.size, h.block⟩
/-- one set of a list that came in -/
abbrev One (w0 : World) (b o k : Nat) (x : BS) (w : World) : Prop :=
  Below w0.heap.size w0 w ∧ (w.cell? ⟨b, o + k * 4, none⟩ = some (.int .u64 (wd 0 x)) ∧ w.cell? ⟨b, o + k * 4 + 1, none⟩ = some (.int .u64 (wd 1 x)) ∧ w.cell? ⟨b, o + k * 4 + 2, none⟩ = some (.int .u64 (wd 2 x)) ∧ w.cell? ⟨b, o + k * 4 + 3, none⟩ = some (.int .u64 (wd 3 x)))
theorem One.keep {w0 w w' : World} {b o k : Nat} {x : BS} (h : One w0 b o k x w) (hb : Below w.heap.size w w') : One w0 b o k x w' :=
  ⟨h.1.trans (hb.mono h.1.size), cell_keep h.2.1 hb, cell_keep h.2.2.1 hb, cell_keep h.2.2.2.1 hb, cell_keep h.2.2.2.2 hb⟩
theorem One.below {w0 w : World} {b o k : Nat} {x : BS} (h : One w0 b o k x w) : Below w0.heap.size w0 w := h.1
set_option maxRecDepth 100000 in
set_option maxHeartbeats 4000000 in
theorem splits_big (l : List BS) (v : Value) (a b : Nat) (w : World) (hT : Tab w) (hv : Sets w v l) (hl : 12 < l.length) :
    Calls Tryd.prog 11 #[v, .int .u8 (a : Int), .int .u8 (b : Int)] w fun e w' => e = .returned (.bool true) ∧ Below w.heap.size w w' := by
  have HT := Lib.hid hT
  have h1 : (12 : Int) < (l.length : Int) := by omega
  obtain ⟨av, cv, rfl⟩ : ∃ a cap, v = .slice a l.length cap := by
    rcases hv with ⟨rfl, A, cap, rfl⟩ | ⟨b, o, cap, rfl, _⟩
    · exact ⟨A, cap, rfl⟩
    · exact ⟨_, _, rfl⟩
  clear hv hT hl
  go_enter Tryd.func11, Tryd.ntmps11
  go_wp2_with fail
  refine (awake_any _ HT.out).mono ?_
  rintro e w1 ⟨rfl, hb1⟩
  have HB := Lib.hid hb1
  clear hb1
  go_wp2_with fail
  go_ret
  exact ⟨rfl, HB.out⟩
set_option maxRecDepth 100000 in
set_option maxHeartbeats 8000000 in
theorem splits_any (l : List BS) (v : Value) (a b : Nat) (ha : a < 256) (hb : b < 256) (w : World) (hT : Tab w) (hv : Sets w v l) (hl : l.length ≤ 12) :
    Calls Tryd.prog 11 #[v, .int .u8 (a : Int), .int .u8 (b : Int)] w fun e w' => e = .returned (.bool true) ∧ Below w.heap.size w w' := by
  have HV := Lib.hid hv
  have HT := Lib.hid hT
  have HL := Lib.hid hl
  have HAB := Lib.hid (And.intro ha hb)
  obtain ⟨av, cv, rfl⟩ : ∃ a cap, v = .slice a l.length cap := by
    rcases hv with ⟨rfl, A, cap, rfl⟩ | ⟨b, o, cap, rfl, _⟩
    · exact ⟨A, cap, rfl⟩
    · exact ⟨_, _, rfl⟩
  have hl12 : ¬ (12 : Int) < (l.length : Int) := by omega
  clear hv hT hl ha hb
  go_enter Tryd.func11, Tryd.ntmps11
  go_wp2_with fail
  clear hl12
  go_loopw [7, 8] (fun t i wr => ∃ k : Nat, i = .int .i64 (k : Int) ∧ k ≤ l.length ∧ t = .bool (sameB a b (l.take k)) ∧ Hid (Below w.heap.size w wr)) (fun _ i _ => (l.length - intOf i).toNat)
  case atStart => exact ⟨0, rfl, by omega, rfl, Lib.hid (Below.refl _ _)⟩
  case round =>
    obtain ⟨k, rfl, hk, rfl, HB⟩ := hrel
    by_cases hlt : k < l.length
    · have hkl : (k : Int) < (l.length : Int) := by omega
      have wk : IntKind.i64.wrap ((k : Int) + 1) = (k : Int) + 1 := by simp [IntKind.wrap, IntKind.bits, IntKind.signed]; have := HL.out; omega
      have hsn : sameB a b (l.take (k + 1)) = (sameB a b (l.take k) && (l[k].getLsbD a == l[k].getLsbD b)) := by
        rw [(List.take_append_getElem hlt).symm, sameB_snoc]
      cases hs : sameB a b (l.take k) with
      | false =>
        rw [hs, Bool.false_and] at hsn
        have HS := Lib.hid hsn
        clear hsn hs
        go_wp2_with fail
        go_quiet (fail)
        go_wp2_with fail
        go_roundw
        case rel => exact ⟨k + 1, by go_num, by omega, by rw [HS.out], Lib.hid (bdrewN HB.out _)⟩
        case measure => simp [intOf]; omega
      | true =>
        rw [hs, Bool.true_and] at hsn
        obtain ⟨bb, o, rfl, hbl, hc⟩ : ∃ b o, av = some ⟨b, o, none⟩ ∧ b < w.heap.size ∧ (w.cell? ⟨b, o + k * 4, none⟩ = some (.int .u64 (wd 0 l[k])) ∧ w.cell? ⟨b, o + k * 4 + 1, none⟩ = some (.int .u64 (wd 1 l[k])) ∧ w.cell? ⟨b, o + k * 4 + 2, none⟩ = some (.int .u64 (wd 2 l[k])) ∧ w.cell? ⟨b, o + k * 4 + 3, none⟩ = some (.int .u64 (wd 3 l[k]))) := by
          rcases HV.out with ⟨h2, _⟩ | ⟨b, o, cap, h1, hbl, hc⟩
          · rw [h2] at hlt; exact absurd hlt (by simp)
          · injection h1 with e1 _ _
            exact ⟨b, o, e1, hbl, hc k _ (List.getElem?_eq_getElem hlt)⟩
        have hone0 : One w bb o k l[k] w := ⟨Below.refl _ _, hc⟩
        have hone1 := hone0.keep HB.out
        have hS : One wr bb o k l[k] wr := ⟨Below.refl _ _, hone1.2⟩
        obtain ⟨p, hp⟩ : ∃ p, p = l[k].getLsbD a := ⟨_, rfl⟩
        obtain ⟨q, hq⟩ : ∃ q, q = l[k].getLsbD b := ⟨_, rfl⟩
        rw [← hp, ← hq] at hsn
        have C1 := Lib.hid (fun w => hasb_at l[k] a HAB.out.1 p hp.symm w)
        have C2 := Lib.hid (fun w => hasb_at l[k] b HAB.out.2 q hq.symm w)
        unfold st at C1 C2
        generalize l[k] = x at *
        have HS := Lib.hid hsn
        clear hsn hs hp hq hc hone0 hone1
        go_wp2_with fail
        go_region_held3 (fun w' => One wr bb o k x w') (first | exact One.keep hS ((Below.refl _ _).drew) | exact One.keep (by assumption) (by assumption)) (first | (go_at_call 15; ((with_reducible refine (C1.out _).mono ?_)); rintro e w' ⟨rfl, hbN⟩) | (go_at_call 15; ((with_reducible refine (C2.out _).mono ?_)); rintro e w' ⟨rfl, hbN⟩))
        all_goals (have HB2 := Lib.hid (HB.out.trans ((One.below (by assumption : One wr bb o k x _)).mono HB.out.size)); go_wp2_with fail)
        all_goals go_roundw
        all_goals first | exact ⟨k + 1, by go_num, by omega, by rw [HS.out], HB2⟩ | (simp [intOf]; omega)
    · obtain rfl : k = l.length := by omega
      have htk : l.take l.length = l := List.take_length
      rw [htk]
      clear htk
      have ht1 : Tab _ := HT.out.below HB.out HT.out.1
      have hv1 := HV.out.below HB.out
      have H1 := Lib.hid (And.intro ht1 hv1)
      clear ht1 hv1
      go_wp2_with fail
      refine (part_any l _ _ H1.out.1 H1.out.2 HL.out).mono ?_
      rintro e w2 ⟨g, cap, R, rfl, hp, _, hc, hg, hb2⟩
      have hpl := hp.length_eq
      have hpl2 := parts_len HL.out
      have hrl : R.length ≤ 4096 := by omega
      have htog := tog_parts hp a b HAB.out.1 HAB.out.2
      have HRL := Lib.hid hrl
      have HTG := Lib.hid htog
      have HC := Lib.hid hc
      have HG := Lib.hid hg
      have HB2 := Lib.hid (HB.out.trans (hb2.mono HB.out.size))
      clear hp hc hg hb2 hpl hpl2 hrl htog
      go_wp2_with fail
      go_loopw [10, 11, 12] (fun n t i wq => ∃ k : Nat, i = .int .i64 (k : Int) ∧ k ≤ R.length ∧ n = .int .i64 ((cnt (has1 a) (R.take k) : Nat) : Int) ∧ t = .bool (tog a b false (R.take k)) ∧ Hid (Below w2.heap.size w2 wq)) (fun _ _ i _ => (R.length - intOf i).toNat)
      case atStart => exact ⟨0, rfl, by omega, rfl, rfl, Lib.hid (Below.refl _ _)⟩
      case round =>
        obtain ⟨k, rfl, hk, rfl, rfl, HQ⟩ := hrel
        by_cases hlt : k < R.length
        · have hkl : (k : Int) < (R.length : Int) := by omega
          have wk : IntKind.i64.wrap ((k : Int) + 1) = (k : Int) + 1 := by simp [IntKind.wrap, IntKind.bits, IntKind.signed]; have := HRL.out; omega
          have htake : R.take (k + 1) = R.take k ++ [R[k]] := (List.take_append_getElem hlt).symm
          have hc1 : cnt (has1 a) (R.take k) ≤ 1 := by
            have h1 : cnt (has1 a) R = cnt (has1 a) (R.take k) + cnt (has1 a) (R.drop k) := by rw [← cnt_append, List.take_append_drop]
            have := HTG.out.1
            omega
          have hcn : cnt (has1 a) (R.take (k + 1)) = cnt (has1 a) (R.take k) + (R[k].getLsbD a).toNat := by rw [htake, cnt_append]; rfl
          have htn : tog a b false (R.take (k + 1)) = bif R[k].getLsbD a then R[k].getLsbD b else tog a b false (R.take k) := by rw [htake, tog_snoc]
          have hx := List.getElem?_eq_getElem hlt
          have hcx := fun c (h : c < 4) => HC.out k _ c hx h
          obtain ⟨p, hp⟩ : ∃ p, p = R[k].getLsbD a := ⟨_, rfl⟩
          obtain ⟨q, hq⟩ : ∃ q, q = R[k].getLsbD b := ⟨_, rfl⟩
          rw [← hp] at hcn
          rw [← hp, ← hq] at htn
          have C1 := Lib.hid (fun w => hasb_at R[k] a HAB.out.1 p hp.symm w)
          have C2 := Lib.hid (fun w => hasb_at R[k] b HAB.out.2 q hq.symm w)
          unfold st at C1 C2
          clear hx
          generalize R[k] = x at *
          have k0 : wr.cell? ⟨g, k * 4, none⟩ = some (.int .u64 (wd 0 x)) := by rw [HQ.out.cell (p := ⟨g, k * 4, none⟩) HG.out]; simpa using hcx 0 (by omega)
          have k1 : wr.cell? ⟨g, k * 4 + 1, none⟩ = some (.int .u64 (wd 1 x)) := by rw [HQ.out.cell (p := ⟨g, k * 4 + 1, none⟩) HG.out]; exact hcx 1 (by omega)
          have k2 : wr.cell? ⟨g, k * 4 + 2, none⟩ = some (.int .u64 (wd 2 x)) := by rw [HQ.out.cell (p := ⟨g, k * 4 + 2, none⟩) HG.out]; exact hcx 2 (by omega)
          have k3 : wr.cell? ⟨g, k * 4 + 3, none⟩ = some (.int .u64 (wd 3 x)) := by rw [HQ.out.cell (p := ⟨g, k * 4 + 3, none⟩) HG.out]; exact hcx 3 (by omega)
          have HCN := Lib.hid hcn
          have HTN := Lib.hid htn
          have HCX := Lib.hid hcx
          clear hp hq htake hcn htn hcx
          obtain ⟨m, hm⟩ : ∃ m, m = cnt (has1 a) (R.take k) := ⟨_, rfl⟩
          rw [← hm] at hc1 HCN ⊢
          obtain ⟨tg, htg⟩ : ∃ tg, tg = tog a b false (R.take k) := ⟨_, rfl⟩
          rw [← htg] at HTN ⊢
          have wm : IntKind.i64.wrap ((m : Int) + 1) = (m : Int) + 1 := by simp [IntKind.wrap, IntKind.bits, IntKind.signed]; omega
          clear hm htg
          go_wp2_with fail
          refine (C1.out _).mono ?_
          rintro e w3 ⟨rfl, hb3⟩
          have HQ3 := Lib.hid (HQ.out.trans (hb3.mono HQ.out.size))
          clear hb3 k0 k1 k2 k3
          cases p with
          | false =>
            go_wp2_with fail
            go_roundw
            case rel => exact ⟨k + 1, by go_num, by omega, by rw [HCN.out]; rfl, by rw [HTN.out]; rfl, HQ3⟩
            case measure => simp [intOf]; omega
          | true =>
            have k0 : w3.cell? ⟨g, k * 4, none⟩ = some (.int .u64 (wd 0 x)) := by rw [HQ3.out.cell (p := ⟨g, k * 4, none⟩) HG.out]; simpa using HCX.out 0 (by omega)
            have k1 : w3.cell? ⟨g, k * 4 + 1, none⟩ = some (.int .u64 (wd 1 x)) := by rw [HQ3.out.cell (p := ⟨g, k * 4 + 1, none⟩) HG.out]; exact HCX.out 1 (by omega)
            have k2 : w3.cell? ⟨g, k * 4 + 2, none⟩ = some (.int .u64 (wd 2 x)) := by rw [HQ3.out.cell (p := ⟨g, k * 4 + 2, none⟩) HG.out]; exact HCX.out 2 (by omega)
            have k3 : w3.cell? ⟨g, k * 4 + 3, none⟩ = some (.int .u64 (wd 3 x)) := by rw [HQ3.out.cell (p := ⟨g, k * 4 + 3, none⟩) HG.out]; exact HCX.out 3 (by omega)
            go_wp2_with fail
            refine (C2.out _).mono ?_
            rintro e w4 ⟨rfl, hb4⟩
            have HQ4 := Lib.hid (HQ3.out.trans (hb4.mono HQ3.out.size))
            clear hb4 k0 k1 k2 k3
            go_wp2_with fail
            go_roundw
            case rel => exact ⟨k + 1, by go_num, by omega, by rw [HCN.out]; rfl, by rw [HTN.out]; rfl, HQ4⟩
            case measure => simp [intOf]; omega
        · obtain rfl : k = R.length := by omega
          have htk : R.take R.length = R := List.take_length
          rw [htk, HTG.out.1, HTG.out.2]
          have HT5 := Lib.hid ((HT.out.below HB2.out HT.out.1).below HQ.out (by have := HT.out.1; have := HB2.out.size; omega))
          have HB5 := Lib.hid (HB2.out.trans (HQ.out.mono HB2.out.size))
          clear htk
          generalize sameB a b l = sm at *
          have hbb : (sm == sm) = true := by simp
          go_wp2_with fail
          refine (awake_any _ HT5.out).mono ?_
          rintro e w6 ⟨rfl, hb6⟩
          have HB6 := Lib.hid (HB5.out.trans (hb6.mono HB5.out.size))
          clear hb6
          go_wp2_with fail
          go_ret
          exact ⟨rfl, HB6.out⟩
theorem law_splits (l : List BS) (v : Value) (a b : Int) (a0 : 0 ≤ a) (a1 : a ≤ 255) (b0 : 0 ≤ b) (b1 : b ≤ 255) (w : World) (hT : Tab w) (hv : Sets w v l) :
    Calls Tryd.prog 11 #[v, .int .u8 a, .int .u8 b] w fun e w' => e = .returned (.bool true) ∧ Below w.heap.size w w' := by
  obtain ⟨m, rfl⟩ := Int.eq_ofNat_of_zero_le a0
  obtain ⟨n, rfl⟩ := Int.eq_ofNat_of_zero_le b0
  by_cases h : l.length ≤ 12
  · exact splits_any l v m n (by omega) (by omega) w hT hv h
  · exact splits_big l v m n w hT hv (by omega)
end Go.Proofs.YtmkmbpiaolmncaaDoor
