/-
  container/heap over the queue of Topo: down. Conditions: at most 1001 numbers.
-/
import Derived.Test.YthgfomjmkmkhkaaQ
namespace Go.Proofs.Ythgfomjmkmkhkaa
open Go.RowKit
set_option linter.unusedSimpArgs false
set_option linter.unusedVariables false
theorem down_none {xs : List Int} {n i : Nat} (D : DownI xs n i) (h : n ≤ 2 * i + 1) : Heap xs n := down_stop D (fun k h0 h1 h2 => by omega)
theorem down_end {xs : List Int} {n i c : Nat} (D : DownI xs n i) (h : gt xs i ≤ gt xs c) (hmin : ∀ k, 0 < k → k < n → (k - 1) / 2 = i → gt xs c ≤ gt xs k) : Heap xs n := down_stop D (fun k h0 h1 h2 => Int.le_trans h (hmin k h0 h1 h2))
theorem swp_far {xs : List Int} {n i j : Nat} (hi : i < n) (hj : j < n) (hl : n ≤ xs.length) (k : Nat) (hk : n ≤ k) : gt (swp xs i j) k = gt xs k := by
  rw [swp_at (by omega) (by omega), if_neg (by omega), if_neg (by omega)]
set_option maxRecDepth 100000 in
set_option maxHeartbeats 4000000 in
theorem down_any (q B : Nat) (v : Value) (xs : List Int) (n : Nat) (w : World) (Q : QS w q B v xs) (D : DownI xs n 0) (hn : n ≤ xs.length) (hl : xs.length ≤ 1001) :
    Calls Try.prog 52 #[qi q, .int .i64 0, .int .i64 (n : Int)] w fun e w' => (∃ b, e = .returned (.bool b)) ∧ ∃ ys, QS w' q B v ys ∧ ys.Perm xs ∧ Heap ys n ∧ (∀ k, n ≤ k → gt ys k = gt xs k) ∧ HStep q w v w' v := by
  have HQ := Lib.hid Q
  have HD := Lib.hid D
  clear Q D
  have hn9 : n ≤ 1001 := by omega
  go_enter Try.func52, Try.ntmps52
  go_wp2_with fail
  go_loopw [7, 8, 9, 10] (fun s7 _ _ _ wr => ∃ (i : Nat) (ys : List Int), s7 = .int .i64 (i : Int) ∧ (i < n ∨ i = 0) ∧ Hid (ys.length = xs.length) ∧ Hid (QS wr q B v ys) ∧ Hid (DownI ys n i) ∧ Hid (ys.Perm xs) ∧ Hid (∀ k, n ≤ k → gt ys k = gt xs k) ∧ Hid (HStep q w v wr v)) (fun s7 _ _ _ _ => (n - intOf s7).toNat)
  case atStart => exact ⟨0, xs, rfl, Or.inr rfl, Lib.hid rfl, HQ, HD, Lib.hid (List.Perm.refl _), Lib.hid (fun _ _ => rfl), Lib.hid (HStep.refl _ _ _)⟩
  case round =>
    clear HQ HD
    obtain ⟨i, ys, rfl, hi, HYL, HQ, HD, HP, HF, HS⟩ := hrel
    have hin : i ≤ 1001 := by omega
    have hw1 : IntKind.i64.wrap (2 * (i : Int)) = 2 * (i : Int) := by rw [IntWalk.i64_in _ (by omega)]
    have hw2 : IntKind.i64.wrap (2 * (i : Int) + 1) = ((2 * i + 1 : Nat) : Int) := by rw [IntWalk.i64_in _ (by omega)]; omega
    have hw3 : (2 * (i : Int) + 1) = ((2 * i + 1 : Nat) : Int) := by omega
    obtain ⟨l, hl1⟩ : ∃ l, 2 * i + 1 = l := ⟨_, rfl⟩
    rw [hl1] at hw2 hw3
    have HL1 := Lib.hid hl1
    have HI := Lib.hid hi
    clear hl1 hi
    by_cases hln : n ≤ l
    · have hd1 : decide ((n : Int) ≤ (l : Int)) = true := decide_eq_true (by omega)
      have hd2 : (n : Int) ≤ (l : Int) := by omega
      have HH := Lib.hid (down_none HD.out (by have := HL1.out; omega))
      clear hln
      go_wp2_with fail
      go_ret
      exact ⟨⟨_, rfl⟩, ys, HQ.out, HP.out, HH.out, HF.out, HS.out⟩
    · have hd1 : decide ((n : Int) ≤ (l : Int)) = false := decide_eq_false (by omega)
      have hd2 : ¬ (n : Int) ≤ (l : Int) := by omega
      have hd3 : decide ((l : Int) < 0) = false := decide_eq_false (by omega)
      have hw4 : IntKind.i64.wrap ((l : Int) + 1) = ((l + 1 : Nat) : Int) := by rw [IntWalk.i64_in _ (by have := HL1.out; omega)]; omega
      have hw5 : ((l : Int) + 1) = ((l + 1 : Nat) : Int) := by omega
      have hlz : ¬ (l : Int) < 0 := by omega
      have HLN := Lib.hid (show l < n by omega)
      have HNN := Lib.hid hn
      have hm1 := via find_less HQ.out.box
      by_cases h2 : l + 1 < n
      · have hd4 : decide (((l + 1 : Nat) : Int) < (n : Int)) = true := decide_eq_true (by omega)
        have hd5 : ((l + 1 : Nat) : Int) < (n : Int) := by omega
        obtain ⟨l2, hl2⟩ : ∃ l2, l + 1 = l2 := ⟨_, rfl⟩
        rw [hl2] at hd4 hd5 hw4 hw5
        have HL2 := Lib.hid hl2
        have CL := Lib.hid (less_q HQ.out (i := l2) (j := l) (by have := HYL.out; omega) (by have := HYL.out; omega) (by have := HYL.out; omega))
        have HL2N := Lib.hid (show l2 < n by omega)
        clear hln h2 hl2
        go_wp2_with fail
        refine CL.out.mono ?_
        rintro e w2 ⟨rfl, n2, rfl⟩
        have HQ2 := Lib.hid (HQ.out.keep (bdrewN (Below.refl _ _) n2))
        have HS2 := Lib.hid (HS.out.below (bdrewN (Below.refl _ _) n2))
        generalize wr.drewN n2 = w3 at *
        clear CL
        by_cases hch : gt ys l2 < gt ys l
        · rw [decide_eq_true hch]
          have HMN : Hid (∀ k, 0 < k → k < n → (k - 1) / 2 = i → gt ys l2 ≤ gt ys k) := Lib.hid (fun k h0 h1 h2 => by
            have e1 := HL1.out
            have e2 := HL2.out
            rcases (show k = l ∨ k = l2 by omega) with rfl | rfl
            · omega
            · exact Int.le_refl _)
          have HCN : Hid (l2 < n) := HL2N
          have HC0 : Hid (0 < l2) := Lib.hid (by have := HL2.out; omega)
          have HCP : Hid ((l2 - 1) / 2 = i) := Lib.hid (by have := HL1.out; have := HL2.out; omega)
          have HIC : Hid (i < l2) := Lib.hid (by have := HL1.out; have := HL2.out; omega)
          clear hch
          have hm2 := via find_less HQ2.out.box
          have CL2 := Lib.hid (less_q HQ2.out (i := l2) (j := i) (by have := HYL.out; have := HCN.out; have := HNN.out; omega) (by have := HYL.out; have := HNN.out; have := HLN.out; have := HL1.out; omega) (by have := HYL.out; omega))
          clear hm1
          go_wp2_with fail
          refine CL2.out.mono ?_
          rintro e w4 ⟨rfl, n4, rfl⟩
          have HQ4 := Lib.hid (HQ2.out.keep (bdrewN (Below.refl _ _) n4))
          have HS4 := Lib.hid (HS2.out.below (bdrewN (Below.refl _ _) n4))
          clear CL2 hm2
          by_cases hlt : gt ys (l2) < gt ys i
          · have hm3 := via find_swap HQ4.out.box
            have CS := Lib.hid (swap_q HQ4.out (i := i) (j := l2) (by have := HYL.out; have := HNN.out; have := HLN.out; have := HL1.out; omega) (by have := HYL.out; have := HCN.out; have := HNN.out; omega) (by have := HYL.out; omega))
            have HD5 := Lib.hid (down_step HD.out (by have := HYL.out; have := HNN.out; omega) HC0.out HCN.out HCP.out HMN.out hlt)
            have HP5 := Lib.hid ((swp_perm (i := i) (j := l2) (xs := ys) (by have := HYL.out; have := HNN.out; have := HLN.out; have := HL1.out; omega) (by have := HYL.out; have := HCN.out; have := HNN.out; omega)).trans HP.out)
            have HF5 : Hid (∀ k, n ≤ k → gt (swp ys i (l2)) k = gt xs k) := Lib.hid (fun k hk => (swp_far (by have := HLN.out; have := HL1.out; omega) HCN.out (by have := HYL.out; have := HNN.out; omega) k hk).trans (HF.out k hk))
            have HYL6 : Hid ((swp ys i (l2)).length = xs.length) := Lib.hid (by rw [swp_len]; exact HYL.out)
            rw [decide_eq_true hlt]
            clear hlt
            go_wp2_with fail
            refine CS.out.mono ?_
            rintro e w5 ⟨rfl, hq5, hs5⟩
            have HQ5 := Lib.hid hq5
            have HS5 := Lib.hid (HS4.out.trans hs5)
            clear hq5 hs5 CS hm3
            go_wp2_with fail
            go_roundw
            case rel => exact ⟨l2, _, rfl, Or.inl HCN.out, HYL6, HQ5, HD5, HP5, HF5, HS5⟩
            case measure => have := HCN.out; have := HLN.out; have := HL1.out; have := HIC.out; first | (simp [intOf]; done) | (simp [intOf]; omega)
          · have HH := Lib.hid (down_end HD.out (by omega) HMN.out)
            rw [decide_eq_false hlt]
            clear hlt
            go_wp2_with fail
            go_ret
            exact ⟨⟨_, rfl⟩, ys, HQ4.out, HP.out, HH.out, HF.out, HS4.out⟩
        · rw [decide_eq_false hch]
          have HMN : Hid (∀ k, 0 < k → k < n → (k - 1) / 2 = i → gt ys l ≤ gt ys k) := Lib.hid (fun k h0 h1 h2 => by
            have e1 := HL1.out
            have e2 := HL2.out
            rcases (show k = l ∨ k = l2 by omega) with rfl | rfl
            · exact Int.le_refl _
            · omega)
          have HCN : Hid (l < n) := HLN
          have HC0 : Hid (0 < l) := Lib.hid (by have := HL1.out; omega)
          have HCP : Hid ((l - 1) / 2 = i) := Lib.hid (by have := HL1.out; omega)
          have HIC : Hid (i < l) := Lib.hid (by have := HL1.out; omega)
          clear hch
          have hm2 := via find_less HQ2.out.box
          have CL2 := Lib.hid (less_q HQ2.out (i := l) (j := i) (by have := HYL.out; have := HCN.out; have := HNN.out; omega) (by have := HYL.out; have := HNN.out; have := HLN.out; have := HL1.out; omega) (by have := HYL.out; omega))
          clear hm1
          go_wp2_with fail
          refine CL2.out.mono ?_
          rintro e w4 ⟨rfl, n4, rfl⟩
          have HQ4 := Lib.hid (HQ2.out.keep (bdrewN (Below.refl _ _) n4))
          have HS4 := Lib.hid (HS2.out.below (bdrewN (Below.refl _ _) n4))
          clear CL2 hm2
          by_cases hlt : gt ys (l) < gt ys i
          · have hm3 := via find_swap HQ4.out.box
            have CS := Lib.hid (swap_q HQ4.out (i := i) (j := l) (by have := HYL.out; have := HNN.out; have := HLN.out; have := HL1.out; omega) (by have := HYL.out; have := HCN.out; have := HNN.out; omega) (by have := HYL.out; omega))
            have HD5 := Lib.hid (down_step HD.out (by have := HYL.out; have := HNN.out; omega) HC0.out HCN.out HCP.out HMN.out hlt)
            have HP5 := Lib.hid ((swp_perm (i := i) (j := l) (xs := ys) (by have := HYL.out; have := HNN.out; have := HLN.out; have := HL1.out; omega) (by have := HYL.out; have := HCN.out; have := HNN.out; omega)).trans HP.out)
            have HF5 : Hid (∀ k, n ≤ k → gt (swp ys i (l)) k = gt xs k) := Lib.hid (fun k hk => (swp_far (by have := HLN.out; have := HL1.out; omega) HCN.out (by have := HYL.out; have := HNN.out; omega) k hk).trans (HF.out k hk))
            have HYL6 : Hid ((swp ys i (l)).length = xs.length) := Lib.hid (by rw [swp_len]; exact HYL.out)
            rw [decide_eq_true hlt]
            clear hlt
            go_wp2_with fail
            refine CS.out.mono ?_
            rintro e w5 ⟨rfl, hq5, hs5⟩
            have HQ5 := Lib.hid hq5
            have HS5 := Lib.hid (HS4.out.trans hs5)
            clear hq5 hs5 CS hm3
            go_wp2_with fail
            go_roundw
            case rel => exact ⟨l, _, rfl, Or.inl HCN.out, HYL6, HQ5, HD5, HP5, HF5, HS5⟩
            case measure => have := HCN.out; have := HLN.out; have := HL1.out; have := HIC.out; first | (simp [intOf]; done) | (simp [intOf]; omega)
          · have HH := Lib.hid (down_end HD.out (by omega) HMN.out)
            rw [decide_eq_false hlt]
            clear hlt
            go_wp2_with fail
            go_ret
            exact ⟨⟨_, rfl⟩, ys, HQ4.out, HP.out, HH.out, HF.out, HS4.out⟩
      · have hd4 : decide (((l + 1 : Nat) : Int) < (n : Int)) = false := decide_eq_false (by omega)
        have hd5 : ¬ ((l + 1 : Nat) : Int) < (n : Int) := by omega
        have HMN : Hid (∀ k, 0 < k → k < n → (k - 1) / 2 = i → gt ys l ≤ gt ys k) := Lib.hid (fun k h0 h1 h2 => by
          have e1 := HL1.out
          obtain rfl : k = l := by omega
          exact Int.le_refl _)
        obtain ⟨l2, hl2⟩ : ∃ l2, l + 1 = l2 := ⟨_, rfl⟩
        rw [hl2] at hd4 hd5 hw4 hw5
        have HCN : Hid (l < n) := HLN
        have HC0 : Hid (0 < l) := Lib.hid (by have := HL1.out; omega)
        have HCP : Hid ((l - 1) / 2 = i) := Lib.hid (by have := HL1.out; omega)
        have HIC : Hid (i < l) := Lib.hid (by have := HL1.out; omega)
        clear hln h2 hl2
        have hm2 := via find_less HQ.out.box
        have CL2 := Lib.hid (less_q HQ.out (i := l) (j := i) (by have := HYL.out; have := HCN.out; have := HNN.out; omega) (by have := HYL.out; have := HNN.out; have := HLN.out; have := HL1.out; omega) (by have := HYL.out; omega))
        clear hm1
        go_wp2_with fail
        refine CL2.out.mono ?_
        rintro e w4 ⟨rfl, n4, rfl⟩
        have HQ4 := Lib.hid (HQ.out.keep (bdrewN (Below.refl _ _) n4))
        have HS4 := Lib.hid (HS.out.below (bdrewN (Below.refl _ _) n4))
        clear CL2 hm2
        by_cases hlt : gt ys (l) < gt ys i
        · have hm3 := via find_swap HQ4.out.box
          have CS := Lib.hid (swap_q HQ4.out (i := i) (j := l) (by have := HYL.out; have := HNN.out; have := HLN.out; have := HL1.out; omega) (by have := HYL.out; have := HCN.out; have := HNN.out; omega) (by have := HYL.out; omega))
          have HD5 := Lib.hid (down_step HD.out (by have := HYL.out; have := HNN.out; omega) HC0.out HCN.out HCP.out HMN.out hlt)
          have HP5 := Lib.hid ((swp_perm (i := i) (j := l) (xs := ys) (by have := HYL.out; have := HNN.out; have := HLN.out; have := HL1.out; omega) (by have := HYL.out; have := HCN.out; have := HNN.out; omega)).trans HP.out)
          have HF5 : Hid (∀ k, n ≤ k → gt (swp ys i (l)) k = gt xs k) := Lib.hid (fun k hk => (swp_far (by have := HLN.out; have := HL1.out; omega) HCN.out (by have := HYL.out; have := HNN.out; omega) k hk).trans (HF.out k hk))
          have HYL6 : Hid ((swp ys i (l)).length = xs.length) := Lib.hid (by rw [swp_len]; exact HYL.out)
          rw [decide_eq_true hlt]
          clear hlt
          go_wp2_with fail
          refine CS.out.mono ?_
          rintro e w5 ⟨rfl, hq5, hs5⟩
          have HQ5 := Lib.hid hq5
          have HS5 := Lib.hid (HS4.out.trans hs5)
          clear hq5 hs5 CS hm3
          go_wp2_with fail
          go_roundw
          case rel => exact ⟨l, _, rfl, Or.inl HCN.out, HYL6, HQ5, HD5, HP5, HF5, HS5⟩
          case measure => have := HCN.out; have := HLN.out; have := HL1.out; have := HIC.out; first | (simp [intOf]; done) | (simp [intOf]; omega)
        · have HH := Lib.hid (down_end HD.out (by omega) HMN.out)
          rw [decide_eq_false hlt]
          clear hlt
          go_wp2_with fail
          go_ret
          exact ⟨⟨_, rfl⟩, ys, HQ4.out, HP.out, HH.out, HF.out, HS4.out⟩
end Go.Proofs.Ythgfomjmkmkhkaa
