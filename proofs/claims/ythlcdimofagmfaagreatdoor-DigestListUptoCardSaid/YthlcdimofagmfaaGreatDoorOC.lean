/-
  Check of the specification. At most 80000 requirements, paths of at most 100000 bytes. No other condition.
-/
import Derived.Test.YthlcdimofagmfaaGreatDoorR3
import Derived.Test.YthlcdimofagmfaaGreatDoorS
import Derived.Test.YthlcdimofagmfaaGreatDoorVA
namespace Go.Proofs.YthlcdimofagmfaaGreatDoor
open Go.RowKit Go.Sort Go.Lib Go.Shelf Go.Proofs
set_option linter.unusedSimpArgs false
set_option linter.unnecessarySimpa false
set_option linter.unusedVariables false
/-- what the three loops find, one after the other -/
def chk1 (M : List Md) (k : Nat) : Prop := ∀ j (h : j < M.length), j < k → pathB M[j].1.data.toList = true
def chk2 (M : List Md) (k : Nat) : Prop := ∀ j (h : j < M.length), j < k → okV M[j].2.1 M[j].2.2.1 M[j].2.2.2 = true
theorem chk_bad1 {x : Md} {l : List Md} {k : Nat} (h : k < (x :: l).length) (hb : pathB (x :: l)[k].1.data.toList = false) : chkM x l = 5 := by
  unfold chkM
  rw [if_pos]
  rw [List.any_eq_true]
  exact ⟨(x :: l)[k], List.getElem_mem h, by simp [hb]⟩
theorem chk_ok1 {x : Md} {l : List Md} (h : chk1 (x :: l) (x :: l).length) : (x :: l).any (fun x => !pathB x.1.data.toList) = false := by
  rw [List.any_eq_false]
  intro y hy
  obtain ⟨j, hj, rfl⟩ := List.getElem_of_mem hy
  simp [h j hj hj]
theorem chk_bad2 {x : Md} {l : List Md} {k : Nat} (h1 : (x :: l).any (fun x => !pathB x.1.data.toList) = false) (h : k < (x :: l).length) (hb : okV (x :: l)[k].2.1 (x :: l)[k].2.2.1 (x :: l)[k].2.2.2 = false) : chkM x l = 11 := by
  unfold chkM
  rw [if_neg (by simp [h1]), if_pos]
  rw [List.any_eq_true]
  exact ⟨(x :: l)[k], List.getElem_mem h, by simp [hb]⟩
theorem chk_ok2 {x : Md} {l : List Md} (h : chk2 (x :: l) (x :: l).length) : (x :: l).any (fun x => !okV x.2.1 x.2.2.1 x.2.2.2) = false := by
  rw [List.any_eq_false]
  intro y hy
  obtain ⟨j, hj, rfl⟩ := List.getElem_of_mem hy
  simp [h j hj hj]
/-- no two of the first k have one path -/
def noPair (M : List Md) (k : Nat) : Prop := ∀ i j (hi : i < M.length) (hj : j < i), i < k → M[i].1 ≠ (M[j]'(by omega)).1
/-- nor has the k-th that of one of the first n -/
def noOne (M : List Md) (k n : Nat) : Prop := ∀ j (hk : k < M.length) (hj : j < M.length), j < n → M[k].1 ≠ M[j].1
theorem twice_iff (M : List Md) : twiceB M = true ↔ ∃ i j, ∃ (hi : i < M.length) (hj : j < i), M[i].1 = (M[j]'(by omega)).1 := by
  unfold twiceB
  rw [Bool.not_eq_true', decide_eq_false_iff_not, List.Nodup, List.pairwise_iff_getElem]
  constructor
  · intro h
    apply Classical.byContradiction
    intro hn
    apply h
    intro a b ha hb hab e
    apply hn
    simp only [List.length_map] at ha hb
    exact ⟨b, a, hb, hab, by simpa using e.symm⟩
  · rintro ⟨i, j, hi, hj, e⟩ h
    exact h j i (by simp; omega) (by simpa using hi) hj (by simpa using e.symm)
set_option maxRecDepth 100000 in
set_option maxHeartbeats 4000000 in
theorem rcheck_any (x : Md) (A : Option Addr) (c : Nat) (l : List Md) (w : World) (hR : RM w w.heap.size A l) (hf : Plane A c) (hl : l.length ≤ 80000) (hp : ∀ y ∈ x :: l, y.1.size ≤ 2000000) :
    Calls Tryz.prog 62 #[mf x A l.length c] w fun e w' => e = .returned (.int .i64 (chkM x l)) ∧ Below w.heap.size w w' := by
  have hb0 := bal w (mblk x A l.length c 37)
  have HR := Lib.hid (hR.up hb0)
  have HB := Lib.hid hb0
  have HF := Lib.hid hf
  have HL := Lib.hid hl
  have HPP := Lib.hid hp
  obtain ⟨R, hRR⟩ : ∃ R, R = chkM x l := ⟨_, rfl⟩
  have HRR := Lib.hid hRR
  have c4 : (w.alloc (mblk x A l.length c 37)).cell? ⟨w.heap.size, 4, none⟩ = some (.slice A l.length c) := by simp
  have HC4 := Lib.hid c4
  rw [← hRR]
  clear hb0 hR hf hl hp hRR c4
  unfold mf
  unfold mblk at HR HB HC4
  go_enter Tryz.func62, Tryz.ntmps62
  have hown := own_lit (w.alloc (.cells #[.string x.1, .int .i64 x.2.1, .int .i64 x.2.2.1, .int .i64 x.2.2.2, .slice A l.length c] 37)) (w.heap.size + 1) (w.heap.size + 1) x (by simp) (by omega)
  have hRR := (HR.out.up (bal _ (.cells #[.string x.1, .int .i64 x.2.1, .int .i64 x.2.2.1, .int .i64 x.2.2.2] 34)))
  go_upto_region 2 with (at_builtin; refine wpList_append_rmP rfl _ _ rfl (w.heap.size + 1) _ _ 1 (mc x) rfl hown A c l rfl hRR HF.out ?_ ?_ ?_)
  · have := HL.out; omega
  · simp
  intro v' w1 h1 h2
  obtain ⟨A', c', rfl, hm1, hm2, hm3, _⟩ := rm_of_own (l := x :: l) (show w1.ownsRow (w.heap.size + 1) 34 4 v' (x :: l).length (flatM (x :: l)) by have h := h1; rw [Nat.add_comm 1 l.length] at h; rw [List.length_cons, flatM_cons]; exact h)
  have hcap : l.length + 1 ≤ c' ∧ c' ≤ maxLen ∧ ∃ g0, A' = some ⟨g0, 0, none⟩ := by
    rcases own_cell h1 with ⟨_, e⟩ | ⟨g0, c0, e, _, _, e1, e2, _⟩
    · omega
    · simp only [Value.slice.injEq] at e
      obtain ⟨rfl, _, rfl⟩ := e
      exact ⟨by omega, e2, g0, rfl⟩
  have HCP := Lib.hid hcap
  have HM := Lib.hid hm1
  have HB1 := Lib.hid ((HB.out.alloc (by simp) (.cells #[.string x.1, .int .i64 x.2.1, .int .i64 x.2.2.1, .int .i64 x.2.2.2] 34)).grown h2 (by simp; omega) (fun k hk => by simp [Value.ownBlock] at hk; subst hk; simp))
  have hk := (((Below.refl (w.heap.size + 1) (w.alloc (.cells #[.string x.1, .int .i64 x.2.1, .int .i64 x.2.2.1, .int .i64 x.2.2.2, .slice A l.length c] 37))).alloc (by simp) (.cells #[.string x.1, .int .i64 x.2.1, .int .i64 x.2.2.1, .int .i64 x.2.2.2] 34)).grown h2 (by simp) (fun k hk => by simp [Value.ownBlock] at hk; subst hk; simp))
  have HC1 := Lib.hid ((RowKit.Below.cell hk (p := ⟨w.heap.size, 4, none⟩) (by simp)).trans HC4.out)
  have hMl : (x :: l).length ≤ 90000 := by have := HL.out; simp; omega
  have hln : (x :: l).length = l.length + 1 := rfl
  have HLN := Lib.hid hln
  obtain ⟨M, hM⟩ : ∃ M, M = x :: l := ⟨_, rfl⟩
  have HMD := Lib.hid hM
  rw [← hM] at HM HPP hMl HLN
  rw [show (x :: l).length = M.length by rw [hM]]
  clear hcap h1 h2 hm1 hm2 hm3 hown hRR HB HC4 HR hk hM hln
  go_wp2_with fail
  go_loopw [5, 20] (fun _ s20 wr => ∃ k : Nat, s20 = .int .i64 (k : Int) ∧ k ≤ M.length ∧ Hid (chk1 M k) ∧ Hid (Below w1.heap.size w1 wr)) (fun _ s20 _ => (M.length - intOf s20).toNat)
  case atStart => exact ⟨0, rfl, by omega, Lib.hid (fun j _ h => by omega), Lib.hid (Below.refl _ _)⟩
  case round =>
    obtain ⟨k, rfl, hk, HK, HW⟩ := hrel
    by_cases hlt : k < M.length
    · obtain ⟨g, o, hA, hgl, c0, c1, c2, c3⟩ := HM.out.four k hlt
      subst hA
      rw [← HW.out.cell (p := ⟨g, o + k * 4, none⟩) hgl] at c0
      rw [← HW.out.cell (p := ⟨g, o + k * 4 + 1, none⟩) hgl] at c1
      rw [← HW.out.cell (p := ⟨g, o + k * 4 + 2, none⟩) hgl] at c2
      rw [← HW.out.cell (p := ⟨g, o + k * 4 + 3, none⟩) hgl] at c3
      have hkl : (k : Int) < (M.length : Int) := by omega
      have HB2 := Lib.hid (HW.out.alloc HW.out.size (.cells #[.string M[k].1, .int .i64 M[k].2.1, .int .i64 M[k].2.2.1, .int .i64 M[k].2.2.2] 34))
      have KP := Lib.hid (fun w => rpath_any M[k].1 (HPP.out _ (List.getElem_mem hlt)) w)
      cases hq : pathB M[k].1.data.toList with
      | true =>
        rw [hq] at KP
        have HK2 := Lib.hid (show chk1 M (k + 1) from fun j hj hjk => by
          rcases Nat.lt_succ_iff_lt_or_eq.1 hjk with h | h
          · exact HK.out j hj h
          · subst h; exact hq)
        clear hq HK
        go_wp2_with fail
        refine (KP.out _).mono ?_
        rintro e w2 ⟨rfl, hb2⟩
        have HW2 := Lib.hid (HB2.out.trans (hb2.mono HB2.out.size))
        clear hb2 KP c0 c1 c2 c3
        go_wp2_with fail
        go_roundw
        case rel => exact ⟨k + 1, by go_num, by omega, HK2, HW2⟩
        case measure => simp [intOf]; omega
      | false =>
        rw [hq] at KP
        have HR5 := Lib.hid (show R = 5 by rw [HRR.out]; have e := HMD.out; subst e; exact chk_bad1 hlt hq)
        clear hq HK
        go_wp2_with fail
        refine (KP.out _).mono ?_
        rintro e w2 ⟨rfl, hb2⟩
        have HW2 := Lib.hid (HB1.out.trans ((HB2.out.trans (hb2.mono HB2.out.size)).mono HB1.out.size))
        clear hb2 KP c0 c1 c2 c3
        go_wp2_with fail
        go_ret
        exact ⟨ret_int HR5.out.symm, HW2.out⟩
    · have hkl : ¬ (k : Int) < (M.length : Int) := by omega
      have H1 := Lib.hid (show chk1 M M.length by rw [show M.length = k by omega]; exact HK.out)
      clear HK hlt
      go_wp2_with fail
      go_loopw [7, 31] (fun _ s20 wx => ∃ k : Nat, s20 = .int .i64 (k : Int) ∧ k ≤ M.length ∧ Hid (chk2 M k) ∧ Hid (Below w1.heap.size w1 wx)) (fun _ s20 _ => (M.length - intOf s20).toNat)
      case atStart => exact ⟨0, rfl, by omega, Lib.hid (fun j _ h => by omega), HW⟩
      case round =>
        clear HW
        obtain ⟨k, rfl, hk, HK, HW⟩ := hrel
        by_cases hlt : k < M.length
        · obtain ⟨g, o, hA, hgl, c0, c1, c2, c3⟩ := HM.out.four k hlt
          subst hA
          rw [← HW.out.cell (p := ⟨g, o + k * 4, none⟩) hgl] at c0
          rw [← HW.out.cell (p := ⟨g, o + k * 4 + 1, none⟩) hgl] at c1
          rw [← HW.out.cell (p := ⟨g, o + k * 4 + 2, none⟩) hgl] at c2
          rw [← HW.out.cell (p := ⟨g, o + k * 4 + 3, none⟩) hgl] at c3
          have hkl : (k : Int) < (M.length : Int) := by omega
          have HB2 := Lib.hid (HW.out.alloc HW.out.size (.cells #[.string M[k].1, .int .i64 M[k].2.1, .int .i64 M[k].2.2.1, .int .i64 M[k].2.2.2] 34))
          have KP := Lib.hid (fun w => rvalid_any M[k].2.1 M[k].2.2.1 M[k].2.2.2 w)
          cases hq : okV M[k].2.1 M[k].2.2.1 M[k].2.2.2 with
          | true =>
            rw [hq] at KP
            have HK2 := Lib.hid (show chk2 M (k + 1) from fun j hj hjk => by
              rcases Nat.lt_succ_iff_lt_or_eq.1 hjk with h | h
              · exact HK.out j hj h
              · subst h; exact hq)
            clear hq HK
            go_wp2_with fail
            refine (KP.out _).mono ?_
            rintro e w2 ⟨rfl, hb2⟩
            have HW2 := Lib.hid (HB2.out.trans (hb2.mono HB2.out.size))
            clear hb2 KP c0 c1 c2 c3
            go_wp2_with fail
            go_roundw
            case rel => exact ⟨k + 1, by go_num, by omega, HK2, HW2⟩
            case measure => simp [intOf]; omega
          | false =>
            rw [hq] at KP
            have HR5 := Lib.hid (show R = 11 by rw [HRR.out]; have e := HMD.out; subst e; exact chk_bad2 (chk_ok1 H1.out) hlt hq)
            clear hq HK
            go_wp2_with fail
            refine (KP.out _).mono ?_
            rintro e w2 ⟨rfl, hb2⟩
            have HW2 := Lib.hid (HB1.out.trans ((HB2.out.trans (hb2.mono HB2.out.size)).mono HB1.out.size))
            clear hb2 KP c0 c1 c2 c3
            go_wp2_with fail
            go_ret
            exact ⟨ret_int HR5.out.symm, HW2.out⟩
        · have hkl : ¬ (k : Int) < (M.length : Int) := by omega
          have H2 := Lib.hid (show chk2 M M.length by rw [show M.length = k by omega]; exact HK.out)
          clear HK hlt
          go_wp2_with fail
          go_loopw [8, 9, 11, 42] (fun _ _ _ s42 wy => ∃ k : Nat, s42 = .int .i64 (k : Int) ∧ k ≤ M.length ∧ Hid (noPair M k) ∧ Hid (Below w1.heap.size w1 wy)) (fun _ _ _ s42 _ => (M.length - intOf s42).toNat)
          case atStart => exact ⟨0, rfl, by omega, Lib.hid (fun i j _ _ h => by omega), HW⟩
          case round =>
            clear HW
            obtain ⟨k, rfl, hk, HK, HW⟩ := hrel
            by_cases hlt : k < M.length
            · obtain ⟨hcp1, hcp2, g, hA'⟩ := HCP.out
              subst hA'
              obtain ⟨g1, o, hA, hgl, c0, c1, c2, c3⟩ := HM.out.four k hlt
              simp only [Option.some.injEq, Addr.mk.injEq] at hA
              obtain ⟨rfl, rfl, _⟩ := hA
              rw [← HW.out.cell (p := ⟨g, 0 + k * 4, none⟩) hgl] at c0
              rw [← HW.out.cell (p := ⟨g, 0 + k * 4 + 1, none⟩) hgl] at c1
              rw [← HW.out.cell (p := ⟨g, 0 + k * 4 + 2, none⟩) hgl] at c2
              rw [← HW.out.cell (p := ⟨g, 0 + k * 4 + 3, none⟩) hgl] at c3
              simp only [Nat.zero_add] at c0 c1 c2 c3
              have hkl : (k : Int) < (M.length : Int) := by omega
              have HB2 := Lib.hid (HW.out.alloc HW.out.size (.cells #[.string M[k].1, .int .i64 M[k].2.1, .int .i64 M[k].2.2.1, .int .i64 M[k].2.2.2] 34))
              have HLT := Lib.hid hlt
              have hkc : (k : Int) ≤ (c' : Int) := by have := HLN.out; omega
              go_wp2_with fail
              have HN0 := Lib.hid (C4.new wr M[k] 34)
              have HBX := Lib.hid (show wr.heap.size < (wr.alloc (.cells #[.string M[k].1, .int .i64 M[k].2.1, .int .i64 M[k].2.2.1, .int .i64 M[k].2.2.2] 34)).heap.size by simp)
              clear c0 c1 c2 c3
              generalize wr.alloc (.cells #[.string M[k].1, .int .i64 M[k].2.1, .int .i64 M[k].2.2.1, .int .i64 M[k].2.2.2] 34) = W2 at *
              generalize wr.heap.size = b9 at *
              go_loopw [11, 51] (fun _ s51 wz => ∃ j : Nat, s51 = .int .i64 (j : Int) ∧ j ≤ k ∧ Hid (noOne M k j) ∧ Hid (Below W2.heap.size W2 wz)) (fun _ s51 _ => (k - intOf s51).toNat)
              case atStart => exact ⟨0, rfl, by omega, Lib.hid (fun j _ _ h => by omega), Lib.hid (Below.refl _ _)⟩
              case round =>
                obtain ⟨j, rfl, hj, HJ, HZ⟩ := hrel
                have b0 := (HN0.out.keep HZ.out).1
                by_cases hjk : j < k
                · have hjM : j < M.length := by have := HLT.out; omega
                  obtain ⟨g1, o, hA, _, c0, c1, c2, c3⟩ := HM.out.four j hjM
                  simp only [Option.some.injEq, Addr.mk.injEq] at hA
                  obtain ⟨rfl, rfl, _⟩ := hA
                  rw [← HB2.out.cell (p := ⟨g, 0 + j * 4, none⟩) hgl, ← HZ.out.cell (p := ⟨g, 0 + j * 4, none⟩) (Nat.lt_of_lt_of_le hgl HB2.out.size)] at c0
                  rw [← HB2.out.cell (p := ⟨g, 0 + j * 4 + 1, none⟩) hgl, ← HZ.out.cell (p := ⟨g, 0 + j * 4 + 1, none⟩) (Nat.lt_of_lt_of_le hgl HB2.out.size)] at c1
                  rw [← HB2.out.cell (p := ⟨g, 0 + j * 4 + 2, none⟩) hgl, ← HZ.out.cell (p := ⟨g, 0 + j * 4 + 2, none⟩) (Nat.lt_of_lt_of_le hgl HB2.out.size)] at c2
                  rw [← HB2.out.cell (p := ⟨g, 0 + j * 4 + 3, none⟩) hgl, ← HZ.out.cell (p := ⟨g, 0 + j * 4 + 3, none⟩) (Nat.lt_of_lt_of_le hgl HB2.out.size)] at c3
                  simp only [Nat.zero_add] at c0 c1 c2 c3
                  have hjl : (j : Int) < (k : Int) := by omega
                  have b0' := cell_keep b0 (bal wr (.cells #[.string M[j].1, .int .i64 M[j].2.1, .int .i64 M[j].2.2.1, .int .i64 M[j].2.2.2] 34))
                  have HZ2 := Lib.hid (HZ.out.alloc HZ.out.size (.cells #[.string M[j].1, .int .i64 M[j].2.1, .int .i64 M[j].2.2.1, .int .i64 M[j].2.2.2] 34))
                  by_cases he : M[k].1 = M[j].1
                  · have hd : (M[k].1.toList == M[j].1.toList) = true := by rw [he]; simp
                    have hdp : M[k].1.toList = M[j].1.toList := by rw [he]
                    have HR6 := Lib.hid (show R = 6 by
                      have ht := (twice_iff M).2 ⟨k, j, HLT.out, hjk, he⟩
                      rw [HRR.out]; unfold chkM; rw [← HMD.out]
                      have e := HMD.out
                      have e1 := chk_ok1 (x := x) (l := l) (by rw [← e]; exact H1.out)
                      have e2 := chk_ok2 (x := x) (l := l) (by rw [← e]; exact H2.out)
                      rw [← e] at e1 e2
                      rw [if_neg (by simp [e1]), if_neg (by simp [e2]), if_pos ht])
                    have HE := Lib.hid (HB1.out.trans ((HB2.out.trans (HZ2.out.mono HB2.out.size)).mono HB1.out.size))
                    clear HJ he
                    go_wp2_with fail
                    go_ret
                    exact ⟨ret_int HR6.out.symm, HE.out⟩
                  · have hdp : ¬ M[k].1.toList = M[j].1.toList := by rw [Go.ByteArray.toList_eq, Go.ByteArray.toList_eq]; exact fun h => he (ByteArray.ext (Array.ext' h))
                    have hd : (M[k].1.toList == M[j].1.toList) = false := by simpa using hdp
                    have HJ2 := Lib.hid (show noOne M k (j + 1) from fun i h1 h2 h3 => by
                      rcases Nat.lt_succ_iff_lt_or_eq.1 h3 with h | h
                      · exact HJ.out i h1 h2 h
                      · subst h; exact he)
                    clear HJ he
                    go_wp2_with fail
                    go_roundw
                    case rel => exact ⟨j + 1, by go_num, by omega, HJ2, HZ2⟩
                    case measure => simp [intOf]; omega
                · have hjl : ¬ (j : Int) < (k : Int) := by omega
                  have HK2 := Lib.hid (show noPair M (k + 1) from fun i n hi hn hik => by
                    rcases Nat.lt_succ_iff_lt_or_eq.1 hik with h | h
                    · exact HK.out i n hi hn h
                    · subst h; exact HJ.out n hi (by omega) (by omega))
                  have HWZ := Lib.hid (HB2.out.trans (HZ.out.mono HB2.out.size))
                  clear HJ HK hjk
                  go_wp2_with fail
                  go_roundw
                  case rel => exact ⟨k + 1, by go_num, by have := HLT.out; omega, HK2, HWZ⟩
                  case measure => simp [intOf]; omega
            · have hkl : ¬ (k : Int) < (M.length : Int) := by omega
              have H3 := Lib.hid (show ¬ twiceB M = true from fun h => by
                obtain ⟨i, j, hi, hj, e⟩ := (twice_iff M).1 h
                exact HK.out i j hi hj (by omega) e)
              have HE := Lib.hid (HB1.out.trans (HW.out.mono HB1.out.size))
              have e4 := (RowKit.Below.cell HW.out (p := ⟨w.heap.size, 4, none⟩) (World.block_lt_of_cell? _ _ HC1.out)).trans HC1.out
              have HRS := Lib.hid (show R = if 64 < l.length then 2 else 0 by
                have e := HMD.out
                have e1 := chk_ok1 (x := x) (l := l) (by rw [← e]; exact H1.out)
                have e2 := chk_ok2 (x := x) (l := l) (by rw [← e]; exact H2.out)
                rw [HRR.out]; unfold chkM
                rw [← e] at e1 e2 ⊢
                rw [if_neg (by simp [e1]), if_neg (by simp [e2]), if_neg H3.out])
              clear HK hlt
              by_cases h64 : 64 < l.length
              · have h64i : (64 : Int) < (l.length : Int) := by omega
                have HR2 := Lib.hid (HRS.out.trans (if_pos h64))
                clear h64
                go_wp2_with fail
                go_ret
                exact ⟨ret_int HR2.out.symm, HE.out⟩
              · have h64i : ¬ (64 : Int) < (l.length : Int) := by omega
                have HR2 := Lib.hid (HRS.out.trans (if_neg h64))
                clear h64
                go_wp2_with fail
                go_ret
                exact ⟨ret_int HR2.out.symm, HE.out⟩
end Go.Proofs.YthlcdimofagmfaaGreatDoor
