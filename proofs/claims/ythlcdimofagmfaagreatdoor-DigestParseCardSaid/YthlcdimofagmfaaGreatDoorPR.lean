/-
  The specification's Parse of every text: its walk. Texts of at most 1000000 bytes.
-/
import Derived.Test.YthlcdimofagmfaaGreatDoorPW
import Derived.Test.YthlcdimofagmfaaGreatDoorQA
namespace Go.Proofs.YthlcdimofagmfaaGreatDoor.Dg
open Go.RowKit Go.Proofs
set_option linter.unusedSimpArgs false
set_option linter.unnecessarySimpa false
set_option linter.unusedVariables false
def rhexN (n : Nat) : Int := if 48 ≤ n ∧ n ≤ 57 then (n : Int) - 48 else if 97 ≤ n ∧ n ≤ 102 then (n : Int) - 87 else if 65 ≤ n ∧ n ≤ 70 then (n : Int) - 55 else -1
def digB (n : Nat) : Bool := decide (48 ≤ n) && decide (n ≤ 57)
set_option maxHeartbeats 1000000 in
theorem rdigit_any (n : Nat) (w : World) : Calls Tryz.prog 50 #[.int .u8 (n : Int)] w fun e w' => e = .returned (.bool (digB n)) ∧ w = w' := by
  unfold digB
  by_cases h1 : 48 ≤ n
  · go_enter Tryz.func50, Tryz.ntmps50
    go_wp2
    go_ret
    exact ⟨Qt.ret_bool (by simp [h1] <;> omega), rfl⟩
  · go_enter Tryz.func50, Tryz.ntmps50
    go_wp2
    go_ret
    exact ⟨Qt.ret_bool (by simp [h1] <;> omega), rfl⟩
theorem rdigit_at (n : Nat) (v : Bool) (h : digB n = v) (w : World) : Calls Tryz.prog 50 #[.int .u8 (n : Int)] w fun e w' => e = .returned (.bool v) ∧ w = w' := by
  subst h; exact rdigit_any n w
set_option maxHeartbeats 1000000 in
theorem rhexN_any (n : Nat) (hn : n < 256) (w : World) : Calls Tryz.prog 30 #[.int .u8 (n : Int)] w fun e w' => e = .returned (.int .i64 (rhexN n)) ∧ w = w' := by
  have hr : rhexN n = rhexN n := rfl
  conv at hr => lhs; unfold rhexN
  have HR := Lib.hid hr
  clear hr
  rw [← HR.out]
  clear HR
  cases hd : digB n with
  | true =>
    have hh : 48 ≤ n ∧ n ≤ 57 := by simpa [digB] using hd
    have HD := Lib.hid hd
    clear hd
    go_enter Tryz.func30, Tryz.ntmps30
    go_wp2_with fail
    refine (rdigit_at n true HD.out _).mono ?_
    rintro e w1 ⟨rfl, rfl⟩
    go_wp2
    go_ret
    exact ⟨Qt.ret_int (by first | rfl | omega | (simp [IntKind.wrap, IntKind.bits, IntKind.signed]; omega) | (simp [*]; done) | ((repeat' split) <;> omega)), rfl⟩
  | false =>
    have hh : ¬ (48 ≤ n ∧ n ≤ 57) := by
      intro h; rw [show digB n = true by simp [digB, h]] at hd; cases hd
    have HD := Lib.hid hd
    have HH := Lib.hid hh
    clear hd hh
    rw [if_neg HH.out]
    by_cases h3 : 97 ≤ n
    · by_cases h4 : n ≤ 102
      · go_enter Tryz.func30, Tryz.ntmps30
        go_wp2_with fail
        refine (rdigit_at n false HD.out _).mono ?_
        rintro e w1 ⟨rfl, rfl⟩
        go_wp2
        go_ret
        exact ⟨Qt.ret_int (by first | rfl | omega | (simp [IntKind.wrap, IntKind.bits, IntKind.signed]; omega) | (simp [*]; done) | ((repeat' split) <;> omega)), rfl⟩
      · go_enter Tryz.func30, Tryz.ntmps30
        go_wp2_with fail
        refine (rdigit_at n false HD.out _).mono ?_
        rintro e w1 ⟨rfl, rfl⟩
        go_wp2
        go_ret
        exact ⟨Qt.ret_int (by first | rfl | omega | (simp [IntKind.wrap, IntKind.bits, IntKind.signed]; omega) | (simp [*]; done) | ((repeat' split) <;> omega)), rfl⟩
    · by_cases h5 : 65 ≤ n
      · by_cases h6 : n ≤ 70
        · go_enter Tryz.func30, Tryz.ntmps30
          go_wp2_with fail
          refine (rdigit_at n false HD.out _).mono ?_
          rintro e w1 ⟨rfl, rfl⟩
          go_wp2
          go_ret
          exact ⟨Qt.ret_int (by first | rfl | omega | (simp [IntKind.wrap, IntKind.bits, IntKind.signed]; omega) | (simp [*]; done) | ((repeat' split) <;> omega)), rfl⟩
        · go_enter Tryz.func30, Tryz.ntmps30
          go_wp2_with fail
          refine (rdigit_at n false HD.out _).mono ?_
          rintro e w1 ⟨rfl, rfl⟩
          go_wp2
          go_ret
          exact ⟨Qt.ret_int (by first | rfl | omega | (simp [IntKind.wrap, IntKind.bits, IntKind.signed]; omega) | (simp [*]; done) | ((repeat' split) <;> omega)), rfl⟩
      · go_enter Tryz.func30, Tryz.ntmps30
        go_wp2_with fail
        refine (rdigit_at n false HD.out _).mono ?_
        rintro e w1 ⟨rfl, rfl⟩
        go_wp2
        go_ret
        exact ⟨Qt.ret_int (by first | rfl | omega | (simp [IntKind.wrap, IntKind.bits, IntKind.signed]; omega) | (simp [*]; done) | ((repeat' split) <;> omega)), rfl⟩
theorem rhex_any (c : UInt8) (w : World) : Calls Tryz.prog 30 #[.int .u8 (c.toNat : Int)] w fun e w' => e = .returned (.int .i64 (rhex c)) ∧ w = w' := rhexN_any c.toNat c.toNat_lt w
theorem mid_len (L : List UInt8) : (midL L).length = min 16 (L.length - 2) := by unfold midL; rw [List.length_take, List.length_drop]
theorem mid_at {s : ByteArray} {j : Nat} (h2 : 2 ≤ j) (hj : j < s.size) (h18 : j < 18) : (midL s.data.toList).take (j - 1) = (midL s.data.toList).take (j - 2) ++ [s[j]] := by
  have hlen : s.data.toList.length = s.size := by simp
  have hl : j - 2 < (midL s.data.toList).length := by rw [mid_len, hlen]; omega
  rw [show j - 1 = j - 2 + 1 by omega, (List.take_append_getElem hl).symm]
  have e2 : (midL s.data.toList)[j - 2]? = some s[j] := by
    unfold midL
    rw [List.getElem?_take_of_lt (by omega), List.getElem?_drop, show 2 + (j - 2) = j by omega, List.getElem?_eq_getElem (by omega)]
    simp; rfl
  rw [List.getElem?_eq_getElem hl] at e2
  rw [Option.some.inj e2]
theorem valR_snoc (l : List UInt8) (c : UInt8) : valR 0 (l ++ [c]) = 16 * valR 0 l + (rhex c).toNat := by
  unfold valR; rw [List.foldl_append]; rfl
set_option maxRecDepth 100000 in
set_option maxHeartbeats 4000000 in
theorem rparse_any (s : ByteArray) (hs : s.size ≤ 1000000) (w : World) :
    Calls Tryz.prog 17 #[.string s] w fun e w' => e = .returned (.tuple #[.int .u64 (numP s.data.toList : Nat), .int .i64 (errP s.data.toList)]) ∧ Below w.heap.size w w' := by
  have hlen : s.data.toList.length = s.size := by simp
  obtain ⟨ml, hml⟩ : ∃ n, n = (midL s.data.toList).length := ⟨_, rfl⟩
  have hml2 : ml = min 16 (s.size - 2) := by rw [hml, mid_len, hlen]
  have HF := Lib.hid (show ∀ c ∈ midL s.data.toList, rhex c = -1 → numP s.data.toList = 0 ∧ errP s.data.toList = 8 from fun c h hc => by
    have hno := spec_fail h hc
    unfold numP errP; rw [if_neg (by simp [hno]), if_neg (by simp [hno])]; exact ⟨rfl, rfl⟩)
  have HA := Lib.hid (fun j (h2 : 2 ≤ j) (hj : j < s.size) (h18 : j < 18) => mid_at (s := s) h2 hj h18)
  have HS := Lib.hid (fun h => spec_same (L := s.data.toList) h)
  have HO := Lib.hid (fun h => spec_other (L := s.data.toList) h)
  have HLT := Lib.hid (valR_lt (midL s.data.toList))
  have HQ := Lib.hid (show ∀ n, txtL n 16 = s.data.toList ↔ txtH n = s from fun n => ⟨fun h => by unfold txtH; rw [h], fun h => by rw [← h]; simp [txtH]⟩)
  generalize numP s.data.toList = z at *
  generalize errP s.data.toList = q at *
  clear hlen
  go_enter Tryz.func17, Tryz.ntmps17
  go_wp2_with fail
  go_loop [4, 5, 6] (fun s4 s5 _ => ∃ j : Nat, s5 = .int .i64 (j : Int) ∧ 2 ≤ j ∧ j ≤ 18 ∧ (2 < j → j ≤ s.size) ∧ s4 = .int .u64 ((valR 0 ((midL s.data.toList).take (j - 2)) : Nat) : Int)) (fun _ s5 _ => (18 - intOf s5).toNat)
  case atStart => exact ⟨2, rfl, by omega, by omega, fun h => by omega, by simp [valR]⟩
  case round =>
    obtain ⟨j, rfl, hj2, hj18, hjs, rfl⟩ := hrel
    by_cases hlt : j < s.size ∧ j < 18
    · obtain ⟨hl1, hl2⟩ := hlt
      have hi1 : (j : Int) < (s.size : Int) := by omega
      have hi2 : (j : Int) < 18 := by omega
      have KI := Lib.hid (fun w => rhex_any (s[j]'hl1) w)
      have HT := Lib.hid (HA.out j hj2 hl1 hl2)
      have HM := Lib.hid (show s[j] ∈ midL s.data.toList from List.mem_of_mem_take (i := j - 1) (by rw [HT.out]; simp))
      have hv := valR_lt ((midL s.data.toList).take (j - 2))
      have hv2 : ((midL s.data.toList).take (j - 2)).length ≤ j - 2 := by rw [List.length_take]; omega
      have hv3 : valR 0 ((midL s.data.toList).take (j - 2)) < 16 ^ 15 := Nat.lt_of_lt_of_le hv (Nat.pow_le_pow_right (by omega) (by omega))
      have HV := Lib.hid (show valR 0 ((midL s.data.toList).take (j - 1)) = 16 * valR 0 ((midL s.data.toList).take (j - 2)) + (rhex s[j]).toNat by rw [HT.out, valR_snoc])
      generalize valR 0 ((midL s.data.toList).take (j - 2)) = x at *
      rcases rhex_cases s[j] with e | ⟨e1, e2⟩
      · obtain ⟨rfl, rfl⟩ := HF.out _ HM.out e
        rw [e] at KI
        clear e hv hv2 hv3 HF HS HO
        go_wp2_with fail
        refine (KI.out _).mono ?_
        rintro e w3 ⟨rfl, rfl⟩
        go_wp2_with fail
        refine bodyPost_ret (v := .tuple #[.int .u64 0, .int .i64 8]) (by simp [results, Tryz.results17, go_sem]) rfl ⟨rfl, Below.refl _ _⟩
      · obtain ⟨d, hd⟩ : ∃ d : Nat, rhex s[j] = (d : Int) := ⟨(rhex s[j]).toNat, by omega⟩
        rw [hd] at KI HV
        have hd16 : d < 16 := by omega
        have hx : x < 1152921504606846976 := by omega
        clear hd e1 e2 hv hv2 hv3
        go_wp2_with fail
        refine (KI.out _).mono ?_
        rintro e w3 ⟨rfl, rfl⟩
        go_wp2_with fail
        go_round
        case rel => exact ⟨j + 1, by go_num, by omega, by omega, fun _ => by omega, by rw [show j + 1 - 2 = j - 1 by omega, HV.out]; rfl⟩
        case measure => simp [intOf]; omega
    · have hg : (decide ((j : Int) < (s.size : Int)) && decide ((j : Int) < 18)) = false := by
        rw [Bool.eq_false_iff]; intro h
        simp only [Bool.and_eq_true, decide_eq_true_eq] at h
        exact hlt ⟨by omega, by omega⟩
      have hj : (midL s.data.toList).take (j - 2) = midL s.data.toList := List.take_of_length_le (by omega)
      rw [hj]
      have hvl : valR 0 (midL s.data.toList) < 18446744073709551616 := by
        have : (16 : Nat) ^ (midL s.data.toList).length ≤ 16 ^ 16 := Nat.pow_le_pow_right (by omega) (by omega)
        have := HLT.out
        omega
      have KT := Lib.hid (fun w => rtext_any (valR 0 (midL s.data.toList)) hvl w)
      have HQ1 := Lib.hid (HQ.out (valR 0 (midL s.data.toList)))
      generalize valR 0 (midL s.data.toList) = x at *
      by_cases hj1 : j < s.size
      · have hi1 : (j : Int) < (s.size : Int) := by omega
        have hi2 : ¬ (j : Int) < 18 := by omega
        clear hg hvl hlt
        by_cases he : txtH x = s
        · obtain ⟨hz1, hz2⟩ := HS.out (HQ1.out.2 he)
          rw [he] at KT
          clear he HQ HQ1 HF HO HS HA HLT hj
          subst hz1 hz2
          go_wp2_with fail
          refine (KT.out _).mono ?_
          rintro e w3 ⟨rfl, rfl⟩
          go_wp2_with fail
          refine bodyPost_ret (v := .tuple #[.int .u64 (z : Int), .int .i64 0]) (by simp [results, Tryz.results17, go_sem]) rfl ⟨rfl, Below.refl _ _⟩
        · obtain ⟨hz1, hz2⟩ := HO.out (fun h => he (HQ1.out.1 h))
          have hdp : ¬ (txtH x).toList = s.toList := by rw [Go.ByteArray.toList_eq, Go.ByteArray.toList_eq]; exact fun h => he (ByteArray.ext (Array.ext' h))
          have hd : ((txtH x).toList == s.toList) = false := by simpa using hdp
          generalize txtH x = T at *
          clear he HQ HQ1 HF HO HS HA HLT hj
          subst hz1 hz2
          go_wp2_with fail
          refine (KT.out _).mono ?_
          rintro e w3 ⟨rfl, rfl⟩
          go_wp2_with fail
          refine bodyPost_ret (v := .tuple #[.int .u64 0, .int .i64 8]) (by simp [results, Tryz.results17, go_sem]) rfl ⟨rfl, Below.refl _ _⟩
      · have hi1 : ¬ (j : Int) < (s.size : Int) := by omega
        clear hg hvl hlt
        by_cases he : txtH x = s
        · obtain ⟨hz1, hz2⟩ := HS.out (HQ1.out.2 he)
          rw [he] at KT
          clear he HQ HQ1 HF HO HS HA HLT hj
          subst hz1 hz2
          go_wp2_with fail
          refine (KT.out _).mono ?_
          rintro e w3 ⟨rfl, rfl⟩
          go_wp2_with fail
          refine bodyPost_ret (v := .tuple #[.int .u64 (z : Int), .int .i64 0]) (by simp [results, Tryz.results17, go_sem]) rfl ⟨rfl, Below.refl _ _⟩
        · obtain ⟨hz1, hz2⟩ := HO.out (fun h => he (HQ1.out.1 h))
          have hdp : ¬ (txtH x).toList = s.toList := by rw [Go.ByteArray.toList_eq, Go.ByteArray.toList_eq]; exact fun h => he (ByteArray.ext (Array.ext' h))
          have hd : ((txtH x).toList == s.toList) = false := by simpa using hdp
          generalize txtH x = T at *
          clear he HQ HQ1 HF HO HS HA HLT hj
          subst hz1 hz2
          go_wp2_with fail
          refine (KT.out _).mono ?_
          rintro e w3 ⟨rfl, rfl⟩
          go_wp2_with fail
          refine bodyPost_ret (v := .tuple #[.int .u64 0, .int .i64 8]) (by simp [results, Tryz.results17, go_sem]) rfl ⟨rfl, Below.refl _ _⟩
end Go.Proofs.YthlcdimofagmfaaGreatDoor.Dg
