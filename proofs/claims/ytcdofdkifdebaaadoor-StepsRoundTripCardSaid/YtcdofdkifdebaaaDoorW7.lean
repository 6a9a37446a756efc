/-
  Parse undoes Text: the law StepsRoundTrip. Conditions: the slices read as lists, and the table of powers of ten holds what it holds.
-/
import Derived.Test.YtcdofdkifdebaaaDoorM3
import Derived.Test.YtcdofdkifdebaaaDoorW5
namespace Go.Proofs.YtcdofdkifdebaaaDoor
open Go.RowKit
set_option linter.unusedSimpArgs false
set_option linter.unusedVariables false
theorem labelV_first (a : ByteArray) (h : a.size ≠ 0) : chl (labelV a).data.toList 0 ≠ 46 ∧ chl (labelV a).data.toList 0 ≠ 91 := by
  unfold labelV
  cases hid : identB a with
  | true =>
    rw [if_pos rfl]
    obtain ⟨h32, ht⟩ := ident_facts hid
    show ch a 0 ≠ 46 ∧ ch a 0 ≠ 91
    by_cases hsign : ch a 0 = 35 ∨ ch a 0 = 95
    · omega
    · have hT : idT a = a := by unfold idT; rw [if_neg (fun h => hsign h.2)]
      rw [hT] at ht
      have hl : letB (ch a 0) = true := (tail_facts ht).1
      constructor
      · intro e; rw [e] at hl; exact absurd hl (by decide)
      · intro e; rw [e] at hl; exact absurd hl (by decide)
  | false => rw [if_neg (by simp)]; exact ⟨by show (34 : Nat) ≠ 46; omega, by show (34 : Nat) ≠ 91; omega⟩
theorem core_first (x : St) (l : List UInt8) : chl (coreT x ++ l) 0 ≠ 46 ∧ (chl (coreT x ++ l) 0 == 91) = decide (x.1.size = 0) := by
  unfold coreT
  by_cases h : x.1.size = 0
  · rw [if_pos h, decide_eq_true h]; exact ⟨by show (91 : Nat) ≠ 46; omega, rfl⟩
  · rw [if_neg h, decide_eq_false h]
    have hf := labelV_first x.1 h
    have hp : 0 < (labelV x.1).data.toList.length := by
      rcases Nat.eq_zero_or_pos (labelV x.1).data.toList.length with h0 | h0
      · exfalso
        unfold labelV at h0
        split at h0
        · rw [← size_l] at h0; exact h h0
        · simp [quoteL] at h0
      · exact h0
    rw [chl_lt _ _ _ hp]
    exact ⟨hf.1, beq_eq_false_iff_ne.2 hf.2⟩
theorem core_len {x : St} (hv : vldX x = true) (hx : x.1.size ≤ 60) : (coreT x).length ≤ 300 := by
  unfold coreT
  by_cases h : x.1.size = 0
  · rw [if_pos h]
    have hi : 0 ≤ x.2 ∧ x.2 ≤ 1000000 := by
      rcases Decidable.em (0 ≤ x.2 ∧ x.2 ≤ 1000000) with h' | h'
      · exact h'
      · rw [vld_4 h h'] at hv; cases hv
    have := istr_size x.2 hi.1 hi.2
    rw [size_l] at this
    have e : (istr x.2).data.toList.length = (Lib.itoa x.2).length := by simp [istr]
    simp only [List.length_append, List.length_cons, List.length_nil]
    omega
  · rw [if_neg h]
    have := labelV_size x.1
    rw [← size_l]; omega
theorem tail_len : ∀ t : List St, (∀ y ∈ t, vldX y = true ∧ y.1.size ≤ 60) → (tailT t).length ≤ 301 * t.length ∧ t.length ≤ (tailT t).length
  | [], _ => by simp [tailT]
  | y :: t, h => by
    have hy := h y (by simp)
    have hc := core_len hy.1 hy.2
    have ih := tail_len t (fun z hz => h z (by simp [hz]))
    have e : tailT (y :: t) = (stT false y).data.toList ++ tailT t := by simp [tailT]
    have hs : 1 ≤ ((stT false y).data.toList).length ∧ ((stT false y).data.toList).length ≤ 301 := by
      rw [stF_core]
      split
      · rename_i h0
        refine ⟨?_, by omega⟩
        unfold coreT; rw [if_pos h0]; simp
      · simp; omega
    rw [e, List.length_append, List.length_cons]
    omega
theorem par_text {xs : List St} (hv : allV xs = true) (h20 : xs.length ≤ 20) (h60 : ∀ x ∈ xs, x.1.size ≤ 60) : parS ⟨(textS xs).toArray⟩ = (xs, 0, 0) := by
  cases xs with
  | nil => decide +kernel
  | cons x t =>
    have hall : ∀ y ∈ x :: t, vldX y = true ∧ y.1.size ≤ 60 := fun y hy => ⟨List.all_eq_true.1 hv y hy, h60 y hy⟩
    have hT : textS (x :: t) = coreT x ++ tailT t := by
      unfold textS
      rw [if_neg (by rw [hv]; simp), if_neg (by simp)]
      show (stT true x).data.toList ++ tailT t = _
      rw [stT_core]
    rw [hT]
    generalize hs : (⟨(coreT x ++ tailT t).toArray⟩ : ByteArray) = s
    have hl : s.data.toList = [] ++ (coreT x ++ tailT t) := by rw [← hs]; simp
    have hsz : s.size = (coreT x).length + (tailT t).length := by rw [size_l, hl]; simp
    have hx := hall x (by simp)
    have hc := core_len hx.1 hx.2
    have ht := tail_len t (fun y hy => hall y (by simp [hy]))
    have hlt : t.length ≤ 19 := by simpa using h20
    obtain ⟨f46, f91⟩ := core_first x (tailT t)
    have e0 : ch s 0 = chl (coreT x ++ tailT t) 0 := by show chl s.data.toList 0 = _; rw [hl]; rfl
    have n46 : ch s 0 ≠ 46 := by rw [e0]; exact f46
    unfold parS
    rw [if_neg (by omega), if_neg (by intro e; rw [e] at n46; exact n46 rfl), if_neg n46, e0, f91]
    exact path_text s t x [] [] (s.size + 1) (fun y hy => ⟨(hall y hy).1, by have := (hall y hy).2; omega⟩) hl (by omega)
theorem par_bad {xs : List St} (hv : allV xs = false) : parS ⟨(textS xs).toArray⟩ = ([], 8, 0) ∧ textS xs = [63] := by
  have e : textS xs = [63] := by unfold textS; rw [if_pos hv]
  rw [e]; exact ⟨by decide +kernel, rfl⟩
theorem text_same {xs ys : List St} (hx : allV xs = true) (hy : allV ys = true) (hx20 : xs.length ≤ 20) (hy20 : ys.length ≤ 20) (hx60 : ∀ x ∈ xs, x.1.size ≤ 60) (hy60 : ∀ x ∈ ys, x.1.size ≤ 60) :
    ((⟨(textS xs).toArray⟩ : ByteArray).toList == (⟨(textS ys).toArray⟩ : ByteArray).toList) = (cmpL xs ys == 0) := by
  rw [Go.ByteArray.toList_eq, Go.ByteArray.toList_eq]
  by_cases h : xs = ys
  · subst h; rw [(cmpL_0 xs xs).2 rfl]; simp
  · have hn : cmpL xs ys ≠ 0 := fun e => h ((cmpL_0 xs ys).1 e)
    rw [beq_eq_false_iff_ne.2 hn]
    refine beq_eq_false_iff_ne.2 (fun e => h ?_)
    have h1 := par_text hx hx20 hx60
    have h2 := par_text hy hy20 hy60
    have e' : textS xs = textS ys := by simpa using e
    rw [e', h2] at h1
    exact (congrArg Prod.fst h1).symm
set_option maxRecDepth 100000 in
set_option maxHeartbeats 2000000 in
theorem law_roundtrip (A A' : Option Addr) (c c' : Nat) (xs ys : List St) (hx : xs.length ≤ 9223372036854775807) (hy : ys.length ≤ 9223372036854775807) (w : World) (h : Rd w w.heap.size A xs) (h' : Rd w w.heap.size A' ys) (hT : P10 w) :
    Calls Tryd.prog 6 #[.slice A xs.length c, .slice A' ys.length c'] w fun e w' => e = .returned (.bool true) ∧ Below w.heap.size w w' := by
  have CE : Hid (∀ W, Below w.heap.size w W → Calls Tryd.prog 12 #[] W fun e w' => e = .returned (.bool true) ∧ Below W.heap.size W w') := Lib.hid fun W h => example_any W (hT.below h)
  have CA := Lib.hid (small_any A c xs hx w h)
  have CB := Lib.hid (small_any A' c' ys hy w h')
  have B0 := Lib.hid (Below.refl w.heap.size w)
  cases hs1 : smlB xs with
  | false =>
    rw [hs1] at CA
    clear h h' hT hs1
    go_enter Tryd.func6, Tryd.ntmps6
    go_wp2_with fail
    refine CA.out.mono ?_
    rintro e w1 ⟨rfl, rfl⟩
    go_wp2_with fail
    refine (CE.out _ B0.out).mono ?_
    rintro e w9 ⟨rfl, hb9⟩
    go_wp2_with fail
    go_ret
    exact ⟨rfl, hb9⟩
  | true =>
  rw [hs1] at CA
  cases hs2 : smlB ys with
  | false =>
    rw [hs2] at CB
    clear h h' hT hs1 hs2
    go_enter Tryd.func6, Tryd.ntmps6
    go_wp2_with fail
    refine CA.out.mono ?_
    rintro e w1 ⟨rfl, rfl⟩
    go_wp2_with fail
    refine CB.out.mono ?_
    rintro e w1 ⟨rfl, rfl⟩
    go_wp2_with fail
    refine (CE.out _ B0.out).mono ?_
    rintro e w9 ⟨rfl, hb9⟩
    go_wp2_with fail
    go_ret
    exact ⟨rfl, hb9⟩
  | true =>
  rw [hs2] at CB
  obtain ⟨hx20, hx60⟩ := sml_facts hs1
  obtain ⟨hy20, hy60⟩ := sml_facts hs2
  have CT : Hid (∀ W, Below w.heap.size w W → Calls Tryd.prog 15 #[.slice A xs.length c] W fun e w' => e = .returned (.string ⟨(textS xs).toArray⟩) ∧ Below W.heap.size W w') := Lib.hid fun W k => text_any A c xs (by omega) (fun x hx => by have := hx60 x hx; omega) W (rd_keep h k) (hT.below k)
  have CU : Hid (∀ W, Below w.heap.size w W → Calls Tryd.prog 15 #[.slice A' ys.length c'] W fun e w' => e = .returned (.string ⟨(textS ys).toArray⟩) ∧ Below W.heap.size W w') := Lib.hid fun W k => text_any A' c' ys (by omega) (fun x hx => by have := hy60 x hx; omega) W (rd_keep h' k) (hT.below k)
  have CV : Hid (∀ W, Below w.heap.size w W → Calls Tryd.prog 13 #[.slice A xs.length c] W fun e w' => e = .returned (.bool (allV xs)) ∧ Below W.heap.size W w') := Lib.hid fun W k => valid_any A c xs (by omega) W (rd_keep h k)
  have CW : Hid (∀ W, Below w.heap.size w W → Calls Tryd.prog 13 #[.slice A' ys.length c'] W fun e w' => e = .returned (.bool (allV ys)) ∧ Below W.heap.size W w') := Lib.hid fun W k => valid_any A' c' ys (by omega) W (rd_keep h' k)
  have CS : Hid (∀ W, Below w.heap.size w W → Calls Tryd.prog 19 #[.slice A xs.length c, .slice A' ys.length c'] W fun e w' => e = .returned (.bool (cmpL xs ys == 0)) ∧ Below W.heap.size W w') := Lib.hid fun W k => same_any A A' c c' xs ys (by omega) (by omega) W (rd_keep h k) (rd_keep h' k)
  have CP := Lib.hid (parse_any ⟨(textS xs).toArray⟩)
  have HA := Lib.hid h
  cases hv1 : allV xs with
  | false =>
    rw [hv1] at CV
    obtain ⟨e1, e2⟩ := par_bad hv1
    rw [e1] at CP
    rw [e2] at CP CT
    have q8 : ∀ w, (Op.equalIn 10000 28 (.agg #[.int .i64 8, .int .i64 0]) (.agg #[.int .i64 8, .int .i64 0])).run Tryd.prog w = .ok true w := fun w => by rw [eqF]; simp
    clear h h' hT hs1 hs2 hx60 hy60 hv1 e1 e2 HA CU CW CS
    go_enter Tryd.func6, Tryd.ntmps6
    go_wp2_with fail
    refine CA.out.mono ?_
    rintro e w1 ⟨rfl, rfl⟩
    go_wp2_with fail
    refine CB.out.mono ?_
    rintro e w1 ⟨rfl, rfl⟩
    go_wp2_with fail
    refine (CT.out _ B0.out).mono ?_
    rintro e w1 ⟨rfl, hb1⟩
    have B1 := Lib.hid (B0.out.trans (hb1.mono B0.out.size))
    clear hb1 B0
    go_wp2_with fail
    refine (CP.out _).mono ?_
    rintro e w2 ⟨v2, rfl, hown, hb2⟩
    obtain ⟨A2, k2, rfl, _, _⟩ := rd_own hown
    have B2 := Lib.hid ((B1.out.trans (hb2.mono B1.out.size)).alloc (Nat.le_trans B1.out.size hb2.size) (.cells #[.int .i64 8, .int .i64 0] 28))
    have F2 := Lib.hid (World.alloc_heap_new w2 (.cells #[.int .i64 8, .int .i64 0] 28))
    clear hown hb2 B1
    go_wp2_with fail
    generalize w2.alloc (.cells #[.int .i64 8, .int .i64 0] 28) = x2 at *
    refine (CV.out _ B2.out).mono ?_
    rintro e w3 ⟨rfl, hb3⟩
    have B3 := Lib.hid (B2.out.trans (hb3.mono B2.out.size))
    obtain ⟨z1, c10, c11⟩ := fcells (blkK F2.out hb3)
    clear hb3 B2 F2
    go_wp2_with fail
    refine (CE.out _ B3.out).mono ?_
    rintro e w4 ⟨rfl, hb4⟩
    have B4 := Lib.hid (B3.out.trans (hb4.mono B3.out.size))
    clear hb4
    go_wp2_with fail
    go_ret
    exact ⟨rfl, B4.out⟩
  | true =>
    rw [hv1] at CV
    rw [par_text hv1 hx20 hx60] at CP
    have q0 : ∀ w, (Op.equalIn 10000 28 (.agg #[.int .i64 0, .int .i64 0]) (.agg #[.int .i64 0, .int .i64 0])).run Tryd.prog w = .ok true w := fun w => by rw [eqF]; simp
    have HSM : Hid (allV ys = true → ((⟨(textS xs).toArray⟩ : ByteArray).toList == (⟨(textS ys).toArray⟩ : ByteArray).toList) = (cmpL xs ys == 0)) := Lib.hid fun hv => text_same hv1 hv hx20 hy20 hx60 hy60
    have hself : (cmpL xs xs == 0) = true := by rw [(cmpL_0 xs xs).2 rfl]; rfl
    have HSELF := Lib.hid hself
    clear h h' hT hs1 hs2 hx60 hy60 hv1 hself
    generalize (⟨(textS xs).toArray⟩ : ByteArray) = S at *
    generalize (⟨(textS ys).toArray⟩ : ByteArray) = T at *
    generalize (cmpL xs ys == 0) = Q at *
    cases hv2 : allV ys with
    | false =>
      rw [hv2] at CW
      clear hv2 HSM CU CS
      go_enter Tryd.func6, Tryd.ntmps6
      go_wp2_with fail
      refine CA.out.mono ?_
      rintro e w1 ⟨rfl, rfl⟩
      go_wp2_with fail
      refine CB.out.mono ?_
      rintro e w1 ⟨rfl, rfl⟩
      go_wp2_with fail
      refine (CT.out _ B0.out).mono ?_
      rintro e w1 ⟨rfl, hb1⟩
      have B1 := Lib.hid (B0.out.trans (hb1.mono B0.out.size))
      clear hb1 B0
      go_wp2_with fail
      refine (CP.out _).mono ?_
      rintro e w2 ⟨v2, rfl, hown, hb2⟩
      obtain ⟨A2, k2, rfl, _, rd2⟩ := rd_own hown
      have B2 := Lib.hid ((B1.out.trans (hb2.mono B1.out.size)).alloc (Nat.le_trans B1.out.size hb2.size) (.cells #[.int .i64 0, .int .i64 0] 28))
      have F2 := Lib.hid (World.alloc_heap_new w2 (.cells #[.int .i64 0, .int .i64 0] 28))
      have R2 := Lib.hid (rd_keep rd2 ((Below.refl _ _).alloc (Nat.le_refl _) (.cells #[.int .i64 0, .int .i64 0] 28)))
      clear hown hb2 B1 rd2
      go_wp2_with fail
      generalize w2.alloc (.cells #[.int .i64 0, .int .i64 0] 28) = x2 at *
      refine (CV.out _ B2.out).mono ?_
      rintro e w3 ⟨rfl, hb3⟩
      have B3 := Lib.hid (B2.out.trans (hb3.mono B2.out.size))
      have CQ := Lib.hid (same_any A2 A k2 c xs xs (by omega) (by omega) w3 (rd_keep R2.out hb3) (rd_keep HA.out B3.out))
      rw [HSELF.out] at CQ
      obtain ⟨z1, c10, c11⟩ := fcells (blkK F2.out hb3)
      clear hb3 B2 F2 R2
      go_wp2_with fail
      refine CQ.out.mono ?_
      rintro e w4 ⟨rfl, hb4⟩
      have B4 := Lib.hid (B3.out.trans (hb4.mono B3.out.size))
      clear hb4 B3 CQ z1 c10 c11
      go_wp2_with fail
      refine (CW.out _ B4.out).mono ?_
      rintro e w5 ⟨rfl, hb5⟩
      have B5 := Lib.hid (B4.out.trans (hb5.mono B4.out.size))
      clear hb5 B4
      go_wp2_with fail
      refine (CE.out _ B5.out).mono ?_
      rintro e w9 ⟨rfl, hb9⟩
      have B9 := Lib.hid (B5.out.trans (hb9.mono B5.out.size))
      clear hb9
      go_wp2_with fail
      go_ret
      exact ⟨rfl, B9.out⟩
    | true =>
      rw [hv2] at CW
      have HSQ := Lib.hid (HSM.out hv2)
      clear hv2 HSM
      go_enter Tryd.func6, Tryd.ntmps6
      go_wp2_with fail
      refine CA.out.mono ?_
      rintro e w1 ⟨rfl, rfl⟩
      go_wp2_with fail
      refine CB.out.mono ?_
      rintro e w1 ⟨rfl, rfl⟩
      go_wp2_with fail
      refine (CT.out _ B0.out).mono ?_
      rintro e w1 ⟨rfl, hb1⟩
      have B1 := Lib.hid (B0.out.trans (hb1.mono B0.out.size))
      clear hb1 B0
      go_wp2_with fail
      refine (CP.out _).mono ?_
      rintro e w2 ⟨v2, rfl, hown, hb2⟩
      obtain ⟨A2, k2, rfl, _, rd2⟩ := rd_own hown
      have B2 := Lib.hid ((B1.out.trans (hb2.mono B1.out.size)).alloc (Nat.le_trans B1.out.size hb2.size) (.cells #[.int .i64 0, .int .i64 0] 28))
      have F2 := Lib.hid (World.alloc_heap_new w2 (.cells #[.int .i64 0, .int .i64 0] 28))
      have R2 := Lib.hid (rd_keep rd2 ((Below.refl _ _).alloc (Nat.le_refl _) (.cells #[.int .i64 0, .int .i64 0] 28)))
      clear hown hb2 B1 rd2
      go_wp2_with fail
      generalize w2.alloc (.cells #[.int .i64 0, .int .i64 0] 28) = x2 at *
      refine (CV.out _ B2.out).mono ?_
      rintro e w3 ⟨rfl, hb3⟩
      have B3 := Lib.hid (B2.out.trans (hb3.mono B2.out.size))
      have CQ := Lib.hid (same_any A2 A k2 c xs xs (by omega) (by omega) w3 (rd_keep R2.out hb3) (rd_keep HA.out B3.out))
      rw [HSELF.out] at CQ
      obtain ⟨z1, c10, c11⟩ := fcells (blkK F2.out hb3)
      clear hb3 B2 F2 R2
      go_wp2_with fail
      refine CQ.out.mono ?_
      rintro e w4 ⟨rfl, hb4⟩
      have B4 := Lib.hid (B3.out.trans (hb4.mono B3.out.size))
      clear hb4 B3 CQ z1 c10 c11
      go_wp2_with fail
      refine (CW.out _ B4.out).mono ?_
      rintro e w5 ⟨rfl, hb5⟩
      have B5 := Lib.hid (B4.out.trans (hb5.mono B4.out.size))
      clear hb5 B4
      go_wp2_with fail
      refine (CU.out _ B5.out).mono ?_
      rintro e w6 ⟨rfl, hb6⟩
      have B6 := Lib.hid (B5.out.trans (hb6.mono B5.out.size))
      clear hb6 B5
      have hsq : (S.toList == T.toList) = Q := HSQ.out
      go_wp2_with fail
      refine (CS.out _ B6.out).mono ?_
      rintro e w7 ⟨rfl, hb7⟩
      have B7 := Lib.hid (B6.out.trans (hb7.mono B6.out.size))
      clear hb7 B6
      cases Q with
      | true =>
        go_wp2_with fail
        refine (CE.out _ B7.out).mono ?_
        rintro e w9 ⟨rfl, hb9⟩
        have B9 := Lib.hid (B7.out.trans (hb9.mono B7.out.size))
        clear hb9
        go_wp2_with fail
        go_ret
        exact ⟨rfl, B9.out⟩
      | false =>
        go_wp2_with fail
        refine (CE.out _ B7.out).mono ?_
        rintro e w9 ⟨rfl, hb9⟩
        have B9 := Lib.hid (B7.out.trans (hb9.mono B7.out.size))
        clear hb9
        go_wp2_with fail
        go_ret
        exact ⟨rfl, B9.out⟩
end Go.Proofs.YtcdofdkifdebaaaDoor
