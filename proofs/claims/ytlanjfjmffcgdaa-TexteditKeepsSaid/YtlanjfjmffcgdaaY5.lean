/-
  The law TexteditKeeps: its walk. Condition: the slice reads as a list.
-/
import Derived.Test.YtlanjfjmffcgdaaX
import Derived.Test.YtlanjfjmffcgdaaZ
namespace Go.Proofs.Ytlanjfjmffcgdaa
open Go.RowKit
set_option linter.unusedSimpArgs false
set_option linter.unusedVariables false
/-- the law's inner loop: whether a byte is kept, and the text of the edit that covers it -/
def kfF (a : Int) : List Ed → Bool → ByteArray → Bool × ByteArray
  | [], k, f => (k, f)
  | x :: t, k, f => if x.1 ≤ a ∧ a < x.2.1 then kfF a t false x.2.2 else kfF a t k f
theorem kfF_1 {a : Int} {xs : List Ed} {i : Nat} {k : Bool} {f : ByteArray} (h : i < xs.length) (h1 : xs[i].1 ≤ a ∧ a < xs[i].2.1) : kfF a (xs.drop i) k f = kfF a (xs.drop (i + 1)) false xs[i].2.2 := by
  rw [List.drop_eq_getElem_cons h, kfF, if_pos h1]
theorem kfF_2 {a : Int} {xs : List Ed} {i : Nat} {k : Bool} {f : ByteArray} (h : i < xs.length) (h1 : ¬ (xs[i].1 ≤ a ∧ a < xs[i].2.1)) : kfF a (xs.drop i) k f = kfF a (xs.drop (i + 1)) k f := by
  rw [List.drop_eq_getElem_cons h, kfF, if_neg h1]
theorem kfF_3 {a : Int} {xs : List Ed} {i : Nat} {k : Bool} {f : ByteArray} (h : xs.length ≤ i) : kfF a (xs.drop i) k f = (k, f) := by
  rw [List.drop_eq_nil_of_le h, kfF]
theorem kfF_cov (a : Int) : ∀ (l : List Ed) (k : Bool) (f : ByteArray), ((kfF a l k f).1 = true → k = true ∧ ∀ x ∈ l, ¬ cov a x) ∧ ((kfF a l k f).1 = false → (∃ x ∈ l, cov a x ∧ (kfF a l k f).2 = x.2.2) ∨ (k = false ∧ (kfF a l k f).2 = f))
  | [], k, f => ⟨fun h => ⟨h, fun x hx => by simp at hx⟩, fun h => .inr ⟨h, rfl⟩⟩
  | x :: t, k, f => by
    by_cases hc : x.1 ≤ a ∧ a < x.2.1
    · rw [kfF, if_pos hc]
      obtain ⟨i1, i2⟩ := kfF_cov a t false x.2.2
      refine ⟨fun h => (by have := (i1 h).1; cases this), fun h => .inl ?_⟩
      rcases i2 h with ⟨y, hy, hcy, e⟩ | ⟨_, e⟩
      · exact ⟨y, by simp [hy], hcy, e⟩
      · exact ⟨x, by simp, hc, e⟩
    · rw [kfF, if_neg hc]
      obtain ⟨i1, i2⟩ := kfF_cov a t k f
      refine ⟨fun h => ⟨(i1 h).1, fun y hy => ?_⟩, fun h => ?_⟩
      · rcases List.mem_cons.1 hy with rfl | hy
        · exact hc
        · exact (i1 h).2 y hy
      · rcases i2 h with ⟨y, hy, hcy, e⟩ | e
        · exact .inl ⟨y, by simp [hy], hcy, e⟩
        · exact .inr e
/-- what the law asks at each offset -/
theorem keeps_at {s : ByteArray} {xs : List Ed} (hc : chkL (s.size : Int) xs = 0) (hs : s.size ≤ 400) (a : Nat) (ha : a ≤ s.size) :
    ((kfF (a : Int) xs true ⟨#[]⟩).1 = true → ∃ n : Nat, shfV a xs = (n : Int) ∧ (a < s.size → n < (aply s xs).size ∧ ch (aply s xs) n = ch s a) ∧ (a = s.size → n = (aply s xs).size)) ∧
    ((kfF (a : Int) xs true ⟨#[]⟩).1 = false → ∃ n : Nat, shfV a xs = (n : Int) ∧ n + (kfF (a : Int) xs true ⟨#[]⟩).2.size ≤ (aply s xs).size ∧ (aply s xs).extract n (n + (kfF (a : Int) xs true ⟨#[]⟩).2.size) = (kfF (a : Int) xs true ⟨#[]⟩).2) := by
  obtain ⟨z1, z2⟩ := chk_zero hc
  have hm : insA 9223372036854775807 xs = true := by
    unfold insA at *
    rw [List.all_eq_true] at *
    intro x hx
    have := z1 x hx
    unfold insB at *
    simp only [Bool.and_eq_true, decide_eq_true_eq] at *
    omega
  have hv : shfV (a : Int) xs = shf a xs 0 := shfV_1 (by rw [chk_zero' hm z2]; omega)
  have hl := str_len s
  have hTs : (aply s xs).size = (appL s.data.toList 0 xs).length := by simp [aply, ByteArray.size]
  obtain ⟨k1, k2⟩ := kfF_cov (a : Int) xs true ⟨#[]⟩
  obtain ⟨j1, j2⟩ := shf_at s.data.toList a (by rw [hl]; exact ha) xs 0 0 (appL s.data.toList 0 xs) [] (by rw [hl]; exact z1) z2 (stP_0 z1) (Nat.zero_le _) rfl rfl
  rw [hv]
  refine ⟨fun h => ?_, fun h => ?_⟩
  · obtain ⟨n, e, _, n1, n2, n3⟩ := j2 (k1 h).2
    rw [hl] at n1 n2 n3
    refine ⟨n, e, fun hlt => ?_, fun he => by rw [hTs]; exact n2 he⟩
    have hn := n3 hlt
    rw [← hTs] at hn
    refine ⟨hn, ?_⟩
    have g := n1 hlt
    rw [← aply_list] at g
    have e1 : (aply s xs).data.toList[n]? = some ((aply s xs)[n]'hn) := by
      rw [List.getElem?_eq_getElem (by rw [str_len]; exact hn)]; rfl
    have e2 : s.data.toList[a]? = some (s[a]'hlt) := by
      rw [List.getElem?_eq_getElem (by rw [str_len]; exact hlt)]; rfl
    rw [e1, e2] at g
    injection g with g
    rw [← ch_at _ n hn, ← ch_at _ a hlt, g]
  · rcases k2 h with ⟨x, hx, hcx, e⟩ | ⟨e, _⟩
    · obtain ⟨n, en, hle, ht⟩ := j1 x hx hcx
      rw [e]
      refine ⟨n, en, by rw [hTs]; exact hle, ?_⟩
      apply ByteArray.ext
      apply Array.ext'
      rw [ext_list _ _ _ (by rw [hTs]; exact hle), aply_list, show n + x.2.2.size - n = x.2.2.size by omega]
      exact ht
    · cases e
theorem tot_small {s : ByteArray} {xs : List Ed} (hs : s.size ≤ 400) (hx : xs.length ≤ 20) (ht : ∀ x ∈ xs, x.2.2.size ≤ 60) (hi : insA (s.size : Int) xs = true) : totV s xs ≤ 65536 := by
  have key : ∀ l : List Ed, (∀ x ∈ l, x.2.2.size ≤ 60) → insA (s.size : Int) l = true → sumG l ≤ (l.length : Int) * 60 := by
    intro l
    induction l with
    | nil => intro _ _; simp [sumG]
    | cons x t ih =>
      intro h1 h2
      obtain ⟨⟨i0, i1, i2⟩, h3⟩ := insA_cons h2
      have := ih (fun y hy => h1 y (by simp [hy])) h3
      have := h1 x (by simp)
      simp only [sumG, grw, List.length_cons]
      omega
  have := key xs ht hi
  unfold totV
  omega
set_option maxRecDepth 100000 in
set_option maxHeartbeats 16000000 in
theorem keeps_main (s : ByteArray) (A : Option Addr) (c : Nat) (xs : List Ed) (h400 : s.size ≤ 400) (h20 : xs.length ≤ 20) (h60 : ∀ x ∈ xs, x.2.2.size ≤ 60) (hsm : smB s.size xs = true) (hc : chkL (s.size : Int) xs = 0) (w : World) (h : Re w w.heap.size A xs) :
    Calls Try.prog 7 #[.string s, .slice A xs.length c] w fun e w' => e = .returned (.bool true) ∧ Below w.heap.size w w' := by
  have CS := Lib.hid (small_any s A c xs (by omega) w h)
  rw [hsm] at CS
  have C0 := Lib.hid (Check_any s A c xs (by omega) w h)
  rw [hc] at C0
  have hap := appE_3 hc (by have := tot_small h400 h20 h60 (chk_zero hc).1; omega)
  have C1 : Hid (∀ W, Below w.heap.size w W → Calls Try.prog 13 #[.string s, .slice A xs.length c] W fun e w' => e = .returned (.tuple #[.string (appS s xs), .int .i64 (appE s xs)]) ∧ Below W.heap.size W w') := Lib.hid fun W k => apply_any s A c xs (by omega) h20 (fun x hx => by have := h60 x hx; omega) W (re_keep h k)
  rw [hap.1, hap.2] at C1
  have C2 : Hid (∀ (a : Int) W, Below w.heap.size w W → Calls Try.prog 17 #[.int .i64 a, .slice A xs.length c] W fun e w' => e = .returned (.int .i64 (shfV a xs)) ∧ Below W.heap.size W w') := Lib.hid fun a W k => shift_any a A c xs h20 h60 W (re_keep h k)
  have HK := Lib.hid (fun a ha => keeps_at hc h400 a ha)
  have HTS : Hid ((aply s xs).size ≤ 65536) := Lib.hid (by have := aply_size hc; have := tot_small h400 h20 h60 (chk_zero hc).1; omega)
  have HNC : Hid (∀ x ∈ xs, ¬ cov (s.size : Int) x) := Lib.hid fun x hx hcv => by
    have := (chk_zero hc).1
    unfold insA at this
    rw [List.all_eq_true] at this
    have := this x hx
    unfold insB at this
    simp only [Bool.and_eq_true, decide_eq_true_eq] at this
    unfold cov at hcv
    omega
  have HTX : Hid (∀ k (hk : k < xs.length), xs[k].2.2.size ≤ 60) := Lib.hid fun k hk => h60 _ (List.getElem_mem hk)
  have H := Lib.hid h
  generalize aply s xs = T at *
  clear hap hc hsm h h60
  go_enter Try.func7, Try.ntmps7
  go_wp2_with fail
  refine CS.out.mono ?_
  rintro e w' ⟨rfl, rfl⟩
  go_wp2_with fail
  refine C0.out.mono ?_
  rintro e w1 ⟨rfl, hb1⟩
  have B1 := Lib.hid hb1
  clear hb1 C0 CS
  go_wp2_with fail
  refine (C1.out _ B1.out).mono ?_
  rintro e w2 ⟨rfl, hb2⟩
  have B2 := Lib.hid (B1.out.trans (hb2.mono B1.out.size))
  clear hb2 C1 B1
  go_wp2_with fail
  go_loopw [7, 8, 9, 10, 11] (fun p _ _ _ _ wr => ∃ a : Nat, p = .int .i64 (a : Int) ∧ a ≤ s.size ∧ Hid (Below w.heap.size w wr)) (fun p _ _ _ _ _ => s.size - (intOf p).toNat)
  case atStart => exact ⟨0, rfl, by omega, B2⟩
  case round =>
    obtain ⟨a, rfl, ha, HB⟩ := hrel
    by_cases hlt : a < s.size
    · have HKa := Lib.hid (HK.out a ha)
      have HF0 : Hid (kfF (a : Int) (xs.drop 0) true ⟨#[]⟩ = kfF (a : Int) xs true ⟨#[]⟩) := Lib.hid (by simp)
      obtain ⟨KB, FB, HKF⟩ : ∃ KB FB, Hid (kfF (a : Int) xs true ⟨#[]⟩ = (KB, FB)) := ⟨_, _, Lib.hid rfl⟩
      rw [HKF.out] at HKa HF0
      simp only at HKa
      go_wp2_with fail
      obtain ⟨wo, hwo⟩ : ∃ wo : World, wr = wo := ⟨_, rfl⟩
      subst hwo
      go_loop [8, 9, 10] (fun kp f i => ∃ (k : Nat) (kb : Bool) (fb : ByteArray), i = .int .i64 (k : Int) ∧ kp = .bool kb ∧ f = .string fb ∧ k ≤ xs.length ∧ Hid (kfF (a : Int) (xs.drop k) kb fb = (KB, FB))) (fun _ _ i => xs.length - (intOf i).toNat)
      case atStart => exact ⟨0, true, ⟨#[]⟩, rfl, rfl, rfl, by omega, HF0⟩
      case round =>
        obtain ⟨k, kb, fb, rfl, rfl, rfl, hk, HS⟩ := hrel
        by_cases hlk : k < xs.length
        · obtain ⟨ad, rfl, hl, c0, c1, c2⟩ := (H.out.below HB.out).at_ k hlk
          have q8 : (k : Int) < (xs.length : Int) := by omega
          have H1 := Lib.hid (@kfF_1 (a : Int) xs k kb fb hlk)
          have H2 := Lib.hid (@kfF_2 (a : Int) xs k kb fb hlk)
          generalize xs[k] = x at *
          obtain ⟨f, t, u⟩ := x
          simp only at H1 H2 c0 c1 c2
          by_cases h1 : f ≤ (a : Int)
          · by_cases h2 : (a : Int) < t
            · have q1 : decide (f ≤ (a : Int)) = true := decide_eq_true h1
              have q2 : decide ((a : Int) < t) = true := decide_eq_true h2
              have HS2 := Lib.hid ((H1.out ⟨h1, h2⟩).symm.trans HS.out)
              clear HS H1 H2 h1 h2
              go_wp2_with fail
              go_round
              case rel => exact ⟨k + 1, false, u, by go_num, rfl, rfl, by omega, HS2⟩
              case measure => simp [intOf]; omega
            · have q1 : decide (f ≤ (a : Int)) = true := decide_eq_true h1
              have q2 : decide ((a : Int) < t) = false := decide_eq_false h2
              have HS2 := Lib.hid ((H2.out (fun hh => h2 hh.2)).symm.trans HS.out)
              clear HS H1 H2 h1 h2
              go_wp2_with fail
              go_round
              case rel => exact ⟨k + 1, kb, fb, by go_num, rfl, rfl, by omega, HS2⟩
              case measure => simp [intOf]; omega
          · have q1 : decide (f ≤ (a : Int)) = false := decide_eq_false h1
            have HS2 := Lib.hid ((H2.out (fun hh => h1 hh.1)).symm.trans HS.out)
            clear HS H1 H2 h1
            go_wp2_with fail
            go_round
            case rel => exact ⟨k + 1, kb, fb, by go_num, rfl, rfl, by omega, HS2⟩
            case measure => simp [intOf]; omega
        · obtain rfl : k = xs.length := by omega
          have HX : Hid ((kb, fb) = (KB, FB)) := Lib.hid (by rw [← HS.out, kfF_3 (Nat.le_refl _)])
          obtain ⟨rfl, rfl⟩ := Prod.mk.inj HX.out
          have hts := HTS.out
          clear HS HX HF0
          cases kb with
          | true =>
            obtain ⟨n, HN, hn1, -⟩ := HKa.out.1 rfl
            obtain ⟨hn2, hn3⟩ := hn1 hlt
            have C3 := Lib.hid (C2.out (a : Int))
            rw [HN] at C3
            have q3 : decide ((n : Int) < 0) = false := decide_eq_false (by omega)
            have q4 : decide (T.size ≤ n) = false := decide_eq_false (by omega)
            have q5 : (n : Int) < (T.size : Int) := by omega
            have q6 : (a : Int) < (s.size : Int) := by omega
            have HA := Lib.hid (ch_at s a hlt)
            have HT := Lib.hid (ch_at T n hn2)
            have q7 : (((T[n]'hn2).toNat : Int) != ((s[a]'hlt).toNat : Int)) = false := by rw [HT.out, HA.out, hn3]; simp
            clear hn1 hn3 HKa HN
            go_wp2_with fail
            refine (C3.out _ HB.out).mono ?_
            rintro e w3 ⟨rfl, hb3⟩
            have B3 := Lib.hid (HB.out.trans (hb3.mono HB.out.size))
            clear hb3 C3
            go_wp2_with fail
            go_quiet (fail)
            have B4 := Lib.hid (bdrewN B3.out nq)
            generalize w3.drewN nq = w4 at *
            go_wp2_with fail
            go_roundw
            case rel => exact ⟨a + 1, by go_num, by omega, B4⟩
            case measure => simp [intOf]; omega
          | false =>
            obtain ⟨n, HN, hn1, hn2⟩ := HKa.out.2 rfl
            have C3 := Lib.hid (C2.out (a : Int))
            rw [HN] at C3
            have q3 : decide ((n : Int) < 0) = false := decide_eq_false (by omega)
            have q4 : decide ((T.size : Int) < (n : Int) + (fb.size : Int)) = false := decide_eq_false (by omega)
            have q5 : (n : Int) ≤ (n : Int) + (fb.size : Int) := by omega
            have q6 : (n : Int) + (fb.size : Int) ≤ (T.size : Int) := by omega
            have w1' : IntKind.i64.wrap ((n : Int) + (fb.size : Int)) = (n : Int) + (fb.size : Int) := IntWalk.i64_in _ (by omega)
            have hsl : ∀ W, (Instr.slice 9 (.string T) (some (.int .i64 (n : Int))) (some (.int .i64 ((n : Int) + (fb.size : Int)))) none).run Try.prog W = .ok (.string fb) W := fun W => by
              rw [run_slice_string W 9 T .i64 .i64 (n : Int) ((n : Int) + (fb.size : Int)) Try.underlying9 (by omega) (by omega) (by omega)]
              have e1 : ((n : Int)).toNat = n := by omega
              have e2 : ((n : Int) + (fb.size : Int)).toNat = n + fb.size := by omega
              rw [e1, e2, hn2]
            have e1 : (fb.toList == fb.toList) = true := by simp
            clear hn2 HKa HN
            go_wp2_with fail
            refine (C3.out _ HB.out).mono ?_
            rintro e w3 ⟨rfl, hb3⟩
            have B3 := Lib.hid (HB.out.trans (hb3.mono HB.out.size))
            clear hb3 C3
            go_wp2_with fail
            go_quiet (fail)
            have B4 := Lib.hid (bdrewN B3.out nq)
            generalize w3.drewN nq = w4 at *
            go_wp2_with fail
            go_roundw
            case rel => exact ⟨a + 1, by go_num, by omega, B4⟩
            case measure => simp [intOf]; omega
    · obtain rfl : a = s.size := by omega
      have HKa := Lib.hid (HK.out s.size ha)
      have hk1 : (kfF (s.size : Int) xs true ⟨#[]⟩).1 = true := by
        cases hk : (kfF (s.size : Int) xs true ⟨#[]⟩).1 with
        | true => rfl
        | false =>
          rcases (kfF_cov (s.size : Int) xs true ⟨#[]⟩).2 hk with ⟨x, hx, hcx, _⟩ | ⟨e, _⟩
          · exact absurd hcx (HNC.out x hx)
          · cases e
      obtain ⟨n, HN, -, hn2⟩ := HKa.out.1 hk1
      obtain rfl := hn2 rfl
      have C3 := Lib.hid (C2.out (s.size : Int))
      rw [HN] at C3
      have e1 : ((T.size : Int) == (T.size : Int)) = true := by simp
      clear hk1 HKa HN
      go_wp2_with fail
      refine (C3.out _ HB.out).mono ?_
      rintro e w3 ⟨rfl, hb3⟩
      have B3 := Lib.hid (HB.out.trans (hb3.mono HB.out.size))
      clear hb3 C3
      go_wp2_with fail
      refine (example_any _).mono ?_
      rintro e w5 ⟨rfl, hb5⟩
      have B5 := Lib.hid (B3.out.trans (hb5.mono B3.out.size))
      clear hb5
      go_wp2_with fail
      go_ret
      exact ⟨rfl, B5.out⟩
theorem law_keeps (s : ByteArray) (A : Option Addr) (c : Nat) (xs : List Ed) (hx : xs.length ≤ 9223372036854775807) (w : World) (h : Re w w.heap.size A xs) :
    Calls Try.prog 7 #[.string s, .slice A xs.length c] w fun e w' => e = .returned (.bool true) ∧ Below w.heap.size w w' := by
  have CS := Lib.hid (small_any s A c xs hx w h)
  cases hs : smB s.size xs with
  | false =>
    rw [hs] at CS
    clear hs h
    go_enter Try.func7, Try.ntmps7
    go_wp2_with fail
    refine CS.out.mono ?_
    rintro e w' ⟨rfl, rfl⟩
    go_wp2_with fail
    refine (example_any _).mono ?_
    rintro e w1 ⟨rfl, hb1⟩
    go_wp2_with fail
    go_ret
    exact ⟨rfl, hb1⟩
  | true =>
    obtain ⟨h400, h20, h60⟩ := sm_facts hs
    by_cases hc : chkL (s.size : Int) xs = 0
    · exact keeps_main s A c xs h400 h20 h60 hs hc w h
    · rw [hs] at CS
      have C0 := Lib.hid (Check_any s A c xs (by omega) w h)
      have q1 : (chkL (s.size : Int) xs != 0) = true := by simp [hc]
      generalize chkL (s.size : Int) xs = E at *
      clear hs h hc h60
      go_enter Try.func7, Try.ntmps7
      go_wp2_with fail
      refine CS.out.mono ?_
      rintro e w' ⟨rfl, rfl⟩
      go_wp2_with fail
      refine C0.out.mono ?_
      rintro e w1 ⟨rfl, hb1⟩
      have B1 := Lib.hid hb1
      clear hb1
      go_wp2_with fail
      refine (example_any _).mono ?_
      rintro e w2 ⟨rfl, hb2⟩
      have B2 := Lib.hid (B1.out.trans (hb2.mono B1.out.size))
      clear hb2
      go_wp2_with fail
      go_ret
      exact ⟨rfl, B2.out⟩
