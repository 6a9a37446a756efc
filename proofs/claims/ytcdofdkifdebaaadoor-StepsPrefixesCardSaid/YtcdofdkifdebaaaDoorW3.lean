/-
  Prefixes and their texts: the law StepsPrefixes. Conditions: the slices read as lists, and the table of powers of ten holds what it holds.
-/
import Derived.Test.YtcdofdkifdebaaaDoorT3
import Derived.Test.YtcdofdkifdebaaaDoorW5
import Derived.Test.YtcdofdkifdebaaaDoorR9
import Derived.Laws.AppendOwnNone
namespace Go.Proofs.YtcdofdkifdebaaaDoor
open Go.RowKit
set_option linter.unusedSimpArgs false
set_option linter.unusedVariables false
theorem rd_flat {W : World} {B : Nat} {ad : Addr} : ∀ {xs : List St}, Rd W B (some ad) xs → ∀ j u, (flat xs)[j]? = some u → W.cell? (ad.add j) = some u := by
  intro xs h j u hu
  have hj : j < (flat xs).length := (List.getElem?_eq_some_iff.1 hu).1
  rw [flat_len] at hj
  obtain ⟨k, hk⟩ : ∃ k, j = k * 2 ∨ j = k * 2 + 1 := ⟨j / 2, by omega⟩
  have hkl : k < xs.length := by omega
  obtain ⟨f0, f1⟩ := flat_at xs k hkl
  obtain ⟨ad', e, _, c0, c1⟩ := h.at_ k hkl
  injection e with e
  subst e
  rcases hk with rfl | rfl
  · rw [f0] at hu; injection hu with hu; subst hu; exact c0
  · rw [f1] at hu; injection hu with hu; subst hu
    rw [← add_of_add]
    have e : (ad.add (k * 2)).add 1 = ⟨(ad.add (k * 2)).block, (ad.add (k * 2)).off + 1, none⟩ := by simp [Addr.add]
    rw [e]; exact c1
theorem flat_one (xs : List St) : ∀ u ∈ flat xs, u.oneCell' = true := by
  intro u hu
  unfold flat at hu
  rw [List.mem_flatMap] at hu
  obtain ⟨x, _, hx⟩ := hu
  simp at hx
  rcases hx with rfl | rfl <;> rfl
theorem flat_app (xs ys : List St) : flat (xs ++ ys) = flat xs ++ flat ys := by unfold flat; simp
theorem allV_app {xs ys : List St} (h : allV xs = true) (h' : allV ys = true) : allV (xs ++ ys) = true := by
  unfold allV at *; rw [List.all_append, h, h']; rfl
theorem textS_app {xs ys : List St} (h : allV xs = true) (h' : allV ys = true) (hn : xs ≠ []) : textS (xs ++ ys) = textS xs ++ tailT ys := by
  unfold textS
  rw [if_neg (by rw [allV_app h h']; simp), if_neg (by simp [hn]), if_neg (by rw [h]; simp), if_neg hn]
  cases xs with
  | nil => exact absurd rfl hn
  | cons x t => simp [restT, tailT]
theorem preB_app : ∀ xs ys : List St, preB xs (xs ++ ys) = true
  | [], _ => rfl
  | x :: xs, ys => by show (eqX x x && preB xs (xs ++ ys)) = true; rw [(eqX_iff x x).2 rfl, preB_app xs ys]; rfl
theorem preB_back : ∀ xs ys : List St, preB (xs ++ ys) xs = decide (ys.length = 0)
  | [], [] => rfl
  | [], _ :: _ => rfl
  | x :: xs, ys => by show (eqX x x && preB (xs ++ ys) xs) = _; rw [(eqX_iff x x).2 rfl, preB_back xs ys]; rfl
theorem cmpL_app : ∀ xs ys : List St, cmpL xs (xs ++ ys) ≤ 0
  | [], [] => by simp [cmpL]
  | [], _ :: _ => by simp [cmpL]
  | x :: xs, ys => by show orI (cmpX x x) (cmpL xs (xs ++ ys)) ≤ 0; rw [show cmpX x x = 0 from cmpS_self _ _, orI_0]; exact cmpL_app xs ys
theorem ext_pre (S T : ByteArray) (l : List UInt8) (h : T.data.toList = S.data.toList ++ l) : T.extract 0 S.size = S ∧ S.size ≤ T.size := by
  have hs : S.data.toList.length = S.size := by simp
  have ht : T.data.toList.length = T.size := by simp
  constructor
  · apply ByteArray.ext
    apply Array.ext'
    have e : (T.extract 0 S.size).data.toList = T.data.toList.take S.size := by simp [ByteArray.data_extract, Array.toList_extract]
    rw [e, h, ← hs]; simp
  · rw [← hs, ← ht, h]; simp
set_option maxRecDepth 100000 in
set_option maxHeartbeats 4000000 in
theorem law_prefixes (A A' : Option Addr) (c c' : Nat) (xs ys : List St) (hx : xs.length ≤ 9223372036854775807) (hy : ys.length ≤ 9223372036854775807) (hcn : A = none → c = 0) (hcn' : A' = none → c' = 0) (w : World) (h : Rd w w.heap.size A xs) (h' : Rd w w.heap.size A' ys) (hT : P10 w) :
    Calls Tryd.prog 10 #[.slice A xs.length c, .slice A' ys.length c'] w fun e w' => e = .returned (.bool true) ∧ Below w.heap.size w w' := by
  have CE : Hid (∀ W, Below w.heap.size w W → Calls Tryd.prog 12 #[] W fun e w' => e = .returned (.bool true) ∧ Below W.heap.size W w') := Lib.hid fun W h => example_any W (hT.below h)
  have CA := Lib.hid (small_any A c xs hx w h)
  have CB := Lib.hid (small_any A' c' ys hy w h')
  have B0 := Lib.hid (Below.refl w.heap.size w)
  cases hs1 : smlB xs with
  | false =>
    rw [hs1] at CA
    clear h h' hT hs1
    go_enter Tryd.func10, Tryd.ntmps10
    go_wp2_with fail
    refine CA.out.mono ?_
    rintro e w1 ⟨rfl, rfl⟩
    go_wp2_with fail
    refine (CE.out _ B0.out).mono ?_
    rintro e w9 ⟨rfl, hb9⟩
    have B9 := Lib.hid (B0.out.trans (hb9.mono B0.out.size))
    clear hb9
    go_wp2_with fail
    go_ret
    exact ⟨rfl, B9.out⟩
  | true =>
  rw [hs1] at CA
  cases hs2 : smlB ys with
  | false =>
    rw [hs2] at CB
    clear h h' hT hs1 hs2
    go_enter Tryd.func10, Tryd.ntmps10
    go_wp2_with fail
    refine CA.out.mono ?_
    rintro e w1 ⟨rfl, rfl⟩
    go_wp2_with fail
    refine CB.out.mono ?_
    rintro e w1 ⟨rfl, rfl⟩
    go_wp2_with fail
    refine (CE.out _ B0.out).mono ?_
    rintro e w9 ⟨rfl, hb9⟩
    have B9 := Lib.hid (B0.out.trans (hb9.mono B0.out.size))
    clear hb9
    go_wp2_with fail
    go_ret
    exact ⟨rfl, B9.out⟩
  | true =>
  rw [hs2] at CB
  obtain ⟨hx20, hx60⟩ := sml_facts hs1
  obtain ⟨hy20, hy60⟩ := sml_facts hs2
  have CV : Hid (∀ W, Below w.heap.size w W → Calls Tryd.prog 13 #[.slice A xs.length c] W fun e w' => e = .returned (.bool (allV xs)) ∧ Below W.heap.size W w') := Lib.hid fun W k => valid_any A c xs (by omega) W (rd_keep h k)
  have CU : Hid (∀ W, Below w.heap.size w W → Calls Tryd.prog 13 #[.slice A' ys.length c'] W fun e w' => e = .returned (.bool (allV ys)) ∧ Below W.heap.size W w') := Lib.hid fun W k => valid_any A' c' ys (by omega) W (rd_keep h' k)
  cases hv1 : allV xs with
  | false =>
    rw [hv1] at CV
    clear h h' hT hs1 hs2 hx60 hy60 hv1
    go_enter Tryd.func10, Tryd.ntmps10
    go_wp2_with fail
    refine CA.out.mono ?_
    rintro e w1 ⟨rfl, rfl⟩
    go_wp2_with fail
    refine CB.out.mono ?_
    rintro e w1 ⟨rfl, rfl⟩
    go_wp2_with fail
    refine (CV.out _ B0.out).mono ?_
    rintro e w2 ⟨rfl, hb2⟩
    have B2 := Lib.hid (B0.out.trans (hb2.mono B0.out.size))
    clear hb2
    go_wp2_with fail
    refine (CE.out _ B2.out).mono ?_
    rintro e w9 ⟨rfl, hb9⟩
    have B9 := Lib.hid (B2.out.trans (hb9.mono B2.out.size))
    clear hb9
    go_wp2_with fail
    go_ret
    exact ⟨rfl, B9.out⟩
  | true =>
  rw [hv1] at CV
  cases hv2 : allV ys with
  | false =>
    rw [hv2] at CU
    clear h h' hT hs1 hs2 hx60 hy60 hv1 hv2
    go_enter Tryd.func10, Tryd.ntmps10
    go_wp2_with fail
    refine CA.out.mono ?_
    rintro e w1 ⟨rfl, rfl⟩
    go_wp2_with fail
    refine CB.out.mono ?_
    rintro e w1 ⟨rfl, rfl⟩
    go_wp2_with fail
    refine (CV.out _ B0.out).mono ?_
    rintro e w2 ⟨rfl, hb2⟩
    have B2 := Lib.hid (B0.out.trans (hb2.mono B0.out.size))
    clear hb2
    go_wp2_with fail
    refine (CU.out _ B2.out).mono ?_
    rintro e w3 ⟨rfl, hb3⟩
    have B3 := Lib.hid (B2.out.trans (hb3.mono B2.out.size))
    clear hb3
    go_wp2_with fail
    refine (CE.out _ B3.out).mono ?_
    rintro e w9 ⟨rfl, hb9⟩
    have B9 := Lib.hid (B3.out.trans (hb9.mono B3.out.size))
    clear hb9
    go_wp2_with fail
    go_ret
    exact ⟨rfl, B9.out⟩
  | true =>
  rw [hv2] at CU
  obtain ⟨i0, hi, hz0, hz1, hz2⟩ := info_parts Tryd.info37
  have HA := Lib.hid h
  have HB := Lib.hid h'
  have HT := Lib.hid hT
  have HTX := Lib.hid (@textS_app xs ys hv1 hv2)
  have HX := Lib.hid hx60
  have HY := Lib.hid hy60
  clear h h' hT hs1 hs2 hx60 hy60 hv1 hv2
  cases hA : A with
  | none =>
    subst hA
    obtain rfl := hcn rfl
    have hxe : xs = [] := by
      rcases xs with _ | ⟨x, t⟩
      · rfl
      · obtain ⟨ad, e, _⟩ := HA.out.at_ 0 (by simp); cases e
    have HX0 : Hid (xs.length = 0) := Lib.hid (by rw [hxe]; rfl)
    have HXE := Lib.hid hxe
    clear hxe
    cases hA' : A' with
    | none =>
      subst hA'
      obtain rfl := hcn' rfl
      have hye : ys = [] := by
        rcases ys with _ | ⟨x, t⟩
        · rfl
        · obtain ⟨ad, e, _⟩ := HB.out.at_ 0 (by simp); cases e
      have HY0 : Hid (ys.length = 0) := Lib.hid (by rw [hye]; rfl)
      have HYE := Lib.hid hye
      clear hye
      go_enter Tryd.func10, Tryd.ntmps10
      go_wp2_with fail
      refine CA.out.mono ?_
      rintro e w1 ⟨rfl, rfl⟩
      go_wp2_with fail
      refine CB.out.mono ?_
      rintro e w1 ⟨rfl, rfl⟩
      go_wp2_with fail
      refine (CV.out _ B0.out).mono ?_
      rintro e w2 ⟨rfl, hb2⟩
      have B2 := Lib.hid (B0.out.trans (hb2.mono B0.out.size))
      clear hb2
      go_wp2_with fail
      refine (CU.out _ B2.out).mono ?_
      rintro e w3 ⟨rfl, hb3⟩
      have B3 := Lib.hid (B2.out.trans (hb3.mono B2.out.size))
      clear hb3
      have Z3 : w.heap.size ≤ w3.heap.size := B3.out.size
      have O0 : Hid ((w3.alloc (.cells #[] 37)).ownsRow w.heap.size 37 2 (.slice (some ⟨w3.heap.size, 0, none⟩) 0 0) 0 (flat [])) := Lib.hid (own_mono (World.ownsRow_lit w3 #[] 0 (Nat.le_refl _) (by unfold maxLen; omega) rfl) Z3)
      have Ba := Lib.hid (B3.out.alloc Z3 (.cells #[] 37))
      have RA := Lib.hid (rd_keep HA.out Ba.out)
      have RB := Lib.hid (rd_keep HB.out Ba.out)
      go_wp2_with (at_builtin; refine wpList_append_own_none rfl _ _ 22 rfl w.heap.size 37 i0 2 Tryd.underlying22 hi _ _ _ rfl O0.out (by first | (show Value.slice none xs.length 0 = .slice none 0 0; rw [HX0.out]) | (show Value.slice none ys.length 0 = .slice none 0 0; rw [HY0.out])) ?_)
      have O2 : Hid ((w3.alloc (.cells #[] 37)).ownsRow w.heap.size 37 2 (.slice (some ⟨w3.heap.size, 0, none⟩) 0 0) (xs ++ ys).length (flat (xs ++ ys))) := Lib.hid (by rw [HXE.out, HYE.out]; exact O0.out)
      have Bc := Ba
      obtain ⟨w5, hw5⟩ : ∃ W, W = w3.alloc (.cells #[] 37) := ⟨_, rfl⟩
      obtain ⟨v5, hv5⟩ : ∃ v : Value, v = .slice (some ⟨w3.heap.size, 0, none⟩) 0 0 := ⟨_, rfl⟩
      rw [← hw5] at O2 Bc ⊢
      rw [← hv5] at O2 ⊢
      clear O0 Ba RA RB hw5 hv5
      obtain ⟨A5, c5, rfl, hc5, rd5⟩ := rd_own O2.out
      have LL : (xs ++ ys).length = xs.length + ys.length := List.length_append
      have R5 := Lib.hid rd5
      have HA5 := Lib.hid (rd_keep HA.out Bc.out)
      have T5 := Lib.hid (HT.out.below Bc.out)
      have K1 := Lib.hid (fun W (k : Below w5.heap.size w5 W) => prefix_any none A5 0 c5 xs (xs ++ ys) (by omega) (by omega) W (rd_keep HA5.out k) (rd_keep R5.out k))
      have K2 := Lib.hid (fun W (k : Below w5.heap.size w5 W) => compare_any none A5 0 c5 xs (xs ++ ys) (by omega) (by omega) W (rd_keep HA5.out k) (rd_keep R5.out k))
      have K3 := Lib.hid (fun W (k : Below w5.heap.size w5 W) => prefix_any A5 none c5 0 (xs ++ ys) xs (by omega) (by omega) W (rd_keep R5.out k) (rd_keep HA5.out k))
      have K4 := Lib.hid (fun W (k : Below w5.heap.size w5 W) => text_any none 0 xs (by omega) (fun x hx => by have := HX.out x hx; omega) W (rd_keep HA5.out k) (T5.out.below k))
      have K5 := Lib.hid (fun W (k : Below w5.heap.size w5 W) => text_any A5 c5 (xs ++ ys) (by omega) (fun x hx => by rcases List.mem_append.1 hx with hx | hx; (have := HX.out x hx; omega); (have := HY.out x hx; omega)) W (rd_keep R5.out k) (T5.out.below k))
      have K6 := Lib.hid (fun W (k : Below w5.heap.size w5 W) => CE.out W (Bc.out.trans (k.mono Bc.out.size)))
      rw [preB_app] at K1
      rw [preB_back] at K3
      have hle := cmpL_app xs ys
      have D0 := Lib.hid (Below.refl w5.heap.size w5)
      generalize cmpL xs (xs ++ ys) = R at *
      have qR : decide ((0 : Int) < R) = false := decide_eq_false (by omega)
      have HS : Hid (xs.length = 0 ∨ ((⟨(textS (xs ++ ys)).toArray⟩ : ByteArray).extract 0 (⟨(textS xs).toArray⟩ : ByteArray).size = ⟨(textS xs).toArray⟩ ∧ (⟨(textS xs).toArray⟩ : ByteArray).size ≤ (⟨(textS (xs ++ ys)).toArray⟩ : ByteArray).size)) := by
        refine Lib.hid ?_
        rcases Nat.eq_zero_or_pos xs.length with h0 | h0
        · exact .inl h0
        · exact .inr (ext_pre _ _ (tailT ys) (HTX.out (by intro e; rw [e] at h0; simp at h0)))
      generalize (⟨(textS xs).toArray⟩ : ByteArray) = S at *
      generalize (⟨(textS (xs ++ ys)).toArray⟩ : ByteArray) = Tt at *
      clear rd5 O2 R5 HA5 T5 HA HB HT HTX HX HY hle CE CA CB CV CU hc5 LL
      generalize xs ++ ys = L at *
      by_cases hyy : ys.length = 0
      · by_cases hxx : xs.length = 0
        · have e1 : ((ys.length : Int) == 0) = true := beq_iff_eq.2 (by omega)
          have e2 : decide (ys.length = 0) = true := decide_eq_true hyy
          rw [e2] at K3
          have e3 : ((xs.length : Int) == 0) = true := beq_iff_eq.2 (by omega)
          clear hyy hxx e2 HS
          go_wp2_with fail
          refine (K1.out _ D0.out).mono ?_
          rintro e u1 ⟨rfl, hd1⟩
          have D1 := Lib.hid (D0.out.trans (hd1.mono D0.out.size))
          clear hd1 D0
          go_wp2_with fail
          refine (K2.out _ D1.out).mono ?_
          rintro e u2 ⟨rfl, hd2⟩
          have D2 := Lib.hid (D1.out.trans (hd2.mono D1.out.size))
          clear hd2 D1
          go_wp2_with fail
          refine (K3.out _ D2.out).mono ?_
          rintro e u3 ⟨rfl, hd3⟩
          have D3 := Lib.hid (D2.out.trans (hd3.mono D2.out.size))
          clear hd3 D2
          go_wp2_with fail
          refine (K4.out _ D3.out).mono ?_
          rintro e u4 ⟨rfl, hd4⟩
          have D4 := Lib.hid (D3.out.trans (hd4.mono D3.out.size))
          clear hd4 D3
          go_wp2_with fail
          refine (K5.out _ D4.out).mono ?_
          rintro e u5 ⟨rfl, hd5⟩
          have D5 := Lib.hid (D4.out.trans (hd5.mono D4.out.size))
          clear hd5 D4
          go_wp2_with fail
          refine (K6.out _ D5.out).mono ?_
          rintro e u6 ⟨rfl, hd6⟩
          have D6 := Lib.hid (D5.out.trans (hd6.mono D5.out.size))
          clear hd6 D5
          go_wp2_with fail
          go_ret
          exact ⟨rfl, Bc.out.trans (D6.out.mono Bc.out.size)⟩
        · have e1 : ((ys.length : Int) == 0) = true := beq_iff_eq.2 (by omega)
          have e2 : decide (ys.length = 0) = true := decide_eq_true hyy
          rw [e2] at K3
          have e3 : ((xs.length : Int) == 0) = false := beq_eq_false_iff_ne.2 (by omega)
          obtain ⟨hs1, hs2⟩ := HS.out.resolve_left hxx
          have hs3 : decide (S.size ≤ Tt.size) = true := decide_eq_true hs2
          have hs4 : ((Tt.extract 0 S.size).toList == S.toList) = true := by rw [hs1]; simp
          clear hyy hxx e2 HS hs1
          go_wp2_with fail
          refine (K1.out _ D0.out).mono ?_
          rintro e u1 ⟨rfl, hd1⟩
          have D1 := Lib.hid (D0.out.trans (hd1.mono D0.out.size))
          clear hd1 D0
          go_wp2_with fail
          refine (K2.out _ D1.out).mono ?_
          rintro e u2 ⟨rfl, hd2⟩
          have D2 := Lib.hid (D1.out.trans (hd2.mono D1.out.size))
          clear hd2 D1
          go_wp2_with fail
          refine (K3.out _ D2.out).mono ?_
          rintro e u3 ⟨rfl, hd3⟩
          have D3 := Lib.hid (D2.out.trans (hd3.mono D2.out.size))
          clear hd3 D2
          go_wp2_with fail
          refine (K4.out _ D3.out).mono ?_
          rintro e u4 ⟨rfl, hd4⟩
          have D4 := Lib.hid (D3.out.trans (hd4.mono D3.out.size))
          clear hd4 D3
          go_wp2_with fail
          refine (K5.out _ D4.out).mono ?_
          rintro e u5 ⟨rfl, hd5⟩
          have D5 := Lib.hid (D4.out.trans (hd5.mono D4.out.size))
          clear hd5 D4
          go_wp2_with fail
          refine (K6.out _ D5.out).mono ?_
          rintro e u6 ⟨rfl, hd6⟩
          have D6 := Lib.hid (D5.out.trans (hd6.mono D5.out.size))
          clear hd6 D5
          go_wp2_with fail
          go_ret
          exact ⟨rfl, Bc.out.trans (D6.out.mono Bc.out.size)⟩
      · by_cases hxx : xs.length = 0
        · have e1 : ((ys.length : Int) == 0) = false := beq_eq_false_iff_ne.2 (by omega)
          have e2 : decide (ys.length = 0) = false := decide_eq_false hyy
          rw [e2] at K3
          have e3 : ((xs.length : Int) == 0) = true := beq_iff_eq.2 (by omega)
          clear hyy hxx e2 HS
          go_wp2_with fail
          refine (K1.out _ D0.out).mono ?_
          rintro e u1 ⟨rfl, hd1⟩
          have D1 := Lib.hid (D0.out.trans (hd1.mono D0.out.size))
          clear hd1 D0
          go_wp2_with fail
          refine (K2.out _ D1.out).mono ?_
          rintro e u2 ⟨rfl, hd2⟩
          have D2 := Lib.hid (D1.out.trans (hd2.mono D1.out.size))
          clear hd2 D1
          go_wp2_with fail
          refine (K3.out _ D2.out).mono ?_
          rintro e u3 ⟨rfl, hd3⟩
          have D3 := Lib.hid (D2.out.trans (hd3.mono D2.out.size))
          clear hd3 D2
          go_wp2_with fail
          refine (K4.out _ D3.out).mono ?_
          rintro e u4 ⟨rfl, hd4⟩
          have D4 := Lib.hid (D3.out.trans (hd4.mono D3.out.size))
          clear hd4 D3
          go_wp2_with fail
          refine (K5.out _ D4.out).mono ?_
          rintro e u5 ⟨rfl, hd5⟩
          have D5 := Lib.hid (D4.out.trans (hd5.mono D4.out.size))
          clear hd5 D4
          go_wp2_with fail
          refine (K6.out _ D5.out).mono ?_
          rintro e u6 ⟨rfl, hd6⟩
          have D6 := Lib.hid (D5.out.trans (hd6.mono D5.out.size))
          clear hd6 D5
          go_wp2_with fail
          go_ret
          exact ⟨rfl, Bc.out.trans (D6.out.mono Bc.out.size)⟩
        · have e1 : ((ys.length : Int) == 0) = false := beq_eq_false_iff_ne.2 (by omega)
          have e2 : decide (ys.length = 0) = false := decide_eq_false hyy
          rw [e2] at K3
          have e3 : ((xs.length : Int) == 0) = false := beq_eq_false_iff_ne.2 (by omega)
          obtain ⟨hs1, hs2⟩ := HS.out.resolve_left hxx
          have hs3 : decide (S.size ≤ Tt.size) = true := decide_eq_true hs2
          have hs4 : ((Tt.extract 0 S.size).toList == S.toList) = true := by rw [hs1]; simp
          clear hyy hxx e2 HS hs1
          go_wp2_with fail
          refine (K1.out _ D0.out).mono ?_
          rintro e u1 ⟨rfl, hd1⟩
          have D1 := Lib.hid (D0.out.trans (hd1.mono D0.out.size))
          clear hd1 D0
          go_wp2_with fail
          refine (K2.out _ D1.out).mono ?_
          rintro e u2 ⟨rfl, hd2⟩
          have D2 := Lib.hid (D1.out.trans (hd2.mono D1.out.size))
          clear hd2 D1
          go_wp2_with fail
          refine (K3.out _ D2.out).mono ?_
          rintro e u3 ⟨rfl, hd3⟩
          have D3 := Lib.hid (D2.out.trans (hd3.mono D2.out.size))
          clear hd3 D2
          go_wp2_with fail
          refine (K4.out _ D3.out).mono ?_
          rintro e u4 ⟨rfl, hd4⟩
          have D4 := Lib.hid (D3.out.trans (hd4.mono D3.out.size))
          clear hd4 D3
          go_wp2_with fail
          refine (K5.out _ D4.out).mono ?_
          rintro e u5 ⟨rfl, hd5⟩
          have D5 := Lib.hid (D4.out.trans (hd5.mono D4.out.size))
          clear hd5 D4
          go_wp2_with fail
          refine (K6.out _ D5.out).mono ?_
          rintro e u6 ⟨rfl, hd6⟩
          have D6 := Lib.hid (D5.out.trans (hd6.mono D5.out.size))
          clear hd6 D5
          go_wp2_with fail
          go_ret
          exact ⟨rfl, Bc.out.trans (D6.out.mono Bc.out.size)⟩
    | some ad' =>
      subst hA'
      go_enter Tryd.func10, Tryd.ntmps10
      go_wp2_with fail
      refine CA.out.mono ?_
      rintro e w1 ⟨rfl, rfl⟩
      go_wp2_with fail
      refine CB.out.mono ?_
      rintro e w1 ⟨rfl, rfl⟩
      go_wp2_with fail
      refine (CV.out _ B0.out).mono ?_
      rintro e w2 ⟨rfl, hb2⟩
      have B2 := Lib.hid (B0.out.trans (hb2.mono B0.out.size))
      clear hb2
      go_wp2_with fail
      refine (CU.out _ B2.out).mono ?_
      rintro e w3 ⟨rfl, hb3⟩
      have B3 := Lib.hid (B2.out.trans (hb3.mono B2.out.size))
      clear hb3
      have Z3 : w.heap.size ≤ w3.heap.size := B3.out.size
      have O0 : Hid ((w3.alloc (.cells #[] 37)).ownsRow w.heap.size 37 2 (.slice (some ⟨w3.heap.size, 0, none⟩) 0 0) 0 (flat [])) := Lib.hid (own_mono (World.ownsRow_lit w3 #[] 0 (Nat.le_refl _) (by unfold maxLen; omega) rfl) Z3)
      have Ba := Lib.hid (B3.out.alloc Z3 (.cells #[] 37))
      have RA := Lib.hid (rd_keep HA.out Ba.out)
      have RB := Lib.hid (rd_keep HB.out Ba.out)
      have F1 := Lib.hid (rd_flat RB.out)
      have F2 := Lib.hid (flat_len ys)
      go_wp2_with (at_builtin; first | (refine wpList_append_own_none rfl _ _ 22 rfl w.heap.size 37 i0 2 Tryd.underlying22 hi _ _ _ rfl O0.out (by show Value.slice none xs.length 0 = .slice none 0 0; rw [HX0.out]) ?_) | (refine wpList_append_own _ rfl _ _ 22 rfl w.heap.size 37 i0 (.agg #[.string ⟨#[]⟩, .int .i64 0]) 2 24 Tryd.underlying22 hi hz0 hz1 hz2 rfl (by decide) _ _ _ rfl O0.out ad' ys.length c' (flat ys) rfl F2.out F1.out (flat_one ys) ?d3 ?d4 ?d5 ?_))
      case d3 => unfold maxLen; omega
      case d4 => omega
      case d5 => exact Ba.out.size
      intro v5 w5 hown5 hgrow _
      have hrow := fun j hj => (O0.out.lt j hj).1
      have Bc : Hid (Below w.heap.size w w5) := Lib.hid (Ba.out.grown hgrow Ba.out.size hrow)
      have O2 : Hid (w5.ownsRow w.heap.size 37 2 v5 (xs ++ ys).length (flat (xs ++ ys))) := Lib.hid (by rw [HXE.out]; simpa [flat] using hown5)
      clear hown5 hgrow hrow F1 F2 O0 Ba RA RB
      obtain ⟨A5, c5, rfl, hc5, rd5⟩ := rd_own O2.out
      have LL : (xs ++ ys).length = xs.length + ys.length := List.length_append
      have R5 := Lib.hid rd5
      have HA5 := Lib.hid (rd_keep HA.out Bc.out)
      have T5 := Lib.hid (HT.out.below Bc.out)
      have K1 := Lib.hid (fun W (k : Below w5.heap.size w5 W) => prefix_any none A5 0 c5 xs (xs ++ ys) (by omega) (by omega) W (rd_keep HA5.out k) (rd_keep R5.out k))
      have K2 := Lib.hid (fun W (k : Below w5.heap.size w5 W) => compare_any none A5 0 c5 xs (xs ++ ys) (by omega) (by omega) W (rd_keep HA5.out k) (rd_keep R5.out k))
      have K3 := Lib.hid (fun W (k : Below w5.heap.size w5 W) => prefix_any A5 none c5 0 (xs ++ ys) xs (by omega) (by omega) W (rd_keep R5.out k) (rd_keep HA5.out k))
      have K4 := Lib.hid (fun W (k : Below w5.heap.size w5 W) => text_any none 0 xs (by omega) (fun x hx => by have := HX.out x hx; omega) W (rd_keep HA5.out k) (T5.out.below k))
      have K5 := Lib.hid (fun W (k : Below w5.heap.size w5 W) => text_any A5 c5 (xs ++ ys) (by omega) (fun x hx => by rcases List.mem_append.1 hx with hx | hx; (have := HX.out x hx; omega); (have := HY.out x hx; omega)) W (rd_keep R5.out k) (T5.out.below k))
      have K6 := Lib.hid (fun W (k : Below w5.heap.size w5 W) => CE.out W (Bc.out.trans (k.mono Bc.out.size)))
      rw [preB_app] at K1
      rw [preB_back] at K3
      have hle := cmpL_app xs ys
      have D0 := Lib.hid (Below.refl w5.heap.size w5)
      generalize cmpL xs (xs ++ ys) = R at *
      have qR : decide ((0 : Int) < R) = false := decide_eq_false (by omega)
      have HS : Hid (xs.length = 0 ∨ ((⟨(textS (xs ++ ys)).toArray⟩ : ByteArray).extract 0 (⟨(textS xs).toArray⟩ : ByteArray).size = ⟨(textS xs).toArray⟩ ∧ (⟨(textS xs).toArray⟩ : ByteArray).size ≤ (⟨(textS (xs ++ ys)).toArray⟩ : ByteArray).size)) := by
        refine Lib.hid ?_
        rcases Nat.eq_zero_or_pos xs.length with h0 | h0
        · exact .inl h0
        · exact .inr (ext_pre _ _ (tailT ys) (HTX.out (by intro e; rw [e] at h0; simp at h0)))
      generalize (⟨(textS xs).toArray⟩ : ByteArray) = S at *
      generalize (⟨(textS (xs ++ ys)).toArray⟩ : ByteArray) = Tt at *
      clear rd5 O2 R5 HA5 T5 HA HB HT HTX HX HY hle CE CA CB CV CU hc5 LL
      generalize xs ++ ys = L at *
      by_cases hyy : ys.length = 0
      · by_cases hxx : xs.length = 0
        · have e1 : ((ys.length : Int) == 0) = true := beq_iff_eq.2 (by omega)
          have e2 : decide (ys.length = 0) = true := decide_eq_true hyy
          rw [e2] at K3
          have e3 : ((xs.length : Int) == 0) = true := beq_iff_eq.2 (by omega)
          clear hyy hxx e2 HS
          go_wp2_with fail
          refine (K1.out _ D0.out).mono ?_
          rintro e u1 ⟨rfl, hd1⟩
          have D1 := Lib.hid (D0.out.trans (hd1.mono D0.out.size))
          clear hd1 D0
          go_wp2_with fail
          refine (K2.out _ D1.out).mono ?_
          rintro e u2 ⟨rfl, hd2⟩
          have D2 := Lib.hid (D1.out.trans (hd2.mono D1.out.size))
          clear hd2 D1
          go_wp2_with fail
          refine (K3.out _ D2.out).mono ?_
          rintro e u3 ⟨rfl, hd3⟩
          have D3 := Lib.hid (D2.out.trans (hd3.mono D2.out.size))
          clear hd3 D2
          go_wp2_with fail
          refine (K4.out _ D3.out).mono ?_
          rintro e u4 ⟨rfl, hd4⟩
          have D4 := Lib.hid (D3.out.trans (hd4.mono D3.out.size))
          clear hd4 D3
          go_wp2_with fail
          refine (K5.out _ D4.out).mono ?_
          rintro e u5 ⟨rfl, hd5⟩
          have D5 := Lib.hid (D4.out.trans (hd5.mono D4.out.size))
          clear hd5 D4
          go_wp2_with fail
          refine (K6.out _ D5.out).mono ?_
          rintro e u6 ⟨rfl, hd6⟩
          have D6 := Lib.hid (D5.out.trans (hd6.mono D5.out.size))
          clear hd6 D5
          go_wp2_with fail
          go_ret
          exact ⟨rfl, Bc.out.trans (D6.out.mono Bc.out.size)⟩
        · have e1 : ((ys.length : Int) == 0) = true := beq_iff_eq.2 (by omega)
          have e2 : decide (ys.length = 0) = true := decide_eq_true hyy
          rw [e2] at K3
          have e3 : ((xs.length : Int) == 0) = false := beq_eq_false_iff_ne.2 (by omega)
          obtain ⟨hs1, hs2⟩ := HS.out.resolve_left hxx
          have hs3 : decide (S.size ≤ Tt.size) = true := decide_eq_true hs2
          have hs4 : ((Tt.extract 0 S.size).toList == S.toList) = true := by rw [hs1]; simp
          clear hyy hxx e2 HS hs1
          go_wp2_with fail
          refine (K1.out _ D0.out).mono ?_
          rintro e u1 ⟨rfl, hd1⟩
          have D1 := Lib.hid (D0.out.trans (hd1.mono D0.out.size))
          clear hd1 D0
          go_wp2_with fail
          refine (K2.out _ D1.out).mono ?_
          rintro e u2 ⟨rfl, hd2⟩
          have D2 := Lib.hid (D1.out.trans (hd2.mono D1.out.size))
          clear hd2 D1
          go_wp2_with fail
          refine (K3.out _ D2.out).mono ?_
          rintro e u3 ⟨rfl, hd3⟩
          have D3 := Lib.hid (D2.out.trans (hd3.mono D2.out.size))
          clear hd3 D2
          go_wp2_with fail
          refine (K4.out _ D3.out).mono ?_
          rintro e u4 ⟨rfl, hd4⟩
          have D4 := Lib.hid (D3.out.trans (hd4.mono D3.out.size))
          clear hd4 D3
          go_wp2_with fail
          refine (K5.out _ D4.out).mono ?_
          rintro e u5 ⟨rfl, hd5⟩
          have D5 := Lib.hid (D4.out.trans (hd5.mono D4.out.size))
          clear hd5 D4
          go_wp2_with fail
          refine (K6.out _ D5.out).mono ?_
          rintro e u6 ⟨rfl, hd6⟩
          have D6 := Lib.hid (D5.out.trans (hd6.mono D5.out.size))
          clear hd6 D5
          go_wp2_with fail
          go_ret
          exact ⟨rfl, Bc.out.trans (D6.out.mono Bc.out.size)⟩
      · by_cases hxx : xs.length = 0
        · have e1 : ((ys.length : Int) == 0) = false := beq_eq_false_iff_ne.2 (by omega)
          have e2 : decide (ys.length = 0) = false := decide_eq_false hyy
          rw [e2] at K3
          have e3 : ((xs.length : Int) == 0) = true := beq_iff_eq.2 (by omega)
          clear hyy hxx e2 HS
          go_wp2_with fail
          refine (K1.out _ D0.out).mono ?_
          rintro e u1 ⟨rfl, hd1⟩
          have D1 := Lib.hid (D0.out.trans (hd1.mono D0.out.size))
          clear hd1 D0
          go_wp2_with fail
          refine (K2.out _ D1.out).mono ?_
          rintro e u2 ⟨rfl, hd2⟩
          have D2 := Lib.hid (D1.out.trans (hd2.mono D1.out.size))
          clear hd2 D1
          go_wp2_with fail
          refine (K3.out _ D2.out).mono ?_
          rintro e u3 ⟨rfl, hd3⟩
          have D3 := Lib.hid (D2.out.trans (hd3.mono D2.out.size))
          clear hd3 D2
          go_wp2_with fail
          refine (K4.out _ D3.out).mono ?_
          rintro e u4 ⟨rfl, hd4⟩
          have D4 := Lib.hid (D3.out.trans (hd4.mono D3.out.size))
          clear hd4 D3
          go_wp2_with fail
          refine (K5.out _ D4.out).mono ?_
          rintro e u5 ⟨rfl, hd5⟩
          have D5 := Lib.hid (D4.out.trans (hd5.mono D4.out.size))
          clear hd5 D4
          go_wp2_with fail
          refine (K6.out _ D5.out).mono ?_
          rintro e u6 ⟨rfl, hd6⟩
          have D6 := Lib.hid (D5.out.trans (hd6.mono D5.out.size))
          clear hd6 D5
          go_wp2_with fail
          go_ret
          exact ⟨rfl, Bc.out.trans (D6.out.mono Bc.out.size)⟩
        · have e1 : ((ys.length : Int) == 0) = false := beq_eq_false_iff_ne.2 (by omega)
          have e2 : decide (ys.length = 0) = false := decide_eq_false hyy
          rw [e2] at K3
          have e3 : ((xs.length : Int) == 0) = false := beq_eq_false_iff_ne.2 (by omega)
          obtain ⟨hs1, hs2⟩ := HS.out.resolve_left hxx
          have hs3 : decide (S.size ≤ Tt.size) = true := decide_eq_true hs2
          have hs4 : ((Tt.extract 0 S.size).toList == S.toList) = true := by rw [hs1]; simp
          clear hyy hxx e2 HS hs1
          go_wp2_with fail
          refine (K1.out _ D0.out).mono ?_
          rintro e u1 ⟨rfl, hd1⟩
          have D1 := Lib.hid (D0.out.trans (hd1.mono D0.out.size))
          clear hd1 D0
          go_wp2_with fail
          refine (K2.out _ D1.out).mono ?_
          rintro e u2 ⟨rfl, hd2⟩
          have D2 := Lib.hid (D1.out.trans (hd2.mono D1.out.size))
          clear hd2 D1
          go_wp2_with fail
          refine (K3.out _ D2.out).mono ?_
          rintro e u3 ⟨rfl, hd3⟩
          have D3 := Lib.hid (D2.out.trans (hd3.mono D2.out.size))
          clear hd3 D2
          go_wp2_with fail
          refine (K4.out _ D3.out).mono ?_
          rintro e u4 ⟨rfl, hd4⟩
          have D4 := Lib.hid (D3.out.trans (hd4.mono D3.out.size))
          clear hd4 D3
          go_wp2_with fail
          refine (K5.out _ D4.out).mono ?_
          rintro e u5 ⟨rfl, hd5⟩
          have D5 := Lib.hid (D4.out.trans (hd5.mono D4.out.size))
          clear hd5 D4
          go_wp2_with fail
          refine (K6.out _ D5.out).mono ?_
          rintro e u6 ⟨rfl, hd6⟩
          have D6 := Lib.hid (D5.out.trans (hd6.mono D5.out.size))
          clear hd6 D5
          go_wp2_with fail
          go_ret
          exact ⟨rfl, Bc.out.trans (D6.out.mono Bc.out.size)⟩
  | some ad =>
    subst hA
    cases hA' : A' with
    | none =>
      subst hA'
      obtain rfl := hcn' rfl
      have hye : ys = [] := by
        rcases ys with _ | ⟨x, t⟩
        · rfl
        · obtain ⟨ad, e, _⟩ := HB.out.at_ 0 (by simp); cases e
      have HY0 : Hid (ys.length = 0) := Lib.hid (by rw [hye]; rfl)
      have HYE := Lib.hid hye
      clear hye
      go_enter Tryd.func10, Tryd.ntmps10
      go_wp2_with fail
      refine CA.out.mono ?_
      rintro e w1 ⟨rfl, rfl⟩
      go_wp2_with fail
      refine CB.out.mono ?_
      rintro e w1 ⟨rfl, rfl⟩
      go_wp2_with fail
      refine (CV.out _ B0.out).mono ?_
      rintro e w2 ⟨rfl, hb2⟩
      have B2 := Lib.hid (B0.out.trans (hb2.mono B0.out.size))
      clear hb2
      go_wp2_with fail
      refine (CU.out _ B2.out).mono ?_
      rintro e w3 ⟨rfl, hb3⟩
      have B3 := Lib.hid (B2.out.trans (hb3.mono B2.out.size))
      clear hb3
      have Z3 : w.heap.size ≤ w3.heap.size := B3.out.size
      have O0 : Hid ((w3.alloc (.cells #[] 37)).ownsRow w.heap.size 37 2 (.slice (some ⟨w3.heap.size, 0, none⟩) 0 0) 0 (flat [])) := Lib.hid (own_mono (World.ownsRow_lit w3 #[] 0 (Nat.le_refl _) (by unfold maxLen; omega) rfl) Z3)
      have Ba := Lib.hid (B3.out.alloc Z3 (.cells #[] 37))
      have RA := Lib.hid (rd_keep HA.out Ba.out)
      have RB := Lib.hid (rd_keep HB.out Ba.out)
      have F1 := Lib.hid (rd_flat RA.out)
      have F2 := Lib.hid (flat_len xs)
      go_wp2_with (at_builtin; refine wpList_append_own _ rfl _ _ 22 rfl w.heap.size 37 i0 (.agg #[.string ⟨#[]⟩, .int .i64 0]) 2 24 Tryd.underlying22 hi hz0 hz1 hz2 rfl (by decide) _ _ _ rfl O0.out ad xs.length c (flat xs) rfl F2.out F1.out (flat_one xs) ?c3 ?c4 ?c5 ?_)
      case c3 => unfold maxLen; omega
      case c4 => omega
      case c5 => simp; omega
      intro v4 w4 hown4 hgrow _
      have hrow := fun j hj => (O0.out.lt j hj).1
      have Bb : Hid (Below w.heap.size w w4) := Lib.hid (Ba.out.grown hgrow Ba.out.size hrow)
      have O1 : Hid (w4.ownsRow w.heap.size 37 2 v4 xs.length (flat xs)) := Lib.hid (by simpa [flat] using hown4)
      clear hown4 hgrow hrow F1 F2 O0 Ba RA RB
      go_wp2_with (at_builtin; refine wpList_append_own_none rfl _ _ 22 rfl w.heap.size 37 i0 2 Tryd.underlying22 hi _ _ _ rfl O1.out ?e2 ?_)
      case e2 => show Value.slice none ys.length 0 = .slice none 0 0; rw [HY0.out]
      have O2 : Hid (w4.ownsRow w.heap.size 37 2 v4 (xs ++ ys).length (flat (xs ++ ys))) := Lib.hid (by rw [HYE.out, List.append_nil]; exact O1.out)
      have Bc := Bb
      obtain ⟨v5, hv5⟩ : ∃ v : Value, v = v4 := ⟨_, rfl⟩
      obtain ⟨w5, hw5⟩ : ∃ W : World, W = w4 := ⟨_, rfl⟩
      rw [← hv5, ← hw5] at O2
      rw [← hw5] at Bc
      rw [← hv5, ← hw5]
      clear O1 Bb hv5 hw5
      obtain ⟨A5, c5, rfl, hc5, rd5⟩ := rd_own O2.out
      have LL : (xs ++ ys).length = xs.length + ys.length := List.length_append
      have R5 := Lib.hid rd5
      have HA5 := Lib.hid (rd_keep HA.out Bc.out)
      have T5 := Lib.hid (HT.out.below Bc.out)
      have K1 := Lib.hid (fun W (k : Below w5.heap.size w5 W) => prefix_any (some ad) A5 c c5 xs (xs ++ ys) (by omega) (by omega) W (rd_keep HA5.out k) (rd_keep R5.out k))
      have K2 := Lib.hid (fun W (k : Below w5.heap.size w5 W) => compare_any (some ad) A5 c c5 xs (xs ++ ys) (by omega) (by omega) W (rd_keep HA5.out k) (rd_keep R5.out k))
      have K3 := Lib.hid (fun W (k : Below w5.heap.size w5 W) => prefix_any A5 (some ad) c5 c (xs ++ ys) xs (by omega) (by omega) W (rd_keep R5.out k) (rd_keep HA5.out k))
      have K4 := Lib.hid (fun W (k : Below w5.heap.size w5 W) => text_any (some ad) c xs (by omega) (fun x hx => by have := HX.out x hx; omega) W (rd_keep HA5.out k) (T5.out.below k))
      have K5 := Lib.hid (fun W (k : Below w5.heap.size w5 W) => text_any A5 c5 (xs ++ ys) (by omega) (fun x hx => by rcases List.mem_append.1 hx with hx | hx; (have := HX.out x hx; omega); (have := HY.out x hx; omega)) W (rd_keep R5.out k) (T5.out.below k))
      have K6 := Lib.hid (fun W (k : Below w5.heap.size w5 W) => CE.out W (Bc.out.trans (k.mono Bc.out.size)))
      rw [preB_app] at K1
      rw [preB_back] at K3
      have hle := cmpL_app xs ys
      have D0 := Lib.hid (Below.refl w5.heap.size w5)
      generalize cmpL xs (xs ++ ys) = R at *
      have qR : decide ((0 : Int) < R) = false := decide_eq_false (by omega)
      have HS : Hid (xs.length = 0 ∨ ((⟨(textS (xs ++ ys)).toArray⟩ : ByteArray).extract 0 (⟨(textS xs).toArray⟩ : ByteArray).size = ⟨(textS xs).toArray⟩ ∧ (⟨(textS xs).toArray⟩ : ByteArray).size ≤ (⟨(textS (xs ++ ys)).toArray⟩ : ByteArray).size)) := by
        refine Lib.hid ?_
        rcases Nat.eq_zero_or_pos xs.length with h0 | h0
        · exact .inl h0
        · exact .inr (ext_pre _ _ (tailT ys) (HTX.out (by intro e; rw [e] at h0; simp at h0)))
      generalize (⟨(textS xs).toArray⟩ : ByteArray) = S at *
      generalize (⟨(textS (xs ++ ys)).toArray⟩ : ByteArray) = Tt at *
      clear rd5 O2 R5 HA5 T5 HA HB HT HTX HX HY hle CE CA CB CV CU hc5 LL
      generalize xs ++ ys = L at *
      by_cases hyy : ys.length = 0
      · by_cases hxx : xs.length = 0
        · have e1 : ((ys.length : Int) == 0) = true := beq_iff_eq.2 (by omega)
          have e2 : decide (ys.length = 0) = true := decide_eq_true hyy
          rw [e2] at K3
          have e3 : ((xs.length : Int) == 0) = true := beq_iff_eq.2 (by omega)
          clear hyy hxx e2 HS
          go_wp2_with fail
          refine (K1.out _ D0.out).mono ?_
          rintro e u1 ⟨rfl, hd1⟩
          have D1 := Lib.hid (D0.out.trans (hd1.mono D0.out.size))
          clear hd1 D0
          go_wp2_with fail
          refine (K2.out _ D1.out).mono ?_
          rintro e u2 ⟨rfl, hd2⟩
          have D2 := Lib.hid (D1.out.trans (hd2.mono D1.out.size))
          clear hd2 D1
          go_wp2_with fail
          refine (K3.out _ D2.out).mono ?_
          rintro e u3 ⟨rfl, hd3⟩
          have D3 := Lib.hid (D2.out.trans (hd3.mono D2.out.size))
          clear hd3 D2
          go_wp2_with fail
          refine (K4.out _ D3.out).mono ?_
          rintro e u4 ⟨rfl, hd4⟩
          have D4 := Lib.hid (D3.out.trans (hd4.mono D3.out.size))
          clear hd4 D3
          go_wp2_with fail
          refine (K5.out _ D4.out).mono ?_
          rintro e u5 ⟨rfl, hd5⟩
          have D5 := Lib.hid (D4.out.trans (hd5.mono D4.out.size))
          clear hd5 D4
          go_wp2_with fail
          refine (K6.out _ D5.out).mono ?_
          rintro e u6 ⟨rfl, hd6⟩
          have D6 := Lib.hid (D5.out.trans (hd6.mono D5.out.size))
          clear hd6 D5
          go_wp2_with fail
          go_ret
          exact ⟨rfl, Bc.out.trans (D6.out.mono Bc.out.size)⟩
        · have e1 : ((ys.length : Int) == 0) = true := beq_iff_eq.2 (by omega)
          have e2 : decide (ys.length = 0) = true := decide_eq_true hyy
          rw [e2] at K3
          have e3 : ((xs.length : Int) == 0) = false := beq_eq_false_iff_ne.2 (by omega)
          obtain ⟨hs1, hs2⟩ := HS.out.resolve_left hxx
          have hs3 : decide (S.size ≤ Tt.size) = true := decide_eq_true hs2
          have hs4 : ((Tt.extract 0 S.size).toList == S.toList) = true := by rw [hs1]; simp
          clear hyy hxx e2 HS hs1
          go_wp2_with fail
          refine (K1.out _ D0.out).mono ?_
          rintro e u1 ⟨rfl, hd1⟩
          have D1 := Lib.hid (D0.out.trans (hd1.mono D0.out.size))
          clear hd1 D0
          go_wp2_with fail
          refine (K2.out _ D1.out).mono ?_
          rintro e u2 ⟨rfl, hd2⟩
          have D2 := Lib.hid (D1.out.trans (hd2.mono D1.out.size))
          clear hd2 D1
          go_wp2_with fail
          refine (K3.out _ D2.out).mono ?_
          rintro e u3 ⟨rfl, hd3⟩
          have D3 := Lib.hid (D2.out.trans (hd3.mono D2.out.size))
          clear hd3 D2
          go_wp2_with fail
          refine (K4.out _ D3.out).mono ?_
          rintro e u4 ⟨rfl, hd4⟩
          have D4 := Lib.hid (D3.out.trans (hd4.mono D3.out.size))
          clear hd4 D3
          go_wp2_with fail
          refine (K5.out _ D4.out).mono ?_
          rintro e u5 ⟨rfl, hd5⟩
          have D5 := Lib.hid (D4.out.trans (hd5.mono D4.out.size))
          clear hd5 D4
          go_wp2_with fail
          refine (K6.out _ D5.out).mono ?_
          rintro e u6 ⟨rfl, hd6⟩
          have D6 := Lib.hid (D5.out.trans (hd6.mono D5.out.size))
          clear hd6 D5
          go_wp2_with fail
          go_ret
          exact ⟨rfl, Bc.out.trans (D6.out.mono Bc.out.size)⟩
      · by_cases hxx : xs.length = 0
        · have e1 : ((ys.length : Int) == 0) = false := beq_eq_false_iff_ne.2 (by omega)
          have e2 : decide (ys.length = 0) = false := decide_eq_false hyy
          rw [e2] at K3
          have e3 : ((xs.length : Int) == 0) = true := beq_iff_eq.2 (by omega)
          clear hyy hxx e2 HS
          go_wp2_with fail
          refine (K1.out _ D0.out).mono ?_
          rintro e u1 ⟨rfl, hd1⟩
          have D1 := Lib.hid (D0.out.trans (hd1.mono D0.out.size))
          clear hd1 D0
          go_wp2_with fail
          refine (K2.out _ D1.out).mono ?_
          rintro e u2 ⟨rfl, hd2⟩
          have D2 := Lib.hid (D1.out.trans (hd2.mono D1.out.size))
          clear hd2 D1
          go_wp2_with fail
          refine (K3.out _ D2.out).mono ?_
          rintro e u3 ⟨rfl, hd3⟩
          have D3 := Lib.hid (D2.out.trans (hd3.mono D2.out.size))
          clear hd3 D2
          go_wp2_with fail
          refine (K4.out _ D3.out).mono ?_
          rintro e u4 ⟨rfl, hd4⟩
          have D4 := Lib.hid (D3.out.trans (hd4.mono D3.out.size))
          clear hd4 D3
          go_wp2_with fail
          refine (K5.out _ D4.out).mono ?_
          rintro e u5 ⟨rfl, hd5⟩
          have D5 := Lib.hid (D4.out.trans (hd5.mono D4.out.size))
          clear hd5 D4
          go_wp2_with fail
          refine (K6.out _ D5.out).mono ?_
          rintro e u6 ⟨rfl, hd6⟩
          have D6 := Lib.hid (D5.out.trans (hd6.mono D5.out.size))
          clear hd6 D5
          go_wp2_with fail
          go_ret
          exact ⟨rfl, Bc.out.trans (D6.out.mono Bc.out.size)⟩
        · have e1 : ((ys.length : Int) == 0) = false := beq_eq_false_iff_ne.2 (by omega)
          have e2 : decide (ys.length = 0) = false := decide_eq_false hyy
          rw [e2] at K3
          have e3 : ((xs.length : Int) == 0) = false := beq_eq_false_iff_ne.2 (by omega)
          obtain ⟨hs1, hs2⟩ := HS.out.resolve_left hxx
          have hs3 : decide (S.size ≤ Tt.size) = true := decide_eq_true hs2
          have hs4 : ((Tt.extract 0 S.size).toList == S.toList) = true := by rw [hs1]; simp
          clear hyy hxx e2 HS hs1
          go_wp2_with fail
          refine (K1.out _ D0.out).mono ?_
          rintro e u1 ⟨rfl, hd1⟩
          have D1 := Lib.hid (D0.out.trans (hd1.mono D0.out.size))
          clear hd1 D0
          go_wp2_with fail
          refine (K2.out _ D1.out).mono ?_
          rintro e u2 ⟨rfl, hd2⟩
          have D2 := Lib.hid (D1.out.trans (hd2.mono D1.out.size))
          clear hd2 D1
          go_wp2_with fail
          refine (K3.out _ D2.out).mono ?_
          rintro e u3 ⟨rfl, hd3⟩
          have D3 := Lib.hid (D2.out.trans (hd3.mono D2.out.size))
          clear hd3 D2
          go_wp2_with fail
          refine (K4.out _ D3.out).mono ?_
          rintro e u4 ⟨rfl, hd4⟩
          have D4 := Lib.hid (D3.out.trans (hd4.mono D3.out.size))
          clear hd4 D3
          go_wp2_with fail
          refine (K5.out _ D4.out).mono ?_
          rintro e u5 ⟨rfl, hd5⟩
          have D5 := Lib.hid (D4.out.trans (hd5.mono D4.out.size))
          clear hd5 D4
          go_wp2_with fail
          refine (K6.out _ D5.out).mono ?_
          rintro e u6 ⟨rfl, hd6⟩
          have D6 := Lib.hid (D5.out.trans (hd6.mono D5.out.size))
          clear hd6 D5
          go_wp2_with fail
          go_ret
          exact ⟨rfl, Bc.out.trans (D6.out.mono Bc.out.size)⟩
    | some ad' =>
      subst hA'
      go_enter Tryd.func10, Tryd.ntmps10
      go_wp2_with fail
      refine CA.out.mono ?_
      rintro e w1 ⟨rfl, rfl⟩
      go_wp2_with fail
      refine CB.out.mono ?_
      rintro e w1 ⟨rfl, rfl⟩
      go_wp2_with fail
      refine (CV.out _ B0.out).mono ?_
      rintro e w2 ⟨rfl, hb2⟩
      have B2 := Lib.hid (B0.out.trans (hb2.mono B0.out.size))
      clear hb2
      go_wp2_with fail
      refine (CU.out _ B2.out).mono ?_
      rintro e w3 ⟨rfl, hb3⟩
      have B3 := Lib.hid (B2.out.trans (hb3.mono B2.out.size))
      clear hb3
      have Z3 : w.heap.size ≤ w3.heap.size := B3.out.size
      have O0 : Hid ((w3.alloc (.cells #[] 37)).ownsRow w.heap.size 37 2 (.slice (some ⟨w3.heap.size, 0, none⟩) 0 0) 0 (flat [])) := Lib.hid (own_mono (World.ownsRow_lit w3 #[] 0 (Nat.le_refl _) (by unfold maxLen; omega) rfl) Z3)
      have Ba := Lib.hid (B3.out.alloc Z3 (.cells #[] 37))
      have RA := Lib.hid (rd_keep HA.out Ba.out)
      have RB := Lib.hid (rd_keep HB.out Ba.out)
      have F1 := Lib.hid (rd_flat RA.out)
      have F2 := Lib.hid (flat_len xs)
      go_wp2_with (at_builtin; refine wpList_append_own _ rfl _ _ 22 rfl w.heap.size 37 i0 (.agg #[.string ⟨#[]⟩, .int .i64 0]) 2 24 Tryd.underlying22 hi hz0 hz1 hz2 rfl (by decide) _ _ _ rfl O0.out ad xs.length c (flat xs) rfl F2.out F1.out (flat_one xs) ?c3 ?c4 ?c5 ?_)
      case c3 => unfold maxLen; omega
      case c4 => omega
      case c5 => simp; omega
      intro v4 w4 hown4 hgrow _
      have hrow := fun j hj => (O0.out.lt j hj).1
      have Bb : Hid (Below w.heap.size w w4) := Lib.hid (Ba.out.grown hgrow Ba.out.size hrow)
      have O1 : Hid (w4.ownsRow w.heap.size 37 2 v4 xs.length (flat xs)) := Lib.hid (by simpa [flat] using hown4)
      clear hown4 hgrow hrow F1 F2 O0 Ba RA RB
      have RB := Lib.hid (rd_keep HB.out Bb.out)
      have F1 := Lib.hid (rd_flat RB.out)
      have F2 := Lib.hid (flat_len ys)
      go_wp2_with (at_builtin; refine wpList_append_own _ rfl _ _ 22 rfl w.heap.size 37 i0 (.agg #[.string ⟨#[]⟩, .int .i64 0]) 2 24 Tryd.underlying22 hi hz0 hz1 hz2 rfl (by decide) _ _ _ rfl O1.out ad' ys.length c' (flat ys) rfl F2.out F1.out (flat_one ys) ?d3 ?d4 ?d5 ?_)
      case d3 => unfold maxLen; omega
      case d4 => omega
      case d5 => exact Bb.out.size
      intro v5 w5 hown5 hgrow _
      have hrow := fun j hj => (O1.out.lt j hj).1
      have Bc : Hid (Below w.heap.size w w5) := Lib.hid (Bb.out.grown hgrow Bb.out.size hrow)
      have O2 : Hid (w5.ownsRow w.heap.size 37 2 v5 (xs ++ ys).length (flat (xs ++ ys))) := Lib.hid (by rw [flat_app, List.length_append]; exact hown5)
      clear hown5 hgrow hrow F1 F2 O1 Bb RB
      obtain ⟨A5, c5, rfl, hc5, rd5⟩ := rd_own O2.out
      have LL : (xs ++ ys).length = xs.length + ys.length := List.length_append
      have R5 := Lib.hid rd5
      have HA5 := Lib.hid (rd_keep HA.out Bc.out)
      have T5 := Lib.hid (HT.out.below Bc.out)
      have K1 := Lib.hid (fun W (k : Below w5.heap.size w5 W) => prefix_any (some ad) A5 c c5 xs (xs ++ ys) (by omega) (by omega) W (rd_keep HA5.out k) (rd_keep R5.out k))
      have K2 := Lib.hid (fun W (k : Below w5.heap.size w5 W) => compare_any (some ad) A5 c c5 xs (xs ++ ys) (by omega) (by omega) W (rd_keep HA5.out k) (rd_keep R5.out k))
      have K3 := Lib.hid (fun W (k : Below w5.heap.size w5 W) => prefix_any A5 (some ad) c5 c (xs ++ ys) xs (by omega) (by omega) W (rd_keep R5.out k) (rd_keep HA5.out k))
      have K4 := Lib.hid (fun W (k : Below w5.heap.size w5 W) => text_any (some ad) c xs (by omega) (fun x hx => by have := HX.out x hx; omega) W (rd_keep HA5.out k) (T5.out.below k))
      have K5 := Lib.hid (fun W (k : Below w5.heap.size w5 W) => text_any A5 c5 (xs ++ ys) (by omega) (fun x hx => by rcases List.mem_append.1 hx with hx | hx; (have := HX.out x hx; omega); (have := HY.out x hx; omega)) W (rd_keep R5.out k) (T5.out.below k))
      have K6 := Lib.hid (fun W (k : Below w5.heap.size w5 W) => CE.out W (Bc.out.trans (k.mono Bc.out.size)))
      rw [preB_app] at K1
      rw [preB_back] at K3
      have hle := cmpL_app xs ys
      have D0 := Lib.hid (Below.refl w5.heap.size w5)
      generalize cmpL xs (xs ++ ys) = R at *
      have qR : decide ((0 : Int) < R) = false := decide_eq_false (by omega)
      have HS : Hid (xs.length = 0 ∨ ((⟨(textS (xs ++ ys)).toArray⟩ : ByteArray).extract 0 (⟨(textS xs).toArray⟩ : ByteArray).size = ⟨(textS xs).toArray⟩ ∧ (⟨(textS xs).toArray⟩ : ByteArray).size ≤ (⟨(textS (xs ++ ys)).toArray⟩ : ByteArray).size)) := by
        refine Lib.hid ?_
        rcases Nat.eq_zero_or_pos xs.length with h0 | h0
        · exact .inl h0
        · exact .inr (ext_pre _ _ (tailT ys) (HTX.out (by intro e; rw [e] at h0; simp at h0)))
      generalize (⟨(textS xs).toArray⟩ : ByteArray) = S at *
      generalize (⟨(textS (xs ++ ys)).toArray⟩ : ByteArray) = Tt at *
      clear rd5 O2 R5 HA5 T5 HA HB HT HTX HX HY hle CE CA CB CV CU hc5 LL
      generalize xs ++ ys = L at *
      by_cases hyy : ys.length = 0
      · by_cases hxx : xs.length = 0
        · have e1 : ((ys.length : Int) == 0) = true := beq_iff_eq.2 (by omega)
          have e2 : decide (ys.length = 0) = true := decide_eq_true hyy
          rw [e2] at K3
          have e3 : ((xs.length : Int) == 0) = true := beq_iff_eq.2 (by omega)
          clear hyy hxx e2 HS
          go_wp2_with fail
          refine (K1.out _ D0.out).mono ?_
          rintro e u1 ⟨rfl, hd1⟩
          have D1 := Lib.hid (D0.out.trans (hd1.mono D0.out.size))
          clear hd1 D0
          go_wp2_with fail
          refine (K2.out _ D1.out).mono ?_
          rintro e u2 ⟨rfl, hd2⟩
          have D2 := Lib.hid (D1.out.trans (hd2.mono D1.out.size))
          clear hd2 D1
          go_wp2_with fail
          refine (K3.out _ D2.out).mono ?_
          rintro e u3 ⟨rfl, hd3⟩
          have D3 := Lib.hid (D2.out.trans (hd3.mono D2.out.size))
          clear hd3 D2
          go_wp2_with fail
          refine (K4.out _ D3.out).mono ?_
          rintro e u4 ⟨rfl, hd4⟩
          have D4 := Lib.hid (D3.out.trans (hd4.mono D3.out.size))
          clear hd4 D3
          go_wp2_with fail
          refine (K5.out _ D4.out).mono ?_
          rintro e u5 ⟨rfl, hd5⟩
          have D5 := Lib.hid (D4.out.trans (hd5.mono D4.out.size))
          clear hd5 D4
          go_wp2_with fail
          refine (K6.out _ D5.out).mono ?_
          rintro e u6 ⟨rfl, hd6⟩
          have D6 := Lib.hid (D5.out.trans (hd6.mono D5.out.size))
          clear hd6 D5
          go_wp2_with fail
          go_ret
          exact ⟨rfl, Bc.out.trans (D6.out.mono Bc.out.size)⟩
        · have e1 : ((ys.length : Int) == 0) = true := beq_iff_eq.2 (by omega)
          have e2 : decide (ys.length = 0) = true := decide_eq_true hyy
          rw [e2] at K3
          have e3 : ((xs.length : Int) == 0) = false := beq_eq_false_iff_ne.2 (by omega)
          obtain ⟨hs1, hs2⟩ := HS.out.resolve_left hxx
          have hs3 : decide (S.size ≤ Tt.size) = true := decide_eq_true hs2
          have hs4 : ((Tt.extract 0 S.size).toList == S.toList) = true := by rw [hs1]; simp
          clear hyy hxx e2 HS hs1
          go_wp2_with fail
          refine (K1.out _ D0.out).mono ?_
          rintro e u1 ⟨rfl, hd1⟩
          have D1 := Lib.hid (D0.out.trans (hd1.mono D0.out.size))
          clear hd1 D0
          go_wp2_with fail
          refine (K2.out _ D1.out).mono ?_
          rintro e u2 ⟨rfl, hd2⟩
          have D2 := Lib.hid (D1.out.trans (hd2.mono D1.out.size))
          clear hd2 D1
          go_wp2_with fail
          refine (K3.out _ D2.out).mono ?_
          rintro e u3 ⟨rfl, hd3⟩
          have D3 := Lib.hid (D2.out.trans (hd3.mono D2.out.size))
          clear hd3 D2
          go_wp2_with fail
          refine (K4.out _ D3.out).mono ?_
          rintro e u4 ⟨rfl, hd4⟩
          have D4 := Lib.hid (D3.out.trans (hd4.mono D3.out.size))
          clear hd4 D3
          go_wp2_with fail
          refine (K5.out _ D4.out).mono ?_
          rintro e u5 ⟨rfl, hd5⟩
          have D5 := Lib.hid (D4.out.trans (hd5.mono D4.out.size))
          clear hd5 D4
          go_wp2_with fail
          refine (K6.out _ D5.out).mono ?_
          rintro e u6 ⟨rfl, hd6⟩
          have D6 := Lib.hid (D5.out.trans (hd6.mono D5.out.size))
          clear hd6 D5
          go_wp2_with fail
          go_ret
          exact ⟨rfl, Bc.out.trans (D6.out.mono Bc.out.size)⟩
      · by_cases hxx : xs.length = 0
        · have e1 : ((ys.length : Int) == 0) = false := beq_eq_false_iff_ne.2 (by omega)
          have e2 : decide (ys.length = 0) = false := decide_eq_false hyy
          rw [e2] at K3
          have e3 : ((xs.length : Int) == 0) = true := beq_iff_eq.2 (by omega)
          clear hyy hxx e2 HS
          go_wp2_with fail
          refine (K1.out _ D0.out).mono ?_
          rintro e u1 ⟨rfl, hd1⟩
          have D1 := Lib.hid (D0.out.trans (hd1.mono D0.out.size))
          clear hd1 D0
          go_wp2_with fail
          refine (K2.out _ D1.out).mono ?_
          rintro e u2 ⟨rfl, hd2⟩
          have D2 := Lib.hid (D1.out.trans (hd2.mono D1.out.size))
          clear hd2 D1
          go_wp2_with fail
          refine (K3.out _ D2.out).mono ?_
          rintro e u3 ⟨rfl, hd3⟩
          have D3 := Lib.hid (D2.out.trans (hd3.mono D2.out.size))
          clear hd3 D2
          go_wp2_with fail
          refine (K4.out _ D3.out).mono ?_
          rintro e u4 ⟨rfl, hd4⟩
          have D4 := Lib.hid (D3.out.trans (hd4.mono D3.out.size))
          clear hd4 D3
          go_wp2_with fail
          refine (K5.out _ D4.out).mono ?_
          rintro e u5 ⟨rfl, hd5⟩
          have D5 := Lib.hid (D4.out.trans (hd5.mono D4.out.size))
          clear hd5 D4
          go_wp2_with fail
          refine (K6.out _ D5.out).mono ?_
          rintro e u6 ⟨rfl, hd6⟩
          have D6 := Lib.hid (D5.out.trans (hd6.mono D5.out.size))
          clear hd6 D5
          go_wp2_with fail
          go_ret
          exact ⟨rfl, Bc.out.trans (D6.out.mono Bc.out.size)⟩
        · have e1 : ((ys.length : Int) == 0) = false := beq_eq_false_iff_ne.2 (by omega)
          have e2 : decide (ys.length = 0) = false := decide_eq_false hyy
          rw [e2] at K3
          have e3 : ((xs.length : Int) == 0) = false := beq_eq_false_iff_ne.2 (by omega)
          obtain ⟨hs1, hs2⟩ := HS.out.resolve_left hxx
          have hs3 : decide (S.size ≤ Tt.size) = true := decide_eq_true hs2
          have hs4 : ((Tt.extract 0 S.size).toList == S.toList) = true := by rw [hs1]; simp
          clear hyy hxx e2 HS hs1
          go_wp2_with fail
          refine (K1.out _ D0.out).mono ?_
          rintro e u1 ⟨rfl, hd1⟩
          have D1 := Lib.hid (D0.out.trans (hd1.mono D0.out.size))
          clear hd1 D0
          go_wp2_with fail
          refine (K2.out _ D1.out).mono ?_
          rintro e u2 ⟨rfl, hd2⟩
          have D2 := Lib.hid (D1.out.trans (hd2.mono D1.out.size))
          clear hd2 D1
          go_wp2_with fail
          refine (K3.out _ D2.out).mono ?_
          rintro e u3 ⟨rfl, hd3⟩
          have D3 := Lib.hid (D2.out.trans (hd3.mono D2.out.size))
          clear hd3 D2
          go_wp2_with fail
          refine (K4.out _ D3.out).mono ?_
          rintro e u4 ⟨rfl, hd4⟩
          have D4 := Lib.hid (D3.out.trans (hd4.mono D3.out.size))
          clear hd4 D3
          go_wp2_with fail
          refine (K5.out _ D4.out).mono ?_
          rintro e u5 ⟨rfl, hd5⟩
          have D5 := Lib.hid (D4.out.trans (hd5.mono D4.out.size))
          clear hd5 D4
          go_wp2_with fail
          refine (K6.out _ D5.out).mono ?_
          rintro e u6 ⟨rfl, hd6⟩
          have D6 := Lib.hid (D5.out.trans (hd6.mono D5.out.size))
          clear hd6 D5
          go_wp2_with fail
          go_ret
          exact ⟨rfl, Bc.out.trans (D6.out.mono Bc.out.size)⟩
end Go.Proofs.YtcdofdkifdebaaaDoor
