/-
  Inverse edits undo edits; where bytes go: plain mathematics. No condition.
-/
import Derived.Test.YtlanjfjmffcgdaaJ
namespace Go.Proofs.Ytlanjfjmffcgdaa
open Go.RowKit
set_option linter.unusedSimpArgs false
set_option linter.unusedVariables false
theorem invF_len (s : ByteArray) : ∀ (b : Int) (l : List Ed), (invF s b l).length = l.length
  | _, [] => rfl
  | b, x :: t => by simp [invF, invF_len s _ t]
theorem seg_len (b : List UInt8) (p f : Nat) (h : p ≤ f) (h' : f ≤ b.length) : ((b.drop p).take (f - p)).length = f - p := by
  rw [List.length_take, List.length_drop]; omega
theorem seg_join (b : List UInt8) (p f : Nat) (h : p ≤ f) : (b.drop p).take (f - p) ++ b.drop f = b.drop p := by
  have e : b.drop f = (b.drop p).drop (f - p) := by rw [List.drop_drop]; congr 1; omega
  rw [e, List.take_append_drop]
/-- the edits back, applied from where the edited text stands, give what stands in the text -/
theorem inv_app (s : ByteArray) : ∀ (xs : List Ed) (p : Nat) (b : Int) (T D : List UInt8), insA (s.size : Int) xs = true → ordB xs = true → stP p xs → p ≤ s.size →
    T = D ++ appL s.data.toList p xs → (D.length : Int) = p + b → appL T D.length (invF s b xs) = s.data.toList.drop p
  | [], p, b, T, D, _, _, _, _, hT, _ => by
    subst hT
    simp [invF, appL]
  | x :: t, p, b, T, D, hi, ho, hs, hp, hT, hD => by
    obtain ⟨⟨i0, i1, i2⟩, hi'⟩ := insA_cons hi
    obtain ⟨ho', hst⟩ := ordB_cons ho
    have hst' := (hst (by omega)).resolve_right (by omega)
    have hs' : (p : Int) ≤ x.1 := hs
    obtain ⟨f, hf⟩ := Int.eq_ofNat_of_zero_le i0
    obtain ⟨q, hq⟩ := Int.eq_ofNat_of_zero_le (show 0 ≤ x.2.1 by omega)
    have hsl := str_len s
    have l1 := seg_len s.data.toList p f (by omega) (by omega)
    have l2 := str_len x.2.2
    have hT2 : T = (D ++ ((s.data.toList.drop p).take (f - p) ++ x.2.2.data.toList)) ++ appL s.data.toList q t := by
      rw [hT]; simp only [appL, hf, hq, Int.toNat_natCast, List.append_assoc]
    have hD2 : ((D ++ ((s.data.toList.drop p).take (f - p) ++ x.2.2.data.toList)).length : Int) = (q : Int) + (b + grw x) := by
      rw [List.length_append, List.length_append, l1, l2]; unfold grw; omega
    have ih := inv_app s t q (b + grw x) T _ hi' ho' (by rw [hq] at hst'; simpa using hst') (by omega) hT2 hD2
    have e1 : (x.1 + b).toNat - D.length = f - p := by omega
    have e2 : (x.1 + b + (x.2.2.size : Int)).toNat = (D ++ ((s.data.toList.drop p).take (f - p) ++ x.2.2.data.toList)).length := by
      rw [List.length_append, List.length_append, l1, l2]; omega
    have e3 : (T.drop D.length).take (f - p) = (s.data.toList.drop p).take (f - p) := by
      rw [hT2, List.append_assoc, List.drop_left', List.append_assoc, List.take_left']
      · exact l1
      · rfl
    have e4 : (s.extract x.1.toNat x.2.1.toNat).data.toList = (s.data.toList.drop f).take (q - f) := by
      rw [hf, hq]; exact ext_list s f q (by omega)
    simp only [invF, appL, e1, e2, e3, e4, ih]
    rw [seg_join _ f q (by omega), seg_join _ p f (by omega)]
/-- the edits back are valid -/
theorem inv_ok (s : ByteArray) : ∀ (xs : List Ed) (p : Nat) (b : Int) (T D : List UInt8), insA (s.size : Int) xs = true → ordB xs = true → stP p xs → p ≤ s.size →
    T = D ++ appL s.data.toList p xs → (D.length : Int) = p + b → insA (T.length : Int) (invF s b xs) = true ∧ ordB (invF s b xs) = true ∧ stP D.length (invF s b xs)
  | [], p, b, T, D, _, _, _, _, hT, _ => ⟨rfl, rfl, trivial⟩
  | x :: t, p, b, T, D, hi, ho, hs, hp, hT, hD => by
    obtain ⟨⟨i0, i1, i2⟩, hi'⟩ := insA_cons hi
    obtain ⟨ho', hst⟩ := ordB_cons ho
    have hst' := (hst (by omega)).resolve_right (by omega)
    have hs' : (p : Int) ≤ x.1 := hs
    obtain ⟨f, hf⟩ := Int.eq_ofNat_of_zero_le i0
    obtain ⟨q, hq⟩ := Int.eq_ofNat_of_zero_le (show 0 ≤ x.2.1 by omega)
    have hsl := str_len s
    have l1 := seg_len s.data.toList p f (by omega) (by omega)
    have l2 := str_len x.2.2
    have hT2 : T = (D ++ ((s.data.toList.drop p).take (f - p) ++ x.2.2.data.toList)) ++ appL s.data.toList q t := by
      rw [hT]; simp only [appL, hf, hq, Int.toNat_natCast, List.append_assoc]
    have hL : (D ++ ((s.data.toList.drop p).take (f - p) ++ x.2.2.data.toList)).length = D.length + ((f - p) + x.2.2.size) := by
      rw [List.length_append, List.length_append, l1, l2]
    have hD2 : ((D ++ ((s.data.toList.drop p).take (f - p) ++ x.2.2.data.toList)).length : Int) = (q : Int) + (b + grw x) := by
      rw [hL]; unfold grw; omega
    obtain ⟨j1, j2, j3⟩ := inv_ok s t q (b + grw x) T _ hi' ho' (by rw [hq] at hst'; simpa using hst') (by omega) hT2 hD2
    have hTl : D.length + ((f - p) + x.2.2.size) ≤ T.length := by rw [hT2, List.length_append, hL]; omega
    have hy : insB (T.length : Int) (x.1 + b, x.1 + b + (x.2.2.size : Int), s.extract x.1.toNat x.2.1.toNat) = true :=
      insB_3 (by simp only; omega) (by simp only; omega) (by simp only; omega)
    refine ⟨?_, ?_, ?_⟩
    · show (insB _ _ && insA _ _) = true
      rw [hy, j1]; rfl
    · show ordB (_ :: invF s (b + grw x) t) = true
      generalize hR : invF s (b + grw x) t = R at *
      cases R with
      | nil => rfl
      | cons y R =>
        have h3 : ((D ++ ((s.data.toList.drop p).take (f - p) ++ x.2.2.data.toList)).length : Int) ≤ y.1 := j3
        show (decide _ && ordB (y :: R)) = true
        rw [j2, decide_eq_true (by simp only; omega)]; rfl
    · show (D.length : Int) ≤ x.1 + b
      omega
theorem aply_list (s : ByteArray) (xs : List Ed) : (aply s xs).data.toList = appL s.data.toList 0 xs := by simp [aply]
theorem inv_back {s : ByteArray} {xs : List Ed} (h : appE s xs = 0) (hs : s.size ≤ 65536) : appE (appS s xs) (invV s xs) = 0 ∧ appS (appS s xs) (invV s xs) = s ∧ (invV s xs).length = xs.length := by
  have hc : chkL (s.size : Int) xs = 0 := by
    by_cases hc : chkL (s.size : Int) xs = 0
    · exact hc
    · have := (appE_1 hc).1; omega
  have hb : ¬ 65536 < totV s xs := by
    intro hb
    have := (appE_2 hc hb).1; omega
  obtain ⟨z1, z2⟩ := chk_zero hc
  have hS : appS s xs = aply s xs := (appE_3 hc hb).2
  have hI : invV s xs = invF s 0 xs := by unfold invV; rw [if_neg (by omega)]
  rw [hS, hI]
  have a := inv_app s xs 0 0 (appL s.data.toList 0 xs) [] z1 z2 (stP_0 z1) (Nat.zero_le _) rfl rfl
  obtain ⟨k1, k2, _⟩ := inv_ok s xs 0 0 (appL s.data.toList 0 xs) [] z1 z2 (stP_0 z1) (Nat.zero_le _) rfl rfl
  have hsz : (appL s.data.toList 0 xs).length = (aply s xs).size := by simp [aply, ByteArray.size]
  rw [hsz] at k1
  have c0 : chkL ((aply s xs).size : Int) (invF s 0 xs) = 0 := chk_zero' k1 k2
  have hA : aply (aply s xs) (invF s 0 xs) = s := by
    show (⟨(appL (aply s xs).data.toList 0 (invF s 0 xs)).toArray⟩ : ByteArray) = s
    rw [aply_list]
    have a' : appL (appL s.data.toList 0 xs) 0 (invF s 0 xs) = s.data.toList.drop 0 := a
    rw [a']
    apply ByteArray.ext; simp
  have ht := aply_size c0
  rw [hA] at ht
  obtain ⟨r1, r2⟩ := appE_3 c0 (by omega)
  exact ⟨r1, by rw [r2, hA], invF_len s 0 xs⟩
/-- behind all From: the offset alone counts -/
theorem shf_far (a : Int) : ∀ (xs : List Ed) (b : Int), (∀ x ∈ xs, a < x.1 ∧ x.1 ≤ x.2.1) → shf a xs b = a + b
  | [], b, _ => rfl
  | x :: t, b, h => by
    have h0 := h x (by simp)
    rw [shf, if_neg (by omega), if_neg (by omega)]
    exact shf_far a t b (fun y hy => h y (by simp [hy]))
/-- an edit covers an offset -/
def cov (a : Int) (x : Ed) : Prop := x.1 ≤ a ∧ a < x.2.1
theorem insA_far {n : Int} : ∀ {xs : List Ed} {p : Nat}, insA n xs = true → ordB xs = true → stP p xs → ∀ x ∈ xs, (p : Int) ≤ x.1 ∧ x.1 ≤ x.2.1
  | [], _, _, _, _, x, hx => by simp at hx
  | y :: t, p, hi, ho, hs, x, hx => by
    obtain ⟨⟨i0, i1, i2⟩, hi'⟩ := insA_cons hi
    obtain ⟨ho', hst⟩ := ordB_cons ho
    have hst' := (hst (by omega)).resolve_right (by omega)
    have hs' : (p : Int) ≤ y.1 := hs
    rcases List.mem_cons.1 hx with rfl | hx
    · exact ⟨hs', i1⟩
    · have := insA_far hi' ho' hst' x hx
      omega
/-- where a byte goes -/
theorem shf_at (b : List UInt8) (a : Nat) (ha : a ≤ b.length) : ∀ (xs : List Ed) (p : Nat) (k : Int) (T D : List UInt8), insA (b.length : Int) xs = true → ordB xs = true → stP p xs → p ≤ a →
    T = D ++ appL b p xs → (D.length : Int) = p + k →
    (∀ x ∈ xs, cov a x → ∃ n : Nat, shf a xs k = (n : Int) ∧ n + x.2.2.size ≤ T.length ∧ (T.drop n).take x.2.2.size = x.2.2.data.toList) ∧
    ((∀ x ∈ xs, ¬ cov a x) → ∃ n : Nat, shf a xs k = (n : Int) ∧ T.drop n = T.drop n ∧ (a < b.length → T[n]? = b[a]?) ∧ (a = b.length → n = T.length) ∧ (a < b.length → n < T.length))
  | [], p, k, T, D, _, _, _, hp, hT, hD => by
    refine ⟨fun x hx => by simp at hx, fun _ => ⟨D.length + (a - p), ?_, rfl, ?_, ?_, ?_⟩⟩
    · show (a : Int) + k = _; omega
    · intro _
      rw [hT]
      simp only [appL]
      rw [List.getElem?_append_right (by omega), List.getElem?_drop]
      congr 1; omega
    · intro h; rw [hT]; simp only [appL, List.length_append, List.length_drop]; omega
    · intro h; rw [hT]; simp only [appL, List.length_append, List.length_drop]; omega
  | x :: t, p, k, T, D, hi, ho, hs, hp, hT, hD => by
    obtain ⟨⟨i0, i1, i2⟩, hi'⟩ := insA_cons hi
    obtain ⟨ho', hst⟩ := ordB_cons ho
    have hst' := (hst (by omega)).resolve_right (by omega)
    have hs' : (p : Int) ≤ x.1 := hs
    have hfar := insA_far hi' ho' hst'
    obtain ⟨f, hf⟩ := Int.eq_ofNat_of_zero_le i0
    obtain ⟨q, hq⟩ := Int.eq_ofNat_of_zero_le (show 0 ≤ x.2.1 by omega)
    have l1 := seg_len b p f (by omega) (by omega)
    have l2 := str_len x.2.2
    have hT2 : T = (D ++ ((b.drop p).take (f - p) ++ x.2.2.data.toList)) ++ appL b q t := by
      rw [hT]; simp only [appL, hf, hq, Int.toNat_natCast, List.append_assoc]
    have hL : (D ++ ((b.drop p).take (f - p) ++ x.2.2.data.toList)).length = D.length + ((f - p) + x.2.2.size) := by
      rw [List.length_append, List.length_append, l1, l2]
    have hD2 : ((D ++ ((b.drop p).take (f - p) ++ x.2.2.data.toList)).length : Int) = (q : Int) + (k + grw x) := by
      rw [hL]; unfold grw; omega
    have hTl : D.length + ((f - p) + x.2.2.size) ≤ T.length := by rw [hT2, List.length_append, hL]; omega
    by_cases h1 : x.2.1 ≤ a
    · obtain ⟨j1, j2⟩ := shf_at b a ha t q (k + grw x) T _ hi' ho' (by rw [hq] at hst'; simpa using hst') (by omega) hT2 hD2
      have e : shf a (x :: t) k = shf a t (k + grw x) := by rw [shf, if_pos h1]
      rw [e]
      refine ⟨fun y hy hc => ?_, fun hn => j2 (fun y hy => hn y (by simp [hy]))⟩
      rcases List.mem_cons.1 hy with rfl | hy
      · unfold cov at hc; omega
      · exact j1 y hy hc
    · by_cases h2 : x.1 ≤ a
      · have e : shf a (x :: t) k = x.1 + k := by rw [shf, if_neg h1, if_pos h2]
        rw [e]
        refine ⟨fun y hy hc => ?_, fun hn => absurd ⟨h2, by omega⟩ (hn x (by simp))⟩
        rcases List.mem_cons.1 hy with rfl | hy
        · refine ⟨D.length + (f - p), by omega, by omega, ?_⟩
          have e1 : T.drop (D.length + (f - p)) = y.2.2.data.toList ++ appL b q t := by
            rw [hT2, show D ++ ((b.drop p).take (f - p) ++ y.2.2.data.toList) ++ appL b q t = (D ++ (b.drop p).take (f - p)) ++ (y.2.2.data.toList ++ appL b q t) by simp only [List.append_assoc]]
            rw [List.drop_left']
            rw [List.length_append, l1]
          rw [e1, List.take_left']
          exact l2
        · have := hfar y hy
          unfold cov at hc
          omega
      · have e : shf a (x :: t) k = shf a t k := by rw [shf, if_neg h1, if_neg h2]
        rw [e, shf_far a t k (fun y hy => by have := hfar y hy; omega)]
        refine ⟨fun y hy hc => ?_, fun _ => ⟨D.length + (a - p), by omega, rfl, ?_, ?_, ?_⟩⟩
        · rcases List.mem_cons.1 hy with rfl | hy
          · exact absurd hc.1 h2
          · have := hfar y hy
            unfold cov at hc
            omega
        · intro _
          rw [hT2, show D ++ ((b.drop p).take (f - p) ++ x.2.2.data.toList) ++ appL b q t = D ++ ((b.drop p).take (f - p) ++ (x.2.2.data.toList ++ appL b q t)) by simp only [List.append_assoc]]
          rw [List.getElem?_append_right (by omega), show D.length + (a - p) - D.length = a - p by omega, List.getElem?_append_left (by rw [l1]; omega), List.getElem?_take_of_lt (by omega), List.getElem?_drop]
          congr 1; omega
        · intro h; omega
        · intro h; omega
