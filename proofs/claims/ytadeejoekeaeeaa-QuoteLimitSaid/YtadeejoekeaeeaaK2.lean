/-
  PLAIN: a prefix of a literal is no literal, and where its fault lies; a literal with a rest behind it. Lists only.
-/
import Derived.Test.YtadeejoekeaeeaaK
namespace Go.Proofs.Ytadeejoekeaeeaa
open Go
set_option linter.unusedSimpArgs false
set_option linter.unusedVariables false
theorem wrB_r {c : UInt8} {r : List UInt8} (h : wrB c = 92 :: r) (hr : 1 ≤ r.length) : r.length = 1 ∨ (r.length = 3 ∧ r.getD 0 0 = 120) := by
  unfold wrB at h
  (repeat' split at h) <;> (simp at h)
  all_goals first
    | (subst h; left; rfl)
    | (obtain ⟨_, h⟩ := h; subst h; simp at hr; done)
    | (subst h; right; exact ⟨rfl, rfl⟩)
theorem sc_cut (l : List UInt8) : ∀ (m f a : Nat) (acc : List UInt8), m ≤ (body l).length → m ≤ f →
    ∃ g, sc f ((body l).take m) a acc = ([], 8, g) ∧ (g = a + m ∨ (a ≤ g ∧ g < a + m ∧ (body l).getD (g - a) 0 = 92 ∧ a + m ≤ g + 3)) := by
  induction l with
  | nil =>
    intro m f a acc hm hf
    simp [body] at hm
    subst hm
    refine ⟨a, ?_, .inl rfl⟩
    cases f <;> simp [body, sc]
  | cons c t ih =>
    intro m f a acc hm hf
    have hb : body (c :: t) = wrB c ++ body t := by simp [body]
    rw [hb] at hm ⊢
    cases m with
    | zero =>
      refine ⟨a, ?_, .inl rfl⟩
      cases f <;> simp [sc]
    | succ m =>
      obtain ⟨f, rfl⟩ : ∃ g, f = g + 1 := ⟨f - 1, by omega⟩
      rcases wrB_cases c with ⟨e, h1, h2, h3⟩ | ⟨r, e, hr, _, hx⟩
      · rw [e] at hm ⊢
        simp at hm
        obtain ⟨g, i1, i2⟩ := ih m f (a + 1) (acc ++ [c]) (by omega) (by omega)
        refine ⟨g, ?_, ?_⟩
        · rw [show ([c] ++ body t).take (m + 1) = c :: (body t).take m by simp, sc_c h1 h2 h3, i1]
        · rcases i2 with rfl | ⟨j1, j2, j3, j4⟩
          · left; omega
          · right
            refine ⟨by omega, by omega, ?_, by omega⟩
            rw [show g - a = (g - (a + 1)) + 1 by omega]
            simpa using j3
      · have hrr := wrB_r e hr
        rw [e] at hm ⊢
        simp at hm
        by_cases hw : r.length ≤ m
        · obtain ⟨n, rfl⟩ : ∃ n, m = r.length + n := ⟨m - r.length, by omega⟩
          obtain ⟨g, i1, i2⟩ := ih n f (a + (r.length + 1)) (acc ++ [c]) (by omega) (by omega)
          refine ⟨g, ?_, ?_⟩
          · have et : (92 :: r ++ body t).take (r.length + n + 1) = 92 :: (r ++ (body t).take n) := by
              simp [List.take_append]
              rw [List.take_of_length_le (by omega)]
            rw [et, sc_e (by decide), hx, if_neg (by simp)]
            simp only [List.drop_succ_cons, ofNat_toNat]
            rw [List.drop_left, i1]
          · rcases i2 with rfl | ⟨j1, j2, j3, j4⟩
            · left; omega
            · right
              refine ⟨by omega, by omega, ?_, by omega⟩
              rw [show g - a = (g - (a + (r.length + 1))) + (r.length + 1) by omega]
              rw [List.getD_eq_getElem?_getD, show (92 :: r ++ body t) = (92 :: r) ++ body t from rfl, List.getElem?_append_right (by simp)]
              simp only [List.length_cons, Nat.add_sub_cancel]
              rw [← List.getD_eq_getElem?_getD]; exact j3
        · refine ⟨a, ?_, .inr ⟨Nat.le_refl _, by omega, by simp, by omega⟩⟩
          have et : (92 :: r ++ body t).take (m + 1) = 92 :: r.take m := by
            rw [show (92 :: r ++ body t) = 92 :: (r ++ body t) from rfl, List.take_succ_cons, List.take_append_of_le_length (by omega)]
          rw [et, sc_e (by decide), if_pos]
          unfold escL escC
          rcases hrr with hr1 | ⟨hr3, hr4⟩
          · have : m = 0 := by omega
            subst this
            simp
          · have hl : (92 :: r.take m : List UInt8).length < 4 := by simp; omega
            by_cases hm0 : m = 0
            · subst hm0; simp
            · have hg : ((92 :: r.take m : List UInt8).getD 1 0) = 120 := by
                obtain ⟨k, rfl⟩ : ∃ k, m = k + 1 := ⟨m - 1, by omega⟩
                match r, hr4 with
                | [], h => simp at h
                | x :: r', h => simpa using h
              have hl2 : ¬ (92 :: r.take m : List UInt8).length < 2 := by simp; omega
              rw [hg, if_neg hl2]
              simp only [show (120 : UInt8).toNat = 120 from rfl]
              rw [if_neg (by omega), if_neg (by omega), if_neg (by omega), if_neg (by omega), if_neg (by omega), if_pos trivial, if_pos hl]
theorem unq_cut (l : List UInt8) (k : Nat) (hl : l.length ≤ 16000) (hk : k < (quoteL l).length) :
    ∃ g, unq ((quoteL l).take k) = ([], 8, g) ∧ (g = k ∨ (g < k ∧ 0 < k ∧ (quoteL l).getD g 0 = 92 ∧ k ≤ g + 3)) := by
  have hb := body_len l
  have hq := quoteL_len l
  by_cases h0 : k = 0
  · subst h0
    exact ⟨0, by rw [unq_no (by simp) (by simp)], .inl rfl⟩
  · obtain ⟨m, rfl⟩ : ∃ m, k = m + 1 := ⟨k - 1, by omega⟩
    have et : (quoteL l).take (m + 1) = 34 :: (body l).take m := by
      show ((34 :: body l) ++ [34]).take (m + 1) = _
      rw [List.take_append_of_le_length (by simp; omega)]
      simp
    rw [et, unq_sc (by simp; omega) (by rintro (h | h); simp at h; exact h rfl)]
    obtain ⟨g, i1, i2⟩ := sc_cut l m ((34 :: (body l).take m : List UInt8).length) 1 [] (by omega) (by simp; omega)
    refine ⟨g, by rw [List.drop_succ_cons, List.drop_zero, i1], ?_⟩
    rcases i2 with rfl | ⟨j1, j2, j3, j4⟩
    · left; omega
    · right
      refine ⟨by omega, by omega, ?_, by omega⟩
      obtain ⟨x, rfl⟩ : ∃ x, g = x + 1 := ⟨g - 1, by omega⟩
      rw [Nat.add_sub_cancel] at j3
      have hx : x < (body l).length := by omega
      show ((34 :: body l) ++ [34]).getD (x + 1) 0 = 92
      rw [List.getD_eq_getElem?_getD, List.getElem?_append_left (by simp; omega), List.getElem?_cons_succ, ← List.getD_eq_getElem?_getD]
      exact j3
theorem unq_rest (l u : List UInt8) (hl : l.length ≤ 8000) (hu : u ≠ []) (hu2 : u.length ≤ 8000) : unq (quoteL l ++ u) = ([], 8, (quoteL l).length) := by
  have hb := body_len l
  have hq := quoteL_len l
  have hla : (quoteL l ++ u).length = (body l).length + 2 + u.length := by rw [List.length_append, hq]
  rw [unq_sc (by omega) (by rintro (h | h); omega; exact h rfl)]
  rw [show (quoteL l ++ u).drop 1 = body l ++ (34 :: u) by simp [quoteL]]
  obtain ⟨h1, h2⟩ := sc_body l (quoteL l ++ u).length 1 [] (34 :: u) (by rw [List.length_cons]; omega)
  rw [h1]
  obtain ⟨g, hg⟩ : ∃ g, (quoteL l ++ u).length - l.length = g + 1 := ⟨(quoteL l ++ u).length - l.length - 1, by rw [List.length_cons] at h2; omega⟩
  rw [hg, sc_q (by decide), if_neg hu, hq]
  congr 2
  omega
end Go.Proofs.Ytadeejoekeaeeaa
