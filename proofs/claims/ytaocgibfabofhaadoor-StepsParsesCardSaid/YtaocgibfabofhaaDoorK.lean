/-
  PLAIN: reading a literal undoes writing it; literals hold printable bytes alone; literals of concatenations. Lists only.
-/
import Derived.Test.YtaocgibfabofhaaDoorG
namespace Go.Proofs.YtaocgibfabofhaaDoor
open Go
set_option linter.unusedSimpArgs false
set_option linter.unusedVariables false
theorem digI_hexD : ∀ d : Fin 16, digI (hexD d.val).toNat = (d.val : Int) := by decide +kernel
theorem hexD_pr : ∀ d : Fin 16, 32 ≤ (hexD d.val).toNat ∧ (hexD d.val).toNat ≤ 126 := by decide +kernel
/-- what stands for a byte: the byte itself, or an escape that denotes it -/
theorem wrB_cases (c : UInt8) :
    (wrB c = [c] ∧ c.toNat ≠ 34 ∧ c.toNat ≠ 92 ∧ (decide (32 ≤ c.toNat) && decide (c.toNat ≤ 126)) = true) ∨
    (∃ r, wrB c = 92 :: r ∧ 1 ≤ r.length ∧ (∀ x ∈ r, 32 ≤ x.toNat ∧ x.toNat ≤ 126) ∧ ∀ rest, escL (92 :: (r ++ rest)) = (c.toNat, r.length + 1)) := by
  by_cases h34 : c.toNat = 34
  · right
    obtain rfl : c = 34 := nat_u8 (n := 34) h34 (by omega)
    exact ⟨[34], by rw [wr_q (.inl rfl)], by simp, by intro x hx; simp at hx; subst hx; decide, fun rest => by simp [escL, escC]⟩
  · by_cases h92 : c.toNat = 92
    · right
      obtain rfl : c = 92 := nat_u8 (n := 92) h92 (by omega)
      exact ⟨[92], by rw [wr_q (.inr rfl)], by simp, by intro x hx; simp at hx; subst hx; decide, fun rest => by simp [escL, escC]⟩
    · by_cases h10 : c.toNat = 10
      · right
        obtain rfl : c = 10 := nat_u8 (n := 10) h10 (by omega)
        exact ⟨[110], by decide +kernel, by simp, by intro x hx; simp at hx; subst hx; decide, fun rest => by simp [escL, escC]⟩
      · by_cases h9 : c.toNat = 9
        · right
          obtain rfl : c = 9 := nat_u8 (n := 9) h9 (by omega)
          exact ⟨[116], by decide +kernel, by simp, by intro x hx; simp at hx; subst hx; decide, fun rest => by simp [escL, escC]⟩
        · by_cases h13 : c.toNat = 13
          · right
            obtain rfl : c = 13 := nat_u8 (n := 13) h13 (by omega)
            exact ⟨[114], by decide +kernel, by simp, by intro x hx; simp at hx; subst hx; decide, fun rest => by simp [escL, escC]⟩
          · by_cases hp : 32 ≤ c.toNat ∧ c.toNat ≤ 126
            · left
              exact ⟨wr_c h34 h92 hp, h34, h92, by simp [hp]⟩
            · right
              have hlt := c.toNat_lt
              have l1 : c.toNat / 16 < 16 := by omega
              have l2 : c.toNat % 16 < 16 := by omega
              have e1 := digI_hexD ⟨c.toNat / 16, l1⟩
              have e2 := digI_hexD ⟨c.toNat % 16, l2⟩
              have p1 := hexD_pr ⟨c.toNat / 16, l1⟩
              have p2 := hexD_pr ⟨c.toNat % 16, l2⟩
              simp only at e1 e2 p1 p2
              refine ⟨[120, hexD (c.toNat / 16), hexD (c.toNat % 16)], wr_x h10 h9 h13 hp, by simp, ?_, fun rest => ?_⟩
              · intro x hx
                simp at hx
                rcases hx with rfl | rfl | rfl
                · decide
                · exact p1
                · exact p2
              · have hv : hexV (hexD (c.toNat / 16)).toNat (hexD (c.toNat % 16)).toNat = (c.toNat, 4) := by
                  unfold hexV
                  rw [e1, e2, if_neg (by omega)]
                  congr 1
                  omega
                simp only [escL, escC, List.cons_append, List.nil_append, List.getD_cons_succ, List.getD_cons_zero, List.length_cons, hv]
                simp
                rw [if_neg (by omega), if_neg (by omega)]
theorem ofNat_toNat (c : UInt8) : UInt8.ofNat c.toNat = c := by simp
theorem sc_body (l : List UInt8) : ∀ (f a : Nat) (acc rest : List UInt8), (body l).length + rest.length ≤ f → sc f (body l ++ rest) a acc = sc (f - l.length) rest (a + (body l).length) (acc ++ l) ∧ rest.length ≤ f - l.length := by
  induction l with
  | nil => intro f a acc rest hf; simp [body] at hf ⊢; exact hf
  | cons c t ih =>
    intro f a acc rest hf
    have hb : body (c :: t) = wrB c ++ body t := by simp [body]
    rw [hb] at hf ⊢
    rcases wrB_cases c with ⟨e, h1, h2, h3⟩ | ⟨r, e, hr, _, hx⟩
    · rw [e] at hf ⊢
      simp at hf
      obtain ⟨g, rfl⟩ : ∃ g, f = g + 1 := ⟨f - 1, by omega⟩
      obtain ⟨i1, i2⟩ := ih g (a + 1) (acc ++ [c]) rest (by omega)
      refine ⟨?_, by simp; omega⟩
      rw [show [c] ++ body t ++ rest = c :: (body t ++ rest) by simp, sc_c h1 h2 h3, i1]
      simp
      congr 1
      omega
    · rw [e] at hf ⊢
      simp at hf
      obtain ⟨g, rfl⟩ : ∃ g, f = g + 1 := ⟨f - 1, by omega⟩
      obtain ⟨i1, i2⟩ := ih g (a + (r.length + 1)) (acc ++ [c]) rest (by omega)
      refine ⟨?_, by simp; omega⟩
      rw [show 92 :: r ++ body t ++ rest = 92 :: (r ++ (body t ++ rest)) by simp, sc_e (by decide), hx, if_neg (by simp)]
      simp only [List.drop_succ_cons, ofNat_toNat]
      rw [List.drop_left, i1]
      simp
      congr 1
      omega
theorem quoteL_len (l : List UInt8) : (quoteL l).length = (body l).length + 2 := by simp [quoteL]
theorem unq_quote (l : List UInt8) (h : l.length ≤ 16000) : unq (quoteL l) = (l, 0, 0) := by
  have hb := body_len l
  have hq := quoteL_len l
  rw [unq_sc (by omega) (by rintro (h | h); omega; exact h rfl), hq]
  rw [show (quoteL l).drop 1 = body l ++ [34] by simp [quoteL]]
  obtain ⟨h1, h2⟩ := sc_body l ((body l).length + 2) 1 [] [34] (by simp)
  rw [h1]
  obtain ⟨g, hg⟩ : ∃ g, (body l).length + 2 - l.length = g + 1 := ⟨(body l).length + 2 - l.length - 1, by simp at h2; omega⟩
  rw [hg, sc_q (by decide), if_pos rfl]
  simp
theorem body_pr (l : List UInt8) : ∀ x ∈ body l, 32 ≤ x.toNat ∧ x.toNat ≤ 126 := by
  intro x hx
  simp only [body, List.mem_flatMap] at hx
  obtain ⟨c, _, hx⟩ := hx
  rcases wrB_cases c with ⟨e, h1, h2, h3⟩ | ⟨r, e, _, hr, _⟩
  · rw [e] at hx; simp at hx; subst hx; simp at h3; exact h3
  · rw [e] at hx; simp at hx
    rcases hx with rfl | hx
    · decide
    · exact hr x hx
theorem quoteL_pr (l : List UInt8) : ∀ x ∈ quoteL l, 32 ≤ x.toNat ∧ x.toNat ≤ 126 := by
  intro x hx
  simp only [quoteL, List.mem_append, List.mem_singleton] at hx
  rcases hx with (rfl | hx) | rfl
  · decide
  · exact body_pr l x hx
  · decide
theorem body_app (a b : List UInt8) : body (a ++ b) = body a ++ body b := by simp [body]
theorem quote_inj {a b : List UInt8} (ha : a.length ≤ 16000) (hb : b.length ≤ 16000) (h : quoteL a = quoteL b) : a = b := by
  have h1 := unq_quote a ha
  rw [h, unq_quote b hb] at h1
  exact (Prod.ext_iff.1 h1).1.symm
end Go.Proofs.YtaocgibfabofhaaDoor
