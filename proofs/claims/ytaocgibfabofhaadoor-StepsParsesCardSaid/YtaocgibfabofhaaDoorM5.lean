/-
  What Parse accepts is the text of the path that it returns: the steps and the whole. Condition: the text has at most 400 bytes.
-/
import Derived.Test.YtaocgibfabofhaaDoorM4
namespace Go.Proofs.YtaocgibfabofhaaDoor
open Go.RowKit
set_option linter.unusedSimpArgs false
set_option linter.unusedVariables false
theorem dr_len (s : ByteArray) (q : Nat) : (dr s q).length = s.size - q := by show (List.drop _ _).length = _; rw [List.length_drop, ← size_l]
theorem dr_drop (s : ByteArray) {p q : Nat} (h : p ≤ q) : (dr s p).drop (q - p) = dr s q := by
  show (s.data.toList.drop p).drop (q - p) = _; rw [List.drop_drop]; congr 1; omega
theorem dr_split {s : ByteArray} {q : Nat} (h : q ≤ s.size) : s.data.toList = s.data.toList.take q ++ dr s q ∧ (s.data.toList.take q).length = q :=
  ⟨(List.take_append_drop _ _).symm, by rw [List.length_take, ← size_l]; omega⟩
theorem dr_ext {s : ByteArray} {p q : Nat} {X : List UInt8} (hp : p ≤ s.size) (h : dr s p = X ++ dr s q) (hq : q = p + X.length) : (s.extract p q).data.toList = X := by
  obtain ⟨h1, h2⟩ := dr_split hp
  rw [h] at h1
  have := ext_mid h1 q (by rw [h2]; exact hq)
  rw [h2] at this
  exact this
theorem body_ge : ∀ l : List UInt8, l.length ≤ (body l).length := by
  intro l
  induction l with
  | nil => simp
  | cons c l ih =>
    have hb : body (c :: l) = wrB c ++ body l := by simp [body]
    have hw : 1 ≤ (wrB c).length := by unfold wrB; (repeat' split) <;> simp
    rw [hb, List.length_append, List.length_cons]; omega
theorem quoS_inv {s : ByteArray} {p : Nat} (hs : s.size ≤ 400) (hc : ch s p = 34) (h : (quoS s p).1 = true) :
    (quoS s p).2.1.size ≠ 0 ∧ identB (quoS s p).2.1 = false ∧ (quoS s p).2.1.size ≤ 400 ∧ dr s p = quoteL (quoS s p).2.1.data.toList ++ dr s (quoS s p).2.2 := by
  have hp := ch_in (s := s) (p := p) (by omega)
  cases hq : (quoF s s.size (p + 1)).1 with
  | false => rw [quoS_1 (quoF s s.size (p + 1)).2 (Prod.ext hq.symm rfl)] at h; cases h
  | true =>
    obtain ⟨l, e, _⟩ := quo_inv s s.size (p + 1) (by omega) hq
    obtain ⟨g1, g2, g3⟩ := quoF_go (s := s) s.size (p + 1) (by omega)
    have c34 := g3 hq
    have hE : (true, (quoF s s.size (p + 1)).2) = quoF s s.size (p + 1) := Prod.ext hq.symm rfl
    generalize (quoF s s.size (p + 1)).2 = q at *
    have lq := ch_in (s := s) (p := q) (by omega)
    have e0 : dr s p = UInt8.ofNat 34 :: dr s (p + 1) := dr_cons (n := 34) hc hp (by decide)
    have e1 : dr s q = UInt8.ofNat 34 :: dr s (q + 1) := dr_cons (n := 34) c34 lq (by decide)
    have hb : (body l).length = q - (p + 1) := by
      have := congrArg List.length e
      rw [List.length_append, dr_len, dr_len] at this; omega
    have eall : dr s p = quoteL l ++ dr s (q + 1) := by
      rw [e0, e, e1]; unfold quoteL; simp
    have hge := body_ge l
    have hx := dr_ext (by omega) eall (by rw [quoteL_len]; omega)
    have hV : quoV s p q = ⟨l.toArray⟩ := by
      unfold quoV
      rw [hx, unq_quote _ (by omega)]
    by_cases hbad : (quoV s p q).size = 0 ∨ identB (quoV s p q) = true
    · rw [quoS_2 q hE hbad] at h; cases h
    · rw [quoS_3 q hE hbad]
      rw [hV] at hbad ⊢
      refine ⟨fun h => hbad (.inl h), ?_, ?_, eall⟩
      · cases hi : identB ⟨l.toArray⟩ with
        | false => rfl
        | true => exact absurd (.inr hi) hbad
      · show l.toArray.size ≤ 400
        rw [List.size_toArray]; omega
theorem labS_inv {s : ByteArray} {p : Nat} (hs : s.size ≤ 400) (hp : p ≤ s.size) (h : (labS s p).1 = true) :
    (labS s p).2.1.size ≠ 0 ∧ (labS s p).2.1.size ≤ 400 ∧ dr s p = (labelV (labS s p).2.1).data.toList ++ dr s (labS s p).2.2 := by
  by_cases hc : ch s p = 34
  · rw [labS_1 hc] at h ⊢
    obtain ⟨a, b, c, d⟩ := quoS_inv hs hc h
    have el : (labelV (quoS s p).2.1).data.toList = quoteL (quoS s p).2.1.data.toList := by unfold labelV; rw [if_neg (by rw [b]; simp)]
    exact ⟨a, c, by rw [el]; exact d⟩
  · have e : labS s p = labT s p (labQ s p) := by unfold labS; rw [if_neg hc]
    rw [e] at h ⊢
    have hq : p ≤ labQ s p ∧ labQ s p ≤ s.size := by
      unfold labQ
      split
      · have := ch_in (s := s) (p := p) (by omega); omega
      · exact ⟨Nat.le_refl _, hp⟩
    cases hl : letB (ch s (labQ s p)) with
    | false => rw [labT_2 hl] at h; cases h
    | true =>
      have hF := labF_go (s := s) (a := p) (s.size + 1) (labQ s p) hq.2
      rw [labT_1 hl] at h ⊢
      generalize labF s p (s.size + 1) (labQ s p) = E at *
      have hid : identB (s.extract p E) = true := h
      have ed : dr s p = (dr s p).take (E - p) ++ dr s E := by rw [← dr_drop s (show p ≤ E by omega), List.take_append_drop]
      have hx := dr_ext hp ed (by rw [List.length_take, dr_len]; omega)
      have el : labelV (s.extract p E) = s.extract p E := by unfold labelV; rw [if_pos hid]
      refine ⟨identB_pos hid, by show (s.extract p E).size ≤ 400; rw [ByteArray.size_extract]; omega, ?_⟩
      show dr s p = (labelV (s.extract p E)).data.toList ++ dr s E
      rw [el, hx]; exact ed
theorem stepS_inv {s : ByteArray} {m : Bool} {p : Nat} (hs : s.size ≤ 400) (hp : p ≤ s.size) (hm : m = true → ch s p = 91) (h : (stepS s m p).1 = true) :
    vldX (stepS s m p).2.1 = true ∧ (stepS s m p).2.1.1.size ≤ 400 ∧ decide ((stepS s m p).2.1.1.size = 0) = m ∧ dr s p = coreT (stepS s m p).2.1 ++ dr s (stepS s m p).2.2 := by
  cases m with
  | false =>
    obtain ⟨a, b, c⟩ := labS_inv hs hp h
    refine ⟨vld_1 a rfl, b, decide_eq_false a, ?_⟩
    have e : coreT (stepS s false p).2.1 = (labelV (labS s p).2.1).data.toList := by unfold coreT; rw [if_neg (show ¬ (stepS s false p).2.1.1.size = 0 from a)]; rfl
    rw [e]; exact c
  | true =>
    have h91 := hm rfl
    have hlt := ch_in (s := s) (p := p) (by omega)
    have h' : (idxF s (p + 1) (s.size + 1) (p + 1) 0).1 = true := h
    rcases dig_inv s (p + 1) (s.size + 1) (p + 1) 0 (by omega) (Nat.le_refl _) (fun _ => rfl) (fun h => by omega) h' with ⟨e, hn⟩ | h1
    · refine ⟨vld_3 rfl ⟨Int.natCast_nonneg _, by show ((idxF s (p + 1) (s.size + 1) (p + 1) 0).2.1 : Int) ≤ 1000000; omega⟩, Nat.zero_le _, rfl, ?_⟩
      have e0 : dr s p = UInt8.ofNat 91 :: dr s (p + 1) := dr_cons (n := 91) h91 hlt (by decide)
      have ec : coreT (stepS s true p).2.1 = [91] ++ Lib.decDigits (idxF s (p + 1) (s.size + 1) (p + 1) 0).2.1 ++ [93] := by
        unfold coreT; rw [if_pos (show (stepS s true p).2.1.1.size = 0 from rfl)]
        show [91] ++ Lib.itoa ((idxF s (p + 1) (s.size + 1) (p + 1) 0).2.1 : Int) ++ [93] = _
        rw [itoa_dec]
      rw [ec, e0, e]
      show _ = _ ++ dr s (idxF s (p + 1) (s.size + 1) (p + 1) 0).2.2
      simp
    · omega
theorem tail_cons (y : St) (t : List St) : tailT (y :: t) = (if y.1.size = 0 then coreT y else [46] ++ coreT y) ++ tailT t := by
  have et : tailT (y :: t) = (stT false y).data.toList ++ tailT t := by simp [tailT]
  rw [et, stF_core]
theorem parF_inv (s : ByteArray) (hs : s.size ≤ 400) : ∀ (f : Nat) (m : Bool) (p : Nat) (acc : List St), p ≤ s.size → (m = true → ch s p = 91) →
    (∃ a, parF s f m p acc = ([], 8, a) ∧ a ≤ s.size) ∨
    ∃ x t, parF s f m p acc = (acc ++ x :: t, 0, 0) ∧ allV (x :: t) = true ∧ (∀ y ∈ x :: t, y.1.size ≤ 400) ∧ (x :: t).length ≤ f ∧ decide (x.1.size = 0) = m ∧ dr s p = coreT x ++ tailT t
  | 0, m, p, acc, hp, _ => .inl ⟨p, rfl, hp⟩
  | f + 1, m, p, acc, hp, hm => by
    have hgo := stepS_go (s := s) (m := m) (p := p) hp (fun h => ch_in (by have := hm h; omega))
    have hinv := stepS_inv hs hp hm
    obtain ⟨b, hb⟩ : ∃ b, b = (stepS s m p).1 := ⟨_, rfl⟩
    obtain ⟨x, hx⟩ : ∃ x, x = (stepS s m p).2.1 := ⟨_, rfl⟩
    obtain ⟨q, hq⟩ : ∃ q, q = (stepS s m p).2.2 := ⟨_, rfl⟩
    have hE : (b, x, q) = stepS s m p := by rw [hb, hx, hq]
    rw [← hb, ← hq] at hgo
    rw [← hb, ← hx, ← hq] at hinv
    clear hb hx hq
    cases b with
    | false => exact .inl ⟨q, parF_0 hE, hgo.2.1⟩
    | true =>
      obtain ⟨v1, v2, v3, v4⟩ := hinv rfl
      have v1' : allV [x] = true := by simp [allV, v1]
      by_cases he : q = s.size
      · refine .inr ⟨x, [], parF_1 hE he, v1', ?_, by simp, v3, ?_⟩
        · intro y hy; rw [List.mem_singleton.1 hy]; exact v2
        · rw [v4, he]
          have : dr s s.size = [] := List.drop_eq_nil_of_le (by rw [← size_l]; exact Nat.le_refl _)
          rw [this]; rfl
      by_cases h46 : ch s q = 46
      · have lq := ch_in (s := s) (p := q) (by omega)
        rw [parF_2 hE he h46]
        rcases parF_inv s hs f false (q + 1) (acc ++ [x]) (by omega) (fun h => by cases h) with h | ⟨y, t, e, w1, w2, w3, w4, w5⟩
        · exact .inl h
        · have hy : ¬ y.1.size = 0 := of_decide_eq_false w4
          refine .inr ⟨x, y :: t, by rw [e]; simp, ?_, ?_, by simp at w3 ⊢; omega, v3, ?_⟩
          · unfold allV at w1 ⊢; rw [List.all_cons, v1, w1]; rfl
          · intro z hz
            rcases List.mem_cons.1 hz with hz | hz
            · rw [hz]; exact v2
            · exact w2 z hz
          · have e1 : dr s q = UInt8.ofNat 46 :: dr s (q + 1) := dr_cons (n := 46) h46 lq (by decide)
            rw [v4, e1, w5, tail_cons, if_neg hy]; simp
      by_cases h91 : ch s q = 91
      · have lq := ch_in (s := s) (p := q) (by omega)
        rw [parF_3 hE he h91]
        rcases parF_inv s hs f true q (acc ++ [x]) (by omega) (fun _ => h91) with h | ⟨y, t, e, w1, w2, w3, w4, w5⟩
        · exact .inl h
        · have hy : y.1.size = 0 := of_decide_eq_true w4
          refine .inr ⟨x, y :: t, by rw [e]; simp, ?_, ?_, by simp at w3 ⊢; omega, v3, ?_⟩
          · unfold allV at w1 ⊢; rw [List.all_cons, v1, w1]; rfl
          · intro z hz
            rcases List.mem_cons.1 hz with hz | hz
            · rw [hz]; exact v2
            · exact w2 z hz
          · rw [v4, w5, tail_cons, if_pos hy]
      · exact .inl ⟨q, parF_4 hE he h46 h91, hgo.2.1⟩
theorem parS_inv {s : ByteArray} (hs : s.size ≤ 400) :
    (∃ a, parS s = ([], 8, a) ∧ a ≤ s.size) ∨ ∃ L, parS s = (L, 0, 0) ∧ allV L = true ∧ (∀ y ∈ L, y.1.size ≤ 400) ∧ L.length ≤ 401 ∧ textS L = s.data.toList := by
  unfold parS
  rw [if_neg (by omega)]
  by_cases h1 : s = ⟨#[46]⟩
  · rw [if_pos h1]
    exact .inr ⟨[], rfl, rfl, fun y hy => by simp at hy, by simp, by rw [h1]; rfl⟩
  rw [if_neg h1]
  by_cases h2 : ch s 0 = 46
  · rw [if_pos h2]
    have := ch_in (s := s) (p := 0) (by omega)
    exact .inl ⟨1, rfl, by omega⟩
  rw [if_neg h2]
  rcases parF_inv s hs (s.size + 1) (ch s 0 == 91) 0 [] (Nat.zero_le _) (fun h => by simpa using h) with h | ⟨x, t, e, w1, w2, w3, w4, w5⟩
  · exact .inl h
  · refine .inr ⟨x :: t, by rw [e]; rfl, w1, w2, by omega, ?_⟩
    have hT : textS (x :: t) = coreT x ++ tailT t := by
      unfold textS
      rw [if_neg (by rw [w1]; simp), if_neg (by simp)]
      show (stT true x).data.toList ++ tailT t = _
      rw [stT_core]
    rw [hT, ← w5]; rfl
end Go.Proofs.YtaocgibfabofhaaDoor
