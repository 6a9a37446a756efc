/-
  What Parse accepts is the text of the path that it returns: mathematics. Condition: the text has at most 400 bytes.
-/
import Derived.Test.YtaocgibfabofhaaDoorM3
namespace Go.Proofs.YtaocgibfabofhaaDoor
open Go.RowKit
set_option linter.unusedSimpArgs false
set_option linter.unusedVariables false
/-- the bytes from q on -/
abbrev dr (s : ByteArray) (q : Nat) : List UInt8 := s.data.toList.drop q
theorem dr_cons {s : ByteArray} {q n : Nat} (h : ch s q = n) (hq : q < s.size) (hn : n < 256) : dr s q = UInt8.ofNat n :: dr s (q + 1) := by
  show s.data.toList.drop q = _
  rw [drop_at s q hq, ← h, ← ch_at s q hq]; simp
theorem esc_inv {s : ByteArray} {q x : Nat} (c : UInt8) (hw : wrB c = [92, UInt8.ofNat x]) (h0 : ch s q = 92) (h1 : ch s (q + 1) = x) (hx : 0 < x) (hx2 : x < 256) : dr s q = wrB c ++ dr s (q + 2) := by
  have l0 := ch_in (s := s) (p := q) (by omega)
  have l1 := ch_in (s := s) (p := q + 1) (by omega)
  rw [dr_cons h0 l0 (by omega), dr_cons h1 l1 hx2, hw]; rfl
theorem chunk_inv {s : ByteArray} {q : Nat} (h34 : ch s q ≠ 34) (h : (chrS s q).1 = true) : ∃ c, dr s q = wrB c ++ dr s (chrS s q).2 := by
  by_cases hlo : ch s q < 32 ∨ 126 < ch s q
  · rw [chrS_1 hlo] at h; cases h
  have l0 := ch_in (s := s) (p := q) (by omega)
  by_cases h92 : ch s q = 92
  · rw [chrS_3 h92] at h ⊢
    by_cases hs : ch s (q + 1) = 34 ∨ ch s (q + 1) = 92 ∨ ch s (q + 1) = 110 ∨ ch s (q + 1) = 116 ∨ ch s (q + 1) = 114
    · rw [escS_1 hs]
      rcases hs with hs | hs | hs | hs | hs
      · exact ⟨34, esc_inv 34 (by decide +kernel) h92 hs (by omega) (by omega)⟩
      · exact ⟨92, esc_inv 92 (by decide +kernel) h92 hs (by omega) (by omega)⟩
      · exact ⟨10, esc_inv 10 (by decide +kernel) h92 hs (by omega) (by omega)⟩
      · exact ⟨9, esc_inv 9 (by decide +kernel) h92 hs (by omega) (by omega)⟩
      · exact ⟨13, esc_inv 13 (by decide +kernel) h92 hs (by omega) (by omega)⟩
    · by_cases h120 : ch s (q + 1) = 120
      · rw [escS_2 h120] at h ⊢
        rw [show q + 1 + 1 = q + 2 by omega] at h ⊢
        by_cases hb : badHi (digV (ch s (q + 2))) = true
        · rw [digS_1 hb] at h; cases h
        by_cases hl : digV (ch s (q + 2 + 1)) < 0
        · rw [digS_2 hb hl] at h; cases h
        by_cases hw : wrt (16 * (digV (ch s (q + 2))).toNat + (digV (ch s (q + 2 + 1))).toNat) = true
        · rw [digS_3 hb hl hw]
          have hx0 : ¬ digV (ch s (q + 2)) < 0 := fun h => hb (by unfold badHi; exact decide_eq_true (.inl h))
          have l1 := ch_in (s := s) (p := q + 1) (by omega)
          have l2 := digV_in hx0
          have l3 := digV_in hl
          have d1 := digV_hi (ch s (q + 2))
          have d2 := digV_hi (ch s (q + 2 + 1))
          obtain ⟨x, hx⟩ := Int.eq_ofNat_of_zero_le (show 0 ≤ digV (ch s (q + 2)) by omega)
          obtain ⟨y, hy⟩ := Int.eq_ofNat_of_zero_le (show 0 ≤ digV (ch s (q + 2 + 1)) by omega)
          have ex := digV_ch _ (ch_lt s (q + 2)) x hx
          have ey := digV_ch _ (ch_lt s (q + 2 + 1)) y hy
          rw [hx, hy] at hw
          simp only [Int.toNat_natCast] at hw
          rw [hx] at d1
          rw [hy] at d2
          have hwb := (wrB_iff ⟨16 * x + y, by omega⟩).1 hw
          have e1 : (16 * x + y) / 16 = x := by omega
          have e2 : (16 * x + y) % 16 = y := by omega
          simp only [e1, e2] at hwb
          refine ⟨UInt8.ofNat (16 * x + y), ?_⟩
          rw [hwb, dr_cons h92 l0 (by omega), dr_cons h120 l1 (by omega), dr_cons (q := q + 1 + 1) (n := ch s (q + 2)) rfl l2 (ch_lt s _), dr_cons (q := q + 1 + 1 + 1) (n := ch s (q + 2 + 1)) rfl l3 (ch_lt s _), ex, ey]
          rfl
        · rw [digS_4 hb hl hw] at h; cases h
      · rw [escS_3 hs h120] at h; cases h
  · rw [chrS_2 hlo h92] at h ⊢
    have hlt := ch_lt s q
    refine ⟨UInt8.ofNat (ch s q), ?_⟩
    have e : (UInt8.ofNat (ch s q)).toNat = ch s q := by simp; omega
    rw [wr_c (by rw [e]; exact h34) (by rw [e]; exact h92) (by rw [e]; omega), dr_cons rfl l0 hlt]
    rfl
theorem quo_inv (s : ByteArray) : ∀ (f q : Nat), q ≤ s.size → (quoF s f q).1 = true → ∃ l : List UInt8, dr s q = body l ++ dr s (quoF s f q).2 ∧ l.length ≤ (quoF s f q).2 - q
  | 0, q, _, h => by cases h
  | f + 1, q, hq, h => by
    by_cases h34 : ch s q = 34
    · rw [quoF_1 h34]; exact ⟨[], rfl, by simp⟩
    · cases hc : (chrS s q).1 with
      | false => rw [quoF_3 h34 hc] at h; cases h
      | true =>
        rw [quoF_2 h34 hc] at h ⊢
        have hg := chrS_go hq
        obtain ⟨c, e⟩ := chunk_inv h34 hc
        obtain ⟨l, e2, e3⟩ := quo_inv s f (chrS s q).2 hg.2.1 h
        have hq2 := quoF_go f (chrS s q).2 hg.2.1
        have hlt := hg.2.2 hc
        refine ⟨c :: l, ?_, by simp; omega⟩
        have hb : body (c :: l) = wrB c ++ body l := by simp [body]
        rw [e, e2, hb, List.append_assoc]
theorem dig_inv (s : ByteArray) (a : Nat) : ∀ (f q n : Nat), q ≤ s.size → a ≤ q → (q = a → n = 0) → (a < q → (dr s a).take (q - a) = Lib.decDigits n) → (idxF s a f q n).1 = true →
    dr s a = Lib.decDigits (idxF s a f q n).2.1 ++ ([93] ++ dr s (idxF s a f q n).2.2) ∧ (idxF s a f q n).2.1 ≤ 1000000 ∨ 1000000 < n
  | 0, q, n, _, _, _, _, h => by cases h
  | f + 1, q, n, hq, haq, hn0, ht, h => by
    by_cases hbig : 1000000 < n
    · exact .inr hbig
    by_cases hdg : 48 ≤ ch s q ∧ ch s q ≤ 57
    · obtain ⟨d, hd⟩ : ∃ d, ch s q = 48 + d := ⟨ch s q - 48, by omega⟩
      have l0 := ch_in (s := s) (p := q) (by omega)
      by_cases hf : (n = 0 ∧ a < q) ∨ 1000000 < n * 10 + d
      · rw [idxF_1 hd (by omega) hf] at h; cases h
      · rw [idxF_2 hd (by omega) hf] at h ⊢
        have key : (dr s a).take (q + 1 - a) = Lib.decDigits (n * 10 + d) := by
          have ec : dr s q = UInt8.ofNat (48 + d) :: dr s (q + 1) := dr_cons hd l0 (by omega)
          have es : (dr s a).take (q + 1 - a) = (dr s a).take (q - a) ++ [UInt8.ofNat (48 + d)] := by
            have hdd : (dr s a).drop (q - a) = dr s q := by show (s.data.toList.drop a).drop (q - a) = _; rw [List.drop_drop]; congr 1; omega
            have : (dr s a).take (q - a + 1) = (dr s a).take (q - a) ++ ((dr s a).drop (q - a)).take 1 := by rw [List.take_add]
            rw [show q + 1 - a = q - a + 1 by omega, this, hdd, ec]; rfl
          rw [es]
          by_cases hqa : q = a
          · have hn := hn0 hqa
            subst hn
            rw [hqa, Nat.sub_self, List.take_zero, List.nil_append, show 0 * 10 + d = d by omega, Lib.decDigits_one (by omega)]
          · rw [ht (by omega), dec_more' (m := n * 10 + d) (by omega), show (n * 10 + d) / 10 = n by omega, show (n * 10 + d) % 10 = d by omega]
        rcases dig_inv s a f (q + 1) (n * 10 + d) (by omega) (by omega) (fun h => by omega) (fun _ => key) h with h1 | h1
        · exact .inl h1
        · omega
    · by_cases hp : q = a ∨ ch s q ≠ 93
      · rw [idxF_3 hdg hp] at h; cases h
      · rw [idxF_4 hdg hp]
        left
        have l0 := ch_in (s := s) (p := q) (by omega)
        have hc93 : ch s q = 93 := by omega
        have ec : dr s q = UInt8.ofNat 93 :: dr s (q + 1) := dr_cons (n := 93) hc93 l0 (by decide)
        refine ⟨?_, by show n ≤ _; omega⟩
        have hdd : (dr s a).drop (q - a) = dr s q := by show (s.data.toList.drop a).drop (q - a) = _; rw [List.drop_drop]; congr 1; omega
        have := List.take_append_drop (q - a) (dr s a)
        rw [hdd, ht (by omega), ec] at this
        exact this.symm
end Go.Proofs.YtaocgibfabofhaaDoor
