/-
  Reading the text of a valid path gives the path: mathematics. Conditions: labels of at most 1000 bytes, at most 60 steps.
-/
import Derived.Test.YtaocgibfabofhaaDoorT2
import Derived.Test.YtaocgibfabofhaaDoorR9
import Derived.Test.YtaocgibfabofhaaDoorK
import Derived.Lib.ItoaNum
namespace Go.Proofs.YtaocgibfabofhaaDoor
open Go.RowKit
set_option linter.unusedSimpArgs false
set_option linter.unusedVariables false
def chl (l : List UInt8) (k : Nat) : Nat := (l.getD k 0).toNat
theorem chl_app (pre post : List UInt8) (k : Nat) : chl (pre ++ post) (pre.length + k) = chl post k := by
  unfold chl
  rw [List.getD_eq_getElem?_getD, List.getElem?_append_right (by omega), List.getD_eq_getElem?_getD]
  simp
theorem chl_lt (a b : List UInt8) (k : Nat) (h : k < a.length) : chl (a ++ b) k = chl a k := by
  unfold chl
  rw [List.getD_eq_getElem?_getD, List.getElem?_append_left h, List.getD_eq_getElem?_getD]
theorem ch_split {s : ByteArray} {pre post : List UInt8} (h : s.data.toList = pre ++ post) (k : Nat) : ch s (pre.length + k) = chl post k := by
  show chl s.data.toList _ = _; rw [h, chl_app]
theorem size_l (s : ByteArray) : s.size = s.data.toList.length := by simp
theorem ext_mid {s : ByteArray} {pre X post : List UInt8} (h : s.data.toList = pre ++ (X ++ post)) (r : Nat) (hr : r = pre.length + X.length) : (s.extract pre.length r).data.toList = X := by
  subst hr
  have e : (s.extract pre.length (pre.length + X.length)).data.toList = (s.data.toList.drop pre.length).take X.length := by
    simp [ByteArray.data_extract, Array.toList_extract]
  rw [e, h]; simp
theorem dec_more' {m : Nat} (h : ¬ m < 10) : Lib.decDigits m = Lib.decDigits (m / 10) ++ [UInt8.ofNat (48 + m % 10)] := by
  rw [Lib.decDigits, dif_neg h]
theorem dec_pos (n : Nat) : 0 < (Lib.decDigits n).length := by
  by_cases h : n < 10
  · rw [Lib.decDigits_one h]; simp
  · rw [dec_more' h]; simp
theorem u8_48 (d : Nat) (h : d < 10) : (UInt8.ofNat (48 + d)).toNat = 48 + d := by simp; omega
theorem idx_run (s : ByteArray) : ∀ (n : Nat), n ≤ 1000000 → ∀ (pre post : List UInt8) (f : Nat), s.data.toList = pre ++ (Lib.decDigits n ++ post) →
    idxF s pre.length ((Lib.decDigits n).length + f) pre.length 0 = idxF s pre.length f (pre.length + (Lib.decDigits n).length) n := by
  intro n
  induction n using Nat.strongRecOn with
  | ind n ih =>
    intro hn pre post f h
    by_cases hlt : n < 10
    · rw [Lib.decDigits_one hlt] at h ⊢
      have hc : ch s pre.length = 48 + n := by have := ch_split h 0; rw [Nat.add_zero] at this; rw [this]; exact u8_48 n hlt
      show idxF s pre.length (1 + f) pre.length 0 = _
      rw [Nat.add_comm 1 f, idxF_2 hc (by omega) (by omega)]
      simp
    · rw [dec_more' hlt] at h ⊢
      have h' : s.data.toList = pre ++ (Lib.decDigits (n / 10) ++ ([UInt8.ofNat (48 + n % 10)] ++ post)) := by rw [h]; simp
      have := ih (n / 10) (by omega) (by omega) pre _ (f + 1) h'
      rw [List.length_append, show (Lib.decDigits (n / 10)).length + [UInt8.ofNat (48 + n % 10)].length + f = (Lib.decDigits (n / 10)).length + (f + 1) by simp; omega, this]
      have hc : ch s (pre.length + (Lib.decDigits (n / 10)).length) = 48 + n % 10 := by
        have := ch_split h' (Lib.decDigits (n / 10)).length
        rw [this]
        have := chl_app (Lib.decDigits (n / 10)) ([UInt8.ofNat (48 + n % 10)] ++ post) 0
        rw [Nat.add_zero] at this; rw [this]
        exact u8_48 _ (by omega)
      have hp := dec_pos (n / 10)
      rw [idxF_2 hc (by omega) (by omega)]
      congr 1
      omega
theorem itoa_dec (n : Nat) : Lib.itoa (n : Int) = Lib.decDigits n := by
  unfold Lib.itoa; rw [if_neg (by omega)]; rfl
theorem idx_text {s : ByteArray} {pre post : List UInt8} (n : Nat) (h1 : n ≤ 1000000) (h : s.data.toList = pre ++ (([91] ++ Lib.decDigits n ++ [93]) ++ post)) :
    idxS s pre.length = (true, n, pre.length + ([91] ++ Lib.decDigits n ++ [93]).length) := by
  have h' : s.data.toList = (pre ++ [91]) ++ (Lib.decDigits n ++ ([93] ++ post)) := by rw [h]; simp
  have hl : (pre ++ [(91 : UInt8)]).length = pre.length + 1 := by simp
  have hs : (Lib.decDigits n).length + 1 ≤ s.size := by rw [size_l, h]; simp; omega
  have hp := dec_pos n
  have := idx_run s n h1 _ _ (s.size - (Lib.decDigits n).length + 1) h'
  rw [hl] at this
  unfold idxS
  rw [show s.size + 1 = (Lib.decDigits n).length + (s.size - (Lib.decDigits n).length + 1) by omega, this]
  have hc : ch s (pre.length + 1 + (Lib.decDigits n).length) = 93 := by
    have := ch_split h' (Lib.decDigits n).length
    rw [hl] at this
    rw [this]
    have := chl_app (Lib.decDigits n) ([93] ++ post) 0
    rw [Nat.add_zero] at this; rw [this]; rfl
  rw [idxF_4 (by omega) (by omega)]
  simp
  omega
theorem hex_facts : ∀ m : Fin 256, wrt m.val = true → digV (hexD (m.val / 16)).toNat = ((m.val / 16 : Nat) : Int) ∧ digV (hexD (m.val % 16)).toNat = ((m.val % 16 : Nat) : Int) ∧ badHi ((m.val / 16 : Nat) : Int) = false := by decide +kernel
theorem chunk (c : UInt8) {s : ByteArray} {q : Nat} {rest : List UInt8} (h : ∀ k, ch s (q + k) = chl (wrB c ++ rest) k) : ch s q ≠ 34 ∧ chrS s q = (true, q + (wrB c).length) := by
  have h0 := h 0; have h1 := h 1; have h2 := h 2; have h3 := h 3
  rw [Nat.add_zero] at h0
  have esc : ∀ x : UInt8, wrB c = [92, x] → (x.toNat = 34 ∨ x.toNat = 92 ∨ x.toNat = 110 ∨ x.toNat = 116 ∨ x.toNat = 114) → ch s q ≠ 34 ∧ chrS s q = (true, q + (wrB c).length) := by
    intro x hx hx2
    rw [hx] at h0 h1
    have e0 : ch s q = 92 := h0
    have e1 : ch s (q + 1) = x.toNat := h1
    refine ⟨by omega, ?_⟩
    rw [chrS_3 e0, escS_1 (by rw [e1]; exact hx2), hx]; rfl
  by_cases h34 : c.toNat = 34
  · exact esc c (wr_q (.inl h34)) (.inl h34)
  by_cases h92 : c.toNat = 92
  · exact esc c (wr_q (.inr h92)) (.inr (.inl h92))
  by_cases h10 : c.toNat = 10
  · obtain rfl : c = 10 := nat_u8 (n := 10) h10 (by omega)
    exact esc 110 (by decide +kernel) (by decide)
  by_cases h9 : c.toNat = 9
  · obtain rfl : c = 9 := nat_u8 (n := 9) h9 (by omega)
    exact esc 116 (by decide +kernel) (by decide)
  by_cases h13 : c.toNat = 13
  · obtain rfl : c = 13 := nat_u8 (n := 13) h13 (by omega)
    exact esc 114 (by decide +kernel) (by decide)
  by_cases hp : 32 ≤ c.toNat ∧ c.toNat ≤ 126
  · have hw := wr_c h34 h92 hp
    rw [hw] at h0
    have e0 : ch s q = c.toNat := h0
    refine ⟨by omega, ?_⟩
    rw [chrS_2 (by omega) (by omega), hw]; rfl
  · have hw := wr_x h10 h9 h13 hp
    have hlt := c.toNat_lt
    have hwr : wrt c.toNat = true := by unfold wrt; exact decide_eq_true (by omega)
    obtain ⟨d1, d2, d3⟩ := hex_facts ⟨c.toNat, by omega⟩ hwr
    simp only at d1 d2 d3
    rw [hw] at h0 h1 h2 h3
    have e0 : ch s q = 92 := h0
    have e1 : ch s (q + 1) = 120 := h1
    have e2 : ch s (q + 2) = (hexD (c.toNat / 16)).toNat := h2
    have e3 : ch s (q + 3) = (hexD (c.toNat % 16)).toNat := h3
    refine ⟨by omega, ?_⟩
    rw [chrS_3 e0, escS_2 e1, show q + 1 + 1 = q + 2 by omega, hw]
    rw [digS_3 (by rw [e2, d1, d3]; simp) (by rw [show q + 2 + 1 = q + 3 by omega, e3, d2]; omega) (by
      rw [show q + 2 + 1 = q + 3 by omega, e2, e3, d1, d2]
      simp only [Int.toNat_natCast]
      rw [show 16 * (c.toNat / 16) + c.toNat % 16 = c.toNat by omega]; exact hwr)]
    rfl
theorem quo_run (s : ByteArray) : ∀ (l pre post : List UInt8) (f : Nat), s.data.toList = pre ++ (body l ++ ([34] ++ post)) → l.length < f → quoF s f pre.length = (true, pre.length + (body l).length)
  | [], pre, post, f, h, hf => by
    obtain ⟨f', rfl⟩ : ∃ f', f = f' + 1 := ⟨f - 1, by omega⟩
    have e : ch s pre.length = 34 := by have := ch_split h 0; rw [Nat.add_zero] at this; rw [this]; rfl
    rw [quoF_1 e]; rfl
  | c :: l, pre, post, f, h, hf => by
    obtain ⟨f', rfl⟩ : ∃ f', f = f' + 1 := ⟨f - 1, by omega⟩
    have hb : body (c :: l) = wrB c ++ body l := by simp [body]
    rw [hb] at h ⊢
    obtain ⟨n34, hc⟩ := chunk c (s := s) (q := pre.length) (rest := body l ++ ([34] ++ post)) (fun k => by rw [ch_split h k]; congr 1; simp)
    rw [quoF_2 n34 (by rw [hc]), hc]
    have h' : s.data.toList = (pre ++ wrB c) ++ (body l ++ ([34] ++ post)) := by rw [h]; simp
    have := quo_run s l (pre ++ wrB c) post f' h' (by simpa using hf)
    rw [List.length_append] at this
    show quoF s f' (pre.length + (wrB c).length) = _
    rw [this, List.length_append]
    congr 1
    omega
end Go.Proofs.YtaocgibfabofhaaDoor
