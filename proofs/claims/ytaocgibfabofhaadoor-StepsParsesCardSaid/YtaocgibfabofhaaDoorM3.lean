/-
  Reading the text of a valid path gives the path: labels and paths. Conditions: labels of at most 1000 bytes, at most 60 steps.
-/
import Derived.Test.YtaocgibfabofhaaDoorM2
namespace Go.Proofs.YtaocgibfabofhaaDoor
open Go.RowKit
set_option linter.unusedSimpArgs false
set_option linter.unusedVariables false
theorem lab_quoted {s v : ByteArray} {pre post : List UInt8} (hv : v.size ≤ 1000) (h0 : v.size ≠ 0) (hid : identB v = false) (h : s.data.toList = pre ++ (quoteL v.data.toList ++ post)) :
    labS s pre.length = (true, v, pre.length + (quoteL v.data.toList).length) := by
  have hc : ch s pre.length = 34 := by have := ch_split h 0; rw [Nat.add_zero] at this; rw [this]; rfl
  rw [labS_1 hc]
  have h' : s.data.toList = (pre ++ [34]) ++ (body v.data.toList ++ ([34] ++ post)) := by rw [h]; simp [quoteL]
  have hlen : v.data.toList.length < s.size := by
    have := congrArg List.length h
    rw [size_l, this]
    have hb : v.data.toList.length ≤ (body v.data.toList).length := by
      have : ∀ l : List UInt8, l.length ≤ (body l).length := by
        intro l
        induction l with
        | nil => simp
        | cons c l ih =>
          have hb : body (c :: l) = wrB c ++ body l := by simp [body]
          have hw : 1 ≤ (wrB c).length := by unfold wrB; (repeat' split) <;> simp
          rw [hb, List.length_append, List.length_cons]; omega
      exact this _
    rw [List.length_append, List.length_append, quoteL_len]; omega
  have hr := quo_run s v.data.toList (pre ++ [34]) post s.size h' hlen
  rw [show (pre ++ [(34 : UInt8)]).length = pre.length + 1 by simp] at hr
  have hx : (s.extract pre.length (pre.length + 1 + (body v.data.toList).length + 1)).data.toList = quoteL v.data.toList := ext_mid h _ (by rw [quoteL_len]; omega)
  have hV : quoV s pre.length (pre.length + 1 + (body v.data.toList).length) = v := by
    unfold quoV
    rw [hx, unq_quote _ (by rw [← size_l]; omega)]
  rw [quoS_3 _ hr.symm (by rw [hV, hid]; simp [h0]), hV, quoteL_len]
  congr 2
  omega
theorem lab_run (s : ByteArray) (p e : Nat) (h32 : e ≤ p + 32) (hin : ∀ j, p ≤ j → j < e → insB (ch s j) = true ∨ j = p) (hend : e = p + 32 ∨ insB (ch s e) = false) :
    ∀ (f q : Nat), p ≤ q → q ≤ e → (q = p → insB (ch s p) = true ∨ e = p) → e < q + f → labF s p f q = e
  | 0, q, h1, h2, h3, h4 => by omega
  | f + 1, q, h1, h2, h3, h4 => by
    by_cases hq : q = e
    · subst hq
      rw [labF_2]
      rintro ⟨a, b⟩
      rcases hend with h | h
      · omega
      · rw [h] at b; cases b
    · have hi : insB (ch s q) = true := by
        rcases hin q h1 (by omega) with h | h
        · exact h
        · subst h
          rcases h3 rfl with h | h
          · exact h
          · omega
      rw [labF_1 (by omega) hi]
      exact lab_run s p e h32 hin hend f (q + 1) (by omega) (by omega) (fun h => by omega) (by omega)
theorem ident_facts {v : ByteArray} (h : identB v = true) : v.size ≤ 32 ∧ tailB (idT v).data.toList = true := by
  unfold identB at h
  simp only [Bool.and_eq_true, decide_eq_true_eq] at h
  exact ⟨h.1, h.2.2⟩
theorem tail_facts {l : List UInt8} (h : tailB l = true) : letB (chl l 0) = true ∧ ∀ j, j < l.length → insB (chl l j) = true := by
  cases l with
  | nil => cases h
  | cons c t =>
    simp only [tailB, Bool.and_eq_true] at h
    refine ⟨h.1, fun j hj => ?_⟩
    have := List.all_eq_true.1 h.2 ((c :: t)[j]) (List.getElem_mem hj)
    unfold chl
    rw [List.getD_eq_getElem?_getD, List.getElem?_eq_getElem hj]
    exact this
theorem lab_ident {s v : ByteArray} {pre post : List UInt8} (hid : identB v = true) (hpost : insB (chl post 0) = false) (h : s.data.toList = pre ++ (v.data.toList ++ post)) :
    labS s pre.length = (true, v, pre.length + v.data.toList.length) := by
  obtain ⟨h32, ht⟩ := ident_facts hid
  have hch : ∀ j, j < v.size → ch s (pre.length + j) = ch v j := fun j hj => by
    rw [ch_split h j, chl_lt _ _ _ (by rw [← size_l]; exact hj)]; rfl
  have hend : ch s (pre.length + v.size) = chl post 0 := by
    rw [ch_split h, size_l]
    have := chl_app v.data.toList post 0
    rw [Nat.add_zero] at this; exact this
  have hsz : pre.length + v.size ≤ s.size := by rw [size_l s, h, size_l v]; simp
  have hx : s.extract pre.length (pre.length + v.size) = v := by
    apply ByteArray.ext; apply Array.ext'
    exact ext_mid h _ (by rw [size_l])
  have hp : 0 < v.size := Nat.pos_of_ne_zero (identB_pos hid)
  have hc0 := hch 0 hp
  rw [Nat.add_zero] at hc0
  have key : ∀ q, (q = pre.length ∨ q = pre.length + 1) → letB (ch s q) = true → (∀ j, q ≤ j → j < pre.length + v.size → insB (ch s j) = true) → q ≤ pre.length + v.size →
      labT s pre.length q = (true, v, pre.length + v.size) := by
    intro q hq hl hin hle
    have hr : labF s pre.length (s.size + 1) q = pre.length + v.size :=
      lab_run s pre.length (pre.length + v.size) (by omega) (fun j h1 h2 => by
        rcases Nat.lt_or_ge j q with h' | h'
        · right; omega
        · left; exact hin j h' h2) (.inr (by rw [hend]; exact hpost)) (s.size + 1) q (by omega) hle (fun hqp => .inl (hqp ▸ hin q (Nat.le_refl _) (by omega))) (by omega)
    rw [labT_1 hl, hr, hx, hid]
  rw [← size_l v]
  by_cases hsign : ch v 0 = 35 ∨ ch v 0 = 95
  · rw [labS_2 (by rw [hc0]; exact hsign)]
    have hT : idT v = v.extract 1 v.size := by unfold idT; rw [if_pos ⟨hp, hsign⟩]
    rw [hT, Lib.extract_to_end] at ht
    obtain ⟨t1, t2⟩ := tail_facts ht
    have hcd : ∀ j, chl (v.data.toList.drop 1) j = ch v (1 + j) := fun j => by
      unfold chl ch; rw [List.getD_eq_getElem?_getD, List.getElem?_drop, List.getD_eq_getElem?_getD]
    have hl1 : 1 < v.size := by
      rcases Nat.lt_or_ge 1 v.size with h1 | h1
      · exact h1
      · exfalso
        rw [List.drop_eq_nil_of_le (by rw [← size_l]; omega)] at ht
        cases ht
    refine key _ (.inr rfl) ?_ (fun j h1 h2 => ?_) (by omega)
    · rw [hch 1 hl1]; rw [hcd 0] at t1; exact t1
    · obtain ⟨k, rfl⟩ : ∃ k, j = pre.length + (1 + k) := ⟨j - pre.length - 1, by omega⟩
      rw [hch (1 + k) (by omega)]
      have := t2 k (by rw [List.length_drop, ← size_l]; omega)
      rw [hcd k] at this; exact this
  · have hT : idT v = v := by unfold idT; rw [if_neg (fun h => hsign h.2)]
    rw [hT] at ht
    obtain ⟨t1, t2⟩ := tail_facts ht
    have hlet : letB (ch v 0) = true := t1
    have n34 : ch v 0 ≠ 34 := fun e => by rw [e] at hlet; exact absurd hlet (by decide)
    rw [labS_3 (by rw [hc0]; exact n34) (by rw [hc0]; exact hsign)]
    refine key _ (.inl rfl) (by rw [hc0]; exact hlet) (fun j h1 h2 => ?_) (by omega)
    obtain ⟨k, rfl⟩ : ∃ k, j = pre.length + k := ⟨j - pre.length, by omega⟩
    rw [hch k (by omega)]
    exact t2 k (by rw [← size_l]; omega)
theorem dt2 (a b : ByteArray) : (a ++ b).data.toList = a.data.toList ++ b.data.toList := by simp
theorem dt3 (a b c : ByteArray) : (a ++ b ++ c).data.toList = a.data.toList ++ b.data.toList ++ c.data.toList := by simp
/-- a step's text without the dot -/
def coreT (x : St) : List UInt8 := if x.1.size = 0 then [91] ++ Lib.itoa x.2 ++ [93] else (labelV x.1).data.toList
theorem step_text {s : ByteArray} {pre post : List UInt8} {x : St} (hv : vldX x = true) (hx : x.1.size ≤ 1000) (hpost : insB (chl post 0) = false) (h : s.data.toList = pre ++ (coreT x ++ post)) :
    stepS s (decide (x.1.size = 0)) pre.length = (true, x, pre.length + (coreT x).length) := by
  obtain ⟨a, i⟩ := x
  by_cases ha : a.size = 0
  · have hae := size0 ha
    subst hae
    have hi : 0 ≤ i ∧ i ≤ 1000000 := by
      rcases Decidable.em (0 ≤ i ∧ i ≤ 1000000) with h | h
      · exact h
      · rw [vld_4 (x := (⟨#[]⟩, i)) ha h] at hv; cases hv
    obtain ⟨n, rfl⟩ := Int.eq_ofNat_of_zero_le hi.1
    have e : coreT (⟨#[]⟩, (n : Int)) = [91] ++ Lib.decDigits n ++ [93] := by unfold coreT; rw [if_pos ha]; show [91] ++ Lib.itoa (n : Int) ++ [93] = _; rw [itoa_dec]
    rw [e] at h ⊢
    have := idx_text n (by omega) h
    unfold stepS
    rw [if_pos (decide_eq_true ha), this]
  · have hi : i = 0 := by
      rcases Decidable.em (i = 0) with h | h
      · exact h
      · rw [vld_2 (x := (a, i)) ha h] at hv; cases hv
    subst hi
    have e : coreT (a, 0) = (labelV a).data.toList := by unfold coreT; rw [if_neg ha]
    rw [e] at h ⊢
    have hl : labS s pre.length = (true, a, pre.length + (labelV a).data.toList.length) := by
      cases hid : identB a with
      | true =>
        have el : labelV a = a := by unfold labelV; rw [if_pos hid]
        rw [el] at h ⊢
        exact lab_ident hid hpost h
      | false =>
        have el : (labelV a).data.toList = quoteL a.data.toList := by unfold labelV; rw [if_neg (by rw [hid]; simp)]
        rw [el] at h ⊢
        exact lab_quoted hx ha hid h
    unfold stepS
    rw [if_neg (by simpa using ha), hl]
theorem stF_core (x : St) : (stT false x).data.toList = if x.1.size = 0 then coreT x else [46] ++ coreT x := by
  unfold stT coreT
  by_cases h : x.1.size = 0
  · rw [if_pos h, if_pos h, if_pos h, dt3]; try rfl
  · rw [if_neg h, if_neg h, if_neg h, if_neg (by simp), dt2]; try rfl
theorem stT_core (x : St) : (stT true x).data.toList = coreT x := by
  unfold stT coreT
  by_cases h : x.1.size = 0
  · rw [if_pos h, if_pos h, dt3]; try rfl
  · rw [if_neg h, if_neg h, if_pos rfl]
theorem tail_head (xs : List St) : insB (chl (tailT xs) 0) = false := by
  cases xs with
  | nil => decide
  | cons x t =>
    have e : tailT (x :: t) = (stT false x).data.toList ++ tailT t := by simp [tailT]
    rw [e, stF_core]
    by_cases h : x.1.size = 0
    · rw [if_pos h]; unfold coreT; rw [if_pos h]; show insB 91 = false; decide
    · rw [if_neg h]; show insB 46 = false; decide
theorem path_text (s : ByteArray) : ∀ (t : List St) (x : St) (pre : List UInt8) (acc : List St) (f : Nat), (∀ y ∈ x :: t, vldX y = true ∧ y.1.size ≤ 1000) →
    s.data.toList = pre ++ (coreT x ++ tailT t) → t.length < f → parF s f (decide (x.1.size = 0)) pre.length acc = (acc ++ x :: t, 0, 0)
  | t, x, pre, acc, 0, _, _, hf => by omega
  | [], x, pre, acc, f + 1, hv, h, _ => by
    have hx := hv x (by simp)
    have hs := step_text hx.1 hx.2 (by decide) h
    rw [parF_1 hs.symm (by rw [size_l, h]; simp [tailT])]
  | y :: t, x, pre, acc, f + 1, hv, h, hf => by
    have hx := hv x (by simp)
    have hy := hv y (by simp)
    have hs := step_text hx.1 hx.2 (tail_head (y :: t)) h
    have et : tailT (y :: t) = (stT false y).data.toList ++ tailT t := by simp [tailT]
    have hpos : 0 < (coreT y).length := by
      unfold coreT
      split
      · simp
      · rename_i hn
        have : (labelV y.1).data.toList.length ≠ 0 := by
          unfold labelV
          split
          · rw [← size_l]; exact hn
          · simp [quoteL]
        omega
    have hlen : s.size = pre.length + (coreT x).length + (tailT (y :: t)).length := by rw [size_l, h]; simp; omega
    have hne : pre.length + (coreT x).length ≠ s.size := by
      rw [hlen, et, stF_core]
      by_cases hy0 : y.1.size = 0
      · rw [if_pos hy0, List.length_append]; omega
      · rw [if_neg hy0, List.length_append, List.length_append]; omega
    have hnext : ∀ k, ch s (pre.length + (coreT x).length + k) = chl (tailT (y :: t)) k := fun k => by
      have h' : s.data.toList = (pre ++ coreT x) ++ tailT (y :: t) := by rw [h]; simp
      have := ch_split h' k
      rw [List.length_append] at this; exact this
    by_cases hy0 : y.1.size = 0
    · have e1 : (stT false y).data.toList = coreT y := by rw [stF_core, if_pos hy0]
      have hc : ch s (pre.length + (coreT x).length) = 91 := by
        have := hnext 0; rw [Nat.add_zero] at this; rw [this, et, e1]; unfold coreT; rw [if_pos hy0]; rfl
      rw [parF_3 hs.symm hne hc]
      have h' : s.data.toList = (pre ++ coreT x) ++ (coreT y ++ tailT t) := by rw [h, et, e1]; simp
      have := path_text s t y (pre ++ coreT x) (acc ++ [x]) f (fun z hz => hv z (by simp at hz ⊢; exact .inr hz)) h' (by simpa using hf)
      rw [List.length_append, decide_eq_true hy0] at this
      rw [this]; simp
    · have e1 : (stT false y).data.toList = [46] ++ coreT y := by rw [stF_core, if_neg hy0]
      have hc : ch s (pre.length + (coreT x).length) = 46 := by
        have := hnext 0; rw [Nat.add_zero] at this; rw [this, et, e1]; rfl
      rw [parF_2 hs.symm hne hc]
      have h' : s.data.toList = (pre ++ coreT x ++ [46]) ++ (coreT y ++ tailT t) := by rw [h, et, e1]; simp
      have := path_text s t y (pre ++ coreT x ++ [46]) (acc ++ [x]) f (fun z hz => hv z (by simp at hz ⊢; exact .inr hz)) h' (by simpa using hf)
      rw [show (pre ++ coreT x ++ [(46 : UInt8)]).length = pre.length + (coreT x).length + 1 by simp; omega, decide_eq_false hy0] at this
      rw [this]; simp
end Go.Proofs.YtaocgibfabofhaaDoor
