/-
  PLAIN: the library's fields between blanks are the words; lines; what Parse makes of lines. Lists of bytes only.
-/
import Derived.Test.YtmmghdicjpfdoaaGreatDoorM2
import Derived.Lib.FieldsP
namespace Go.Proofs.YtmmghdicjpfdoaaGreatDoor
open Go
set_option linter.unusedSimpArgs false
set_option linter.unnecessarySimpa false
set_option linter.unusedVariables false
def byteAt (s : ByteArray) (j : Nat) : Nat := (s.get! j).toNat
theorem byteAt_ne {s : ByteArray} {j : Nat} (h : byteAt s j ≠ 32) : s.data.toList[j]? ≠ some 32 := by
  intro e
  apply h
  obtain ⟨hj, e2⟩ := List.getElem?_eq_some_iff.1 e
  have hj' : j < s.data.size := by simpa using hj
  show (s.data[j]!).toNat = 32
  have : s.data[j]! = 32 := by
    rw [getElem!_pos s.data j hj']; simpa using e2
  rw [this]; rfl
/-- what a rune takes: one blank, or bytes that are none -/
theorem dec32 (s : ByteArray) (pos : Nat) (h : pos < s.size) :
    (byteAt s pos = 32 ∧ Utf8.decode s pos = (32, 1)) ∨ ∃ r n, Utf8.decode s pos = (r, n) ∧ r ≠ 32 ∧ 1 ≤ n ∧ pos + n ≤ s.size ∧ ∀ j, j < n → byteAt s (pos + j) ≠ 32 := by
  have e0 : ∀ k, (s.get! (pos + k)).toNat = byteAt s (pos + k) := fun k => rfl
  have e1 : (s.get! pos).toNat = byteAt s pos := rfl
  unfold Utf8.decode
  simp only [e0, e1, Nat.add_zero]
  by_cases h0 : byteAt s pos < 128
  · rw [if_pos h0]
    by_cases h32 : byteAt s pos = 32
    · exact .inl ⟨h32, by rw [h32]⟩
    · exact .inr ⟨_, 1, rfl, h32, by omega, by omega, fun j hj => by obtain rfl : j = 0 := by omega
                                                                     exact h32⟩
  · rw [if_neg h0]
    right
    have one : ∀ j, j < 1 → byteAt s (pos + j) ≠ 32 := fun j hj => by
      obtain rfl : j = 0 := by omega
      rw [Nat.add_zero]; omega
    split
    · rename_i h1
      simp only [Bool.and_eq_true, decide_eq_true_eq, beq_iff_eq] at h1
      split
      · rename_i h2
        refine ⟨_, 2, rfl, by omega, by omega, by omega, fun j hj => ?_⟩
        rcases (show j = 0 ∨ j = 1 by omega) with rfl | rfl
        · rw [Nat.add_zero]; omega
        · omega
      · exact ⟨_, 1, rfl, by decide, by omega, by omega, one⟩
    · split
      · rename_i h1
        simp only [Bool.and_eq_true, decide_eq_true_eq, beq_iff_eq] at h1
        split
        · rename_i h2
          simp only [Bool.and_eq_true, decide_eq_true_eq] at h2
          refine ⟨_, 3, rfl, by omega, by omega, by omega, fun j hj => ?_⟩
          rcases (show j = 0 ∨ j = 1 ∨ j = 2 by omega) with rfl | rfl | rfl
          · rw [Nat.add_zero]; omega
          · omega
          · omega
        · exact ⟨_, 1, rfl, by decide, by omega, by omega, one⟩
      · split
        · rename_i h1
          simp only [Bool.and_eq_true, decide_eq_true_eq, beq_iff_eq] at h1
          split
          · rename_i h2
            simp only [Bool.and_eq_true, decide_eq_true_eq] at h2
            refine ⟨_, 4, rfl, by omega, by omega, by omega, fun j hj => ?_⟩
            rcases (show j = 0 ∨ j = 1 ∨ j = 2 ∨ j = 3 by omega) with rfl | rfl | rfl | rfl
            · rw [Nat.add_zero]; omega
            · omega
            · omega
            · omega
          · exact ⟨_, 1, rfl, by decide, by omega, by omega, one⟩
        · exact ⟨_, 1, rfl, by decide, by omega, by omega, one⟩
def blank (r : Nat) : Bool := r == 32
def full (x : List UInt8) : Bool := !x.isEmpty
/-- the bytes from a to b -/
def sl (l : List UInt8) (a b : Nat) : List UInt8 := (l.drop a).take (b - a)
theorem sl_self (l : List UInt8) (a : Nat) : sl l a a = [] := by simp [sl]
theorem sl_more (l : List UInt8) (a b c : Nat) (h : a ≤ b) (h2 : b ≤ c) : sl l a b ++ sl l b c = sl l a c := by
  unfold sl
  have : c - a = (b - a) + (c - b) := by omega
  rw [this, List.take_add, List.drop_drop, show a + (b - a) = b by omega]
theorem sl_drop (l : List UInt8) (a b : Nat) (h : a ≤ b) : l.drop a = sl l a b ++ l.drop b := by
  unfold sl
  have : b = a + (b - a) := by omega
  conv => rhs; rhs; rw [this, ← List.drop_drop]
  exact (List.take_append_drop _ _).symm
theorem sl_len (l : List UInt8) (a b : Nat) (h : a ≤ b) (hb : b ≤ l.length) : (sl l a b).length = b - a := by
  unfold sl; simp; omega
theorem sl_not {l : List UInt8} {a b : Nat} {c : UInt8} (h : ∀ j, a ≤ j → j < b → l[j]? ≠ some c) : c ∉ sl l a b := by
  intro hm
  obtain ⟨i, hi, e⟩ := List.mem_iff_getElem.1 hm
  have hi' : i < b - a := by
    have : (sl l a b).length ≤ b - a := by unfold sl; exact List.length_take_le _ _
    omega
  refine h (a + i) (by omega) (by omega) ?_
  have e2 : (sl l a b)[i]? = some c := by rw [List.getElem?_eq_getElem hi, e]
  unfold sl at e2
  rw [List.getElem?_take_of_lt hi', List.getElem?_drop] at e2
  exact e2
def spl (s : ByteArray) (x : Nat × Nat) : List UInt8 := sl s.data.toList x.1 x.2
theorem full_sl {l : List UInt8} {a b : Nat} (h : a < b) (hb : b ≤ l.length) : full (sl l a b) = true := by
  unfold full
  cases hx : sl l a b with
  | nil => have := sl_len l a b (by omega) hb; rw [hx] at this; simp at this; omega
  | cons _ _ => rfl
/-- what is open: the piece from a, or nothing -/
def opn (s : ByteArray) (st : Option Nat) (pos : Nat) : List UInt8 := match st with | some a => sl s.data.toList a pos | none => []
theorem spansFromP_lt (p : Nat → Bool) (s : ByteArray) (f pos : Nat) (st : Option Nat) (acc : List (Nat × Nat)) (h : pos < s.size) : Lib.spansFromP p s (f + 1) pos st acc =
    if p (Utf8.decode s pos).1 then
      (match st with
       | some a => Lib.spansFromP p s f (pos + (Utf8.decode s pos).2) none (acc ++ [(a, pos)])
       | none => Lib.spansFromP p s f (pos + (Utf8.decode s pos).2) none acc)
     else
      (match st with
       | some a => Lib.spansFromP p s f (pos + (Utf8.decode s pos).2) (some a) acc
       | none => Lib.spansFromP p s f (pos + (Utf8.decode s pos).2) (some pos) acc) := by
  conv => lhs; unfold Lib.spansFromP
  rw [if_pos h]
  rfl
theorem glue_mt (p : List UInt8) (L : List (List UInt8)) : glue p ([] :: L) = p :: L := by simp [glue]
theorem spans_words (s : ByteArray) : ∀ (f pos : Nat) (st : Option Nat) (acc : List (Nat × Nat)), s.size ≤ pos + f → pos ≤ s.size → (∀ a, st = some a → a < pos) →
    (Lib.closeSpans s (Lib.spansFromP blank s f pos st acc)).map (spl s) = acc.map (spl s) ++ (glue (opn s st pos) (splitL 32 (s.data.toList.drop pos))).filter full
  | f, pos, st, acc, hf, hp, hst => by
    by_cases hlt : pos < s.size
    · cases f with
      | zero => omega
      | succ f =>
        have hsz : s.size = s.data.toList.length := Lib.size_eq s
        rw [spansFromP_lt _ _ _ _ _ _ hlt]
        rcases dec32 s pos hlt with ⟨hb, hd⟩ | ⟨r, n, hd, hr, hn, hpn, hb⟩
        · have hsb : s.data.toList.drop pos = 32 :: s.data.toList.drop (pos + 1) := by
            rw [List.drop_eq_getElem_cons (by rw [← hsz]; exact hlt)]
            congr 1
            apply UInt8.toNat_inj.1
            have hb : (s.data[pos]!).toNat = 32 := hb
            rw [getElem!_pos s.data pos (by simpa using hlt)] at hb
            simpa using hb
          rw [hd]
          simp only [blank, beq_self_eq_true, if_true]
          rw [hsb, splitL_eq rfl]
          cases st with
          | some a =>
            have ha := hst a rfl
            simp only []
            rw [spans_words s f (pos + 1) none _ (by omega) (by omega) (fun _ h => by cases h)]
            simp only [opn]
            rw [glue_nil, glue_mt, List.filter_cons, full_sl ha (by omega)]
            simp [spl]
          | none =>
            simp only []
            rw [spans_words s f (pos + 1) none _ (by omega) (by omega) (fun _ h => by cases h)]
            simp only [opn]
            rw [glue_nil, glue_mt, List.filter_cons]
            simp [full]
        · have hnot : (32 : UInt8) ∉ sl s.data.toList pos (pos + n) := sl_not fun j h1 h2 => byteAt_ne (by
            have := hb (j - pos) (by omega)
            rwa [show pos + (j - pos) = j by omega] at this)
          rw [hd]
          have hbl : blank r = false := by unfold blank; exact beq_eq_false_iff_ne.2 hr
          simp only [hbl]
          rw [sl_drop s.data.toList pos (pos + n) (by omega), splitL_cat _ _ _ hnot, glue_glue]
          cases st with
          | some a =>
            have ha := hst a rfl
            simp only [Bool.false_eq_true, if_false]
            rw [spans_words s f (pos + n) (some a) _ (by omega) (by omega) (fun _ h => by cases h; omega)]
            simp only [opn]
            rw [sl_more _ _ _ _ (by omega) (by omega)]
          | none =>
            simp only [Bool.false_eq_true, if_false]
            rw [spans_words s f (pos + n) (some pos) _ (by omega) (by omega) (fun _ h => by cases h; omega)]
            simp only [opn, List.nil_append]
    · obtain rfl : pos = s.size := by omega
      rw [Lib.spansFromP_end _ _ _ _ _ _ hlt]
      have hd : s.data.toList.drop s.size = [] := List.drop_eq_nil_of_le (by rw [← Lib.size_eq]; exact Nat.le_refl _)
      rw [hd]
      cases st with
      | some a =>
        have ha := hst a rfl
        simp [Lib.closeSpans, splitL, glue, opn, spl, full_sl ha (by rw [← Lib.size_eq]; exact Nat.le_refl _)]
      | none => simp [Lib.closeSpans, splitL, glue, opn, full]
theorem fields_words (s : ByteArray) : (Lib.goFieldsP blank s).map (·.data.toList) = wordsL s.data.toList := by
  unfold Lib.goFieldsP Lib.spansOfP wordsL
  rw [List.map_map]
  have := spans_words s s.size 0 none [] (by omega) (by omega) (fun _ h => by cases h)
  simp only [opn, List.drop_zero, List.map_nil, List.nil_append] at this
  rw [glue_nil] at this
  rw [show (fun x : List UInt8 => !x.isEmpty) = full from rfl, ← this]
  apply List.map_congr_left
  rintro ⟨a, b⟩ _
  simp only [Function.comp, spl, sl]
  exact Lib.extract_data s a b
end Go.Proofs.YtmmghdicjpfdoaaGreatDoor
