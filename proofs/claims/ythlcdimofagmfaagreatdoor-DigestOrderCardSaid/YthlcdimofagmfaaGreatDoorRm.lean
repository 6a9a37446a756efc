/-
  PLAIN: sources in the order of their names, and what the digest of a release is.
-/
import Derived.Test.YthlcdimofagmfaaGreatDoorSS
import Derived.Test.YthlcdimofagmfaaGreatDoorD3
import Derived.Test.YthlcdimofagmfaaGreatDoorQAD
import Derived.Test.YthlcdimofagmfaaGreatDoorT
namespace Go.Proofs.YthlcdimofagmfaaGreatDoor
open Go Go.RowKit
open Dg (txtH hsum txtL txtL_len hsum_lt)
set_option linter.unusedSimpArgs false
set_option linter.unnecessarySimpa false
set_option linter.unusedVariables false
/-- insertion behind all that are not greater -/
def insN (x : Src) : List Src → List Src
  | [] => [x]
  | y :: t => if cmpN x y < 0 then x :: y :: t else y :: insN x t
def sortN (l : List Src) : List Src := l.foldl (fun s x => insN x s) []
theorem insN_perm (x : Src) (l : List Src) : (insN x l).Perm (x :: l) := by
  induction l with
  | nil => exact List.Perm.refl _
  | cons y t ih =>
    unfold insN
    split
    · exact List.Perm.refl _
    · exact (ih.cons y).trans (List.Perm.swap _ _ _)
theorem leN_trans {x y z : Src} (h1 : LeN x y) (h2 : LeN y z) : LeN x z := cmpB_ok.trans _ _ _ h1 h2
theorem insN_sorted (x : Src) (l : List Src) (h : l.Pairwise LeN) : (insN x l).Pairwise LeN := by
  induction l with
  | nil => exact List.pairwise_singleton _ _
  | cons y t ih =>
    have h' := List.pairwise_cons.1 h
    unfold insN
    split
    · rename_i hlt
      refine List.pairwise_cons.2 ⟨fun z hz => ?_, h⟩
      rcases List.mem_cons.1 hz with rfl | hz
      · exact Int.le_of_lt hlt
      · exact leN_trans (Int.le_of_lt hlt) (h'.1 z hz)
    · rename_i hge
      refine List.pairwise_cons.2 ⟨fun z hz => ?_, ih h'.2⟩
      rcases List.mem_cons.1 ((insN_perm x t).mem_iff.1 hz) with rfl | hz
      · have := cmpB_ok.anti z.1 y.1; unfold cmpN at hge; show cmpB y.1 z.1 ≤ 0; omega
      · exact h'.1 z hz
theorem foldl_insN (l s : List Src) (h : s.Pairwise LeN) : (l.foldl (fun s x => insN x s) s).Perm (s ++ l) ∧ (l.foldl (fun s x => insN x s) s).Pairwise LeN := by
  induction l generalizing s with
  | nil => simpa using h
  | cons x t ih =>
    rw [List.foldl_cons]
    obtain ⟨h1, h2⟩ := ih (insN x s) (insN_sorted x s h)
    refine ⟨h1.trans ?_, h2⟩
    refine ((insN_perm x s).append_right t).trans ?_
    rw [List.cons_append]
    exact List.perm_middle.symm
theorem sortN_perm (l : List Src) : (sortN l).Perm l := (foldl_insN l [] List.Pairwise.nil).1
theorem sortN_sorted (l : List Src) : (sortN l).Pairwise LeN := (foldl_insN l [] List.Pairwise.nil).2
theorem sortN_length (l : List Src) : (sortN l).length = l.length := (sortN_perm l).length_eq
/-- do two sources bear one name -/
def dupN (l : List Src) : Bool := !decide ((l.map (·.1)).Nodup)
theorem dupN_perm {l m : List Src} (h : l.Perm m) : dupN l = dupN m := by
  unfold dupN; rw [decide_eq_decide.2 (h.map _).nodup_iff]
theorem dup_adj {D : List Src} {i : Nat} (h : i + 1 < D.length) (e : D[i].1 = D[i + 1].1) : dupN D = true := by
  unfold dupN
  rw [Bool.not_eq_true', decide_eq_false_iff_not]
  intro hn
  have := List.pairwise_iff_getElem.1 hn i (i + 1) (by simp; omega) (by simpa using h) (by omega)
  simp only [List.getElem_map] at this
  exact this e
theorem nodup_adj {D : List Src} (hs : D.Pairwise LeN) (h : ∀ i (h : i + 1 < D.length), D[i].1 ≠ D[i + 1].1) : (D.map (·.1)).Nodup := by
  refine List.pairwise_iff_getElem.2 (fun i j hi hj hij => ?_)
  have hi' : i < D.length := by simpa using hi
  have hj' : j < D.length := by simpa using hj
  simp only [List.getElem_map]
  intro e
  have h1 : cmpB D[i].1 (D[i + 1]'(by omega)).1 ≤ 0 := List.pairwise_iff_getElem.1 hs i (i + 1) hi' (by omega) (by omega)
  have h2 : cmpB (D[i + 1]'(by omega)).1 D[j].1 ≤ 0 := by
    rcases Nat.lt_or_eq_of_le (show i + 1 ≤ j by omega) with h | h
    · exact List.pairwise_iff_getElem.1 hs (i + 1) j (by omega) hj' h
    · subst h; rw [cmpB_ok.self]; omega
  have h3 : cmpB D[i].1 D[j].1 = 0 := by rw [e]; exact cmpB_ok.self _
  exact h i (by omega) (cmpB_ok.eq _ _ (cmpB_ok.strict h1 h2 h3).1)
theorem sortN_of {D S : List Src} (hp : D.Perm S) (hs : D.Pairwise LeN) (hn : (D.map (·.1)).Nodup) : D = sortN S := by
  refine (hp.trans (sortN_perm S).symm).eq_of_pairwise (fun a b ha hb h1 h2 => ?_) hs (sortN_sorted S)
  have hb' : b ∈ D := hp.mem_iff.2 ((sortN_perm S).mem_iff.1 hb)
  have e : a.1 = b.1 := cmpB_ok.eq _ _ (by have := cmpB_ok.anti a.1 b.1; unfold LeN cmpN at h1 h2; omega)
  obtain ⟨i, hi, rfl⟩ := List.getElem_of_mem ha
  obtain ⟨j, hj, rfl⟩ := List.getElem_of_mem hb'
  rcases Nat.lt_trichotomy i j with h | h | h
  · have := List.pairwise_iff_getElem.1 hn i j (by simpa using hi) (by simpa using hj) h
    simp only [List.getElem_map] at this
    exact absurd e this
  · subst h; rfl
  · have := List.pairwise_iff_getElem.1 hn j i (by simpa using hj) (by simpa using hi) h
    simp only [List.getElem_map] at this
    exact absurd e.symm this
theorem dupN_no {D S : List Src} (hp : D.Perm S) (hn : (D.map (·.1)).Nodup) : dupN S = false := by
  rw [← dupN_perm hp]; unfold dupN; simp [hn]
abbrev st0 : Nat := 14695981039346656037
/-- the pieces of one source -/
def relPc (y : Src) : List ByteArray := [⟨(Qt.quoteL y.1.data.toList).toArray⟩, ⟨#[32]⟩, txtH (hsum st0 y.2.data.toList), ⟨#[10]⟩]
def relPs (t : ByteArray) (D : List Src) : List ByteArray := t :: D.flatMap relPc
theorem relPs_snoc (t : ByteArray) (D : List Src) (y : Src) : relPs t (D ++ [y]) = relPs t D ++ relPc y := by simp [relPs]
theorem relPs_len (t : ByteArray) (D : List Src) : (relPs t D).length = 1 + 4 * D.length := by
  unfold relPs
  rw [List.length_cons]
  have : (D.flatMap relPc).length = 4 * D.length := by
    induction D with
    | nil => rfl
    | cons y d ih => rw [List.flatMap_cons, List.length_append, ih]; simp [relPc]; omega
  omega
/-- what Release returns -/
def relOut (x : Md) (l : List Md) (S : List Src) : ByteArray × Int :=
  if chkM x l ≠ 0 then (⟨#[]⟩, chkM x l)
  else if dupN S = true then (⟨#[]⟩, 6)
  else (txtH (hsum st0 ((relPs (textB x l) (sortN S)).flatMap fun s => s.data.toList)), 0)
theorem relOut_chk {x : Md} {l : List Md} {S : List Src} (h : chkM x l ≠ 0) : relOut x l S = (⟨#[]⟩, chkM x l) := by unfold relOut; rw [if_pos h]
theorem relOut_dup {x : Md} {l : List Md} {S D : List Src} (h : chkM x l = 0) (hp : D.Perm S) (hd : dupN D = true) : relOut x l S = (⟨#[]⟩, 6) := by
  unfold relOut; rw [if_neg (by simp [h]), if_pos (by rw [← dupN_perm hp]; exact hd)]
theorem relOut_ok {x : Md} {l : List Md} {S D : List Src} (h : chkM x l = 0) (hp : D.Perm S) (hs : D.Pairwise LeN) (hn : (D.map (·.1)).Nodup) :
    relOut x l S = (txtH (hsum st0 ((relPs (textB x l) D).flatMap fun s => s.data.toList)), 0) := by
  unfold relOut; rw [if_neg (by simp [h]), if_neg (by rw [dupN_no hp hn]; decide), sortN_of hp hs hn]
/-- no two neighbours among the first k bear one name -/
def noAdj (D : List Src) (k : Nat) : Prop := ∀ i (h : i + 1 < D.length), i + 1 < k → D[i].1 ≠ D[i + 1].1
theorem relPc_size {y : Src} (h1 : y.1.size ≤ 100000) : ∀ s ∈ relPc y, s.size ≤ 1000000 := by
  intro s hs
  unfold relPc at hs
  simp only [List.mem_cons, List.not_mem_nil, or_false] at hs
  rcases hs with rfl | rfl | rfl | rfl
  · show (Qt.quoteL y.1.data.toList).toArray.size ≤ _
    rw [List.size_toArray]
    have := Qt.body_len y.1.data.toList
    have h2 : y.1.data.toList.length = y.1.size := by simp
    unfold Qt.quoteL
    simp only [List.length_append, List.length_cons, List.length_nil]; omega
  · decide
  · show (txtL _ 16).toArray.size ≤ _
    rw [List.size_toArray, txtL_len]; omega
  · decide
end Go.Proofs.YthlcdimofagmfaaGreatDoor
