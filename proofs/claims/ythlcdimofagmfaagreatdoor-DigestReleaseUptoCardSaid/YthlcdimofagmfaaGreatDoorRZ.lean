/-
  PLAIN: the text of a release, piece by piece.
-/
import Derived.Test.YthlcdimofagmfaaGreatDoorRY
namespace Go.Proofs.YthlcdimofagmfaaGreatDoor
open Go Go.RowKit
open Dg (txtH hsum txtL txtL_len hsum_lt)
set_option linter.unusedSimpArgs false
set_option linter.unnecessarySimpa false
set_option linter.unusedVariables false
def accR (T : ByteArray) (D : List Src) : ByteArray := ⟨((relPs T D).flatMap fun s => s.data.toList).toArray⟩
theorem accR_nil (T : ByteArray) : accR T [] = T := by
  unfold accR relPs; apply ByteArray.ext; apply Array.ext'; simp
theorem accR_snoc (T : ByteArray) (D : List Src) (y : Src) :
    accR T (D ++ [y]) = accR T D ++ ⟨(Qt.quoteL y.1.data.toList).toArray⟩ ++ ⟨#[32]⟩ ++ txtH (hsum st0 y.2.data.toList) ++ ⟨#[10]⟩ := by
  unfold accR; rw [relPs_snoc]
  apply ByteArray.ext; apply Array.ext'
  simp [relPc, List.append_assoc]
theorem accR_list (T : ByteArray) (D : List Src) : (accR T D).data.toList = (relPs T D).flatMap fun s => s.data.toList := by
  unfold accR; simp
theorem qsize {y : Src} (h : y.1.size ≤ 200) : (⟨(Qt.quoteL y.1.data.toList).toArray⟩ : ByteArray).size ≤ 802 := by
  show (Qt.quoteL y.1.data.toList).toArray.size ≤ _
  rw [List.size_toArray]
  have := Qt.body_len y.1.data.toList
  have h2 : y.1.data.toList.length = y.1.size := by simp
  unfold Qt.quoteL
  simp only [List.length_append, List.length_cons, List.length_nil]; omega
theorem tsize (n : Nat) : (txtH n).size = 18 := by
  show (txtL n 16).toArray.size = 18
  rw [List.size_toArray, txtL_len]
theorem accR_size {T : ByteArray} {D : List Src} (h : ∀ y ∈ D, y.1.size ≤ 200) : (accR T D).size ≤ T.size + D.length * 1000 := by
  have e : (accR T D).size = ((relPs T D).flatMap fun s => s.data.toList).length := by
    rw [← accR_list]; simp
  rw [e]
  unfold relPs
  rw [List.flatMap_cons, List.length_append]
  have e0 : T.data.toList.length = T.size := by simp
  have : ((D.flatMap relPc).flatMap fun s => s.data.toList).length ≤ D.length * 1000 := by
    clear e e0
    induction D with
    | nil => simp
    | cons y d ih =>
      rw [List.flatMap_cons, List.flatMap_append, List.length_append, List.length_cons]
      have h1 := ih (fun z hz => h z (by simp [hz]))
      have h2 : ((relPc y).flatMap fun s => s.data.toList).length ≤ 1000 := by
        have q := qsize (h y (by simp))
        have t := tsize (hsum st0 y.2.data.toList)
        unfold relPc
        rw [List.flatMap_cons, List.flatMap_cons, List.flatMap_cons, List.flatMap_cons, List.flatMap_nil, List.length_append, List.length_append, List.length_append, List.length_append, List.length_nil]
        have q' : (⟨(Qt.quoteL y.1.data.toList).toArray⟩ : ByteArray).data.toList.length = (⟨(Qt.quoteL y.1.data.toList).toArray⟩ : ByteArray).size := by
          show _ = (Qt.quoteL y.1.data.toList).toArray.size; simp
        have t' : (txtH (hsum st0 y.2.data.toList)).data.toList.length = (txtH (hsum st0 y.2.data.toList)).size := by simp
        have u1 : (⟨#[32]⟩ : ByteArray).data.toList.length = 1 := rfl
        have u2 : (⟨#[10]⟩ : ByteArray).data.toList.length = 1 := rfl
        omega
      omega
  omega
/-- no name is borne twice among the first k, and the row so far is sorted -/
theorem nodup_sortN {l : List Src} (h : (l.map (·.1)).Nodup) : ((sortN l).map (·.1)).Nodup := ((sortN_perm l).map _).nodup_iff.2 h
theorem lessN (x y : Src) : Op.bytesLess x.1.toList y.1.toList = decide (cmpN x y < 0) := by
  have h := lessB (a := x.1) (b := y.1)
  have hv : cmpN x y = -1 ∨ cmpN x y = 0 ∨ cmpN x y = 1 := cmpB_ok.rng _ _
  have e : cmpB x.1 y.1 = cmpN x y := rfl
  rw [e] at h
  rcases hv with hv | hv | hv
  · rw [h.2 hv, hv]; rfl
  · rw [hv]; rw [hv] at h
    cases hb : Op.bytesLess x.1.toList y.1.toList with
    | true => exact absurd (h.1 hb) (by decide)
    | false => rfl
  · rw [hv]; rw [hv] at h
    cases hb : Op.bytesLess x.1.toList y.1.toList with
    | true => exact absurd (h.1 hb) (by decide)
    | false => rfl
end Go.Proofs.YthlcdimofagmfaaGreatDoor
