/-
  Owner of the specification. At most 100000 modules, a path of at most 140737488355328 bytes.
-/
import Derived.Test.YtmmghdicjpfdoaaGreatDoorOA
namespace Go.Proofs.YtmmghdicjpfdoaaGreatDoor
open Go.RowKit Go.Sort Go.Lib Go.Shelf Go.Proofs
set_option linter.unusedSimpArgs false
set_option linter.unnecessarySimpa false
set_option linter.unusedVariables false
theorem take_of (s : ByteArray) (n : Nat) : (s.extract 0 n).toList = s.data.toList.take n := by
  rw [Go.ByteArray.toList_eq]; simp [ByteArray.data_extract]
theorem rest_of (s : ByteArray) (n : Nat) : s.extract n s.size = ⟨(s.data.toList.drop n).toArray⟩ := by
  apply ByteArray.ext
  apply Array.ext'
  simp [ByteArray.data_extract]
  rw [List.take_of_length_le]
  simp
theorem below_eq {s p : ByteArray} (h : (p.toList == s.toList) = true) : belowL s.data.toList p.data.toList = some [] := by
  rw [beq_iff_eq, Go.ByteArray.toList_eq, Go.ByteArray.toList_eq] at h
  unfold belowL; rw [if_pos h.symm]
theorem ne_of {s p : ByteArray} (h : (p.toList == s.toList) = false) : ¬ s.data.toList = p.data.toList := by
  rw [beq_eq_false_iff_ne, Go.ByteArray.toList_eq, Go.ByteArray.toList_eq] at h
  exact fun e => h e.symm
theorem pre_iff (s p : ByteArray) (hz : p.size < s.size) : (p.data.toList ++ [47]).isPrefixOf s.data.toList = true ↔ (s.extract 0 p.size).toList = p.toList ∧ ((s[p.size]'hz).toNat : Int) = 47 := by
  have hl : p.size < s.data.toList.length := by simpa using hz
  rw [List.isPrefixOf_iff_prefix, List.prefix_iff_eq_take, take_of, Go.ByteArray.toList_eq]
  have hlen : (p.data.toList ++ [(47 : UInt8)]).length = p.size + 1 := by simp
  rw [hlen, ← List.take_append_getElem hl]
  have hg : s.data.toList[p.size]'hl = s[p.size]'hz := by simp [ByteArray.getElem_eq_getElem_data]
  rw [hg]
  constructor
  · intro h
    have := List.append_inj' h rfl
    refine ⟨this.1.symm, ?_⟩
    have h2 := this.2
    simp only [List.cons.injEq, and_true] at h2
    rw [← h2]; rfl
  · rintro ⟨h1, h2⟩
    rw [h1]
    have : s[p.size]'hz = 47 := by
      apply UInt8.toNat_inj.1
      show _ = 47
      omega
    rw [this]
theorem below_no1 {s p : ByteArray} (h : (p.toList == s.toList) = false) (hz : p.size < s.size) (h1 : ¬ (s.extract 0 p.size).toList = p.toList) : belowL s.data.toList p.data.toList = none := by
  unfold belowL; rw [if_neg (ne_of h), if_neg (fun e => h1 ((pre_iff s p hz).1 e).1)]
theorem below_no2 {s p : ByteArray} (h : (p.toList == s.toList) = false) (hz : p.size < s.size) (h1 : ¬ ((s[p.size]'hz).toNat : Int) = 47) : belowL s.data.toList p.data.toList = none := by
  unfold belowL; rw [if_neg (ne_of h), if_neg (fun e => h1 ((pre_iff s p hz).1 e).2)]
theorem below_no3 {s p : ByteArray} (h : (p.toList == s.toList) = false) (hz : ¬ p.size < s.size) : belowL s.data.toList p.data.toList = none := by
  unfold belowL; rw [if_neg (ne_of h), if_neg]
  intro e
  have := (List.isPrefixOf_iff_prefix.1 e).length_le
  simp at this; omega
theorem below_yes {s p : ByteArray} (h : (p.toList == s.toList) = false) (hz : p.size < s.size) (h1 : (s.extract 0 p.size).toList = p.toList) (h2 : ((s[p.size]'hz).toNat : Int) = 47) : belowL s.data.toList p.data.toList = some (s.data.toList.drop (p.size + 1)) := by
  unfold belowL; rw [if_neg (ne_of h), if_pos ((pre_iff s p hz).2 ⟨h1, h2⟩)]; simp
end Go.Proofs.YtmmghdicjpfdoaaGreatDoor
