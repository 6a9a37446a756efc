/-
  PLAIN: the text of a version, without its letter, falls into its three numerals. Byte arrays only.
-/
import Derived.Test.YtmmghdicjpfdoaaGreatDoorZ2
import Derived.Lib.Split
import Derived.Lib.IndexBytes
namespace Go.Proofs.YtmmghdicjpfdoaaGreatDoor.ZSemverMath
open Go
abbrev dot : ByteArray := ⟨#[46]⟩
theorem index_dot : ∀ (l r : List UInt8), (46 : UInt8) ∉ l → Lib.index (l ++ 46 :: r) [46] = (l.length : Int)
  | [], r, _ => by
    unfold Lib.index
    simp
  | a :: t, r, h => by
    have ih := index_dot t r (fun x => h (by simp [x]))
    have ha : (46 : UInt8) ≠ a := fun e => h (by simp [e])
    simp only [List.cons_append]
    unfold Lib.index
    rw [ih]
    have hp : ([46] : List UInt8).isPrefixOf (a :: (t ++ 46 :: r)) = false := by simp [List.isPrefixOf, ha]
    rw [hp]
    have hn : ((t.length : Int) == -1) = false := by rw [beq_eq_false_iff_ne]; omega
    simp [hn]
theorem split_dot (A R s : ByteArray) (hA : (46 : UInt8) ∉ A.data.toList) (hs : s = A ++ dot ++ R) (k : Nat) : Lib.splitB dot 0 (k + 1) s = A :: Lib.splitB dot 0 k R := by
  have hd : s.data.toList = A.data.toList ++ 46 :: R.data.toList := by rw [hs]; simp
  have hi : Lib.indexB s dot = (A.size : Int) := by
    show Lib.index s.data.toList [46] = _
    rw [hd, index_dot _ _ hA]
    simp
  rw [Lib.splitB_hit dot 0 k s A.size hi]
  have e1 : s.extract 0 (A.size + 0) = A := by
    apply ByteArray.ext; apply Array.ext'
    rw [Nat.add_zero, show (s.extract 0 A.size).data.toList = s.data.toList.take A.size by simp, hd, List.take_left' (by simp)]
  have hsz : dot.size = 1 := rfl
  have e2 : s.extract (A.size + dot.size) s.size = R := by
    apply ByteArray.ext; apply Array.ext'
    rw [Lib.extract_to_end, hsz, hd, show A.data.toList ++ 46 :: R.data.toList = (A.data.toList ++ [46]) ++ R.data.toList by simp, List.drop_left' (by simp)]
  rw [e1, e2]
theorem split_three (A B C : ByteArray) (hA : (46 : UInt8) ∉ A.data.toList) (hB : (46 : UInt8) ∉ B.data.toList) : Lib.splitB dot 0 2 (A ++ dot ++ B ++ dot ++ C) = [A, B, C] := by
  have assoc : A ++ dot ++ B ++ dot ++ C = A ++ dot ++ (B ++ dot ++ C) := by
    apply ByteArray.ext; apply Array.ext'; simp
  rw [split_dot A (B ++ dot ++ C) _ hA assoc 1, split_dot B C _ hB rfl 0]
  rfl
end Go.Proofs.YtmmghdicjpfdoaaGreatDoor.ZSemverMath
