/-
  The specification's Parse, for every text of at most 4000 bytes. No condition on the world.
-/
import Derived.Test.YtelchjgpfpccnaaDoorQ2
import Derived.StillTailTactics
namespace Go.Proofs.YtelchjgpfpccnaaDoor
open Go.RowKit
set_option linter.unusedSimpArgs false
set_option linter.unusedVariables false
/-- the three numbers that the specification's loop reads -/
def rd : List UInt8 → Nat → Nat → Nat → Nat → Option (Nat × Nat × Nat)
  | [], _, x, y, z => some (x, y, z)
  | c :: l, t, x, y, z =>
    if c.toNat = 46 ∧ t < 2 then rd l (t + 1) x y z
    else if c.toNat < 48 ∨ 57 < c.toNat then none
    else if t = 0 then rd l t (x * 10 + (c.toNat - 48)) y z
    else if t = 1 then rd l t x (y * 10 + (c.toNat - 48)) z
    else rd l t x y (z * 10 + (c.toNat - 48))
theorem sdrop_at (s : ByteArray) (k : Nat) (h : k < s.size) : s.data.toList.drop k = s[k] :: s.data.toList.drop (k + 1) :=
  List.drop_eq_getElem_cons (by simpa using h)
theorem rd_end {s : ByteArray} {k t x y z : Nat} {R : Option (Nat × Nat × Nat)} (h : s.size ≤ k) (hS : rd (s.data.toList.drop k) t x y z = R) : R = some (x, y, z) := by
  rw [← hS, List.drop_eq_nil_of_le (by simpa using h)]; rfl
theorem rd_dot {s : ByteArray} {k t x y z : Nat} {R : Option (Nat × Nat × Nat)} (h : k < s.size) (h1 : (s[k]).toNat = 46) (h2 : t < 2) (hS : rd (s.data.toList.drop k) t x y z = R) : rd (s.data.toList.drop (k + 1)) (t + 1) x y z = R := by
  rw [sdrop_at s k h] at hS; unfold rd at hS; rw [if_pos ⟨h1, h2⟩] at hS; exact hS
theorem rd_bad {s : ByteArray} {k t x y z : Nat} {R : Option (Nat × Nat × Nat)} (h : k < s.size) (h1 : ¬ ((s[k]).toNat = 46 ∧ t < 2)) (h2 : (s[k]).toNat < 48 ∨ 57 < (s[k]).toNat) (hS : rd (s.data.toList.drop k) t x y z = R) : R = none := by
  rw [sdrop_at s k h] at hS; unfold rd at hS; rw [if_neg h1, if_pos h2] at hS; exact hS.symm
theorem rd_dig {s : ByteArray} {k t x y z : Nat} {R : Option (Nat × Nat × Nat)} (h : k < s.size) (h1 : ¬ ((s[k]).toNat = 46 ∧ t < 2)) (h2 : ¬ ((s[k]).toNat < 48 ∨ 57 < (s[k]).toNat)) (hS : rd (s.data.toList.drop k) t x y z = R) :
    (if t = 0 then rd (s.data.toList.drop (k + 1)) t (x * 10 + ((s[k]).toNat - 48)) y z else if t = 1 then rd (s.data.toList.drop (k + 1)) t x (y * 10 + ((s[k]).toNat - 48)) z else rd (s.data.toList.drop (k + 1)) t x y (z * 10 + ((s[k]).toNat - 48))) = R := by
  rw [sdrop_at s k h] at hS; unfold rd at hS; rw [if_neg h1, if_neg h2] at hS; exact hS
theorem pow_le15 {x n : Nat} (h : x < 10 ^ n) (hn : n ≤ 14) : x < 100000000000000 :=
  Nat.lt_of_lt_of_le h (by have := Nat.pow_le_pow_right (show 0 < 10 by decide) hn; simpa using this)
theorem pow_next {x n d : Nat} (h : x < 10 ^ n) (hd : d < 10) : x * 10 + d < 10 ^ (n + 1) := by rw [Nat.pow_succ]; omega
theorem pow_more {x n : Nat} (h : x < 10 ^ n) : x < 10 ^ (n + 1) := by rw [Nat.pow_succ]; omega
/-- what the specification's Parse makes of a text that has the right size and letter -/
def rres (s : ByteArray) (R : Option (Nat × Nat × Nat)) : Value :=
  match R with
  | none => .tuple #[vv 0 0 0, .int .i64 8]
  | some (x, y, z) => if (txt x y z).toList == s.toList then .tuple #[vv x y z, .int .i64 0] else .tuple #[vv 0 0 0, .int .i64 8]
set_option maxRecDepth 100000 in
set_option maxHeartbeats 4000000 in
theorem rparse_short (s : ByteArray) (h : s.size < 6 ∨ 15 < s.size) (w : World) :
    Calls Tryd.prog 17 #[.string s] w fun e w' => e = .returned (.tuple #[vv 0 0 0, .int .i64 8]) ∧ Below w.heap.size w w' := by
  have HB := Lib.hid ((Below.refl w.heap.size w).alloc (Nat.le_refl _) (.cells #[.int .i64 0, .int .i64 0, .int .i64 0] 23))
  obtain ⟨y1, d0, d1, d2, g0, g1, g2⟩ := Row3.new w 0 0 0 23 _ rfl
  rcases h with h | h
  · have h1 : (s.size : Int) < 6 := by omega
    have h2 : decide ((s.size : Int) < 6) = true := by simpa using h1
    go_enter Tryd.func17, Tryd.ntmps17
    go_wp2_with fail
    refine bodyPost_ret (v := .tuple #[vv 0 0 0, .int .i64 8]) (by simp [results, Tryd.results17, go_sem, d0, d1, d2, y1]) rfl ⟨rfl, ?_⟩
    first | exact HB.out | exact (((HB.out.setCell (by simp) _).setCell (by simp) _).setCell (by simp) _)
  · have h1 : (15 : Int) < (s.size : Int) := by omega
    have h0 : ¬ (s.size : Int) < 6 := by omega
    go_enter Tryd.func17, Tryd.ntmps17
    go_wp2_with fail
    refine bodyPost_ret (v := .tuple #[vv 0 0 0, .int .i64 8]) (by simp [results, Tryd.results17, go_sem, d0, d1, d2, y1]) rfl ⟨rfl, ?_⟩
    first | exact HB.out | exact (((HB.out.setCell (by simp) _).setCell (by simp) _).setCell (by simp) _)
set_option maxRecDepth 100000 in
set_option maxHeartbeats 4000000 in
theorem rparse_head (s : ByteArray) (h5 : 6 ≤ s.size) (h15 : s.size ≤ 15) (hv : (s[0]).toNat ≠ 118) (w : World) :
    Calls Tryd.prog 17 #[.string s] w fun e w' => e = .returned (.tuple #[vv 0 0 0, .int .i64 8]) ∧ Below w.heap.size w w' := by
  have HB := Lib.hid ((Below.refl w.heap.size w).alloc (Nat.le_refl _) (.cells #[.int .i64 0, .int .i64 0, .int .i64 0] 23))
  obtain ⟨y1, d0, d1, d2, g0, g1, g2⟩ := Row3.new w 0 0 0 23 _ rfl
  have h0 : ¬ (s.size : Int) < 6 := by omega
  have h1 : ¬ (15 : Int) < (s.size : Int) := by omega
  have hz : 0 < s.size := by omega
  have hq : ((((s[0]).toNat : Nat) : Int) == 118) = false := by rw [beq_eq_false_iff_ne]; omega
  go_enter Tryd.func17, Tryd.ntmps17
  go_wp2_with fail
  refine bodyPost_ret (v := .tuple #[vv 0 0 0, .int .i64 8]) (by simp [results, Tryd.results17, go_sem, d0, d1, d2, y1]) rfl ⟨rfl, ?_⟩
  first | exact HB.out | exact (((HB.out.setCell (by simp) _).setCell (by simp) _).setCell (by simp) _)
end Go.Proofs.YtelchjgpfpccnaaDoor
