/-
  The specification's Parse of versions. No condition on the world.
-/
import Derived.Test.YtaeideimlagheaaGreatDoorVB
import Derived.StillTailTactics
namespace Go.Proofs.YtaeideimlagheaaGreatDoor
open Go.RowKit
set_option linter.unusedSimpArgs false
set_option linter.unnecessarySimpa false
set_option linter.unusedVariables false
/-
  The specification's Parse, for every text of at most 4000 bytes. No condition on the world.
-/
/-- the three numbers that the specification's loop reads -/
def rd : List UInt8 → Nat → Nat → Nat → Nat → Option (Nat × Nat × Nat)
  | [], _, x, y, z => some (x, y, z)
  | c :: l, t, x, y, z =>
    if c.toNat = 46 ∧ t < 2 then rd l (t + 1) x y z
    else if c.toNat < 48 ∨ 57 < c.toNat then none
    else if t = 0 then rd l t (x * 10 + (c.toNat - 48)) y z
    else if t = 1 then rd l t x (y * 10 + (c.toNat - 48)) z
    else rd l t x y (z * 10 + (c.toNat - 48))
theorem sdrop_at (s : ByteArray) (k : Nat) (h : k < s.size) : s.data.toList.drop k = s[k] :: s.data.toList.drop (k + 1) :=
  List.drop_eq_getElem_cons (by simpa using h)
theorem rd_end {s : ByteArray} {k t x y z : Nat} {R : Option (Nat × Nat × Nat)} (h : s.size ≤ k) (hS : rd (s.data.toList.drop k) t x y z = R) : R = some (x, y, z) := by
  rw [← hS, List.drop_eq_nil_of_le (by simpa using h)]; rfl
theorem rd_dot {s : ByteArray} {k t x y z : Nat} {R : Option (Nat × Nat × Nat)} (h : k < s.size) (h1 : (s[k]).toNat = 46) (h2 : t < 2) (hS : rd (s.data.toList.drop k) t x y z = R) : rd (s.data.toList.drop (k + 1)) (t + 1) x y z = R := by
  rw [sdrop_at s k h] at hS; unfold rd at hS; rw [if_pos ⟨h1, h2⟩] at hS; exact hS
theorem rd_bad {s : ByteArray} {k t x y z : Nat} {R : Option (Nat × Nat × Nat)} (h : k < s.size) (h1 : ¬ ((s[k]).toNat = 46 ∧ t < 2)) (h2 : (s[k]).toNat < 48 ∨ 57 < (s[k]).toNat) (hS : rd (s.data.toList.drop k) t x y z = R) : R = none := by
  rw [sdrop_at s k h] at hS; unfold rd at hS; rw [if_neg h1, if_pos h2] at hS; exact hS.symm
theorem rd_dig {s : ByteArray} {k t x y z : Nat} {R : Option (Nat × Nat × Nat)} (h : k < s.size) (h1 : ¬ ((s[k]).toNat = 46 ∧ t < 2)) (h2 : ¬ ((s[k]).toNat < 48 ∨ 57 < (s[k]).toNat)) (hS : rd (s.data.toList.drop k) t x y z = R) :
    (if t = 0 then rd (s.data.toList.drop (k + 1)) t (x * 10 + ((s[k]).toNat - 48)) y z else if t = 1 then rd (s.data.toList.drop (k + 1)) t x (y * 10 + ((s[k]).toNat - 48)) z else rd (s.data.toList.drop (k + 1)) t x y (z * 10 + ((s[k]).toNat - 48))) = R := by
  rw [sdrop_at s k h] at hS; unfold rd at hS; rw [if_neg h1, if_neg h2] at hS; exact hS
theorem pow_le15 {x n : Nat} (h : x < 10 ^ n) (hn : n ≤ 14) : x < 100000000000000 :=
  Nat.lt_of_lt_of_le h (by have := Nat.pow_le_pow_right (show 0 < 10 by decide) hn; simpa using this)
theorem pow_next {x n d : Nat} (h : x < 10 ^ n) (hd : d < 10) : x * 10 + d < 10 ^ (n + 1) := by rw [Nat.pow_succ]; omega
theorem pow_more {x n : Nat} (h : x < 10 ^ n) : x < 10 ^ (n + 1) := by rw [Nat.pow_succ]; omega
/-- what the specification's Parse makes of a text that has the right size and letter -/
def rres (s : ByteArray) (R : Option (Nat × Nat × Nat)) : Value :=
  match R with
  | none => .tuple #[vv 0 0 0, .int .i64 8]
  | some (x, y, z) => if (txt x y z).toList == s.toList then .tuple #[vv x y z, .int .i64 0] else .tuple #[vv 0 0 0, .int .i64 8]
set_option maxRecDepth 100000 in
set_option maxHeartbeats 4000000 in
theorem rparse_short (s : ByteArray) (h : s.size < 6 ∨ 15 < s.size) (w : World) :
    Calls Tryz.prog 72 #[.string s] w fun e w' => e = .returned (.tuple #[vv 0 0 0, .int .i64 8]) ∧ Below w.heap.size w w' := by
  have HB := Lib.hid ((Below.refl w.heap.size w).alloc (Nat.le_refl _) (.cells #[.int .i64 0, .int .i64 0, .int .i64 0] 23))
  obtain ⟨y1, d0, d1, d2, g0, g1, g2⟩ := Row3.new w 0 0 0 23 _ rfl
  rcases h with h | h
  · have h1 : (s.size : Int) < 6 := by omega
    have h2 : decide ((s.size : Int) < 6) = true := by simpa using h1
    go_enter Tryz.func72, Tryz.ntmps72
    go_wp2_with fail
    refine bodyPost_ret (v := .tuple #[vv 0 0 0, .int .i64 8]) (by simp [results, Tryz.results72, go_sem, d0, d1, d2, y1]) rfl ⟨rfl, ?_⟩
    first | exact HB.out | exact (((HB.out.setCell (by simp) _).setCell (by simp) _).setCell (by simp) _)
  · have h1 : (15 : Int) < (s.size : Int) := by omega
    have h0 : ¬ (s.size : Int) < 6 := by omega
    go_enter Tryz.func72, Tryz.ntmps72
    go_wp2_with fail
    refine bodyPost_ret (v := .tuple #[vv 0 0 0, .int .i64 8]) (by simp [results, Tryz.results72, go_sem, d0, d1, d2, y1]) rfl ⟨rfl, ?_⟩
    first | exact HB.out | exact (((HB.out.setCell (by simp) _).setCell (by simp) _).setCell (by simp) _)
set_option maxRecDepth 100000 in
set_option maxHeartbeats 4000000 in
theorem rparse_head (s : ByteArray) (h5 : 6 ≤ s.size) (h15 : s.size ≤ 15) (hv : (s[0]).toNat ≠ 118) (w : World) :
    Calls Tryz.prog 72 #[.string s] w fun e w' => e = .returned (.tuple #[vv 0 0 0, .int .i64 8]) ∧ Below w.heap.size w w' := by
  have HB := Lib.hid ((Below.refl w.heap.size w).alloc (Nat.le_refl _) (.cells #[.int .i64 0, .int .i64 0, .int .i64 0] 23))
  obtain ⟨y1, d0, d1, d2, g0, g1, g2⟩ := Row3.new w 0 0 0 23 _ rfl
  have h0 : ¬ (s.size : Int) < 6 := by omega
  have h1 : ¬ (15 : Int) < (s.size : Int) := by omega
  have hz : 0 < s.size := by omega
  have hq : ((((s[0]).toNat : Nat) : Int) == 118) = false := by rw [beq_eq_false_iff_ne]; omega
  go_enter Tryz.func72, Tryz.ntmps72
  go_wp2_with fail
  refine bodyPost_ret (v := .tuple #[vv 0 0 0, .int .i64 8]) (by simp [results, Tryz.results72, go_sem, d0, d1, d2, y1]) rfl ⟨rfl, ?_⟩
  first | exact HB.out | exact (((HB.out.setCell (by simp) _).setCell (by simp) _).setCell (by simp) _)
/-
  The specification's Parse, for every text of the right size that begins with the letter v. No condition on the world.
-/
set_option maxRecDepth 100000 in
set_option maxHeartbeats 4000000 in
theorem rparse_main (s : ByteArray) (h5 : 6 ≤ s.size) (h15 : s.size ≤ 15) (hv : (s[0]).toNat = 118) (w : World) :
    Calls Tryz.prog 72 #[.string s] w fun e w' => e = .returned (rres s (rd (s.data.toList.drop 1) 0 0 0 0)) ∧ Below w.heap.size w w' := by
  have h0 : ¬ (s.size : Int) < 6 := by omega
  have h1 : ¬ (15 : Int) < (s.size : Int) := by omega
  have hz : 0 < s.size := by omega
  have hq : ((((s[0]).toNat : Nat) : Int) == 118) = true := by rw [beq_iff_eq]; omega
  obtain ⟨R, hR⟩ : ∃ R, rd (s.data.toList.drop 1) 0 0 0 0 = R := ⟨_, rfl⟩
  rw [hR]
  have HR := Lib.hid hR
  have HD := Lib.hid h15
  have HF := Lib.hid h5
  clear hR hv
  go_enter Tryz.func72, Tryz.ntmps72
  go_wp2_with fail
  clear h0 h1 h5 h15
  go_loopw [5, 6] (fun a i wr => ∃ t n x y z : Nat, a = .int .i64 (t : Int) ∧ t ≤ 2 ∧ i = .int .i64 (n : Int) ∧ 1 ≤ n ∧ n ≤ s.size ∧ Hid (rd (s.data.toList.drop n) t x y z = R) ∧ Hid (x < 10 ^ n ∧ y < 10 ^ n ∧ z < 10 ^ n) ∧ Hid (Below w.heap.size w wr) ∧ Hid (Row3 wr w.heap.size 0 0 0) ∧ Hid (Row3 wr (w.heap.size + 1) x y z)) (fun _ i _ => (15 - intOf i).toNat)
  case atStart =>
    refine ⟨0, 1, 0, 0, 0, rfl, by omega, rfl, by omega, by have := HF.out; omega, HR, Lib.hid (by decide), Lib.hid ?_, Lib.hid ?_, Lib.hid ?_⟩
    · exact ((Below.refl w.heap.size w).alloc (Nat.le_refl _) _).alloc (by simp) _
    · exact (Row3.new w 0 0 0 23 _ rfl).alloc _
    · exact Row3.new _ 0 0 0 85 _ (by simp)
  case round =>
    obtain ⟨t, n, x, y, z, rfl, ht, rfl, hn1, hn, HS, HX, HB, HZ, HA⟩ := hrel
    by_cases hlt : n < s.size
    · have hi : (n : Int) < (s.size : Int) := by omega
      have wn : IntKind.i64.wrap ((n : Int) + 1) = (n : Int) + 1 := by simp [IntKind.wrap, IntKind.bits, IntKind.signed]; have := HD.out; omega
      by_cases hdot : (s[n]).toNat = 46 ∧ t < 2
      · have HS2 := Lib.hid (rd_dot hlt hdot.1 hdot.2 HS.out)
        have hq1 : ((((s[n]).toNat : Nat) : Int) == 46) = true := by rw [beq_iff_eq]; omega
        have ht2 : (t : Int) < 2 := by omega
        have wt : IntKind.i64.wrap ((t : Int) + 1) = (t : Int) + 1 := by simp [IntKind.wrap, IntKind.bits, IntKind.signed]; omega
        have htn : t + 1 ≤ 2 := by omega
        have HX2 := Lib.hid (And.intro (pow_more HX.out.1) (And.intro (pow_more HX.out.2.1) (pow_more HX.out.2.2)))
        clear hdot HS HX HR
        go_wp2_with fail
        go_roundw
        case rel => exact ⟨t + 1, n + 1, x, y, z, by go_num, htn, by go_num, by omega, by omega, HS2, HX2, HB, HZ, HA⟩
        case measure => simp [intOf]; have := HD.out; omega
      · have hdot2 : ¬ ((s[n]).toNat = 46 ∧ t < 2) := hdot
        by_cases hbad : (s[n]).toNat < 48 ∨ 57 < (s[n]).toNat
        · have hRn := rd_bad hlt hdot hbad HS.out
          have HRn := Lib.hid hRn
          clear hRn HS HX HR
          obtain ⟨z1, d0, d1, d2, g0, g1, g2⟩ := HZ.out
          by_cases h46 : (s[n]).toNat = 46
          · have hq1 : ((((s[n]).toNat : Nat) : Int) == 46) = true := by rw [beq_iff_eq]; omega
            have ht2 : ¬ (t : Int) < 2 := fun h => hdot ⟨h46, by omega⟩
            have hq2 : (((s[n]).toNat : Nat) : Int) < 48 := by omega
            clear hdot hdot2 hbad h46
            go_wp2_with fail
            have hr2 : rres s R = .tuple #[vv 0 0 0, .int .i64 8] := by rw [HRn.out]; rfl
            rw [hr2]
            refine bodyPost_ret (v := .tuple #[vv 0 0 0, .int .i64 8]) (by simp [results, Tryz.results72, go_sem, d0, d1, d2, z1]) rfl ⟨rfl, ?_⟩
            exact (((HB.out.setCell (by simp) _).setCell (by simp) _).setCell (by simp) _)
          · have hq1 : ((((s[n]).toNat : Nat) : Int) == 46) = false := by rw [beq_eq_false_iff_ne]; omega
            by_cases hl : (s[n]).toNat < 48
            · have hq2 : (((s[n]).toNat : Nat) : Int) < 48 := by omega
              clear hdot hdot2 hbad h46 hl
              go_wp2_with fail
              have hr2 : rres s R = .tuple #[vv 0 0 0, .int .i64 8] := by rw [HRn.out]; rfl
              rw [hr2]
              refine bodyPost_ret (v := .tuple #[vv 0 0 0, .int .i64 8]) (by simp [results, Tryz.results72, go_sem, d0, d1, d2, z1]) rfl ⟨rfl, ?_⟩
              exact (((HB.out.setCell (by simp) _).setCell (by simp) _).setCell (by simp) _)
            · have hq2 : ¬ (((s[n]).toNat : Nat) : Int) < 48 := by omega
              have hq3 : (57 : Int) < (((s[n]).toNat : Nat) : Int) := by omega
              clear hdot hdot2 hbad h46 hl
              go_wp2_with fail
              have hr2 : rres s R = .tuple #[vv 0 0 0, .int .i64 8] := by rw [HRn.out]; rfl
              rw [hr2]
              refine bodyPost_ret (v := .tuple #[vv 0 0 0, .int .i64 8]) (by simp [results, Tryz.results72, go_sem, d0, d1, d2, z1]) rfl ⟨rfl, ?_⟩
              exact (((HB.out.setCell (by simp) _).setCell (by simp) _).setCell (by simp) _)
        · obtain ⟨d, hd⟩ : ∃ d, (s[n]).toNat = 48 + d := ⟨(s[n]).toNat - 48, by omega⟩
          have hd9 : d < 10 := by omega
          have hq1 : ((((s[n]).toNat : Nat) : Int) == 46) = false := by rw [beq_eq_false_iff_ne]; omega
          have hq2 : ¬ (((s[n]).toNat : Nat) : Int) < 48 := by omega
          have hq3 : ¬ (57 : Int) < (((s[n]).toNat : Nat) : Int) := by omega
          have hq4 : IntKind.u8.wrap ((((s[n]).toNat : Nat) : Int) - 48) = (d : Int) := by rw [hd]; simp [IntKind.wrap, IntKind.bits, IntKind.signed]; omega
          have hq5 : IntKind.i64.wrap (d : Int) = (d : Int) := by simp [IntKind.wrap, IntKind.bits, IntKind.signed]; omega
          have HS2 := Lib.hid (rd_dig hlt hdot hbad HS.out)
          rw [hd, show 48 + d - 48 = d by omega] at HS2
          clear hd hdot hdot2 hbad HS HR
          rcases (show t = 0 ∨ t = 1 ∨ t = 2 by omega) with rfl | rfl | rfl
          · have hb15 := pow_le15 HX.out.1 (by have := HD.out; omega)
            have HS3 : Hid (rd (s.data.toList.drop (n + 1)) 0 (x * 10 + d) y z = R) := Lib.hid (by have := HS2.out; simpa using this)
            have HX2 := Lib.hid (And.intro (pow_next HX.out.1 hd9) (And.intro (pow_more HX.out.2.1) (pow_more HX.out.2.2)))
            have wm : IntKind.i64.wrap ((x : Int) * 10) = (x : Int) * 10 := by simp [IntKind.wrap, IntKind.bits, IntKind.signed]; omega
            have wa : IntKind.i64.wrap ((x : Int) * 10 + (d : Int)) = (x : Int) * 10 + (d : Int) := by simp [IntKind.wrap, IntKind.bits, IntKind.signed]; omega
            clear HS2 HX hb15
            obtain ⟨c1, a0, a1, a2, f0, f1, f2⟩ := HA.out
            go_wp2_with fail
            go_still_tail 12, (by kernel_rfl)
            change wpList _ _ _ _ _ wr.drew
            have HA2 := Lib.hid ((HA.out.keep ((Below.refl _ _).drew)).set0 ((x * 10 + d : Nat) : Int))
            have HZ2 := Lib.hid ((HZ.out.keep ((Below.refl _ _).drew)).set_other (i := 0) (.int .i64 ((x * 10 + d : Nat) : Int)) (show w.heap.size + 1 ≠ w.heap.size by omega))
            have HB2 := Lib.hid (((HB.out.trans ((Below.refl _ _).drew))).setCell (p := ⟨w.heap.size + 1, 0, none⟩) (by simp) (.int .i64 ((x * 10 + d : Nat) : Int)))
            go_wp2_with fail
            go_roundw
            case rel => exact ⟨0, n + 1, x * 10 + d, y, z, by go_num, by omega, by go_num, by omega, by omega, HS3, HX2, HB2, HZ2, HA2⟩
            case measure => simp [intOf]; have := HD.out; omega
          · have hb15 := pow_le15 HX.out.2.1 (by have := HD.out; omega)
            have HS3 : Hid (rd (s.data.toList.drop (n + 1)) 1 x (y * 10 + d) z = R) := Lib.hid (by have := HS2.out; simpa using this)
            have HX2 := Lib.hid (And.intro (pow_more HX.out.1) (And.intro (pow_next HX.out.2.1 hd9) (pow_more HX.out.2.2)))
            have wm : IntKind.i64.wrap ((y : Int) * 10) = (y : Int) * 10 := by simp [IntKind.wrap, IntKind.bits, IntKind.signed]; omega
            have wa : IntKind.i64.wrap ((y : Int) * 10 + (d : Int)) = (y : Int) * 10 + (d : Int) := by simp [IntKind.wrap, IntKind.bits, IntKind.signed]; omega
            clear HS2 HX hb15
            obtain ⟨c1, a0, a1, a2, f0, f1, f2⟩ := HA.out
            go_wp2_with fail
            go_still_tail 12, (by kernel_rfl)
            change wpList _ _ _ _ _ wr.drew
            have HA2 := Lib.hid ((HA.out.keep ((Below.refl _ _).drew)).set1 ((y * 10 + d : Nat) : Int))
            have HZ2 := Lib.hid ((HZ.out.keep ((Below.refl _ _).drew)).set_other (i := 1) (.int .i64 ((y * 10 + d : Nat) : Int)) (show w.heap.size + 1 ≠ w.heap.size by omega))
            have HB2 := Lib.hid (((HB.out.trans ((Below.refl _ _).drew))).setCell (p := ⟨w.heap.size + 1, 1, none⟩) (by simp) (.int .i64 ((y * 10 + d : Nat) : Int)))
            go_wp2_with fail
            go_roundw
            case rel => exact ⟨1, n + 1, x, y * 10 + d, z, by go_num, by omega, by go_num, by omega, by omega, HS3, HX2, HB2, HZ2, HA2⟩
            case measure => simp [intOf]; have := HD.out; omega
          · have hb15 := pow_le15 HX.out.2.2 (by have := HD.out; omega)
            have HS3 : Hid (rd (s.data.toList.drop (n + 1)) 2 x y (z * 10 + d) = R) := Lib.hid (by have := HS2.out; simpa using this)
            have HX2 := Lib.hid (And.intro (pow_more HX.out.1) (And.intro (pow_more HX.out.2.1) (pow_next HX.out.2.2 hd9)))
            have wm : IntKind.i64.wrap ((z : Int) * 10) = (z : Int) * 10 := by simp [IntKind.wrap, IntKind.bits, IntKind.signed]; omega
            have wa : IntKind.i64.wrap ((z : Int) * 10 + (d : Int)) = (z : Int) * 10 + (d : Int) := by simp [IntKind.wrap, IntKind.bits, IntKind.signed]; omega
            clear HS2 HX hb15
            obtain ⟨c1, a0, a1, a2, f0, f1, f2⟩ := HA.out
            go_wp2_with fail
            go_still_tail 12, (by kernel_rfl)
            change wpList _ _ _ _ _ wr.drew
            have HA2 := Lib.hid ((HA.out.keep ((Below.refl _ _).drew)).set2 ((z * 10 + d : Nat) : Int))
            have HZ2 := Lib.hid ((HZ.out.keep ((Below.refl _ _).drew)).set_other (i := 2) (.int .i64 ((z * 10 + d : Nat) : Int)) (show w.heap.size + 1 ≠ w.heap.size by omega))
            have HB2 := Lib.hid (((HB.out.trans ((Below.refl _ _).drew))).setCell (p := ⟨w.heap.size + 1, 2, none⟩) (by simp) (.int .i64 ((z * 10 + d : Nat) : Int)))
            go_wp2_with fail
            go_roundw
            case rel => exact ⟨2, n + 1, x, y, z * 10 + d, by go_num, by omega, by go_num, by omega, by omega, HS3, HX2, HB2, HZ2, HA2⟩
            case measure => simp [intOf]; have := HD.out; omega
    · have hn2 : ¬ (n : Int) < (s.size : Int) := by omega
      have HE := Lib.hid (rd_end (by omega) HS.out)
      clear HS HR HX
      obtain ⟨c1, a0, a1, a2, f0, f1, f2⟩ := HA.out
      have HZ2 := Lib.hid (HZ.out.alloc (.cells #[.int .i64 (x : Int), .int .i64 (y : Int), .int .i64 (z : Int)] 23))
      obtain ⟨X, hX⟩ : ∃ X, txt x y z = X := ⟨_, rfl⟩
      have CX := Lib.hid (fun w => rtext_at x y z X hX w)
      have hres : rres s R = if X.toList == s.toList then .tuple #[vv x y z, .int .i64 0] else .tuple #[vv 0 0 0, .int .i64 8] := by rw [HE.out]; unfold rres; simp only [hX]
      have HRES := Lib.hid hres
      clear hX hres HE
      go_wp2_with fail
      refine (CX.out _).mono ?_
      rintro e w2 ⟨rfl, hb2⟩
      have B2 := Lib.hid ((HB.out.alloc HB.out.size (.cells #[.int .i64 (x : Int), .int .i64 (y : Int), .int .i64 (z : Int)] 23)).trans (hb2.mono (by have := HB.out.size; simp; omega)))
      have N2 := Lib.hid ((Row3.new _ (x : Int) (y : Int) (z : Int) 23 _ rfl).keep hb2)
      have Z2 := Lib.hid (HZ2.out.keep hb2)
      clear hb2 HZ2 HB HZ HA c1 a0 a1 a2 f0 f1 f2
      obtain ⟨z1, d0, d1, d2, g0, g1, g2⟩ := Z2.out
      obtain ⟨c1, a0, a1, a2, f0, f1, f2⟩ := N2.out
      cases he : (X.toList == s.toList) with
      | true =>
        have hr2 : rres s R = .tuple #[vv x y z, .int .i64 0] := by rw [HRES.out, he]; rfl
        go_wp2_with fail
        rw [hr2]
        clear HRES hr2
        refine bodyPost_ret (v := .tuple #[vv x y z, .int .i64 0]) (by simp [results, Tryz.results72, go_sem, d0, d1, d2, z1]) rfl ⟨rfl, ?_⟩
        exact (((B2.out.setCell (by simp) _).setCell (by simp) _).setCell (by simp) _)
      | false =>
        have hr2 : rres s R = .tuple #[vv 0 0 0, .int .i64 8] := by rw [HRES.out, he]; rfl
        go_wp2_with fail
        rw [hr2]
        clear HRES hr2
        refine bodyPost_ret (v := .tuple #[vv 0 0 0, .int .i64 8]) (by simp [results, Tryz.results72, go_sem, d0, d1, d2, z1]) rfl ⟨rfl, ?_⟩
        exact (((B2.out.setCell (by simp) _).setCell (by simp) _).setCell (by simp) _)
end Go.Proofs.YtaeideimlagheaaGreatDoor
namespace Go.Proofs.YtaeideimlagheaaGreatDoor
open Go.RowKit
set_option linter.unusedSimpArgs false
set_option linter.unnecessarySimpa false
set_option linter.unusedVariables false
/-
  Plain mathematics: the specification's loop reads what Text writes; and the law SemverParses. Conditions: the table of powers of ten, internal/bytealg.MaxLen holds some number, the two error variables of strconv hold interface values.
-/
def valF (x : Nat) (l : List UInt8) : Nat := l.foldl (fun a c => a * 10 + (c.toNat - 48)) x
theorem rd_run0 : ∀ (l r : List UInt8) (x y z : Nat), (∀ c ∈ l, 48 ≤ c.toNat ∧ c.toNat ≤ 57) → rd (l ++ r) 0 x y z = rd r 0 (valF x l) y z
  | [], r, x, y, z, _ => rfl
  | c :: l, r, x, y, z, h => by
    obtain ⟨h1, h2⟩ := h c (by simp)
    rw [List.cons_append]
    have e : rd (c :: (l ++ r)) 0 x y z = rd (l ++ r) 0 (x * 10 + (c.toNat - 48)) y z := by rw [rd, if_neg (by omega), if_neg (by omega), if_pos rfl]
    exact e.trans (rd_run0 l r _ y z (fun d hd => h d (by simp [hd])))
theorem rd_run1 : ∀ (l r : List UInt8) (x y z : Nat), (∀ c ∈ l, 48 ≤ c.toNat ∧ c.toNat ≤ 57) → rd (l ++ r) 1 x y z = rd r 1 x (valF y l) z
  | [], r, x, y, z, _ => rfl
  | c :: l, r, x, y, z, h => by
    obtain ⟨h1, h2⟩ := h c (by simp)
    rw [List.cons_append]
    have e : rd (c :: (l ++ r)) 1 x y z = rd (l ++ r) 1 x (y * 10 + (c.toNat - 48)) z := by rw [rd, if_neg (by omega), if_neg (by omega), if_neg (by omega), if_pos rfl]
    exact e.trans (rd_run1 l r x _ z (fun d hd => h d (by simp [hd])))
theorem rd_run2 : ∀ (l r : List UInt8) (x y z : Nat), (∀ c ∈ l, 48 ≤ c.toNat ∧ c.toNat ≤ 57) → rd (l ++ r) 2 x y z = rd r 2 x y (valF z l)
  | [], r, x, y, z, _ => rfl
  | c :: l, r, x, y, z, h => by
    obtain ⟨h1, h2⟩ := h c (by simp)
    rw [List.cons_append]
    have e : rd (c :: (l ++ r)) 2 x y z = rd (l ++ r) 2 x y (z * 10 + (c.toNat - 48)) := by rw [rd, if_neg (by omega), if_neg (by omega), if_neg (by omega), if_neg (by omega)]
    exact e.trans (rd_run2 l r x y _ (fun d hd => h d (by simp [hd])))
theorem rd_sep0 (r : List UInt8) (x y z : Nat) : rd (46 :: r) 0 x y z = rd r 1 x y z := by
  rw [rd, if_pos ⟨by decide, by decide⟩]
theorem rd_sep1 (r : List UInt8) (x y z : Nat) : rd (46 :: r) 1 x y z = rd r 2 x y z := by
  rw [rd, if_pos ⟨by decide, by decide⟩]
theorem val_dec' (u : Nat) : valF 0 (Lib.decDigits u) = u := ZSemverMath.val_dec u
theorem rd_text (a b c : Nat) : rd (Lib.decDigits a ++ 46 :: (Lib.decDigits b ++ 46 :: Lib.decDigits c)) 0 0 0 0 = some (a, b, c) := by
  rw [rd_run0 _ _ _ _ _ (ZSemverMath.dec_dig a), rd_sep0, rd_run1 _ _ _ _ _ (ZSemverMath.dec_dig b), rd_sep1]
  have := rd_run2 (Lib.decDigits c) [] (valF 0 (Lib.decDigits a)) (valF 0 (Lib.decDigits b)) 0 (ZSemverMath.dec_dig c)
  rw [List.append_nil] at this
  rw [this, val_dec', val_dec', val_dec']
  rfl
theorem dec_pos (u : Nat) : 1 ≤ (Lib.decDigits u).length := by
  by_cases h : u < 10
  · rw [Lib.decDigits_one h]; simp
  · rw [ZSemverMath.dec_more h]; simp
theorem txt_list {a b c : Int} (h : okV a b c = true) : (txtS a b c).data.toList = 118 :: (Lib.decDigits a.toNat ++ 46 :: (Lib.decDigits b.toNat ++ 46 :: Lib.decDigits c.toNat)) := by
  obtain ⟨⟨a0, a1⟩, ⟨b0, b1⟩, ⟨c0, c1⟩⟩ := okV_parts h
  simp [txtS, istr_dec a0, istr_dec b0, istr_dec c0]
theorem txt_sizes {a b c : Int} (h : okV a b c = true) : 6 ≤ (txtS a b c).size ∧ (txtS a b c).size ≤ 15 := by
  obtain ⟨⟨a0, a1⟩, ⟨b0, b1⟩, ⟨c0, c1⟩⟩ := okV_parts h
  have e : (txtS a b c).size = (txtS a b c).data.toList.length := by simp
  rw [e, txt_list h]
  have x1 := dec_pos a.toNat; have x2 := dec_pos b.toNat; have x3 := dec_pos c.toNat
  have y1 := dec_len 3 a.toNat (by omega); have y2 := dec_len 3 b.toNat (by omega); have y3 := dec_len 3 c.toNat (by omega)
  simp only [List.length_cons, List.length_append]
  omega
theorem rparse_txt (a b c : Int) (h : okV a b c = true) (w : World) :
    Calls Tryz.prog 72 #[.string (txtS a b c)] w fun e w' => e = .returned (.tuple #[vv a b c, .int .i64 0]) ∧ Below w.heap.size w w' := by
  obtain ⟨h5, h15⟩ := txt_sizes h
  have hl := txt_list h
  obtain ⟨⟨a0, a1⟩, ⟨b0, b1⟩, ⟨c0, c1⟩⟩ := okV_parts h
  have hd : ((txtS a b c)[0]).toNat = 118 := by
    have := sdrop_at (txtS a b c) 0 (by omega)
    rw [List.drop_zero, hl] at this
    have h2 := (List.cons.inj this).1
    rw [← h2]; rfl
  refine (rparse_main (txtS a b c) h5 h15 hd w).mono ?_
  rintro e w' ⟨rfl, hb⟩
  refine ⟨?_, hb⟩
  rw [hl, List.drop_succ_cons, List.drop_zero, rd_text]
  have e1 : ((a.toNat : Nat) : Int) = a := by omega
  have e2 : ((b.toNat : Nat) : Int) = b := by omega
  have e3 : ((c.toNat : Nat) : Int) = c := by omega
  simp only [rres, e1, e2, e3]
  have ht : txt a b c = txtS a b c := by unfold txt; rw [if_pos h]
  rw [ht]; simp
theorem rparse_no (s : ByteArray) (hN : ∀ a b c, txt a b c ≠ s) (w : World) :
    Calls Tryz.prog 72 #[.string s] w fun e w' => e = .returned (.tuple #[vv 0 0 0, .int .i64 8]) ∧ Below w.heap.size w w' := by
  by_cases hs : s.size < 6 ∨ 15 < s.size
  · exact rparse_short s hs w
  · have h5 : 6 ≤ s.size := by omega
    have h15 : s.size ≤ 15 := by omega
    by_cases hd : (s[0]).toNat = 118
    · refine (rparse_main s h5 h15 hd w).mono ?_
      rintro e w' ⟨rfl, hb⟩
      refine ⟨?_, hb⟩
      cases rd (s.data.toList.drop 1) 0 0 0 0 with
      | none => rfl
      | some p =>
        obtain ⟨x, y, z⟩ := p
        have : ((txt x y z).toList == s.toList) = false := by
          rw [beq_eq_false_iff_ne]
          intro h
          rw [Go.ByteArray.toList_eq, Go.ByteArray.toList_eq] at h
          exact hN _ _ _ (ByteArray.ext (Array.ext' h))
        simp only [rres, this]
        rfl
    · exact rparse_head s h5 h15 hd w
theorem rparse_q (w : World) :
    Calls Tryz.prog 72 #[.string ⟨#[63]⟩] w fun e w' => e = .returned (.tuple #[vv 0 0 0, .int .i64 8]) ∧ Below w.heap.size w w' :=
  rparse_short _ (.inl (by decide)) w
end Go.Proofs.YtaeideimlagheaaGreatDoor
namespace Go.Proofs.YtaeideimlagheaaGreatDoor
open Go.RowKit
set_option linter.unusedSimpArgs false
set_option linter.unnecessarySimpa false
set_option linter.unusedVariables false
/-- the version that a text denotes -/
def verV (l : List UInt8) : Option (Int × Int × Int) :=
  if 6 ≤ l.length ∧ l.length ≤ 15 ∧ l.head? = some 118 then
    match rd (l.drop 1) 0 0 0 0 with
    | some (x, y, z) => if (txt x y z).data.toList = l then some ((x : Int), (y : Int), (z : Int)) else none
    | none => none
  else none
theorem verV_some {s : ByteArray} {a b c : Int} (h : verV s.data.toList = some (a, b, c)) : okV a b c = true ∧ txtS a b c = s := by
  unfold verV at h
  split at h
  · rename_i h1
    split at h
    · rename_i x y z h2
      split at h
      · rename_i h3
        simp only [Option.some.injEq, Prod.mk.injEq] at h
        obtain ⟨rfl, rfl, rfl⟩ := h
        have he : txt x y z = s := ByteArray.ext (Array.ext' h3)
        have ho : okV x y z = true := by
          cases ho : okV (x : Int) y z with
          | true => rfl
          | false =>
            rw [txt, if_neg (by rw [ho]; simp)] at he
            rw [← he] at h1
            exact absurd h1.1 (by decide)
        refine ⟨ho, ?_⟩
        rw [txt, if_pos ho] at he
        exact he
      · cases h
    · cases h
  · cases h
theorem verV_txt {a b c : Int} (h : okV a b c = true) : verV (txtS a b c).data.toList = some (a, b, c) := by
  obtain ⟨h5, h15⟩ := txt_sizes h
  have hl := txt_list h
  obtain ⟨⟨a0, a1⟩, ⟨b0, b1⟩, ⟨c0, c1⟩⟩ := okV_parts h
  have hs : (txtS a b c).data.toList.length = (txtS a b c).size := by simp
  unfold verV
  rw [if_pos ⟨by omega, by omega, by rw [hl]; rfl⟩]
  have e1 : ((a.toNat : Nat) : Int) = a := by omega
  have e2 : ((b.toNat : Nat) : Int) = b := by omega
  have e3 : ((c.toNat : Nat) : Int) = c := by omega
  have hr : rd ((txtS a b c).data.toList.drop 1) 0 0 0 0 = some (a.toNat, b.toNat, c.toNat) := by
    rw [hl, List.drop_succ_cons, List.drop_zero, rd_text]
  rw [hr]
  simp only [e1, e2, e3]
  rw [if_pos (by rw [txt, if_pos h])]
theorem verV_none {s : ByteArray} (h : verV s.data.toList = none) (hq : s ≠ ⟨#[63]⟩) : ∀ a b c, txt a b c ≠ s := by
  intro a b c he
  cases ho : okV a b c with
  | true =>
    rw [txt, if_pos ho] at he
    rw [← he, verV_txt ho] at h; cases h
  | false =>
    rw [txt, if_neg (by rw [ho]; simp)] at he
    exact hq he.symm
def verR (o : Option (Int × Int × Int)) : Value := match o with
  | some (a, b, c) => .tuple #[vv a b c, .int .i64 0]
  | none => .tuple #[vv 0 0 0, .int .i64 8]
theorem vparse_any (s : ByteArray) (hs : s.size ≤ 100000) (w : World) (hT : P10 w) (hM : Mx w) (hE : Er w) :
    Calls Tryz.prog 71 #[.string s] w fun e w' => e = .returned (verR (verV s.data.toList)) ∧ Below w.heap.size w w' := by
  cases h : verV s.data.toList with
  | some v =>
    obtain ⟨a, b, c⟩ := v
    obtain ⟨ho, rfl⟩ := verV_some h
    exact parse_txt a b c ho w hT hM
  | none =>
    by_cases hq : s = ⟨#[63]⟩
    · subst hq; exact parse_q w hM
    · exact parse_no s hs (verV_none h hq) w hT hM hE
theorem rvparse_any (s : ByteArray) (w : World) :
    Calls Tryz.prog 72 #[.string s] w fun e w' => e = .returned (verR (verV s.data.toList)) ∧ Below w.heap.size w w' := by
  cases h : verV s.data.toList with
  | some v =>
    obtain ⟨a, b, c⟩ := v
    obtain ⟨ho, rfl⟩ := verV_some h
    exact rparse_txt a b c ho w
  | none =>
    by_cases hq : s = ⟨#[63]⟩
    · subst hq; exact rparse_q w
    · exact rparse_no s (verV_none h hq) w
end Go.Proofs.YtaeideimlagheaaGreatDoor
