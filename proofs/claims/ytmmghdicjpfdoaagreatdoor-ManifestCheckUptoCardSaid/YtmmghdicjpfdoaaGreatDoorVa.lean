/-
  The specification's Parse of versions. No condition on the world.
-/
import Derived.Test.YtmmghdicjpfdoaaGreatDoorV9
import Derived.StillTailTactics
namespace Go.Proofs.YtmmghdicjpfdoaaGreatDoor
open Go.RowKit
set_option linter.unusedSimpArgs false
set_option linter.unnecessarySimpa false
set_option linter.unusedVariables false
/-
  The specification's Parse, for every text of at most 4000 bytes. No condition on the world.
-/
/-- the three numbers that the specification's loop reads -/
def rd : List UInt8 → Nat → Nat → Nat → Nat → Option (Nat × Nat × Nat)
  | [], _, x, y, z => some (x, y, z)
  | c :: l, t, x, y, z =>
    if c.toNat = 46 ∧ t < 2 then rd l (t + 1) x y z
    else if c.toNat < 48 ∨ 57 < c.toNat then none
    else if t = 0 then rd l t (x * 10 + (c.toNat - 48)) y z
    else if t = 1 then rd l t x (y * 10 + (c.toNat - 48)) z
    else rd l t x y (z * 10 + (c.toNat - 48))
theorem sdrop_at (s : ByteArray) (k : Nat) (h : k < s.size) : s.data.toList.drop k = s[k] :: s.data.toList.drop (k + 1) :=
  List.drop_eq_getElem_cons (by simpa using h)
theorem rd_end {s : ByteArray} {k t x y z : Nat} {R : Option (Nat × Nat × Nat)} (h : s.size ≤ k) (hS : rd (s.data.toList.drop k) t x y z = R) : R = some (x, y, z) := by
  rw [← hS, List.drop_eq_nil_of_le (by simpa using h)]; rfl
theorem rd_dot {s : ByteArray} {k t x y z : Nat} {R : Option (Nat × Nat × Nat)} (h : k < s.size) (h1 : (s[k]).toNat = 46) (h2 : t < 2) (hS : rd (s.data.toList.drop k) t x y z = R) : rd (s.data.toList.drop (k + 1)) (t + 1) x y z = R := by
  rw [sdrop_at s k h] at hS; unfold rd at hS; rw [if_pos ⟨h1, h2⟩] at hS; exact hS
theorem rd_bad {s : ByteArray} {k t x y z : Nat} {R : Option (Nat × Nat × Nat)} (h : k < s.size) (h1 : ¬ ((s[k]).toNat = 46 ∧ t < 2)) (h2 : (s[k]).toNat < 48 ∨ 57 < (s[k]).toNat) (hS : rd (s.data.toList.drop k) t x y z = R) : R = none := by
  rw [sdrop_at s k h] at hS; unfold rd at hS; rw [if_neg h1, if_pos h2] at hS; exact hS.symm
theorem rd_dig {s : ByteArray} {k t x y z : Nat} {R : Option (Nat × Nat × Nat)} (h : k < s.size) (h1 : ¬ ((s[k]).toNat = 46 ∧ t < 2)) (h2 : ¬ ((s[k]).toNat < 48 ∨ 57 < (s[k]).toNat)) (hS : rd (s.data.toList.drop k) t x y z = R) :
    (if t = 0 then rd (s.data.toList.drop (k + 1)) t (x * 10 + ((s[k]).toNat - 48)) y z else if t = 1 then rd (s.data.toList.drop (k + 1)) t x (y * 10 + ((s[k]).toNat - 48)) z else rd (s.data.toList.drop (k + 1)) t x y (z * 10 + ((s[k]).toNat - 48))) = R := by
  rw [sdrop_at s k h] at hS; unfold rd at hS; rw [if_neg h1, if_neg h2] at hS; exact hS
theorem pow_le15 {x n : Nat} (h : x < 10 ^ n) (hn : n ≤ 14) : x < 100000000000000 :=
  Nat.lt_of_lt_of_le h (by have := Nat.pow_le_pow_right (show 0 < 10 by decide) hn; simpa using this)
theorem pow_next {x n d : Nat} (h : x < 10 ^ n) (hd : d < 10) : x * 10 + d < 10 ^ (n + 1) := by rw [Nat.pow_succ]; omega
theorem pow_more {x n : Nat} (h : x < 10 ^ n) : x < 10 ^ (n + 1) := by rw [Nat.pow_succ]; omega
/-- what the specification's Parse makes of a text that has the right size and letter -/
def rres (s : ByteArray) (R : Option (Nat × Nat × Nat)) : Value :=
  match R with
  | none => .tuple #[vv 0 0 0, .int .i64 8]
  | some (x, y, z) => if (txt x y z).toList == s.toList then .tuple #[vv x y z, .int .i64 0] else .tuple #[vv 0 0 0, .int .i64 8]
set_option maxRecDepth 100000 in
set_option maxHeartbeats 4000000 in
theorem rparse_short (s : ByteArray) (h : s.size < 6 ∨ 15 < s.size) (w : World) :
    Calls Tryz.prog 72 #[.string s] w fun e w' => e = .returned (.tuple #[vv 0 0 0, .int .i64 8]) ∧ Below w.heap.size w w' := by
  have HB := Lib.hid ((Below.refl w.heap.size w).alloc (Nat.le_refl _) (.cells #[.int .i64 0, .int .i64 0, .int .i64 0] 23))
  obtain ⟨y1, d0, d1, d2, g0, g1, g2⟩ := Row3.new w 0 0 0 23 _ rfl
  rcases h with h | h
  · have h1 : (s.size : Int) < 6 := by omega
    have h2 : decide ((s.size : Int) < 6) = true := by simpa using h1
    go_enter Tryz.func72, Tryz.ntmps72
    go_wp2_with fail
    refine bodyPost_ret (v := .tuple #[vv 0 0 0, .int .i64 8]) (by simp [results, Tryz.results72, go_sem, d0, d1, d2, y1]) rfl ⟨rfl, ?_⟩
    first | exact HB.out | exact (((HB.out.setCell (by simp) _).setCell (by simp) _).setCell (by simp) _)
  · have h1 : (15 : Int) < (s.size : Int) := by omega
    have h0 : ¬ (s.size : Int) < 6 := by omega
    go_enter Tryz.func72, Tryz.ntmps72
    go_wp2_with fail
    refine bodyPost_ret (v := .tuple #[vv 0 0 0, .int .i64 8]) (by simp [results, Tryz.results72, go_sem, d0, d1, d2, y1]) rfl ⟨rfl, ?_⟩
    first | exact HB.out | exact (((HB.out.setCell (by simp) _).setCell (by simp) _).setCell (by simp) _)
set_option maxRecDepth 100000 in
set_option maxHeartbeats 4000000 in
theorem rparse_head (s : ByteArray) (h5 : 6 ≤ s.size) (h15 : s.size ≤ 15) (hv : (s[0]).toNat ≠ 118) (w : World) :
    Calls Tryz.prog 72 #[.string s] w fun e w' => e = .returned (.tuple #[vv 0 0 0, .int .i64 8]) ∧ Below w.heap.size w w' := by
  have HB := Lib.hid ((Below.refl w.heap.size w).alloc (Nat.le_refl _) (.cells #[.int .i64 0, .int .i64 0, .int .i64 0] 23))
  obtain ⟨y1, d0, d1, d2, g0, g1, g2⟩ := Row3.new w 0 0 0 23 _ rfl
  have h0 : ¬ (s.size : Int) < 6 := by omega
  have h1 : ¬ (15 : Int) < (s.size : Int) := by omega
  have hz : 0 < s.size := by omega
  have hq : ((((s[0]).toNat : Nat) : Int) == 118) = false := by rw [beq_eq_false_iff_ne]; omega
  go_enter Tryz.func72, Tryz.ntmps72
  go_wp2_with fail
  refine bodyPost_ret (v := .tuple #[vv 0 0 0, .int .i64 8]) (by simp [results, Tryz.results72, go_sem, d0, d1, d2, y1]) rfl ⟨rfl, ?_⟩
  first | exact HB.out | exact (((HB.out.setCell (by simp) _).setCell (by simp) _).setCell (by simp) _)
/-
  The specification's Parse, for every text of the right size that begins with the letter v. No condition on the world.
-/
set_option maxRecDepth 100000 in
set_option maxHeartbeats 4000000 in
theorem rparse_main (s : ByteArray) (h5 : 6 ≤ s.size) (h15 : s.size ≤ 15) (hv : (s[0]).toNat = 118) (w : World) :
    Calls Tryz.prog 72 #[.string s] w fun e w' => e = .returned (rres s (rd (s.data.toList.drop 1) 0 0 0 0)) ∧ Below w.heap.size w w' := by
  have h0 : ¬ (s.size : Int) < 6 := by omega
  have h1 : ¬ (15 : Int) < (s.size : Int) := by omega
  have hz : 0 < s.size := by omega
  have hq : ((((s[0]).toNat : Nat) : Int) == 118) = true := by rw [beq_iff_eq]; omega
  obtain ⟨R, hR⟩ : ∃ R, rd (s.data.toList.drop 1) 0 0 0 0 = R := ⟨_, rfl⟩
  rw [hR]
  have HR := Lib.hid hR
  have HD := Lib.hid h15
  have HF := Lib.hid h5
  clear hR hv
  go_enter Tryz.func72, Tryz.ntmps72
  go_wp2_with fail
  clear h0 h1 h5 h15
  go_loopw [5, 6] (fun a i wr => ∃ t n x y z : Nat, a = .int .i64 (t : Int) ∧ t ≤ 2 ∧ i = .int .i64 (n : Int) ∧ 1 ≤ n ∧ n ≤ s.size ∧ Hid (rd (s.data.toList.drop n) t x y z = R) ∧ Hid (x < 10 ^ n ∧ y < 10 ^ n ∧ z < 10 ^ n) ∧ Hid (Below w.heap.size w wr) ∧ Hid (Row3 wr w.heap.size 0 0 0) ∧ Hid (Row3 wr (w.heap.size + 1) x y z)) (fun _ i _ => (15 - intOf i).toNat)
  case atStart =>
    refine ⟨0, 1, 0, 0, 0, rfl, by omega, rfl, by omega, by have := HF.out; omega, HR, Lib.hid (by decide), Lib.hid ?_, Lib.hid ?_, Lib.hid ?_⟩
    · exact ((Below.refl w.heap.size w).alloc (Nat.le_refl _) _).alloc (by simp) _
    · exact (Row3.new w 0 0 0 23 _ rfl).alloc _
    · exact Row3.new _ 0 0 0 85 _ (by simp)
  case round =>
    obtain ⟨t, n, x, y, z, rfl, ht, rfl, hn1, hn, HS, HX, HB, HZ, HA⟩ := hrel
    by_cases hlt : n < s.size
    · have hi : (n : Int) < (s.size : Int) := by omega
      have wn : IntKind.i64.wrap ((n : Int) + 1) = (n : Int) + 1 := by simp [IntKind.wrap, IntKind.bits, IntKind.signed]; have := HD.out; omega
      by_cases hdot : (s[n]).toNat = 46 ∧ t < 2
      · have HS2 := Lib.hid (rd_dot hlt hdot.1 hdot.2 HS.out)
        have hq1 : ((((s[n]).toNat : Nat) : Int) == 46) = true := by rw [beq_iff_eq]; omega
        have ht2 : (t : Int) < 2 := by omega
        have wt : IntKind.i64.wrap ((t : Int) + 1) = (t : Int) + 1 := by simp [IntKind.wrap, IntKind.bits, IntKind.signed]; omega
        have htn : t + 1 ≤ 2 := by omega
        have HX2 := Lib.hid (And.intro (pow_more HX.out.1) (And.intro (pow_more HX.out.2.1) (pow_more HX.out.2.2)))
        clear hdot HS HX HR
        go_wp2_with fail
        go_roundw
        case rel => exact ⟨t + 1, n + 1, x, y, z, by go_num, htn, by go_num, by omega, by omega, HS2, HX2, HB, HZ, HA⟩
        case measure => simp [intOf]; have := HD.out; omega
      · have hdot2 : ¬ ((s[n]).toNat = 46 ∧ t < 2) := hdot
        by_cases hbad : (s[n]).toNat < 48 ∨ 57 < (s[n]).toNat
        · have hRn := rd_bad hlt hdot hbad HS.out
          have HRn := Lib.hid hRn
          clear hRn HS HX HR
          obtain ⟨z1, d0, d1, d2, g0, g1, g2⟩ := HZ.out
          by_cases h46 : (s[n]).toNat = 46
          · have hq1 : ((((s[n]).toNat : Nat) : Int) == 46) = true := by rw [beq_iff_eq]; omega
            have ht2 : ¬ (t : Int) < 2 := fun h => hdot ⟨h46, by omega⟩
            have hq2 : (((s[n]).toNat : Nat) : Int) < 48 := by omega
            clear hdot hdot2 hbad h46
            go_wp2_with fail
            have hr2 : rres s R = .tuple #[vv 0 0 0, .int .i64 8] := by rw [HRn.out]; rfl
            rw [hr2]
            refine bodyPost_ret (v := .tuple #[vv 0 0 0, .int .i64 8]) (by simp [results, Tryz.results72, go_sem, d0, d1, d2, z1]) rfl ⟨rfl, ?_⟩
            exact (((HB.out.setCell (by simp) _).setCell (by simp) _).setCell (by simp) _)
          · have hq1 : ((((s[n]).toNat : Nat) : Int) == 46) = false := by rw [beq_eq_false_iff_ne]; omega
            by_cases hl : (s[n]).toNat < 48
            · have hq2 : (((s[n]).toNat : Nat) : Int) < 48 := by omega
              clear hdot hdot2 hbad h46 hl
              go_wp2_with fail
              have hr2 : rres s R = .tuple #[vv 0 0 0, .int .i64 8] := by rw [HRn.out]; rfl
              rw [hr2]
              refine bodyPost_ret (v := .tuple #[vv 0 0 0, .int .i64 8]) (by simp [results, Tryz.results72, go_sem, d0, d1, d2, z1]) rfl ⟨rfl, ?_⟩
              exact (((HB.out.setCell (by simp) _).setCell (by simp) _).setCell (by simp) _)
            · have hq2 : ¬ (((s[n]).toNat : Nat) : Int) < 48 := by omega
              have hq3 : (57 : Int) < (((s[n]).toNat : Nat) : Int) := by omega
              clear hdot hdot2 hbad h46 hl
              go_wp2_with fail
              have hr2 : rres s R = .tuple #[vv 0 0 0, .int .i64 8] := by rw [HRn.out]; rfl
              rw [hr2]
              refine bodyPost_ret (v := .tuple #[vv 0 0 0, .int .i64 8]) (by simp [results, Tryz.results72, go_sem, d0, d1, d2, z1]) rfl ⟨rfl, ?_⟩
              exact (((HB.out.setCell (by simp) _).setCell (by simp) _).setCell (by simp) _)
        · obtain ⟨d, hd⟩ : ∃ d, (s[n]).toNat = 48 + d := ⟨(s[n]).toNat - 48, by omega⟩
          have hd9 : d < 10 := by omega
          have hq1 : ((((s[n]).toNat : Nat) : Int) == 46) = false := by rw [beq_eq_false_iff_ne]; omega
          have hq2 : ¬ (((s[n]).toNat : Nat) : Int) < 48 := by omega
          have hq3 : ¬ (57 : Int) < (((s[n]).toNat : Nat) : Int) := by omega
          have hq4 : IntKind.u8.wrap ((((s[n]).toNat : Nat) : Int) - 48) = (d : Int) := by rw [hd]; simp [IntKind.wrap, IntKind.bits, IntKind.signed]; omega
          have hq5 : IntKind.i64.wrap (d : Int) = (d : Int) := by simp [IntKind.wrap, IntKind.bits, IntKind.signed]; omega
          have HS2 := Lib.hid (rd_dig hlt hdot hbad HS.out)
          rw [hd, show 48 + d - 48 = d by omega] at HS2
          clear hd hdot hdot2 hbad HS HR
          rcases (show t = 0 ∨ t = 1 ∨ t = 2 by omega) with rfl | rfl | rfl
          · have hb15 := pow_le15 HX.out.1 (by have := HD.out; omega)
            have HS3 : Hid (rd (s.data.toList.drop (n + 1)) 0 (x * 10 + d) y z = R) := Lib.hid (by have := HS2.out; simpa using this)
            have HX2 := Lib.hid (And.intro (pow_next HX.out.1 hd9) (And.intro (pow_more HX.out.2.1) (pow_more HX.out.2.2)))
            have wm : IntKind.i64.wrap ((x : Int) * 10) = (x : Int) * 10 := by simp [IntKind.wrap, IntKind.bits, IntKind.signed]; omega
            have wa : IntKind.i64.wrap ((x : Int) * 10 + (d : Int)) = (x : Int) * 10 + (d : Int) := by simp [IntKind.wrap, IntKind.bits, IntKind.signed]; omega
            clear HS2 HX hb15
            obtain ⟨c1, a0, a1, a2, f0, f1, f2⟩ := HA.out
            go_wp2_with fail
            go_still_tail 12, (by kernel_rfl)
            change wpList _ _ _ _ _ wr.drew
            have HA2 := Lib.hid ((HA.out.keep ((Below.refl _ _).drew)).set0 ((x * 10 + d : Nat) : Int))
            have HZ2 := Lib.hid ((HZ.out.keep ((Below.refl _ _).drew)).set_other (i := 0) (.int .i64 ((x * 10 + d : Nat) : Int)) (show w.heap.size + 1 ≠ w.heap.size by omega))
            have HB2 := Lib.hid (((HB.out.trans ((Below.refl _ _).drew))).setCell (p := ⟨w.heap.size + 1, 0, none⟩) (by simp) (.int .i64 ((x * 10 + d : Nat) : Int)))
            go_wp2_with fail
            go_roundw
            case rel => exact ⟨0, n + 1, x * 10 + d, y, z, by go_num, by omega, by go_num, by omega, by omega, HS3, HX2, HB2, HZ2, HA2⟩
            case measure => simp [intOf]; have := HD.out; omega
          · have hb15 := pow_le15 HX.out.2.1 (by have := HD.out; omega)
            have HS3 : Hid (rd (s.data.toList.drop (n + 1)) 1 x (y * 10 + d) z = R) := Lib.hid (by have := HS2.out; simpa using this)
            have HX2 := Lib.hid (And.intro (pow_more HX.out.1) (And.intro (pow_next HX.out.2.1 hd9) (pow_more HX.out.2.2)))
            have wm : IntKind.i64.wrap ((y : Int) * 10) = (y : Int) * 10 := by simp [IntKind.wrap, IntKind.bits, IntKind.signed]; omega
            have wa : IntKind.i64.wrap ((y : Int) * 10 + (d : Int)) = (y : Int) * 10 + (d : Int) := by simp [IntKind.wrap, IntKind.bits, IntKind.signed]; omega
            clear HS2 HX hb15
            obtain ⟨c1, a0, a1, a2, f0, f1, f2⟩ := HA.out
            go_wp2_with fail
            go_still_tail 12, (by kernel_rfl)
            change wpList _ _ _ _ _ wr.drew
            have HA2 := Lib.hid ((HA.out.keep ((Below.refl _ _).drew)).set1 ((y * 10 + d : Nat) : Int))
            have HZ2 := Lib.hid ((HZ.out.keep ((Below.refl _ _).drew)).set_other (i := 1) (.int .i64 ((y * 10 + d : Nat) : Int)) (show w.heap.size + 1 ≠ w.heap.size by omega))
            have HB2 := Lib.hid (((HB.out.trans ((Below.refl _ _).drew))).setCell (p := ⟨w.heap.size + 1, 1, none⟩) (by simp) (.int .i64 ((y * 10 + d : Nat) : Int)))
            go_wp2_with fail
            go_roundw
            case rel => exact ⟨1, n + 1, x, y * 10 + d, z, by go_num, by omega, by go_num, by omega, by omega, HS3, HX2, HB2, HZ2, HA2⟩
            case measure => simp [intOf]; have := HD.out; omega
          · have hb15 := pow_le15 HX.out.2.2 (by have := HD.out; omega)
            have HS3 : Hid (rd (s.data.toList.drop (n + 1)) 2 x y (z * 10 + d) = R) := Lib.hid (by have := HS2.out; simpa using this)
            have HX2 := Lib.hid (And.intro (pow_more HX.out.1) (And.intro (pow_more HX.out.2.1) (pow_next HX.out.2.2 hd9)))
            have wm : IntKind.i64.wrap ((z : Int) * 10) = (z : Int) * 10 := by simp [IntKind.wrap, IntKind.bits, IntKind.signed]; omega
            have wa : IntKind.i64.wrap ((z : Int) * 10 + (d : Int)) = (z : Int) * 10 + (d : Int) := by simp [IntKind.wrap, IntKind.bits, IntKind.signed]; omega
            clear HS2 HX hb15
            obtain ⟨c1, a0, a1, a2, f0, f1, f2⟩ := HA.out
            go_wp2_with fail
            go_still_tail 12, (by kernel_rfl)
            change wpList _ _ _ _ _ wr.drew
            have HA2 := Lib.hid ((HA.out.keep ((Below.refl _ _).drew)).set2 ((z * 10 + d : Nat) : Int))
            have HZ2 := Lib.hid ((HZ.out.keep ((Below.refl _ _).drew)).set_other (i := 2) (.int .i64 ((z * 10 + d : Nat) : Int)) (show w.heap.size + 1 ≠ w.heap.size by omega))
            have HB2 := Lib.hid (((HB.out.trans ((Below.refl _ _).drew))).setCell (p := ⟨w.heap.size + 1, 2, none⟩) (by simp) (.int .i64 ((z * 10 + d : Nat) : Int)))
            go_wp2_with fail
            go_roundw
            case rel => exact ⟨2, n + 1, x, y, z * 10 + d, by go_num, by omega, by go_num, by omega, by omega, HS3, HX2, HB2, HZ2, HA2⟩
            case measure => simp [intOf]; have := HD.out; omega
    · have hn2 : ¬ (n : Int) < (s.size : Int) := by omega
      have HE := Lib.hid (rd_end (by omega) HS.out)
      clear HS HR HX
      obtain ⟨c1, a0, a1, a2, f0, f1, f2⟩ := HA.out
      have HZ2 := Lib.hid (HZ.out.alloc (.cells #[.int .i64 (x : Int), .int .i64 (y : Int), .int .i64 (z : Int)] 23))
      obtain ⟨X, hX⟩ : ∃ X, txt x y z = X := ⟨_, rfl⟩
      have CX := Lib.hid (fun w => rtext_at x y z X hX w)
      have hres : rres s R = if X.toList == s.toList then .tuple #[vv x y z, .int .i64 0] else .tuple #[vv 0 0 0, .int .i64 8] := by rw [HE.out]; unfold rres; simp only [hX]
      have HRES := Lib.hid hres
      clear hX hres HE
      go_wp2_with fail
      refine (CX.out _).mono ?_
      rintro e w2 ⟨rfl, hb2⟩
      have B2 := Lib.hid ((HB.out.alloc HB.out.size (.cells #[.int .i64 (x : Int), .int .i64 (y : Int), .int .i64 (z : Int)] 23)).trans (hb2.mono (by have := HB.out.size; simp; omega)))
      have N2 := Lib.hid ((Row3.new _ (x : Int) (y : Int) (z : Int) 23 _ rfl).keep hb2)
      have Z2 := Lib.hid (HZ2.out.keep hb2)
      clear hb2 HZ2 HB HZ HA c1 a0 a1 a2 f0 f1 f2
      obtain ⟨z1, d0, d1, d2, g0, g1, g2⟩ := Z2.out
      obtain ⟨c1, a0, a1, a2, f0, f1, f2⟩ := N2.out
      cases he : (X.toList == s.toList) with
      | true =>
        have hr2 : rres s R = .tuple #[vv x y z, .int .i64 0] := by rw [HRES.out, he]; rfl
        go_wp2_with fail
        rw [hr2]
        clear HRES hr2
        refine bodyPost_ret (v := .tuple #[vv x y z, .int .i64 0]) (by simp [results, Tryz.results72, go_sem, d0, d1, d2, z1]) rfl ⟨rfl, ?_⟩
        exact (((B2.out.setCell (by simp) _).setCell (by simp) _).setCell (by simp) _)
      | false =>
        have hr2 : rres s R = .tuple #[vv 0 0 0, .int .i64 8] := by rw [HRES.out, he]; rfl
        go_wp2_with fail
        rw [hr2]
        clear HRES hr2
        refine bodyPost_ret (v := .tuple #[vv 0 0 0, .int .i64 8]) (by simp [results, Tryz.results72, go_sem, d0, d1, d2, z1]) rfl ⟨rfl, ?_⟩
        exact (((B2.out.setCell (by simp) _).setCell (by simp) _).setCell (by simp) _)
end Go.Proofs.YtmmghdicjpfdoaaGreatDoor
