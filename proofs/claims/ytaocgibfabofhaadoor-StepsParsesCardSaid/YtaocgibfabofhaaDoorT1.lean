/-
  Valid of the program and of the specification, and the specification's Small. No condition but that the slice reads as a list.
-/
import Derived.Test.YtaocgibfabofhaaDoorS4
namespace Go.Proofs.YtaocgibfabofhaaDoor
open Go.RowKit
set_option linter.unusedSimpArgs false
set_option linter.unusedVariables false
/-- whether a step is valid -/
def vldX (x : St) : Bool := if x.1.size = 0 then decide (0 ≤ x.2 ∧ x.2 ≤ 1000000) else decide (x.2 = 0)
theorem vld_1 {x : St} (h : x.1.size ≠ 0) (h' : x.2 = 0) : vldX x = true := by unfold vldX; rw [if_neg h]; exact decide_eq_true h'
theorem vld_2 {x : St} (h : x.1.size ≠ 0) (h' : x.2 ≠ 0) : vldX x = false := by unfold vldX; rw [if_neg h]; exact decide_eq_false h'
theorem vld_3 {x : St} (h : x.1.size = 0) (h' : 0 ≤ x.2 ∧ x.2 ≤ 1000000) : vldX x = true := by unfold vldX; rw [if_pos h]; exact decide_eq_true h'
theorem vld_4 {x : St} (h : x.1.size = 0) (h' : ¬ (0 ≤ x.2 ∧ x.2 ≤ 1000000)) : vldX x = false := by unfold vldX; rw [if_pos h]; exact decide_eq_false h'
def allV (l : List St) : Bool := l.all vldX
theorem allV_at {xs : List St} {k : Nat} (h : k < xs.length) : allV (xs.drop k) = (vldX xs[k] && allV (xs.drop (k + 1))) := by
  rw [List.drop_eq_getElem_cons h]; rfl
theorem allV_end {xs : List St} {k : Nat} (h : xs.length ≤ k) : allV (xs.drop k) = true := by rw [List.drop_eq_nil_of_le h]; rfl
set_option maxRecDepth 100000 in
set_option maxHeartbeats 4000000 in
theorem valid_any (A : Option Addr) (c : Nat) (xs : List St) (hx : xs.length ≤ 1000000) (w : World) (h : Rd w w.heap.size A xs) :
    Calls Tryd.prog 13 #[.slice A xs.length c] w fun e w' => e = .returned (.bool (allV xs)) ∧ Below w.heap.size w w' := by
  have HR : Hid (allV (xs.drop 0) = allV xs) := by show allV (xs.drop 0) = allV xs; simp
  generalize allV xs = R at *
  have H := Lib.hid h
  clear h
  go_enter Tryd.func13, Tryd.ntmps13
  go_wp2_with fail
  go_loopw [9] (fun i wr => ∃ k : Nat, i = .int .i64 (k : Int) ∧ k ≤ xs.length ∧ Hid (allV (xs.drop k) = R) ∧ Hid (Below w.heap.size w wr)) (fun i _ => xs.length - (intOf i).toNat)
  case atStart => exact ⟨0, rfl, by omega, HR, Lib.hid (Below.refl _ _)⟩
  case round =>
    obtain ⟨k, rfl, hk, HS, HB⟩ := hrel
    by_cases hlt : k < xs.length
    · obtain ⟨ad, rfl, hl, c0, c1⟩ := (H.out.below HB.out).at_ k hlt
      rw [allV_at hlt] at HS
      have hv1 := @vld_1 xs[k]
      have hv2 := @vld_2 xs[k]
      have hv3 := @vld_3 xs[k]
      have hv4 := @vld_4 xs[k]
      have H1 := Lib.hid hv1
      have H2 := Lib.hid hv2
      have H3 := Lib.hid hv3
      have H4 := Lib.hid hv4
      clear hv1 hv2 hv3 hv4
      generalize vldX xs[k] = V at *
      generalize xs[k] = x at *
      obtain ⟨a, i⟩ := x
      have HB1 := Lib.hid (HB.out.alloc HB.out.size (.cells #[.string a, .int .i64 i] 37))
      have E1 := Lib.hid (eqSt a i a 0)
      have E2 := Lib.hid (eqSt a i ⟨#[]⟩ i)
      clear HB
      by_cases ha : a.size = 0
      · obtain ⟨a1, a2⟩ := empty_facts a ha
        have hae := size0 ha
        subst hae
        by_cases hi0 : i < 0
        · have q1 : decide ((0 : Int) ≤ i) = false := decide_eq_false (by omega)
          have q0 : (i == 0) = false := beq_eq_false_iff_ne.2 (by omega)
          have HVV := H4.out ha (by show ¬ (0 ≤ i ∧ i ≤ 1000000); omega)
          have F1 : ∀ w, (Op.equalIn 10000 37 (.agg #[.string ⟨#[]⟩, .int .i64 i]) (.agg #[.string ⟨#[]⟩, .int .i64 0])).run Tryd.prog w = .ok false w := fun w => by rw [E1.out]; simp only [q0, Bool.and_false]
          have F2 : ∀ w, (Op.equalIn 10000 37 (.agg #[.string ⟨#[]⟩, .int .i64 i]) (.agg #[.string ⟨#[]⟩, .int .i64 i])).run Tryd.prog w = .ok true w := fun w => by rw [E2.out]; simp
          clear hi0 a1 a2 ha q0
          have HS2 : Hid (false = R) := by have := HS.out; rw [HVV, Bool.false_and] at this; exact this
          clear HS HVV E1 E2 H1 H2 H3 H4
          go_wp2_with fail
          go_ret
          exact ⟨ret_bool HS2.out, HB1.out⟩
        have q1 : decide ((0 : Int) ≤ i) = true := decide_eq_true (by omega)
        by_cases hi1 : 1000000 < i
        · have q2 : decide (i ≤ (1000000 : Int)) = false := decide_eq_false (by omega)
          have q0 : (i == 0) = false := beq_eq_false_iff_ne.2 (by omega)
          have HVV := H4.out ha (by show ¬ (0 ≤ i ∧ i ≤ 1000000); omega)
          have F1 : ∀ w, (Op.equalIn 10000 37 (.agg #[.string ⟨#[]⟩, .int .i64 i]) (.agg #[.string ⟨#[]⟩, .int .i64 0])).run Tryd.prog w = .ok false w := fun w => by rw [E1.out]; simp only [q0, Bool.and_false]
          have F2 : ∀ w, (Op.equalIn 10000 37 (.agg #[.string ⟨#[]⟩, .int .i64 i]) (.agg #[.string ⟨#[]⟩, .int .i64 i])).run Tryd.prog w = .ok true w := fun w => by rw [E2.out]; simp
          clear hi0 hi1 a1 a2 ha q0
          have HS2 : Hid (false = R) := by have := HS.out; rw [HVV, Bool.false_and] at this; exact this
          clear HS HVV E1 E2 H1 H2 H3 H4
          go_wp2_with fail
          go_ret
          exact ⟨ret_bool HS2.out, HB1.out⟩
        have q2 : decide (i ≤ (1000000 : Int)) = true := decide_eq_true (by omega)
        by_cases hz : i = 0
        · subst hz
          have HVV := H3.out ha (by show (0 : Int) ≤ 0 ∧ (0 : Int) ≤ 1000000; omega)
          have F1 : ∀ w, (Op.equalIn 10000 37 (.agg #[.string ⟨#[]⟩, .int .i64 0]) (.agg #[.string ⟨#[]⟩, .int .i64 0])).run Tryd.prog w = .ok true w := fun w => by rw [E1.out]; simp
          clear hi0 hi1 a1 a2 ha
          have HS2 : Hid (allV (xs.drop (k + 1)) = R) := by have := HS.out; rw [HVV, Bool.true_and] at this; exact this
          clear HS HVV E1 E2 H1 H2 H3 H4
          go_wp2_with fail
          go_roundw
          case rel => exact ⟨k + 1, by go_num, by omega, HS2, HB1⟩
          case measure => simp [intOf]; omega
        · have q0 : (i == 0) = false := beq_eq_false_iff_ne.2 hz
          have HVV := H3.out ha (by show 0 ≤ i ∧ i ≤ 1000000; omega)
          have F1 : ∀ w, (Op.equalIn 10000 37 (.agg #[.string ⟨#[]⟩, .int .i64 i]) (.agg #[.string ⟨#[]⟩, .int .i64 0])).run Tryd.prog w = .ok false w := fun w => by rw [E1.out]; simp only [q0, Bool.and_false]
          have F2 : ∀ w, (Op.equalIn 10000 37 (.agg #[.string ⟨#[]⟩, .int .i64 i]) (.agg #[.string ⟨#[]⟩, .int .i64 i])).run Tryd.prog w = .ok true w := fun w => by rw [E2.out]; simp
          clear hi0 hi1 a1 a2 ha hz q0
          have HS2 : Hid (allV (xs.drop (k + 1)) = R) := by have := HS.out; rw [HVV, Bool.true_and] at this; exact this
          clear HS HVV E1 E2 H1 H2 H3 H4
          go_wp2_with fail
          go_roundw
          case rel => exact ⟨k + 1, by go_num, by omega, HS2, HB1⟩
          case measure => simp [intOf]; omega
      · obtain ⟨a1, a2⟩ := str_ne a ha
        have t1 : (a.toList == (⟨#[]⟩ : ByteArray).toList) = false := by simpa using a1
        by_cases hz : i = 0
        · subst hz
          have HVV := H1.out ha rfl
          have F1 : ∀ w, (Op.equalIn 10000 37 (.agg #[.string a, .int .i64 0]) (.agg #[.string a, .int .i64 0])).run Tryd.prog w = .ok true w := fun w => by rw [E1.out]; simp
          have F2 : ∀ w, (Op.equalIn 10000 37 (.agg #[.string a, .int .i64 0]) (.agg #[.string ⟨#[]⟩, .int .i64 0])).run Tryd.prog w = .ok false w := fun w => by rw [E2.out]; simp only [t1, Bool.false_and]
          clear t1 ha
          have HS2 : Hid (allV (xs.drop (k + 1)) = R) := by have := HS.out; rw [HVV, Bool.true_and] at this; exact this
          clear HS HVV E1 E2 H1 H2 H3 H4
          go_wp2_with fail
          go_roundw
          case rel => exact ⟨k + 1, by go_num, by omega, HS2, HB1⟩
          case measure => simp [intOf]; omega
        · have q0 : (i == 0) = false := beq_eq_false_iff_ne.2 hz
          have HVV := H2.out ha hz
          have F1 : ∀ w, (Op.equalIn 10000 37 (.agg #[.string a, .int .i64 i]) (.agg #[.string a, .int .i64 0])).run Tryd.prog w = .ok false w := fun w => by rw [E1.out]; simp only [q0, Bool.and_false]
          have F2 : ∀ w, (Op.equalIn 10000 37 (.agg #[.string a, .int .i64 i]) (.agg #[.string ⟨#[]⟩, .int .i64 i])).run Tryd.prog w = .ok false w := fun w => by rw [E2.out]; simp only [t1, Bool.false_and]
          clear hz q0 t1 ha
          have HS2 : Hid (false = R) := by have := HS.out; rw [HVV, Bool.false_and] at this; exact this
          clear HS HVV E1 E2 H1 H2 H3 H4
          go_wp2_with fail
          go_ret
          exact ⟨ret_bool HS2.out, HB1.out⟩
    · obtain rfl : k = xs.length := by omega
      rw [allV_end (by omega)] at HS
      go_wp2_with fail
      go_ret
      exact ⟨ret_bool HS.out, HB.out⟩
set_option maxHeartbeats 1000000 in
theorem is_any (a : ByteArray) (i : Int) (w : World) : Calls Tryd.prog 24 #[sv a i] w fun e w' => e = .returned (.bool (vldX (a, i))) ∧ Below w.heap.size w w' := by
  unfold sv
  by_cases ha : a.size = 0
  · obtain ⟨a1, a2⟩ := empty_facts a ha
    by_cases hi0 : i < 0
    · have q1 : decide ((0 : Int) ≤ i) = false := decide_eq_false (by omega)
      have HV := Lib.hid (vld_4 (x := (a, i)) ha (by show ¬ (0 ≤ i ∧ i ≤ 1000000); omega))
      clear ha hi0
      go_enter Tryd.func24, Tryd.ntmps24
      go_wp2_with fail
      go_ret
      exact ⟨ret_bool HV.out.symm, (Below.refl _ _).alloc (Nat.le_refl _) _⟩
    have q1 : decide ((0 : Int) ≤ i) = true := decide_eq_true (by omega)
    by_cases hi1 : 1000000 < i
    · have q2 : decide (i ≤ (1000000 : Int)) = false := decide_eq_false (by omega)
      have HV := Lib.hid (vld_4 (x := (a, i)) ha (by show ¬ (0 ≤ i ∧ i ≤ 1000000); omega))
      clear ha hi0 hi1
      go_enter Tryd.func24, Tryd.ntmps24
      go_wp2_with fail
      go_ret
      exact ⟨ret_bool HV.out.symm, (Below.refl _ _).alloc (Nat.le_refl _) _⟩
    · have q2 : decide (i ≤ (1000000 : Int)) = true := decide_eq_true (by omega)
      have HV := Lib.hid (vld_3 (x := (a, i)) ha (by show 0 ≤ i ∧ i ≤ 1000000; omega))
      clear ha hi0 hi1
      go_enter Tryd.func24, Tryd.ntmps24
      go_wp2_with fail
      go_ret
      exact ⟨ret_bool HV.out.symm, (Below.refl _ _).alloc (Nat.le_refl _) _⟩
  · obtain ⟨a1, a2⟩ := str_ne a ha
    by_cases hz : i = 0
    · subst hz
      have HV := Lib.hid (vld_1 (x := (a, 0)) ha rfl)
      clear ha
      go_enter Tryd.func24, Tryd.ntmps24
      go_wp2_with fail
      go_ret
      exact ⟨ret_bool HV.out.symm, (Below.refl _ _).alloc (Nat.le_refl _) _⟩
    · have q0 : (i == 0) = false := beq_eq_false_iff_ne.2 hz
      have HV := Lib.hid (vld_2 (x := (a, i)) ha hz)
      clear ha hz
      go_enter Tryd.func24, Tryd.ntmps24
      go_wp2_with fail
      go_ret
      exact ⟨ret_bool HV.out.symm, (Below.refl _ _).alloc (Nat.le_refl _) _⟩
set_option maxRecDepth 100000 in
set_option maxHeartbeats 4000000 in
theorem rvalid_any (A : Option Addr) (c : Nat) (xs : List St) (hx : xs.length ≤ 1000000) (w : World) (h : Rd w w.heap.size A xs) :
    Calls Tryd.prog 14 #[.slice A xs.length c] w fun e w' => e = .returned (.bool (allV xs)) ∧ Below w.heap.size w w' := by
  have HR : Hid (allV (xs.drop 0) = allV xs) := by show allV (xs.drop 0) = allV xs; simp
  generalize allV xs = R at *
  have H := Lib.hid h
  clear h
  go_enter Tryd.func14, Tryd.ntmps14
  go_wp2_with fail
  go_loopw [3] (fun i wr => ∃ k : Nat, i = .int .i64 (k : Int) ∧ k ≤ xs.length ∧ Hid (allV (xs.drop k) = R) ∧ Hid (Below w.heap.size w wr)) (fun i _ => xs.length - (intOf i).toNat)
  case atStart => exact ⟨0, rfl, by omega, HR, Lib.hid (Below.refl _ _)⟩
  case round =>
    obtain ⟨k, rfl, hk, HS, HB⟩ := hrel
    by_cases hlt : k < xs.length
    · obtain ⟨ad, rfl, hl, c0, c1⟩ := (H.out.below HB.out).at_ k hlt
      rw [allV_at hlt] at HS
      have C := Lib.hid (is_any xs[k].1 xs[k].2)
      cases hV : vldX xs[k] with
      | true =>
        have HS2 : Hid (allV (xs.drop (k + 1)) = R) := by have := HS.out; rw [hV, Bool.true_and] at this; exact this
        have C2 : Hid (∀ w, Calls Tryd.prog 24 #[sv xs[k].1 xs[k].2] w fun e w' => e = .returned (.bool true) ∧ Below w.heap.size w w') := Lib.hid fun w => by have := C.out w; rw [show vldX (xs[k].1, xs[k].2) = true from hV] at this; exact this
        clear HS hV C
        go_wp2_with fail
        refine (C2.out _).mono ?_
        rintro e w1 ⟨rfl, hb1⟩
        have HB1 := Lib.hid (HB.out.trans (hb1.mono HB.out.size))
        clear hb1
        go_wp2_with fail
        go_roundw
        case rel => exact ⟨k + 1, by go_num, by omega, HS2, HB1⟩
        case measure => simp [intOf]; omega
      | false =>
        have HS2 : Hid (false = R) := by have := HS.out; rw [hV, Bool.false_and] at this; exact this
        have C2 : Hid (∀ w, Calls Tryd.prog 24 #[sv xs[k].1 xs[k].2] w fun e w' => e = .returned (.bool false) ∧ Below w.heap.size w w') := Lib.hid fun w => by have := C.out w; rw [show vldX (xs[k].1, xs[k].2) = false from hV] at this; exact this
        clear HS hV C
        go_wp2_with fail
        refine (C2.out _).mono ?_
        rintro e w1 ⟨rfl, hb1⟩
        have HB1 := Lib.hid (HB.out.trans (hb1.mono HB.out.size))
        clear hb1
        go_wp2_with fail
        go_ret
        exact ⟨ret_bool HS2.out, HB1.out⟩
    · obtain rfl : k = xs.length := by omega
      rw [allV_end (by omega)] at HS
      go_wp2_with fail
      go_ret
      exact ⟨ret_bool HS.out, HB.out⟩
/-- whether a list is small -/
def smlB (l : List St) : Bool := l.all (fun x => decide (x.1.size ≤ 60)) && decide (l.length ≤ 20)
def sml1 (l : List St) : Bool := l.all (fun x => decide (x.1.size ≤ 60))
theorem sml_at {xs : List St} {k : Nat} (h : k < xs.length) : sml1 (xs.drop k) = (decide (xs[k].1.size ≤ 60) && sml1 (xs.drop (k + 1))) := by
  rw [List.drop_eq_getElem_cons h]; rfl
theorem sml_end {xs : List St} {k : Nat} (h : xs.length ≤ k) : sml1 (xs.drop k) = true := by rw [List.drop_eq_nil_of_le h]; rfl
set_option maxRecDepth 100000 in
set_option maxHeartbeats 4000000 in
theorem small_any (A : Option Addr) (c : Nat) (xs : List St) (hx : xs.length ≤ 9223372036854775807) (w : World) (h : Rd w w.heap.size A xs) :
    Calls Tryd.prog 11 #[.slice A xs.length c] w fun e w' => e = .returned (.bool (smlB xs)) ∧ w = w' := by
  have HR : Hid ((sml1 (xs.drop 0) && decide (xs.length ≤ 20)) = smlB xs) := by show (sml1 (xs.drop 0) && decide (xs.length ≤ 20)) = smlB xs; rfl
  generalize smlB xs = R at *
  have H := Lib.hid h
  clear h
  go_enter Tryd.func11, Tryd.ntmps11
  go_wp2_with fail
  go_loop [3] (fun i => ∃ k : Nat, i = .int .i64 (k : Int) ∧ k ≤ xs.length ∧ Hid ((sml1 (xs.drop k) && decide (xs.length ≤ 20)) = R)) (fun i => xs.length - (intOf i).toNat)
  case atStart => exact ⟨0, rfl, by omega, HR⟩
  case round =>
    obtain ⟨k, rfl, hk, HS⟩ := hrel
    by_cases hlt : k < xs.length
    · obtain ⟨ad, rfl, hl, c0, c1⟩ := H.out.at_ k hlt
      rw [sml_at hlt] at HS
      by_cases hbig : 60 < xs[k].1.size
      · have HS2 : Hid (false = R) := by have := HS.out; rw [decide_eq_false (by omega), Bool.false_and, Bool.false_and] at this; exact this
        have q1 : decide ((60 : Int) < (xs[k].1.size : Int)) = true := decide_eq_true (by omega)
        clear HS hbig
        go_wp2_with fail
        go_ret
        exact ⟨ret_bool HS2.out, rfl⟩
      · have HS2 : Hid ((sml1 (xs.drop (k + 1)) && decide (xs.length ≤ 20)) = R) := by have := HS.out; rw [decide_eq_true (by omega), Bool.true_and] at this; exact this
        have q1 : decide ((60 : Int) < (xs[k].1.size : Int)) = false := decide_eq_false (by omega)
        clear HS hbig
        go_wp2_with fail
        go_round
        case rel => exact ⟨k + 1, by go_num, by omega, HS2⟩
        case measure => simp [intOf]; omega
    · obtain rfl : k = xs.length := by omega
      rw [sml_end (by omega), Bool.true_and] at HS
      by_cases h20 : xs.length ≤ 20
      · have q1 : decide ((xs.length : Int) ≤ 20) = true := decide_eq_true (by omega)
        have HS2 : Hid (true = R) := by have := HS.out; rw [decide_eq_true h20] at this; exact this
        clear HS h20
        go_wp2_with fail
        go_ret
        exact ⟨ret_bool HS2.out, rfl⟩
      · have q1 : decide ((xs.length : Int) ≤ 20) = false := decide_eq_false (by omega)
        have HS2 : Hid (false = R) := by have := HS.out; rw [decide_eq_false h20] at this; exact this
        clear HS h20
        go_wp2_with fail
        go_ret
        exact ⟨ret_bool HS2.out, rfl⟩
end Go.Proofs.YtaocgibfabofhaaDoor
