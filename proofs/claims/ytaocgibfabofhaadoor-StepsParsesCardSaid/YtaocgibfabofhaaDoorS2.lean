/-
  The specification's comparison of two steps returns what the program's does. No condition.
-/
import Derived.Test.YtaocgibfabofhaaDoorS1
import Derived.Sort.Walk0
namespace Go.Proofs.YtaocgibfabofhaaDoor
open Go.RowKit
set_option linter.unusedSimpArgs false
set_option linter.unusedVariables false
theorem toList_ne {a b : ByteArray} (h : a ≠ b) : ¬ a.toList = b.toList := by
  rw [Go.ByteArray.toList_eq, Go.ByteArray.toList_eq]
  intro e
  exact h (ByteArray.ext (Array.ext' e))
theorem toList_beq {a b : ByteArray} (h : a ≠ b) : (a.toList == b.toList) = false := by
  simpa using toList_ne h
theorem cb_self : ∀ l : List UInt8, Lib.compareBytes l l = 0
  | [] => rfl
  | a :: l => by unfold Lib.compareBytes; rw [if_neg (by simp), if_neg (by simp)]; exact cb_self l
theorem cb_lt : ∀ (l m : List UInt8), l < m → Lib.compareBytes l m = -1
  | [], [], h => by simp at h
  | [], _ :: _, _ => rfl
  | _ :: _, [], h => by simp at h
  | a :: l, b :: m, h => by
    rw [List.cons_lt_cons_iff] at h
    unfold Lib.compareBytes
    rcases h with h | ⟨rfl, h⟩
    · rw [if_pos h]
    · rw [if_neg (by simp), if_neg (by simp)]; exact cb_lt l m h
theorem cb_gt : ∀ (l m : List UInt8), ¬ l < m → l ≠ m → Lib.compareBytes l m = 1
  | [], [], _, h => absurd rfl h
  | [], _ :: _, h, _ => by simp at h
  | _ :: _, [], _, _ => rfl
  | a :: l, b :: m, h, hn => by
    rw [List.cons_lt_cons_iff] at h
    unfold Lib.compareBytes
    rcases Nat.lt_trichotomy a.toNat b.toNat with h1 | h1 | h1
    · exact absurd (Or.inl (UInt8.lt_iff_toNat_lt.2 h1)) h
    · have : a = b := UInt8.toNat_inj.1 h1
      subst this
      rw [if_neg (by simp), if_neg (by simp)]
      exact cb_gt l m (fun x => h (Or.inr ⟨rfl, x⟩)) (fun e => hn (by rw [e]))
    · rw [if_neg (fun x => by have := UInt8.lt_iff_toNat_lt.1 x; omega), if_pos (UInt8.lt_iff_toNat_lt.2 h1)]
theorem cmpB_self (a : ByteArray) : cmpB a a = 0 := cb_self _
theorem cmpB_of {a b : ByteArray} (h : a ≠ b) : cmpB a b = if Op.bytesLess a.toList b.toList = true then -1 else 1 := by
  rw [bytesLess_eq, Go.ByteArray.toList_eq, Go.ByteArray.toList_eq]
  unfold cmpB
  by_cases hl : a.data.toList < b.data.toList
  · rw [if_pos (by simpa using hl)]; exact cb_lt _ _ hl
  · rw [if_neg (by simpa using hl)]; exact cb_gt _ _ hl (fun e => h (ByteArray.ext (Array.ext' e)))
theorem orI_ne {x y : Int} (h : x ≠ 0) : orI x y = x := by unfold orI; rw [if_neg h]
theorem orI_0 (y : Int) : orI 0 y = y := by unfold orI; rw [if_pos rfl]
theorem ci_lt {i j : Int} (h : i < j) : Lib.compareInt i j = -1 := by unfold Lib.compareInt; rw [if_pos h]
theorem ci_gt {i j : Int} (h : j < i) : Lib.compareInt i j = 1 := by unfold Lib.compareInt; rw [if_neg (by omega), if_pos h]
theorem ci_eq (i : Int) : Lib.compareInt i i = 0 := by unfold Lib.compareInt; rw [if_neg (by omega), if_neg (by omega)]
theorem size0 {a : ByteArray} (h : a.size = 0) : a = ⟨#[]⟩ := by
  apply ByteArray.ext; apply Array.ext'; apply List.eq_nil_of_length_eq_zero; simpa using h
set_option maxRecDepth 100000 in
set_option maxHeartbeats 4000000 in
theorem one_same (a : ByteArray) (i j : Int) (w : World) :
    Calls Tryd.prog 38 #[sv a i, sv a j] w fun e w' => e = .returned (.int .i64 (cmpS a i a j)) ∧ Below w.heap.size w w' := by
  unfold sv
  by_cases ha : a.size = 0
  · obtain ⟨a1, a2⟩ := empty_facts a ha
    rcases Int.lt_trichotomy i j with hij | hij | hij
    · have f1 : (i != j) = true := bne_iff_ne.2 (by omega)
      have f2 : decide (i < j) = true := decide_eq_true hij
      have HV : Hid (cmpS a i a j = -1) := by show cmpS a i a j = -1; rw [cmpS_3 ⟨fun h => h, fun h => h⟩, cmpB_self, orI_0, ci_lt hij]
      clear hij
      go_enter Tryd.func38, Tryd.ntmps38
      go_wp2_with (go_at_call 39; refine (sign_any _ _).mono ?_; rintro e w' ⟨rfl, rfl⟩)
      go_ret
      exact ⟨ret_int (by rw [HV.out]), (((Below.refl _ _).alloc (Nat.le_refl _) _).alloc (by simp) _)⟩
    · subst hij
      have HV : Hid (cmpS a i a i = 0) := by show cmpS a i a i = 0; rw [cmpS_3 ⟨fun h => h, fun h => h⟩, cmpB_self, orI_0, ci_eq]
      go_enter Tryd.func38, Tryd.ntmps38
      go_wp2_with (go_at_call 39; refine (sign_any _ _).mono ?_; rintro e w' ⟨rfl, rfl⟩)
      go_ret
      exact ⟨ret_int (by rw [HV.out]), (((Below.refl _ _).alloc (Nat.le_refl _) _).alloc (by simp) _)⟩
    · have f1 : (i != j) = true := bne_iff_ne.2 (by omega)
      have f2 : decide (i < j) = false := decide_eq_false (by omega)
      have HV : Hid (cmpS a i a j = 1) := by show cmpS a i a j = 1; rw [cmpS_3 ⟨fun h => h, fun h => h⟩, cmpB_self, orI_0, ci_gt hij]
      clear hij
      go_enter Tryd.func38, Tryd.ntmps38
      go_wp2_with (go_at_call 39; refine (sign_any _ _).mono ?_; rintro e w' ⟨rfl, rfl⟩)
      go_ret
      exact ⟨ret_int (by rw [HV.out]), (((Below.refl _ _).alloc (Nat.le_refl _) _).alloc (by simp) _)⟩
  · obtain ⟨a1, a2⟩ := str_ne a ha
    rcases Int.lt_trichotomy i j with hij | hij | hij
    · have f1 : (i != j) = true := bne_iff_ne.2 (by omega)
      have f2 : decide (i < j) = true := decide_eq_true hij
      have HV : Hid (cmpS a i a j = -1) := by show cmpS a i a j = -1; rw [cmpS_3 ⟨fun h => h, fun h => h⟩, cmpB_self, orI_0, ci_lt hij]
      clear hij
      go_enter Tryd.func38, Tryd.ntmps38
      go_wp2_with (go_at_call 39; refine (sign_any _ _).mono ?_; rintro e w' ⟨rfl, rfl⟩)
      go_ret
      exact ⟨ret_int (by rw [HV.out]), (((Below.refl _ _).alloc (Nat.le_refl _) _).alloc (by simp) _)⟩
    · subst hij
      have HV : Hid (cmpS a i a i = 0) := by show cmpS a i a i = 0; rw [cmpS_3 ⟨fun h => h, fun h => h⟩, cmpB_self, orI_0, ci_eq]
      go_enter Tryd.func38, Tryd.ntmps38
      go_wp2_with (go_at_call 39; refine (sign_any _ _).mono ?_; rintro e w' ⟨rfl, rfl⟩)
      go_ret
      exact ⟨ret_int (by rw [HV.out]), (((Below.refl _ _).alloc (Nat.le_refl _) _).alloc (by simp) _)⟩
    · have f1 : (i != j) = true := bne_iff_ne.2 (by omega)
      have f2 : decide (i < j) = false := decide_eq_false (by omega)
      have HV : Hid (cmpS a i a j = 1) := by show cmpS a i a j = 1; rw [cmpS_3 ⟨fun h => h, fun h => h⟩, cmpB_self, orI_0, ci_gt hij]
      clear hij
      go_enter Tryd.func38, Tryd.ntmps38
      go_wp2_with (go_at_call 39; refine (sign_any _ _).mono ?_; rintro e w' ⟨rfl, rfl⟩)
      go_ret
      exact ⟨ret_int (by rw [HV.out]), (((Below.refl _ _).alloc (Nat.le_refl _) _).alloc (by simp) _)⟩
set_option maxRecDepth 100000 in
set_option maxHeartbeats 4000000 in
theorem one_any (a : ByteArray) (i : Int) (b : ByteArray) (j : Int) (w : World) :
    Calls Tryd.prog 38 #[sv a i, sv b j] w fun e w' => e = .returned (.int .i64 (cmpS a i b j)) ∧ Below w.heap.size w w' := by
  by_cases hab : a = b
  · subst hab; exact one_same a i j w
  unfold sv
  by_cases ha : a.size = 0
  · obtain ⟨a1, a2⟩ := empty_facts a ha
    by_cases hb : b.size = 0
    · exact absurd ((size0 ha).trans (size0 hb).symm) hab
    · obtain ⟨b1, b2⟩ := str_ne b hb
      have HV := Lib.hid (cmpS_2 (i := i) (j := j) ha hb)
      clear ha hb hab
      go_enter Tryd.func38, Tryd.ntmps38
      go_wp2_with (go_at_call 39; refine (sign_any _ _).mono ?_; rintro e w' ⟨rfl, rfl⟩)
      go_ret
      exact ⟨ret_int (by rw [HV.out]), (((Below.refl _ _).alloc (Nat.le_refl _) _).alloc (by simp) _)⟩
  · obtain ⟨a1, a2⟩ := str_ne a ha
    by_cases hb : b.size = 0
    · obtain ⟨b1, b2⟩ := empty_facts b hb
      have HV := Lib.hid (cmpS_1 (i := i) (j := j) ha hb)
      clear ha hb hab
      go_enter Tryd.func38, Tryd.ntmps38
      go_wp2_with (go_at_call 39; refine (sign_any _ _).mono ?_; rintro e w' ⟨rfl, rfl⟩)
      go_ret
      exact ⟨ret_int (by rw [HV.out]), (((Below.refl _ _).alloc (Nat.le_refl _) _).alloc (by simp) _)⟩
    · obtain ⟨b1, b2⟩ := str_ne b hb
      have n1 := toList_beq hab
      have n2 := toList_ne hab
      cases hl : Op.bytesLess a.toList b.toList with
      | true =>
        have HV : Hid (cmpS a i b j = -1) := by show cmpS a i b j = -1; rw [cmpS_3 ⟨fun h => absurd h ha, fun h => absurd h hb⟩, cmpB_of hab, if_pos hl, orI_ne (by omega)]
        clear ha hb hab
        go_enter Tryd.func38, Tryd.ntmps38
        go_wp2_with (go_at_call 39; refine (sign_any _ _).mono ?_; rintro e w' ⟨rfl, rfl⟩)
        go_ret
        exact ⟨ret_int (by rw [HV.out]), (((Below.refl _ _).alloc (Nat.le_refl _) _).alloc (by simp) _)⟩
      | false =>
        have HV : Hid (cmpS a i b j = 1) := by show cmpS a i b j = 1; rw [cmpS_3 ⟨fun h => absurd h ha, fun h => absurd h hb⟩, cmpB_of hab, if_neg (by rw [hl]; simp), orI_ne (by omega)]
        clear ha hb hab
        go_enter Tryd.func38, Tryd.ntmps38
        go_wp2_with (go_at_call 39; refine (sign_any _ _).mono ?_; rintro e w' ⟨rfl, rfl⟩)
        go_ret
        exact ⟨ret_int (by rw [HV.out]), (((Below.refl _ _).alloc (Nat.le_refl _) _).alloc (by simp) _)⟩
end Go.Proofs.YtaocgibfabofhaaDoor
