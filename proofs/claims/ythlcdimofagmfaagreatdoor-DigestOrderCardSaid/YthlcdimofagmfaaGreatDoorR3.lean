/-
  The specification's part and Path. No condition but sizes.
-/
import Derived.Test.YthlcdimofagmfaaGreatDoorR2
namespace Go.Proofs.YthlcdimofagmfaaGreatDoor
open Go.RowKit Go.Sort
set_option linter.unusedSimpArgs false
set_option linter.unnecessarySimpa false
set_option linter.unusedVariables false
/-- may byte number i of a part be c -/
def okB (i c : Nat) : Bool := letB c || (othB c && decide (0 < i))
def PartI (s : ByteArray) (k : Nat) : Prop := ∀ i, (h : i < s.size) → i < k → okB i (s[i]).toNat = true
theorem partB_ok (s : ByteArray) : partB s.data.toList = true ↔ 0 < s.size ∧ PartI s s.size := by
  by_cases h : 0 < s.size
  · rw [partB_eq s h, Bool.and_eq_true, List.all_eq_true]
    constructor
    · rintro ⟨h1, h2⟩
      refine ⟨h, fun i hi _ => ?_⟩
      have := h2 s[i] (by
        have e : s[i] = s.data.toList[i]'(by simpa using hi) := rfl
        rw [e]; exact List.getElem_mem _)
      unfold okB
      rcases Nat.eq_zero_or_pos i with rfl | hp
      · rw [h1]; rfl
      · rw [decide_eq_true hp, Bool.and_true]; exact this
    · rintro ⟨_, h2⟩
      refine ⟨?_, fun c hc => ?_⟩
      · have := h2 0 h h
        unfold okB at this
        simpa using this
      · obtain ⟨i, hi, rfl⟩ := List.getElem_of_mem hc
        have := h2 i (by simpa using hi) (by simpa using hi)
        have e : s[i]'(by simpa using hi) = s.data.toList[i] := rfl
        rw [e] at this
        unfold okB at this
        unfold insB
        simp only [Bool.or_eq_true, Bool.and_eq_true] at this ⊢
        rcases this with h | h
        · exact .inl h
        · exact .inr h.1
  · have : s.data.toList = [] := List.eq_nil_of_length_eq_zero (by rw [← Lib.size_eq]; omega)
    rw [this]
    constructor
    · intro h; cases h
    · rintro ⟨h', _⟩; omega
theorem okB_cases (i n : Nat) : okB i n = (decide (97 ≤ n) && decide (n ≤ 122) || ((decide (48 ≤ n) && decide (n ≤ 57) || n == 45 || n == 46 || n == 95) && decide (0 < i))) := rfl
def BIs (b : Bool) (w : World) (e : Ending) (w' : World) : Prop := e = .returned (.bool b) ∧ w = w'
theorem PartI.more {s : ByteArray} {k : Nat} (h : PartI s k) (hk : k < s.size) (ho : okB k (s[k]).toNat = true) : PartI s (k + 1) := fun i hi hik => by
  rcases Nat.lt_or_ge i k with h1 | h1
  · exact h i hi h1
  · obtain rfl : i = k := by omega
    exact ho
set_option maxRecDepth 100000 in
set_option maxHeartbeats 4000000 in
theorem part_any (s : ByteArray) (hs : s.size ≤ 2000000) (w : World) : Calls Tryz.prog 129 #[.string s] w (BIs (partB s.data.toList) w) := by
  have HY : Hid (0 < s.size → PartI s s.size → BIs (partB s.data.toList) w (.returned (.bool true)) w) := Lib.hid (fun h1 h2 => ⟨by rw [(partB_ok s).2 ⟨h1, h2⟩], rfl⟩)
  have HZ : Hid (¬ 0 < s.size → BIs (partB s.data.toList) w (.returned (.bool false)) w) := Lib.hid (fun h => ⟨by
    cases hp : partB s.data.toList with
    | true => exact absurd ((partB_ok s).1 hp).1 h
    | false => rfl, rfl⟩)
  have HN : Hid (∀ k (h : k < s.size), okB k (s[k]).toNat = false → BIs (partB s.data.toList) w (.returned (.bool false)) w) := Lib.hid (fun k h ho => ⟨by
    cases hp : partB s.data.toList with
    | true => have := ((partB_ok s).1 hp).2 k h h; rw [this] at ho; cases ho
    | false => rfl, rfl⟩)
  go_enter Tryz.func129, Tryz.ntmps129
  go_wp2_with fail
  go_loopw [3, 4, 5, 6] (fun s3 _ _ _ wr => ∃ k : Nat, s3 = .int .i64 (k : Int) ∧ k ≤ s.size ∧ Hid (PartI s k) ∧ wr = w) (fun s3 _ _ _ _ => (s.size - intOf s3).toNat)
  case atStart => exact ⟨0, rfl, Nat.zero_le _, Lib.hid (fun i _ h => absurd h (Nat.not_lt_zero _)), rfl⟩
  case round =>
    obtain ⟨k, rfl, hk, HI, rfl⟩ := hrel
    by_cases hlt : k < s.size
    · have hkl : (k : Int) < (s.size : Int) := by omega
      have HM := Lib.hid (HI.out.more hlt)
      have HF := Lib.hid (HN.out k hlt)
      clear HI HN HY HZ
      have h255 : (s[k]).toNat < 256 := (s[k]).toNat_lt
      have hcl : (0 ≤ (s[k]).toNat ∧ (s[k]).toNat ≤ 44) ∨ (45 ≤ (s[k]).toNat ∧ (s[k]).toNat ≤ 45) ∨ (46 ≤ (s[k]).toNat ∧ (s[k]).toNat ≤ 46) ∨ (47 ≤ (s[k]).toNat ∧ (s[k]).toNat ≤ 47) ∨ (48 ≤ (s[k]).toNat ∧ (s[k]).toNat ≤ 57) ∨ (58 ≤ (s[k]).toNat ∧ (s[k]).toNat ≤ 94) ∨ (95 ≤ (s[k]).toNat ∧ (s[k]).toNat ≤ 95) ∨ (96 ≤ (s[k]).toNat ∧ (s[k]).toNat ≤ 96) ∨ (97 ≤ (s[k]).toNat ∧ (s[k]).toNat ≤ 122) ∨ (123 ≤ (s[k]).toNat ∧ (s[k]).toNat ≤ 255) := by omega
      rcases hcl with ⟨hlo, hhi⟩ | ⟨hlo, hhi⟩ | ⟨hlo, hhi⟩ | ⟨hlo, hhi⟩ | ⟨hlo, hhi⟩ | ⟨hlo, hhi⟩ | ⟨hlo, hhi⟩ | ⟨hlo, hhi⟩ | ⟨hlo, hhi⟩ | ⟨hlo, hhi⟩
      · have n0 : decide (97 ≤ (s[k]).toNat) = false := decide_eq_false (by omega)
        have d0 : decide ((97 : Int) ≤ ((s[k]).toNat : Int)) = false := decide_eq_false (by omega)
        have n1 : decide ((s[k]).toNat ≤ 122) = true := decide_eq_true (by omega)
        have d1 : decide (((s[k]).toNat : Int) ≤ 122) = true := decide_eq_true (by omega)
        have n2 : decide (48 ≤ (s[k]).toNat) = false := decide_eq_false (by omega)
        have d2 : decide ((48 : Int) ≤ ((s[k]).toNat : Int)) = false := decide_eq_false (by omega)
        have n3 : decide ((s[k]).toNat ≤ 57) = true := decide_eq_true (by omega)
        have d3 : decide (((s[k]).toNat : Int) ≤ 57) = true := decide_eq_true (by omega)
        have m0 : ((s[k]).toNat == 45) = false := by rw [beq_eq_false_iff_ne]; omega
        have q0 : (((s[k]).toNat : Int) == 45) = false := by rw [beq_eq_false_iff_ne]; omega
        have m1 : ((s[k]).toNat == 46) = false := by rw [beq_eq_false_iff_ne]; omega
        have q1 : (((s[k]).toNat : Int) == 46) = false := by rw [beq_eq_false_iff_ne]; omega
        have m2 : ((s[k]).toNat == 95) = false := by rw [beq_eq_false_iff_ne]; omega
        have q2 : (((s[k]).toNat : Int) == 95) = false := by rw [beq_eq_false_iff_ne]; omega
        have HV := Lib.hid (show okB k (s[k]).toNat = false by rw [okB_cases, n0, n1, n2, n3, m0, m1, m2]; cases decide (0 < k) <;> rfl)
        clear hlo hhi n0 n1 n2 n3 m0 m1 m2
        go_wp2_with fail
        go_ret
        exact HF.out HV.out
      · by_cases hk0 : k = 0
        · have n0 : decide (97 ≤ (s[k]).toNat) = false := decide_eq_false (by omega)
          have d0 : decide ((97 : Int) ≤ ((s[k]).toNat : Int)) = false := decide_eq_false (by omega)
          have n1 : decide ((s[k]).toNat ≤ 122) = true := decide_eq_true (by omega)
          have d1 : decide (((s[k]).toNat : Int) ≤ 122) = true := decide_eq_true (by omega)
          have n2 : decide (48 ≤ (s[k]).toNat) = false := decide_eq_false (by omega)
          have d2 : decide ((48 : Int) ≤ ((s[k]).toNat : Int)) = false := decide_eq_false (by omega)
          have n3 : decide ((s[k]).toNat ≤ 57) = true := decide_eq_true (by omega)
          have d3 : decide (((s[k]).toNat : Int) ≤ 57) = true := decide_eq_true (by omega)
          have m0 : ((s[k]).toNat == 45) = true := by rw [beq_iff_eq]; omega
          have q0 : (((s[k]).toNat : Int) == 45) = true := by rw [beq_iff_eq]; omega
          have m1 : ((s[k]).toNat == 46) = false := by rw [beq_eq_false_iff_ne]; omega
          have q1 : (((s[k]).toNat : Int) == 46) = false := by rw [beq_eq_false_iff_ne]; omega
          have m2 : ((s[k]).toNat == 95) = false := by rw [beq_eq_false_iff_ne]; omega
          have q2 : (((s[k]).toNat : Int) == 95) = false := by rw [beq_eq_false_iff_ne]; omega
          have z0 : decide (0 < k) = false := decide_eq_false (by omega)
          have z1 : ((k : Int) == 0) = true := by rw [beq_iff_eq]; omega
          have HV := Lib.hid (show okB k (s[k]).toNat = false by rw [okB_cases, n0, n1, n2, n3, m0, m1, m2, z0]; rfl)
          clear z0
          clear hk0 hlo hhi n0 n1 n2 n3 m0 m1 m2
          go_wp2_with fail
          go_ret
          exact HF.out HV.out
        · have n0 : decide (97 ≤ (s[k]).toNat) = false := decide_eq_false (by omega)
          have d0 : decide ((97 : Int) ≤ ((s[k]).toNat : Int)) = false := decide_eq_false (by omega)
          have n1 : decide ((s[k]).toNat ≤ 122) = true := decide_eq_true (by omega)
          have d1 : decide (((s[k]).toNat : Int) ≤ 122) = true := decide_eq_true (by omega)
          have n2 : decide (48 ≤ (s[k]).toNat) = false := decide_eq_false (by omega)
          have d2 : decide ((48 : Int) ≤ ((s[k]).toNat : Int)) = false := decide_eq_false (by omega)
          have n3 : decide ((s[k]).toNat ≤ 57) = true := decide_eq_true (by omega)
          have d3 : decide (((s[k]).toNat : Int) ≤ 57) = true := decide_eq_true (by omega)
          have m0 : ((s[k]).toNat == 45) = true := by rw [beq_iff_eq]; omega
          have q0 : (((s[k]).toNat : Int) == 45) = true := by rw [beq_iff_eq]; omega
          have m1 : ((s[k]).toNat == 46) = false := by rw [beq_eq_false_iff_ne]; omega
          have q1 : (((s[k]).toNat : Int) == 46) = false := by rw [beq_eq_false_iff_ne]; omega
          have m2 : ((s[k]).toNat == 95) = false := by rw [beq_eq_false_iff_ne]; omega
          have q2 : (((s[k]).toNat : Int) == 95) = false := by rw [beq_eq_false_iff_ne]; omega
          have z0 : decide (0 < k) = true := decide_eq_true (by omega)
          have z1 : ((k : Int) == 0) = false := by rw [beq_eq_false_iff_ne]; omega
          have HV := Lib.hid (show okB k (s[k]).toNat = true by rw [okB_cases, n0, n1, n2, n3, m0, m1, m2, z0]; rfl)
          clear z0
          clear hk0 hlo hhi n0 n1 n2 n3 m0 m1 m2
          go_wp2_with fail
          go_roundw
          case rel => exact ⟨k + 1, by go_num, by omega, Lib.hid (HM.out HV.out), by first | rfl | trivial⟩
          case measure => simp [intOf]; omega
      · by_cases hk0 : k = 0
        · have n0 : decide (97 ≤ (s[k]).toNat) = false := decide_eq_false (by omega)
          have d0 : decide ((97 : Int) ≤ ((s[k]).toNat : Int)) = false := decide_eq_false (by omega)
          have n1 : decide ((s[k]).toNat ≤ 122) = true := decide_eq_true (by omega)
          have d1 : decide (((s[k]).toNat : Int) ≤ 122) = true := decide_eq_true (by omega)
          have n2 : decide (48 ≤ (s[k]).toNat) = false := decide_eq_false (by omega)
          have d2 : decide ((48 : Int) ≤ ((s[k]).toNat : Int)) = false := decide_eq_false (by omega)
          have n3 : decide ((s[k]).toNat ≤ 57) = true := decide_eq_true (by omega)
          have d3 : decide (((s[k]).toNat : Int) ≤ 57) = true := decide_eq_true (by omega)
          have m0 : ((s[k]).toNat == 45) = false := by rw [beq_eq_false_iff_ne]; omega
          have q0 : (((s[k]).toNat : Int) == 45) = false := by rw [beq_eq_false_iff_ne]; omega
          have m1 : ((s[k]).toNat == 46) = true := by rw [beq_iff_eq]; omega
          have q1 : (((s[k]).toNat : Int) == 46) = true := by rw [beq_iff_eq]; omega
          have m2 : ((s[k]).toNat == 95) = false := by rw [beq_eq_false_iff_ne]; omega
          have q2 : (((s[k]).toNat : Int) == 95) = false := by rw [beq_eq_false_iff_ne]; omega
          have z0 : decide (0 < k) = false := decide_eq_false (by omega)
          have z1 : ((k : Int) == 0) = true := by rw [beq_iff_eq]; omega
          have HV := Lib.hid (show okB k (s[k]).toNat = false by rw [okB_cases, n0, n1, n2, n3, m0, m1, m2, z0]; rfl)
          clear z0
          clear hk0 hlo hhi n0 n1 n2 n3 m0 m1 m2
          go_wp2_with fail
          go_ret
          exact HF.out HV.out
        · have n0 : decide (97 ≤ (s[k]).toNat) = false := decide_eq_false (by omega)
          have d0 : decide ((97 : Int) ≤ ((s[k]).toNat : Int)) = false := decide_eq_false (by omega)
          have n1 : decide ((s[k]).toNat ≤ 122) = true := decide_eq_true (by omega)
          have d1 : decide (((s[k]).toNat : Int) ≤ 122) = true := decide_eq_true (by omega)
          have n2 : decide (48 ≤ (s[k]).toNat) = false := decide_eq_false (by omega)
          have d2 : decide ((48 : Int) ≤ ((s[k]).toNat : Int)) = false := decide_eq_false (by omega)
          have n3 : decide ((s[k]).toNat ≤ 57) = true := decide_eq_true (by omega)
          have d3 : decide (((s[k]).toNat : Int) ≤ 57) = true := decide_eq_true (by omega)
          have m0 : ((s[k]).toNat == 45) = false := by rw [beq_eq_false_iff_ne]; omega
          have q0 : (((s[k]).toNat : Int) == 45) = false := by rw [beq_eq_false_iff_ne]; omega
          have m1 : ((s[k]).toNat == 46) = true := by rw [beq_iff_eq]; omega
          have q1 : (((s[k]).toNat : Int) == 46) = true := by rw [beq_iff_eq]; omega
          have m2 : ((s[k]).toNat == 95) = false := by rw [beq_eq_false_iff_ne]; omega
          have q2 : (((s[k]).toNat : Int) == 95) = false := by rw [beq_eq_false_iff_ne]; omega
          have z0 : decide (0 < k) = true := decide_eq_true (by omega)
          have z1 : ((k : Int) == 0) = false := by rw [beq_eq_false_iff_ne]; omega
          have HV := Lib.hid (show okB k (s[k]).toNat = true by rw [okB_cases, n0, n1, n2, n3, m0, m1, m2, z0]; rfl)
          clear z0
          clear hk0 hlo hhi n0 n1 n2 n3 m0 m1 m2
          go_wp2_with fail
          go_roundw
          case rel => exact ⟨k + 1, by go_num, by omega, Lib.hid (HM.out HV.out), by first | rfl | trivial⟩
          case measure => simp [intOf]; omega
      · have n0 : decide (97 ≤ (s[k]).toNat) = false := decide_eq_false (by omega)
        have d0 : decide ((97 : Int) ≤ ((s[k]).toNat : Int)) = false := decide_eq_false (by omega)
        have n1 : decide ((s[k]).toNat ≤ 122) = true := decide_eq_true (by omega)
        have d1 : decide (((s[k]).toNat : Int) ≤ 122) = true := decide_eq_true (by omega)
        have n2 : decide (48 ≤ (s[k]).toNat) = false := decide_eq_false (by omega)
        have d2 : decide ((48 : Int) ≤ ((s[k]).toNat : Int)) = false := decide_eq_false (by omega)
        have n3 : decide ((s[k]).toNat ≤ 57) = true := decide_eq_true (by omega)
        have d3 : decide (((s[k]).toNat : Int) ≤ 57) = true := decide_eq_true (by omega)
        have m0 : ((s[k]).toNat == 45) = false := by rw [beq_eq_false_iff_ne]; omega
        have q0 : (((s[k]).toNat : Int) == 45) = false := by rw [beq_eq_false_iff_ne]; omega
        have m1 : ((s[k]).toNat == 46) = false := by rw [beq_eq_false_iff_ne]; omega
        have q1 : (((s[k]).toNat : Int) == 46) = false := by rw [beq_eq_false_iff_ne]; omega
        have m2 : ((s[k]).toNat == 95) = false := by rw [beq_eq_false_iff_ne]; omega
        have q2 : (((s[k]).toNat : Int) == 95) = false := by rw [beq_eq_false_iff_ne]; omega
        have HV := Lib.hid (show okB k (s[k]).toNat = false by rw [okB_cases, n0, n1, n2, n3, m0, m1, m2]; cases decide (0 < k) <;> rfl)
        clear hlo hhi n0 n1 n2 n3 m0 m1 m2
        go_wp2_with fail
        go_ret
        exact HF.out HV.out
      · by_cases hk0 : k = 0
        · have n0 : decide (97 ≤ (s[k]).toNat) = false := decide_eq_false (by omega)
          have d0 : decide ((97 : Int) ≤ ((s[k]).toNat : Int)) = false := decide_eq_false (by omega)
          have n1 : decide ((s[k]).toNat ≤ 122) = true := decide_eq_true (by omega)
          have d1 : decide (((s[k]).toNat : Int) ≤ 122) = true := decide_eq_true (by omega)
          have n2 : decide (48 ≤ (s[k]).toNat) = true := decide_eq_true (by omega)
          have d2 : decide ((48 : Int) ≤ ((s[k]).toNat : Int)) = true := decide_eq_true (by omega)
          have n3 : decide ((s[k]).toNat ≤ 57) = true := decide_eq_true (by omega)
          have d3 : decide (((s[k]).toNat : Int) ≤ 57) = true := decide_eq_true (by omega)
          have m0 : ((s[k]).toNat == 45) = false := by rw [beq_eq_false_iff_ne]; omega
          have q0 : (((s[k]).toNat : Int) == 45) = false := by rw [beq_eq_false_iff_ne]; omega
          have m1 : ((s[k]).toNat == 46) = false := by rw [beq_eq_false_iff_ne]; omega
          have q1 : (((s[k]).toNat : Int) == 46) = false := by rw [beq_eq_false_iff_ne]; omega
          have m2 : ((s[k]).toNat == 95) = false := by rw [beq_eq_false_iff_ne]; omega
          have q2 : (((s[k]).toNat : Int) == 95) = false := by rw [beq_eq_false_iff_ne]; omega
          have z0 : decide (0 < k) = false := decide_eq_false (by omega)
          have z1 : ((k : Int) == 0) = true := by rw [beq_iff_eq]; omega
          have HV := Lib.hid (show okB k (s[k]).toNat = false by rw [okB_cases, n0, n1, n2, n3, m0, m1, m2, z0]; rfl)
          clear z0
          clear hk0 hlo hhi n0 n1 n2 n3 m0 m1 m2
          go_wp2_with fail
          go_ret
          exact HF.out HV.out
        · have n0 : decide (97 ≤ (s[k]).toNat) = false := decide_eq_false (by omega)
          have d0 : decide ((97 : Int) ≤ ((s[k]).toNat : Int)) = false := decide_eq_false (by omega)
          have n1 : decide ((s[k]).toNat ≤ 122) = true := decide_eq_true (by omega)
          have d1 : decide (((s[k]).toNat : Int) ≤ 122) = true := decide_eq_true (by omega)
          have n2 : decide (48 ≤ (s[k]).toNat) = true := decide_eq_true (by omega)
          have d2 : decide ((48 : Int) ≤ ((s[k]).toNat : Int)) = true := decide_eq_true (by omega)
          have n3 : decide ((s[k]).toNat ≤ 57) = true := decide_eq_true (by omega)
          have d3 : decide (((s[k]).toNat : Int) ≤ 57) = true := decide_eq_true (by omega)
          have m0 : ((s[k]).toNat == 45) = false := by rw [beq_eq_false_iff_ne]; omega
          have q0 : (((s[k]).toNat : Int) == 45) = false := by rw [beq_eq_false_iff_ne]; omega
          have m1 : ((s[k]).toNat == 46) = false := by rw [beq_eq_false_iff_ne]; omega
          have q1 : (((s[k]).toNat : Int) == 46) = false := by rw [beq_eq_false_iff_ne]; omega
          have m2 : ((s[k]).toNat == 95) = false := by rw [beq_eq_false_iff_ne]; omega
          have q2 : (((s[k]).toNat : Int) == 95) = false := by rw [beq_eq_false_iff_ne]; omega
          have z0 : decide (0 < k) = true := decide_eq_true (by omega)
          have z1 : ((k : Int) == 0) = false := by rw [beq_eq_false_iff_ne]; omega
          have HV := Lib.hid (show okB k (s[k]).toNat = true by rw [okB_cases, n0, n1, n2, n3, m0, m1, m2, z0]; rfl)
          clear z0
          clear hk0 hlo hhi n0 n1 n2 n3 m0 m1 m2
          go_wp2_with fail
          go_roundw
          case rel => exact ⟨k + 1, by go_num, by omega, Lib.hid (HM.out HV.out), by first | rfl | trivial⟩
          case measure => simp [intOf]; omega
      · have n0 : decide (97 ≤ (s[k]).toNat) = false := decide_eq_false (by omega)
        have d0 : decide ((97 : Int) ≤ ((s[k]).toNat : Int)) = false := decide_eq_false (by omega)
        have n1 : decide ((s[k]).toNat ≤ 122) = true := decide_eq_true (by omega)
        have d1 : decide (((s[k]).toNat : Int) ≤ 122) = true := decide_eq_true (by omega)
        have n2 : decide (48 ≤ (s[k]).toNat) = true := decide_eq_true (by omega)
        have d2 : decide ((48 : Int) ≤ ((s[k]).toNat : Int)) = true := decide_eq_true (by omega)
        have n3 : decide ((s[k]).toNat ≤ 57) = false := decide_eq_false (by omega)
        have d3 : decide (((s[k]).toNat : Int) ≤ 57) = false := decide_eq_false (by omega)
        have m0 : ((s[k]).toNat == 45) = false := by rw [beq_eq_false_iff_ne]; omega
        have q0 : (((s[k]).toNat : Int) == 45) = false := by rw [beq_eq_false_iff_ne]; omega
        have m1 : ((s[k]).toNat == 46) = false := by rw [beq_eq_false_iff_ne]; omega
        have q1 : (((s[k]).toNat : Int) == 46) = false := by rw [beq_eq_false_iff_ne]; omega
        have m2 : ((s[k]).toNat == 95) = false := by rw [beq_eq_false_iff_ne]; omega
        have q2 : (((s[k]).toNat : Int) == 95) = false := by rw [beq_eq_false_iff_ne]; omega
        have HV := Lib.hid (show okB k (s[k]).toNat = false by rw [okB_cases, n0, n1, n2, n3, m0, m1, m2]; cases decide (0 < k) <;> rfl)
        clear hlo hhi n0 n1 n2 n3 m0 m1 m2
        go_wp2_with fail
        go_ret
        exact HF.out HV.out
      · by_cases hk0 : k = 0
        · have n0 : decide (97 ≤ (s[k]).toNat) = false := decide_eq_false (by omega)
          have d0 : decide ((97 : Int) ≤ ((s[k]).toNat : Int)) = false := decide_eq_false (by omega)
          have n1 : decide ((s[k]).toNat ≤ 122) = true := decide_eq_true (by omega)
          have d1 : decide (((s[k]).toNat : Int) ≤ 122) = true := decide_eq_true (by omega)
          have n2 : decide (48 ≤ (s[k]).toNat) = true := decide_eq_true (by omega)
          have d2 : decide ((48 : Int) ≤ ((s[k]).toNat : Int)) = true := decide_eq_true (by omega)
          have n3 : decide ((s[k]).toNat ≤ 57) = false := decide_eq_false (by omega)
          have d3 : decide (((s[k]).toNat : Int) ≤ 57) = false := decide_eq_false (by omega)
          have m0 : ((s[k]).toNat == 45) = false := by rw [beq_eq_false_iff_ne]; omega
          have q0 : (((s[k]).toNat : Int) == 45) = false := by rw [beq_eq_false_iff_ne]; omega
          have m1 : ((s[k]).toNat == 46) = false := by rw [beq_eq_false_iff_ne]; omega
          have q1 : (((s[k]).toNat : Int) == 46) = false := by rw [beq_eq_false_iff_ne]; omega
          have m2 : ((s[k]).toNat == 95) = true := by rw [beq_iff_eq]; omega
          have q2 : (((s[k]).toNat : Int) == 95) = true := by rw [beq_iff_eq]; omega
          have z0 : decide (0 < k) = false := decide_eq_false (by omega)
          have z1 : ((k : Int) == 0) = true := by rw [beq_iff_eq]; omega
          have HV := Lib.hid (show okB k (s[k]).toNat = false by rw [okB_cases, n0, n1, n2, n3, m0, m1, m2, z0]; rfl)
          clear z0
          clear hk0 hlo hhi n0 n1 n2 n3 m0 m1 m2
          go_wp2_with fail
          go_ret
          exact HF.out HV.out
        · have n0 : decide (97 ≤ (s[k]).toNat) = false := decide_eq_false (by omega)
          have d0 : decide ((97 : Int) ≤ ((s[k]).toNat : Int)) = false := decide_eq_false (by omega)
          have n1 : decide ((s[k]).toNat ≤ 122) = true := decide_eq_true (by omega)
          have d1 : decide (((s[k]).toNat : Int) ≤ 122) = true := decide_eq_true (by omega)
          have n2 : decide (48 ≤ (s[k]).toNat) = true := decide_eq_true (by omega)
          have d2 : decide ((48 : Int) ≤ ((s[k]).toNat : Int)) = true := decide_eq_true (by omega)
          have n3 : decide ((s[k]).toNat ≤ 57) = false := decide_eq_false (by omega)
          have d3 : decide (((s[k]).toNat : Int) ≤ 57) = false := decide_eq_false (by omega)
          have m0 : ((s[k]).toNat == 45) = false := by rw [beq_eq_false_iff_ne]; omega
          have q0 : (((s[k]).toNat : Int) == 45) = false := by rw [beq_eq_false_iff_ne]; omega
          have m1 : ((s[k]).toNat == 46) = false := by rw [beq_eq_false_iff_ne]; omega
          have q1 : (((s[k]).toNat : Int) == 46) = false := by rw [beq_eq_false_iff_ne]; omega
          have m2 : ((s[k]).toNat == 95) = true := by rw [beq_iff_eq]; omega
          have q2 : (((s[k]).toNat : Int) == 95) = true := by rw [beq_iff_eq]; omega
          have z0 : decide (0 < k) = true := decide_eq_true (by omega)
          have z1 : ((k : Int) == 0) = false := by rw [beq_eq_false_iff_ne]; omega
          have HV := Lib.hid (show okB k (s[k]).toNat = true by rw [okB_cases, n0, n1, n2, n3, m0, m1, m2, z0]; rfl)
          clear z0
          clear hk0 hlo hhi n0 n1 n2 n3 m0 m1 m2
          go_wp2_with fail
          go_roundw
          case rel => exact ⟨k + 1, by go_num, by omega, Lib.hid (HM.out HV.out), by first | rfl | trivial⟩
          case measure => simp [intOf]; omega
      · have n0 : decide (97 ≤ (s[k]).toNat) = false := decide_eq_false (by omega)
        have d0 : decide ((97 : Int) ≤ ((s[k]).toNat : Int)) = false := decide_eq_false (by omega)
        have n1 : decide ((s[k]).toNat ≤ 122) = true := decide_eq_true (by omega)
        have d1 : decide (((s[k]).toNat : Int) ≤ 122) = true := decide_eq_true (by omega)
        have n2 : decide (48 ≤ (s[k]).toNat) = true := decide_eq_true (by omega)
        have d2 : decide ((48 : Int) ≤ ((s[k]).toNat : Int)) = true := decide_eq_true (by omega)
        have n3 : decide ((s[k]).toNat ≤ 57) = false := decide_eq_false (by omega)
        have d3 : decide (((s[k]).toNat : Int) ≤ 57) = false := decide_eq_false (by omega)
        have m0 : ((s[k]).toNat == 45) = false := by rw [beq_eq_false_iff_ne]; omega
        have q0 : (((s[k]).toNat : Int) == 45) = false := by rw [beq_eq_false_iff_ne]; omega
        have m1 : ((s[k]).toNat == 46) = false := by rw [beq_eq_false_iff_ne]; omega
        have q1 : (((s[k]).toNat : Int) == 46) = false := by rw [beq_eq_false_iff_ne]; omega
        have m2 : ((s[k]).toNat == 95) = false := by rw [beq_eq_false_iff_ne]; omega
        have q2 : (((s[k]).toNat : Int) == 95) = false := by rw [beq_eq_false_iff_ne]; omega
        have HV := Lib.hid (show okB k (s[k]).toNat = false by rw [okB_cases, n0, n1, n2, n3, m0, m1, m2]; cases decide (0 < k) <;> rfl)
        clear hlo hhi n0 n1 n2 n3 m0 m1 m2
        go_wp2_with fail
        go_ret
        exact HF.out HV.out
      · have n0 : decide (97 ≤ (s[k]).toNat) = true := decide_eq_true (by omega)
        have d0 : decide ((97 : Int) ≤ ((s[k]).toNat : Int)) = true := decide_eq_true (by omega)
        have n1 : decide ((s[k]).toNat ≤ 122) = true := decide_eq_true (by omega)
        have d1 : decide (((s[k]).toNat : Int) ≤ 122) = true := decide_eq_true (by omega)
        have n2 : decide (48 ≤ (s[k]).toNat) = true := decide_eq_true (by omega)
        have d2 : decide ((48 : Int) ≤ ((s[k]).toNat : Int)) = true := decide_eq_true (by omega)
        have n3 : decide ((s[k]).toNat ≤ 57) = false := decide_eq_false (by omega)
        have d3 : decide (((s[k]).toNat : Int) ≤ 57) = false := decide_eq_false (by omega)
        have m0 : ((s[k]).toNat == 45) = false := by rw [beq_eq_false_iff_ne]; omega
        have q0 : (((s[k]).toNat : Int) == 45) = false := by rw [beq_eq_false_iff_ne]; omega
        have m1 : ((s[k]).toNat == 46) = false := by rw [beq_eq_false_iff_ne]; omega
        have q1 : (((s[k]).toNat : Int) == 46) = false := by rw [beq_eq_false_iff_ne]; omega
        have m2 : ((s[k]).toNat == 95) = false := by rw [beq_eq_false_iff_ne]; omega
        have q2 : (((s[k]).toNat : Int) == 95) = false := by rw [beq_eq_false_iff_ne]; omega
        have HV := Lib.hid (show okB k (s[k]).toNat = true by rw [okB_cases, n0, n1, n2, n3, m0, m1, m2]; cases decide (0 < k) <;> rfl)
        clear hlo hhi n0 n1 n2 n3 m0 m1 m2
        go_wp2_with fail
        go_roundw
        case rel => exact ⟨k + 1, by go_num, by omega, Lib.hid (HM.out HV.out), by first | rfl | trivial⟩
        case measure => simp [intOf]; omega
      · have n0 : decide (97 ≤ (s[k]).toNat) = true := decide_eq_true (by omega)
        have d0 : decide ((97 : Int) ≤ ((s[k]).toNat : Int)) = true := decide_eq_true (by omega)
        have n1 : decide ((s[k]).toNat ≤ 122) = false := decide_eq_false (by omega)
        have d1 : decide (((s[k]).toNat : Int) ≤ 122) = false := decide_eq_false (by omega)
        have n2 : decide (48 ≤ (s[k]).toNat) = true := decide_eq_true (by omega)
        have d2 : decide ((48 : Int) ≤ ((s[k]).toNat : Int)) = true := decide_eq_true (by omega)
        have n3 : decide ((s[k]).toNat ≤ 57) = false := decide_eq_false (by omega)
        have d3 : decide (((s[k]).toNat : Int) ≤ 57) = false := decide_eq_false (by omega)
        have m0 : ((s[k]).toNat == 45) = false := by rw [beq_eq_false_iff_ne]; omega
        have q0 : (((s[k]).toNat : Int) == 45) = false := by rw [beq_eq_false_iff_ne]; omega
        have m1 : ((s[k]).toNat == 46) = false := by rw [beq_eq_false_iff_ne]; omega
        have q1 : (((s[k]).toNat : Int) == 46) = false := by rw [beq_eq_false_iff_ne]; omega
        have m2 : ((s[k]).toNat == 95) = false := by rw [beq_eq_false_iff_ne]; omega
        have q2 : (((s[k]).toNat : Int) == 95) = false := by rw [beq_eq_false_iff_ne]; omega
        have HV := Lib.hid (show okB k (s[k]).toNat = false by rw [okB_cases, n0, n1, n2, n3, m0, m1, m2]; cases decide (0 < k) <;> rfl)
        clear hlo hhi n0 n1 n2 n3 m0 m1 m2
        go_wp2_with fail
        go_ret
        exact HF.out HV.out
    · obtain rfl : k = s.size := by omega
      by_cases h0 : 0 < s.size
      · have HR := Lib.hid (HY.out h0 HI.out)
        have h0' : (0 : Int) < (s.size : Int) := by omega
        go_wp2_with fail
        go_ret
        exact HR.out
      · have HR := Lib.hid (HZ.out h0)
        have h0' : ¬ (0 : Int) < (s.size : Int) := by omega
        go_wp2_with fail
        go_ret
        exact HR.out
set_option maxRecDepth 100000 in
set_option maxHeartbeats 4000000 in
theorem rpath_any (s : ByteArray) (hs : s.size ≤ 2000000) (w : World) : Calls Tryz.prog 99 #[.string s] w fun e w' => e = .returned (.bool (pathB s.data.toList)) ∧ Below w.heap.size w w' := by
  have hsl : s.data.toList.length = s.size := by simp
  have HS := Lib.hid (rsplit_any 47 47 rfl s hs w)
  obtain ⟨R, hR⟩ : ∃ R, R = pathB s.data.toList := ⟨_, rfl⟩
  rw [← hR]
  unfold pathB at hR
  rw [hsl] at hR
  have HRR := Lib.hid hR
  clear hR hsl
  go_enter Tryz.func99, Tryz.ntmps99
  go_wp2_with fail
  refine HS.out.mono ?_
  rintro e w1 ⟨L, hL, hn, A, c, rfl, hre, hpl, hb⟩
  have hL' : R = (decide (s.size ≤ 60) && L.all fun x => partB x.data.toList) := by rw [HRR.out, ← hL, List.all_map]; rfl
  have HE := Lib.hid hL'
  have HSZ := Lib.hid (show ∀ x ∈ L, x.size ≤ 2000000 from fun x hx => by
    have hm : x.data.toList ∈ splitL 47 s.data.toList := by rw [← hL]; exact List.mem_map_of_mem hx
    have := splitL_len 47 _ _ hm
    simp at this; omega)
  have HRE := Lib.hid hre
  have HB1 := Lib.hid hb
  clear hL hL' HS HRR hre hpl hb
  go_wp2_with fail
  go_loopw [4, 8] (fun _ s8 wr => ∃ k : Nat, s8 = .int .i64 (k : Int) ∧ k ≤ L.length ∧ Hid ((L.take k).all (fun x => partB x.data.toList) = true) ∧ wr = w1) (fun _ s8 _ => (L.length - intOf s8).toNat)
  case atStart => exact ⟨0, rfl, by omega, Lib.hid rfl, rfl⟩
  case round =>
    obtain ⟨k, rfl, hk, HA, rfl⟩ := hrel
    by_cases hlt : k < L.length
    · obtain ⟨b, o, hA, hbl, c0⟩ := HRE.out.at_ k hlt
      subst hA
      have hkl : (k : Int) < (L.length : Int) := by omega
      have HT := Lib.hid (show (L.take (k + 1)).all (fun x => partB x.data.toList) = partB (L[k]).data.toList by
        rw [← List.take_append_getElem hlt, List.all_append, HA.out]; simp)
      have HF := Lib.hid (show partB (L[k]).data.toList = false → R = false from fun h => by
        rw [HE.out]
        have : (L.all fun x => partB x.data.toList) = false := by
          rw [Bool.eq_false_iff]; intro hh
          rw [List.all_eq_true] at hh
          have := hh _ (List.getElem_mem hlt)
          rw [h] at this; cases this
        rw [this, Bool.and_false])
      have hxs := HSZ.out L[k] (List.getElem_mem hlt)
      generalize L[k] = x at *
      have HP := Lib.hid (part_any x hxs wr)
      clear hxs
      cases hp : partB x.data.toList with
      | true =>
        have HT2 := Lib.hid (HT.out.trans hp)
        rw [hp] at HP
        clear hp HT HF
        go_wp2_with fail
        refine HP.out.mono ?_
        rintro e w2 ⟨rfl, rfl⟩
        go_wp2_with fail
        go_roundw
        case rel => exact ⟨k + 1, by go_num, by omega, HT2, by first | rfl | trivial⟩
        case measure => simp [intOf]; omega
      | false =>
        have HR := Lib.hid (HF.out hp)
        rw [hp] at HP
        clear hp HT HF
        go_wp2_with fail
        refine HP.out.mono ?_
        rintro e w2 ⟨rfl, rfl⟩
        go_wp2_with fail
        go_ret
        exact ⟨ret_bool HR.out.symm, HB1.out⟩
    · obtain rfl : k = L.length := by omega
      have HR := Lib.hid (show R = decide (s.size ≤ 60) by rw [HE.out]; have := HA.out; rw [List.take_length] at this; rw [this, Bool.and_true])
      clear HA
      by_cases h6 : s.size ≤ 60
      · have h60 : (s.size : Int) ≤ 60 := by omega
        have HR2 := Lib.hid (HR.out.trans (decide_eq_true h6))
        go_wp2_with fail
        go_ret
        exact ⟨ret_bool HR2.out.symm, HB1.out⟩
      · have h60 : ¬ (s.size : Int) ≤ 60 := by omega
        have HR2 := Lib.hid (HR.out.trans (decide_eq_false h6))
        go_wp2_with fail
        go_ret
        exact ⟨ret_bool HR2.out.symm, HB1.out⟩
end Go.Proofs.YthlcdimofagmfaaGreatDoor
