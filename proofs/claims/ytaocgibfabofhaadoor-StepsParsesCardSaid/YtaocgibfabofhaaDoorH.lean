/-
  Ident, Label and Unlabel return what the document says of identifiers. No condition but a bound on the length for Label.
-/
import Derived.Test.YtaocgibfabofhaaDoorG
import Derived.Deep.DeepCutAuto
namespace Go.Proofs.YtaocgibfabofhaaDoor
open Go.RowKit
set_option linter.unusedSimpArgs false
set_option linter.unusedVariables false
def insB (n : Nat) : Bool := letB n || (decide (48 ≤ n) && decide (n ≤ 57) || n == 95)
def insU (c : UInt8) : Bool := insB c.toNat
def tailB : List UInt8 → Bool
  | [] => false
  | c :: t => letB c.toNat && (c :: t).all insU
/-- an identifier without its sign -/
def idT (s : ByteArray) : ByteArray := if 0 < s.size ∧ (ch s 0 = 35 ∨ ch s 0 = 95) then s.extract 1 s.size else s
def identB (s : ByteArray) : Bool := decide (s.size ≤ 32) && (!resB s && tailB (idT s).data.toList)
theorem take_all (t : ByteArray) (k : Nat) (h : k < t.size) (h1 : (t.data.toList.take k).all insU = true) (h2 : insB (t[k]).toNat = true) : (t.data.toList.take (k + 1)).all insU = true := by
  rw [take_snoc t.data.toList k (by simpa using h), List.all_append, h1]
  simp only [Bool.true_and, List.all_cons, List.all_nil, Bool.and_true]
  exact h2
theorem tail_false (t : ByteArray) (k : Nat) (h : k < t.size) (h2 : insB (t[k]).toNat = false) : tailB t.data.toList = false := by
  cases e : t.data.toList with
  | nil => rfl
  | cons c r =>
    have hm : t[k] ∈ c :: r := by
      rw [← e]
      exact List.mem_of_getElem? (i := k) (by rw [List.getElem?_eq_getElem (by simpa using h)]; rfl)
    simp only [tailB]
    rw [Bool.and_eq_false_iff]
    right
    rw [List.all_eq_false]
    exact ⟨t[k], hm, by unfold insU; rw [h2]; simp⟩
theorem tail_first (t : ByteArray) (h : 0 < t.size) : tailB t.data.toList = (letB (t[0]).toNat && t.data.toList.all insU) := by
  have := drop_at t 0 h
  rw [List.drop_zero] at this
  rw [this]
  rfl
theorem tail_nil (t : ByteArray) (h : t.size = 0) : tailB t.data.toList = false := by
  have : t.data.toList = [] := List.eq_nil_of_length_eq_zero (by simpa using h)
  rw [this]; rfl
theorem empty_facts (s : ByteArray) (h : s.size = 0) : s.toList = [] ∧ s.toList.isEmpty = true := by
  rw [Go.ByteArray.toList_eq]
  have : s.data.toList = [] := List.eq_nil_of_length_eq_zero (by simpa using h)
  rw [this]; exact ⟨rfl, rfl⟩
theorem reserved_at (s : ByteArray) (v : Bool) (h : resB s = v) (w : World) : Calls Tryd.prog 58 #[.string s] w fun e w' => e = .returned (.bool v) ∧ w = w' := by subst h; exact reserved_any s w
set_option maxRecDepth 100000 in
set_option maxHeartbeats 4000000 in
theorem ident_any (s : ByteArray) (w : World) :
    Calls Tryd.prog 42 #[.string s] w fun e w' => e = .returned (.bool (identB s)) ∧ w = w' := by
  by_cases h32 : s.size ≤ 32
  · cases hr : resB s with
    | true =>
      have HF : Hid (identB s = false) := by show identB s = false; unfold identB; rw [hr]; simp
      have HR := Lib.hid hr
      clear hr
      go_enter Tryd.func42, Tryd.ntmps42
      go_wp2_with fail
      refine (reserved_at s true HR.out _).mono ?_
      rintro e w1 ⟨rfl, rfl⟩
      go_wp2_with fail
      go_ret
      rw [HF.out]
      exact ⟨rfl, rfl⟩
    | false =>
      have HF : Hid (identB s = tailB (idT s).data.toList) := by show identB s = _; unfold identB; rw [hr]; simp [h32]
      rw [HF.out]
      clear HF
      have HR := Lib.hid hr
      obtain ⟨t, ht⟩ : ∃ t, t = idT s := ⟨_, rfl⟩
      rw [← ht]
      have htle : t.size ≤ 32 := by rw [ht]; unfold idT; split <;> (try simp) <;> omega
      unfold idT at ht
      clear hr
      by_cases hp : 0 < s.size
      · obtain ⟨hne, hem⟩ := ne_facts s hp
        by_cases c35 : ch s 0 = 35
        · rw [if_pos ⟨hp, .inl c35⟩] at ht
          have x35 : (((s[0]).toNat : Int) == 35) = true := by rw [ch_at s 0 hp]; simp [c35]
          have HT := Lib.hid ht
          clear c35 ht
          go_enter Tryd.func42, Tryd.ntmps42
          go_wp2_with fail
          refine (reserved_at s false HR.out _).mono ?_
          rintro e w1 ⟨rfl, rfl⟩
          go_upto_region 5 with fail
          rw [← HT.out]
          clear HT x35 hne hem
          by_cases ht0 : 0 < t.size
          · obtain ⟨tne, tem⟩ := ne_facts t ht0
            have HTF := Lib.hid (tail_first t ht0)
            cases hl : letB (t[0]).toNat with
            | false =>
              have HLL := Lib.hid hl
              clear hl
              go_wp2_with fail
              refine (letter_at _ false HLL.out _).mono ?_
              rintro e w1 ⟨rfl, rfl⟩
              go_wp2_with fail
              go_ret
              rw [HTF.out, HLL.out]
              exact ⟨rfl, rfl⟩
            | true =>
              have HLL := Lib.hid hl
              clear hl
              go_wp2_with fail
              refine (letter_at _ true HLL.out _).mono ?_
              rintro e w1 ⟨rfl, rfl⟩
              clear tne tem
              go_wp2_with fail
              go_loop [36] (fun i => ∃ k : Nat, k ≤ t.size ∧ i = .int .i64 (k : Int) ∧ Hid ((t.data.toList.take k).all insU = true)) (fun i => t.size - (intOf i).toNat)
              case atStart => exact ⟨0, Nat.zero_le _, rfl, Lib.hid (by rw [List.take_zero]; rfl)⟩
              case round =>
                obtain ⟨k, hk, rfl, HA⟩ := hrel
                by_cases hlt : k < t.size
                · cases hin : insB (t[k]).toNat with
                  | true =>
                    have HN := Lib.hid (take_all t k hlt HA.out hin)
                    cases hlk : letB (t[k]).toNat with
                    | true =>
                      have HK := Lib.hid hlk
                      clear hlk hin
                      go_wp2_with fail
                      refine (letter_at _ true HK.out _).mono ?_
                      rintro e w1 ⟨rfl, rfl⟩
                      go_wp2_with fail
                      go_round
                      case rel => exact ⟨k + 1, by omega, by go_num, HN⟩
                      case measure => simp [intOf]; omega
                    | false =>
                      have HK := Lib.hid hlk
                      unfold insB at hin
                      rw [hlk] at hin
                      simp only [Bool.false_or] at hin
                      clear hlk
                      by_cases d1 : 48 ≤ (t[k]).toNat ∧ (t[k]).toNat ≤ 57
                      · obtain ⟨d1, d2⟩ := d1
                        clear hin
                        go_wp2_with fail
                        refine (letter_at _ false HK.out _).mono ?_
                        rintro e w1 ⟨rfl, rfl⟩
                        go_wp2_with fail
                        go_round
                        case rel => exact ⟨k + 1, by omega, by go_num, HN⟩
                        case measure => simp [intOf]; omega
                      · have h95 : (t[k]).toNat = 95 := by simp at hin; omega
                        have n95 : (((t[k]).toNat : Int) != 95) = false := by simp; omega
                        have d2 : ¬ (t[k]).toNat ≤ 57 := by omega
                        have d3 : 48 ≤ (t[k]).toNat := by omega
                        clear hin h95 d1
                        go_wp2_with fail
                        refine (letter_at _ false HK.out _).mono ?_
                        rintro e w1 ⟨rfl, rfl⟩
                        go_wp2_with fail
                        go_round
                        case rel => exact ⟨k + 1, by omega, by go_num, HN⟩
                        case measure => simp [intOf]; omega
                  | false =>
                    have HFF := Lib.hid (tail_false t k hlt hin)
                    unfold insB at hin
                    simp only [Bool.or_eq_false_iff] at hin
                    obtain ⟨hlk, hdg, h95⟩ := hin
                    have HK := Lib.hid hlk
                    have n95 : (((t[k]).toNat : Int) != 95) = true := by simp at h95 ⊢; omega
                    clear hlk h95
                    by_cases d1 : 48 ≤ (t[k]).toNat
                    · have d2 : ¬ (t[k]).toNat ≤ 57 := by simp at hdg; omega
                      have D2 : decide (((t[k]).toNat : Int) ≤ 57) = false := by simp; omega
                      have D3 : (!decide (((t[k]).toNat : Int) ≤ 57)) = true := by rw [D2]; rfl
                      clear hdg
                      go_wp2_with fail
                      refine (letter_at _ false HK.out _).mono ?_
                      rintro e w1 ⟨rfl, rfl⟩
                      go_wp2_with fail
                      go_ret
                      rw [HFF.out]
                      exact ⟨rfl, rfl⟩
                    · clear hdg
                      go_wp2_with fail
                      refine (letter_at _ false HK.out _).mono ?_
                      rintro e w1 ⟨rfl, rfl⟩
                      go_wp2_with fail
                      go_ret
                      rw [HFF.out]
                      exact ⟨rfl, rfl⟩
                · have HE := Lib.hid (show k = t.size by omega)
                  go_wp2_with fail
                  go_ret
                  have hA := HA.out
                  rw [HE.out, List.take_of_length_le (by simp)] at hA
                  rw [HTF.out, HLL.out, hA]
                  exact ⟨rfl, rfl⟩
          · obtain ⟨tne, tem⟩ := empty_facts t (by omega)
            have HTF := Lib.hid (tail_nil t (by omega))
            go_wp2_with fail
            go_ret
            rw [HTF.out]
            exact ⟨rfl, rfl⟩
        · by_cases c95 : ch s 0 = 95
          · rw [if_pos ⟨hp, .inr c95⟩] at ht
            have x35 : (((s[0]).toNat : Int) == 35) = false := by rw [ch_at s 0 hp]; simp; omega
            have x95 : (((s[0]).toNat : Int) == 95) = true := by rw [ch_at s 0 hp]; simp [c95]
            have HT := Lib.hid ht
            clear c35 c95 ht
            go_enter Tryd.func42, Tryd.ntmps42
            go_wp2_with fail
            refine (reserved_at s false HR.out _).mono ?_
            rintro e w1 ⟨rfl, rfl⟩
            go_upto_region 5 with fail
            rw [← HT.out]
            clear HT x35 x95 hne hem
            by_cases ht0 : 0 < t.size
            · obtain ⟨tne, tem⟩ := ne_facts t ht0
              have HTF := Lib.hid (tail_first t ht0)
              cases hl : letB (t[0]).toNat with
              | false =>
                have HLL := Lib.hid hl
                clear hl
                go_wp2_with fail
                refine (letter_at _ false HLL.out _).mono ?_
                rintro e w1 ⟨rfl, rfl⟩
                go_wp2_with fail
                go_ret
                rw [HTF.out, HLL.out]
                exact ⟨rfl, rfl⟩
              | true =>
                have HLL := Lib.hid hl
                clear hl
                go_wp2_with fail
                refine (letter_at _ true HLL.out _).mono ?_
                rintro e w1 ⟨rfl, rfl⟩
                clear tne tem
                go_wp2_with fail
                go_loop [36] (fun i => ∃ k : Nat, k ≤ t.size ∧ i = .int .i64 (k : Int) ∧ Hid ((t.data.toList.take k).all insU = true)) (fun i => t.size - (intOf i).toNat)
                case atStart => exact ⟨0, Nat.zero_le _, rfl, Lib.hid (by rw [List.take_zero]; rfl)⟩
                case round =>
                  obtain ⟨k, hk, rfl, HA⟩ := hrel
                  by_cases hlt : k < t.size
                  · cases hin : insB (t[k]).toNat with
                    | true =>
                      have HN := Lib.hid (take_all t k hlt HA.out hin)
                      cases hlk : letB (t[k]).toNat with
                      | true =>
                        have HK := Lib.hid hlk
                        clear hlk hin
                        go_wp2_with fail
                        refine (letter_at _ true HK.out _).mono ?_
                        rintro e w1 ⟨rfl, rfl⟩
                        go_wp2_with fail
                        go_round
                        case rel => exact ⟨k + 1, by omega, by go_num, HN⟩
                        case measure => simp [intOf]; omega
                      | false =>
                        have HK := Lib.hid hlk
                        unfold insB at hin
                        rw [hlk] at hin
                        simp only [Bool.false_or] at hin
                        clear hlk
                        by_cases d1 : 48 ≤ (t[k]).toNat ∧ (t[k]).toNat ≤ 57
                        · obtain ⟨d1, d2⟩ := d1
                          clear hin
                          go_wp2_with fail
                          refine (letter_at _ false HK.out _).mono ?_
                          rintro e w1 ⟨rfl, rfl⟩
                          go_wp2_with fail
                          go_round
                          case rel => exact ⟨k + 1, by omega, by go_num, HN⟩
                          case measure => simp [intOf]; omega
                        · have h95 : (t[k]).toNat = 95 := by simp at hin; omega
                          have n95 : (((t[k]).toNat : Int) != 95) = false := by simp; omega
                          have d2 : ¬ (t[k]).toNat ≤ 57 := by omega
                          have d3 : 48 ≤ (t[k]).toNat := by omega
                          clear hin h95 d1
                          go_wp2_with fail
                          refine (letter_at _ false HK.out _).mono ?_
                          rintro e w1 ⟨rfl, rfl⟩
                          go_wp2_with fail
                          go_round
                          case rel => exact ⟨k + 1, by omega, by go_num, HN⟩
                          case measure => simp [intOf]; omega
                    | false =>
                      have HFF := Lib.hid (tail_false t k hlt hin)
                      unfold insB at hin
                      simp only [Bool.or_eq_false_iff] at hin
                      obtain ⟨hlk, hdg, h95⟩ := hin
                      have HK := Lib.hid hlk
                      have n95 : (((t[k]).toNat : Int) != 95) = true := by simp at h95 ⊢; omega
                      clear hlk h95
                      by_cases d1 : 48 ≤ (t[k]).toNat
                      · have d2 : ¬ (t[k]).toNat ≤ 57 := by simp at hdg; omega
                        have D2 : decide (((t[k]).toNat : Int) ≤ 57) = false := by simp; omega
                        have D3 : (!decide (((t[k]).toNat : Int) ≤ 57)) = true := by rw [D2]; rfl
                        clear hdg
                        go_wp2_with fail
                        refine (letter_at _ false HK.out _).mono ?_
                        rintro e w1 ⟨rfl, rfl⟩
                        go_wp2_with fail
                        go_ret
                        rw [HFF.out]
                        exact ⟨rfl, rfl⟩
                      · clear hdg
                        go_wp2_with fail
                        refine (letter_at _ false HK.out _).mono ?_
                        rintro e w1 ⟨rfl, rfl⟩
                        go_wp2_with fail
                        go_ret
                        rw [HFF.out]
                        exact ⟨rfl, rfl⟩
                  · have HE := Lib.hid (show k = t.size by omega)
                    go_wp2_with fail
                    go_ret
                    have hA := HA.out
                    rw [HE.out, List.take_of_length_le (by simp)] at hA
                    rw [HTF.out, HLL.out, hA]
                    exact ⟨rfl, rfl⟩
            · obtain ⟨tne, tem⟩ := empty_facts t (by omega)
              have HTF := Lib.hid (tail_nil t (by omega))
              go_wp2_with fail
              go_ret
              rw [HTF.out]
              exact ⟨rfl, rfl⟩
          · rw [if_neg (by rintro ⟨_, h | h⟩; exact c35 h; exact c95 h)] at ht
            subst ht
            have x35 : (((t[0]).toNat : Int) == 35) = false := by rw [ch_at t 0 hp]; simp; omega
            have x95 : (((t[0]).toNat : Int) == 95) = false := by rw [ch_at t 0 hp]; simp; omega
            clear c35 c95
            go_enter Tryd.func42, Tryd.ntmps42
            go_wp2_with fail
            refine (reserved_at t false HR.out _).mono ?_
            rintro e w1 ⟨rfl, rfl⟩
            go_upto_region 5 with fail
            clear x35 x95 hne hem
            by_cases ht0 : 0 < t.size
            · obtain ⟨tne, tem⟩ := ne_facts t ht0
              have HTF := Lib.hid (tail_first t ht0)
              cases hl : letB (t[0]).toNat with
              | false =>
                have HLL := Lib.hid hl
                clear hl
                go_wp2_with fail
                refine (letter_at _ false HLL.out _).mono ?_
                rintro e w1 ⟨rfl, rfl⟩
                go_wp2_with fail
                go_ret
                rw [HTF.out, HLL.out]
                exact ⟨rfl, rfl⟩
              | true =>
                have HLL := Lib.hid hl
                clear hl
                go_wp2_with fail
                refine (letter_at _ true HLL.out _).mono ?_
                rintro e w1 ⟨rfl, rfl⟩
                clear tne tem
                go_wp2_with fail
                go_loop [36] (fun i => ∃ k : Nat, k ≤ t.size ∧ i = .int .i64 (k : Int) ∧ Hid ((t.data.toList.take k).all insU = true)) (fun i => t.size - (intOf i).toNat)
                case atStart => exact ⟨0, Nat.zero_le _, rfl, Lib.hid (by rw [List.take_zero]; rfl)⟩
                case round =>
                  obtain ⟨k, hk, rfl, HA⟩ := hrel
                  by_cases hlt : k < t.size
                  · cases hin : insB (t[k]).toNat with
                    | true =>
                      have HN := Lib.hid (take_all t k hlt HA.out hin)
                      cases hlk : letB (t[k]).toNat with
                      | true =>
                        have HK := Lib.hid hlk
                        clear hlk hin
                        go_wp2_with fail
                        refine (letter_at _ true HK.out _).mono ?_
                        rintro e w1 ⟨rfl, rfl⟩
                        go_wp2_with fail
                        go_round
                        case rel => exact ⟨k + 1, by omega, by go_num, HN⟩
                        case measure => simp [intOf]; omega
                      | false =>
                        have HK := Lib.hid hlk
                        unfold insB at hin
                        rw [hlk] at hin
                        simp only [Bool.false_or] at hin
                        clear hlk
                        by_cases d1 : 48 ≤ (t[k]).toNat ∧ (t[k]).toNat ≤ 57
                        · obtain ⟨d1, d2⟩ := d1
                          clear hin
                          go_wp2_with fail
                          refine (letter_at _ false HK.out _).mono ?_
                          rintro e w1 ⟨rfl, rfl⟩
                          go_wp2_with fail
                          go_round
                          case rel => exact ⟨k + 1, by omega, by go_num, HN⟩
                          case measure => simp [intOf]; omega
                        · have h95 : (t[k]).toNat = 95 := by simp at hin; omega
                          have n95 : (((t[k]).toNat : Int) != 95) = false := by simp; omega
                          have d2 : ¬ (t[k]).toNat ≤ 57 := by omega
                          have d3 : 48 ≤ (t[k]).toNat := by omega
                          clear hin h95 d1
                          go_wp2_with fail
                          refine (letter_at _ false HK.out _).mono ?_
                          rintro e w1 ⟨rfl, rfl⟩
                          go_wp2_with fail
                          go_round
                          case rel => exact ⟨k + 1, by omega, by go_num, HN⟩
                          case measure => simp [intOf]; omega
                    | false =>
                      have HFF := Lib.hid (tail_false t k hlt hin)
                      unfold insB at hin
                      simp only [Bool.or_eq_false_iff] at hin
                      obtain ⟨hlk, hdg, h95⟩ := hin
                      have HK := Lib.hid hlk
                      have n95 : (((t[k]).toNat : Int) != 95) = true := by simp at h95 ⊢; omega
                      clear hlk h95
                      by_cases d1 : 48 ≤ (t[k]).toNat
                      · have d2 : ¬ (t[k]).toNat ≤ 57 := by simp at hdg; omega
                        have D2 : decide (((t[k]).toNat : Int) ≤ 57) = false := by simp; omega
                        have D3 : (!decide (((t[k]).toNat : Int) ≤ 57)) = true := by rw [D2]; rfl
                        clear hdg
                        go_wp2_with fail
                        refine (letter_at _ false HK.out _).mono ?_
                        rintro e w1 ⟨rfl, rfl⟩
                        go_wp2_with fail
                        go_ret
                        rw [HFF.out]
                        exact ⟨rfl, rfl⟩
                      · clear hdg
                        go_wp2_with fail
                        refine (letter_at _ false HK.out _).mono ?_
                        rintro e w1 ⟨rfl, rfl⟩
                        go_wp2_with fail
                        go_ret
                        rw [HFF.out]
                        exact ⟨rfl, rfl⟩
                  · have HE := Lib.hid (show k = t.size by omega)
                    go_wp2_with fail
                    go_ret
                    have hA := HA.out
                    rw [HE.out, List.take_of_length_le (by simp)] at hA
                    rw [HTF.out, HLL.out, hA]
                    exact ⟨rfl, rfl⟩
            · obtain ⟨tne, tem⟩ := empty_facts t (by omega)
              have HTF := Lib.hid (tail_nil t (by omega))
              go_wp2_with fail
              go_ret
              rw [HTF.out]
              exact ⟨rfl, rfl⟩
      · rw [if_neg (fun h => hp h.1)] at ht
        subst ht
        obtain ⟨hne, hem⟩ := empty_facts t (by omega)
        have HTF := Lib.hid (tail_nil t (by omega))
        go_enter Tryd.func42, Tryd.ntmps42
        go_wp2_with fail
        refine (reserved_at t false HR.out _).mono ?_
        rintro e w1 ⟨rfl, rfl⟩
        go_wp2_with fail
        go_ret
        rw [HTF.out]
        exact ⟨rfl, rfl⟩
  · have HF : Hid (identB s = false) := by show identB s = false; unfold identB; simp; omega
    go_enter Tryd.func42, Tryd.ntmps42
    go_wp2_with fail
    go_ret
    rw [HF.out]
    exact ⟨rfl, rfl⟩
end Go.Proofs.YtaocgibfabofhaaDoor
