/-
  The statements' own Ident, Label and Unlabel. No condition but a bound on the length for Label.
-/
import Derived.Test.YtaocgibfabofhaaDoorH
import Derived.Test.YtaocgibfabofhaaDoorI
import Derived.Test.YtaocgibfabofhaaDoorRB
namespace Go.Proofs.YtaocgibfabofhaaDoor
open Go.RowKit
set_option linter.unusedSimpArgs false
set_option linter.unusedVariables false
def wordsV : Array Value := (wordsL.map fun x => Value.string ⟨x.toArray⟩).toArray
def wdB (k : Nat) : ByteArray := ⟨(wordsL.getD k []).toArray⟩
set_option maxHeartbeats 1000000 in
theorem rwords_any (w : World) : Calls Tryd.prog 63 #[] w fun e w' => e = .returned (.slice (some ⟨w.heap.size, 0, none⟩) 13 13) ∧ w' = w.alloc (.cells wordsV 9) := by
  go_enter Tryd.func63, Tryd.ntmps63
  go_wp2
  go_ret
  exact ⟨rfl, rfl⟩
theorem words_cell (w : World) (k : Nat) (h : k < 13) : (w.alloc (.cells wordsV 9)).cell? ⟨w.heap.size, k, none⟩ = some (.string (wdB k)) := by
  have hl : k < wordsL.length := h
  rw [World.cell?_alloc_new]
  simp [wordsV, wdB, List.getD_eq_getElem?_getD, List.getElem?_eq_getElem hl]
theorem res_true {s : ByteArray} {k : Nat} (h : k < 13) (hq : (s.toList == (wdB k).toList) = true) : resB s = true := by
  have hl : k < wordsL.length := h
  unfold resB
  rw [List.any_eq_true]
  refine ⟨wordsL[k], List.getElem_mem hl, ?_⟩
  have : (wdB k).toList = wordsL[k] := by
    rw [Go.ByteArray.toList_eq]
    simp [wdB, List.getD_eq_getElem?_getD, List.getElem?_eq_getElem hl]
  rw [this] at hq
  exact hq
theorem res_false {s : ByteArray} (h : ∀ j, j < 13 → (s.toList == (wdB j).toList) = false) : resB s = false := by
  unfold resB
  rw [List.any_eq_false]
  intro x hx
  obtain ⟨j, hj, rfl⟩ := List.mem_iff_getElem.1 hx
  have := h j hj
  have e : (wdB j).toList = wordsL[j] := by
    rw [Go.ByteArray.toList_eq]
    simp [wdB, List.getD_eq_getElem?_getD, List.getElem?_eq_getElem hj]
  rw [e] at this
  rw [this]
  simp
theorem tl_none {s : ByteArray} {a : Nat} (ha : s.size ≤ a) : tailB (s.data.toList.drop a) = false := by
  rw [List.drop_eq_nil_of_le (by simpa using ha)]; rfl
theorem tl_first {s : ByteArray} {a : Nat} (ha : a < s.size) : tailB (s.data.toList.drop a) = (letB (s[a]).toNat && (s.data.toList.drop a).all insU) := by
  rw [drop_at s a ha]; rfl
theorem tl_bad {s : ByteArray} {a k : Nat} (hak : a ≤ k) (hk : k < s.size) (h : insB (s[k]).toNat = false) : tailB (s.data.toList.drop a) = false := by
  rw [tl_first (by omega), Bool.and_eq_false_iff]
  right
  rw [List.all_eq_false]
  refine ⟨s[k], ?_, by unfold insU; rw [h]; simp⟩
  refine List.mem_of_getElem? (i := k - a) ?_
  rw [List.getElem?_drop, show a + (k - a) = k by omega, List.getElem?_eq_getElem (by simpa using hk)]; rfl
theorem tl_good {s : ByteArray} {a : Nat} (ha : a < s.size) (h1 : letB (s[a]).toNat = true) (h : ∀ j, a ≤ j → j < s.size → insB (ch s j) = true) : tailB (s.data.toList.drop a) = true := by
  rw [tl_first ha, h1, Bool.true_and, List.all_eq_true]
  intro x hx
  obtain ⟨j, hj, rfl⟩ := List.mem_iff_getElem.1 hx
  have hj' : a + j < s.size := by simp at hj; omega
  have := h (a + j) (by omega) hj'
  unfold insU
  rw [List.getElem_drop]
  rw [← ch_at s (a + j) hj'] at this
  exact this
theorem id_sign {s : ByteArray} (h : s.size ≤ 32) (h0 : 0 < s.size) (hs : ch s 0 = 35 ∨ ch s 0 = 95) (hr : resB s = false) : identB s = tailB (s.data.toList.drop 1) := by
  unfold identB idT
  rw [if_pos ⟨h0, hs⟩, hr, Lib.extract_to_end]
  simp [h]
theorem id_plain {s : ByteArray} (h : s.size ≤ 32) (hs : ¬ (ch s 0 = 35 ∨ ch s 0 = 95)) (hr : resB s = false) : identB s = tailB (s.data.toList.drop 0) := by
  unfold identB idT
  rw [if_neg (fun x => hs x.2), hr, List.drop_zero]
  simp [h]
theorem id_res {s : ByteArray} (hr : resB s = true) : identB s = false := by unfold identB; rw [hr]; simp
theorem id_long {s : ByteArray} (h : ¬ s.size ≤ 32) : identB s = false := by unfold identB; simp [h]
theorem id_nil {s : ByteArray} (h : s.size = 0) : identB s = false := by
  unfold identB idT
  rw [if_neg (by omega), tail_nil s h]; simp
theorem ins_let {n : Nat} (h : letB n = true) : insB n = true := by unfold insB; rw [h]; rfl
theorem ins_dig {n : Nat} (h : digB n = true) : insB n = true := by unfold insB; unfold digB at h; rw [h]; simp
theorem ins_und {n : Nat} (h : n = 95) : insB n = true := by subst h; decide
theorem ins_no {n : Nat} (h1 : letB n = false) (h2 : digB n = false) (h3 : n ≠ 95) : insB n = false := by unfold insB; unfold digB at h2; rw [h1, h2]; simp [h3]
set_option maxRecDepth 100000 in
set_option maxHeartbeats 4000000 in
theorem rident_any (s : ByteArray) (w : World) :
    Calls Tryd.prog 44 #[.string s] w fun e w' => e = .returned (.bool (identB s)) ∧ Below w.heap.size w w' := by
  by_cases h32 : s.size ≤ 32
  · by_cases h0 : s.size = 0
    · rw [id_nil h0]
      have hz : (s.size : Int) < 1 := by omega
      clear h0 h32
      go_enter Tryd.func44, Tryd.ntmps44
      go_wp2_with fail
      go_ret
      exact ⟨rfl, Below.refl _ _⟩
    · have hp : 0 < s.size := by omega
      have hz1 : (1 : Int) ≤ (s.size : Int) := by omega
      have hz2 : (s.size : Int) ≤ 32 := by omega
      obtain ⟨I, hI⟩ : ∃ I, I = identB s := ⟨_, rfl⟩
      rw [← hI]
      have HI := Lib.hid hI
      clear hI h0
      go_enter Tryd.func44, Tryd.ntmps44
      go_wp2_with fail
      refine (rwords_any _).mono ?_
      rintro e w1 ⟨rfl, rfl⟩
      have HC := Lib.hid (fun k (h : k < 13) => words_cell w k h)
      have hB := (Below.refl w.heap.size w).alloc (Nat.le_refl _) (.cells wordsV 9)
      have hsz : w.heap.size < (w.alloc (.cells wordsV 9)).heap.size := by simp
      generalize w.alloc (.cells wordsV 9) = W at *
      have HBW := Lib.hid hB
      obtain ⟨G, hG⟩ : ∃ G, G = w.heap.size := ⟨_, rfl⟩
      rw [← hG] at HC hsz ⊢
      clear hB hG
      go_wp2_with fail
      go_loop [17] (fun i => ∃ k : Nat, k ≤ 13 ∧ i = .int .i64 (k : Int) ∧ Hid (∀ j, j < k → (s.toList == (wdB j).toList) = false)) (fun i => 13 - (intOf i).toNat)
      case atStart => exact ⟨0, by omega, rfl, Lib.hid (by intro j hj; omega)⟩
      case round =>
        obtain ⟨k, hk, rfl, HN⟩ := hrel
        by_cases hlt : k < 13
        · have ck := HC.out k hlt
          cases hq : (s.toList == (wdB k).toList) with
          | true =>
            have HR := Lib.hid (id_res (res_true hlt hq))
            go_wp2_with fail
            go_ret
            exact ⟨by rw [HI.out, HR.out] <;> rfl, HBW.out⟩
          | false =>
            go_wp2_with fail
            go_round
            case rel =>
              refine ⟨k + 1, by omega, by go_num, Lib.hid ?_⟩
              intro j hj
              by_cases hjk : j = k
              · subst hjk; exact hq
              · exact HN.out j (by omega)
            case measure => simp [intOf]; omega
        · obtain rfl : k = 13 := by omega
          have HR := Lib.hid (res_false HN.out)
          clear hlt hk HN HC
          by_cases c35 : (s[0]).toNat = 35
          · have x35 : (((s[0]).toNat : Int) == 35) = true := by rw [c35]; rfl
            have C0 := Lib.hid (show ch s 0 = 35 ∨ ch s 0 = 95 from .inl (by rw [← ch_at s 0 hp]; exact c35))
            clear c35
            have HT : Hid (I = tailB (s.data.toList.drop 1)) := by
              show I = _
              rw [HI.out]; exact id_sign h32 hp C0.out HR.out
            clear HI HR
            by_cases ha : 1 < s.size
            · cases hl : letB (s[1]).toNat with
              | false =>
                have HL := Lib.hid hl
                clear hl
                go_wp2_with fail
                refine (rletter_at _ false HL.out _).mono ?_
                rintro e w1 ⟨rfl, rfl⟩
                go_wp2_with fail
                go_ret
                exact ⟨by rw [HT.out, tl_first ha, HL.out]; rfl, HBW.out⟩
              | true =>
                have HL := Lib.hid hl
                clear hl
                go_wp2_with fail
                refine (rletter_at _ true HL.out _).mono ?_
                rintro e w1 ⟨rfl, rfl⟩
                go_wp2_with fail
                go_loop [6] (fun i => ∃ k : Nat, 1 ≤ k ∧ k ≤ s.size ∧ i = .int .i64 (k : Int) ∧ Hid (∀ j, 1 ≤ j → j < k → insB (ch s j) = true)) (fun i => s.size - (intOf i).toNat)
                case atStart => exact ⟨1, by omega, by omega, rfl, Lib.hid (by intro j h1 h2; omega)⟩
                case round =>
                  obtain ⟨k, hak, hk, rfl, HA⟩ := hrel
                  by_cases hlt : k < s.size
                  · have hnext : insB (s[k]).toNat = true → Hid (∀ j, 1 ≤ j → j < k + 1 → insB (ch s j) = true) := by
                      intro h
                      refine Lib.hid ?_
                      intro j h1 h2
                      by_cases hjk : j = k
                      · subst hjk; rw [← ch_at s j hlt]; exact h
                      · exact HA.out j h1 (by omega)
                    have HX := Lib.hid hnext
                    clear hnext
                    cases hlk : letB (s[k]).toNat with
                    | true =>
                      have HK := Lib.hid hlk
                      clear hlk
                      go_wp2_with fail
                      refine (rletter_at _ true HK.out _).mono ?_
                      rintro e w1 ⟨rfl, rfl⟩
                      go_wp2_with fail
                      go_round
                      case rel => exact ⟨k + 1, by omega, by omega, by go_num, HX.out (ins_let HK.out)⟩
                      case measure => simp [intOf]; omega
                    | false =>
                      have HK := Lib.hid hlk
                      clear hlk
                      cases hdk : digB (s[k]).toNat with
                      | true =>
                        have HD := Lib.hid hdk
                        clear hdk
                        go_wp2_with fail
                        refine (rletter_at _ false HK.out _).mono ?_
                        rintro e w1 ⟨rfl, rfl⟩
                        go_wp2_with fail
                        refine (rdigit_at _ true HD.out _).mono ?_
                        rintro e w1 ⟨rfl, rfl⟩
                        go_wp2_with fail
                        go_round
                        case rel => exact ⟨k + 1, by omega, by omega, by go_num, HX.out (ins_dig HD.out)⟩
                        case measure => simp [intOf]; omega
                      | false =>
                        have HD := Lib.hid hdk
                        clear hdk
                        by_cases h95 : (s[k]).toNat = 95
                        · have x95 : (((s[k]).toNat : Int) != 95) = false := by rw [h95]; rfl
                          have H9 := Lib.hid h95
                          clear h95
                          go_wp2_with fail
                          refine (rletter_at _ false HK.out _).mono ?_
                          rintro e w1 ⟨rfl, rfl⟩
                          go_wp2_with fail
                          refine (rdigit_at _ false HD.out _).mono ?_
                          rintro e w1 ⟨rfl, rfl⟩
                          go_wp2_with fail
                          go_round
                          case rel => exact ⟨k + 1, by omega, by omega, by go_num, HX.out (ins_und H9.out)⟩
                          case measure => simp [intOf]; omega
                        · have x95 : (((s[k]).toNat : Int) != 95) = true := by simp; omega
                          have HF := Lib.hid (tl_bad hak hlt (ins_no HK.out HD.out h95))
                          clear h95
                          go_wp2_with fail
                          refine (rletter_at _ false HK.out _).mono ?_
                          rintro e w1 ⟨rfl, rfl⟩
                          go_wp2_with fail
                          refine (rdigit_at _ false HD.out _).mono ?_
                          rintro e w1 ⟨rfl, rfl⟩
                          go_wp2_with fail
                          go_ret
                          exact ⟨by rw [HT.out, HF.out] <;> rfl, HBW.out⟩
                  · have hke : k = s.size := by omega
                    have HG := Lib.hid (tl_good ha HL.out (by rw [← hke]; exact HA.out))
                    clear hke
                    go_wp2_with fail
                    go_ret
                    exact ⟨by rw [HT.out, HG.out] <;> rfl, HBW.out⟩
            · have HN := Lib.hid (tl_none (s := s) (a := 1) (by omega))
              have hle : (s.size : Int) ≤ 1 := by omega
              go_wp2_with fail
              go_ret
              exact ⟨by rw [HT.out, HN.out] <;> rfl, HBW.out⟩
          · have x35 : (((s[0]).toNat : Int) == 35) = false := beq_eq_false_iff_ne.2 (by omega)
            by_cases c95 : (s[0]).toNat = 95
            · have x95 : (((s[0]).toNat : Int) == 95) = true := by rw [c95]; rfl
              have C0 := Lib.hid (show ch s 0 = 35 ∨ ch s 0 = 95 from .inr (by rw [← ch_at s 0 hp]; exact c95))
              clear c35 c95
              have HT : Hid (I = tailB (s.data.toList.drop 1)) := by
                show I = _
                rw [HI.out]; exact id_sign h32 hp C0.out HR.out
              clear HI HR
              by_cases ha : 1 < s.size
              · cases hl : letB (s[1]).toNat with
                | false =>
                  have HL := Lib.hid hl
                  clear hl
                  go_wp2_with fail
                  refine (rletter_at _ false HL.out _).mono ?_
                  rintro e w1 ⟨rfl, rfl⟩
                  go_wp2_with fail
                  go_ret
                  exact ⟨by rw [HT.out, tl_first ha, HL.out]; rfl, HBW.out⟩
                | true =>
                  have HL := Lib.hid hl
                  clear hl
                  go_wp2_with fail
                  refine (rletter_at _ true HL.out _).mono ?_
                  rintro e w1 ⟨rfl, rfl⟩
                  go_wp2_with fail
                  go_loop [6] (fun i => ∃ k : Nat, 1 ≤ k ∧ k ≤ s.size ∧ i = .int .i64 (k : Int) ∧ Hid (∀ j, 1 ≤ j → j < k → insB (ch s j) = true)) (fun i => s.size - (intOf i).toNat)
                  case atStart => exact ⟨1, by omega, by omega, rfl, Lib.hid (by intro j h1 h2; omega)⟩
                  case round =>
                    obtain ⟨k, hak, hk, rfl, HA⟩ := hrel
                    by_cases hlt : k < s.size
                    · have hnext : insB (s[k]).toNat = true → Hid (∀ j, 1 ≤ j → j < k + 1 → insB (ch s j) = true) := by
                        intro h
                        refine Lib.hid ?_
                        intro j h1 h2
                        by_cases hjk : j = k
                        · subst hjk; rw [← ch_at s j hlt]; exact h
                        · exact HA.out j h1 (by omega)
                      have HX := Lib.hid hnext
                      clear hnext
                      cases hlk : letB (s[k]).toNat with
                      | true =>
                        have HK := Lib.hid hlk
                        clear hlk
                        go_wp2_with fail
                        refine (rletter_at _ true HK.out _).mono ?_
                        rintro e w1 ⟨rfl, rfl⟩
                        go_wp2_with fail
                        go_round
                        case rel => exact ⟨k + 1, by omega, by omega, by go_num, HX.out (ins_let HK.out)⟩
                        case measure => simp [intOf]; omega
                      | false =>
                        have HK := Lib.hid hlk
                        clear hlk
                        cases hdk : digB (s[k]).toNat with
                        | true =>
                          have HD := Lib.hid hdk
                          clear hdk
                          go_wp2_with fail
                          refine (rletter_at _ false HK.out _).mono ?_
                          rintro e w1 ⟨rfl, rfl⟩
                          go_wp2_with fail
                          refine (rdigit_at _ true HD.out _).mono ?_
                          rintro e w1 ⟨rfl, rfl⟩
                          go_wp2_with fail
                          go_round
                          case rel => exact ⟨k + 1, by omega, by omega, by go_num, HX.out (ins_dig HD.out)⟩
                          case measure => simp [intOf]; omega
                        | false =>
                          have HD := Lib.hid hdk
                          clear hdk
                          by_cases h95 : (s[k]).toNat = 95
                          · have x95 : (((s[k]).toNat : Int) != 95) = false := by rw [h95]; rfl
                            have H9 := Lib.hid h95
                            clear h95
                            go_wp2_with fail
                            refine (rletter_at _ false HK.out _).mono ?_
                            rintro e w1 ⟨rfl, rfl⟩
                            go_wp2_with fail
                            refine (rdigit_at _ false HD.out _).mono ?_
                            rintro e w1 ⟨rfl, rfl⟩
                            go_wp2_with fail
                            go_round
                            case rel => exact ⟨k + 1, by omega, by omega, by go_num, HX.out (ins_und H9.out)⟩
                            case measure => simp [intOf]; omega
                          · have x95 : (((s[k]).toNat : Int) != 95) = true := by simp; omega
                            have HF := Lib.hid (tl_bad hak hlt (ins_no HK.out HD.out h95))
                            clear h95
                            go_wp2_with fail
                            refine (rletter_at _ false HK.out _).mono ?_
                            rintro e w1 ⟨rfl, rfl⟩
                            go_wp2_with fail
                            refine (rdigit_at _ false HD.out _).mono ?_
                            rintro e w1 ⟨rfl, rfl⟩
                            go_wp2_with fail
                            go_ret
                            exact ⟨by rw [HT.out, HF.out] <;> rfl, HBW.out⟩
                    · have hke : k = s.size := by omega
                      have HG := Lib.hid (tl_good ha HL.out (by rw [← hke]; exact HA.out))
                      clear hke
                      go_wp2_with fail
                      go_ret
                      exact ⟨by rw [HT.out, HG.out] <;> rfl, HBW.out⟩
              · have HN := Lib.hid (tl_none (s := s) (a := 1) (by omega))
                have hle : (s.size : Int) ≤ 1 := by omega
                go_wp2_with fail
                go_ret
                exact ⟨by rw [HT.out, HN.out] <;> rfl, HBW.out⟩
            · have x95 : (((s[0]).toNat : Int) == 95) = false := beq_eq_false_iff_ne.2 (by omega)
              have C0 := Lib.hid (show ¬ (ch s 0 = 35 ∨ ch s 0 = 95) by rw [← ch_at s 0 hp]; omega)
              clear c35 c95
              have HT : Hid (I = tailB (s.data.toList.drop 0)) := by
                show I = _
                rw [HI.out]; exact id_plain h32 C0.out HR.out
              clear HI HR
              have ha : 0 < s.size := hp
              have hge : ¬ s.size = 0 := by omega
              have hgd : decide ((s.size : Int) ≤ 0) = false := decide_eq_false (by omega)
              have hgi : ¬ (s.size : Int) ≤ 0 := by omega
              cases hl : letB (s[0]).toNat with
              | false =>
                have HL := Lib.hid hl
                clear hl
                go_wp2_with fail
                refine (rletter_at _ false HL.out _).mono ?_
                rintro e w1 ⟨rfl, rfl⟩
                go_wp2_with fail
                go_ret
                exact ⟨by rw [HT.out, tl_first ha, HL.out]; rfl, HBW.out⟩
              | true =>
                have HL := Lib.hid hl
                clear hl
                go_wp2_with fail
                refine (rletter_at _ true HL.out _).mono ?_
                rintro e w1 ⟨rfl, rfl⟩
                go_wp2_with fail
                go_loop [6] (fun i => ∃ k : Nat, 0 ≤ k ∧ k ≤ s.size ∧ i = .int .i64 (k : Int) ∧ Hid (∀ j, 0 ≤ j → j < k → insB (ch s j) = true)) (fun i => s.size - (intOf i).toNat)
                case atStart => exact ⟨0, by omega, by omega, rfl, Lib.hid (by intro j h1 h2; omega)⟩
                case round =>
                  obtain ⟨k, hak, hk, rfl, HA⟩ := hrel
                  by_cases hlt : k < s.size
                  · have hnext : insB (s[k]).toNat = true → Hid (∀ j, 0 ≤ j → j < k + 1 → insB (ch s j) = true) := by
                      intro h
                      refine Lib.hid ?_
                      intro j h1 h2
                      by_cases hjk : j = k
                      · subst hjk; rw [← ch_at s j hlt]; exact h
                      · exact HA.out j h1 (by omega)
                    have HX := Lib.hid hnext
                    clear hnext
                    cases hlk : letB (s[k]).toNat with
                    | true =>
                      have HK := Lib.hid hlk
                      clear hlk
                      go_wp2_with fail
                      refine (rletter_at _ true HK.out _).mono ?_
                      rintro e w1 ⟨rfl, rfl⟩
                      go_wp2_with fail
                      go_round
                      case rel => exact ⟨k + 1, by omega, by omega, by go_num, HX.out (ins_let HK.out)⟩
                      case measure => simp [intOf]; omega
                    | false =>
                      have HK := Lib.hid hlk
                      clear hlk
                      cases hdk : digB (s[k]).toNat with
                      | true =>
                        have HD := Lib.hid hdk
                        clear hdk
                        go_wp2_with fail
                        refine (rletter_at _ false HK.out _).mono ?_
                        rintro e w1 ⟨rfl, rfl⟩
                        go_wp2_with fail
                        refine (rdigit_at _ true HD.out _).mono ?_
                        rintro e w1 ⟨rfl, rfl⟩
                        go_wp2_with fail
                        go_round
                        case rel => exact ⟨k + 1, by omega, by omega, by go_num, HX.out (ins_dig HD.out)⟩
                        case measure => simp [intOf]; omega
                      | false =>
                        have HD := Lib.hid hdk
                        clear hdk
                        by_cases h95 : (s[k]).toNat = 95
                        · have x95 : (((s[k]).toNat : Int) != 95) = false := by rw [h95]; rfl
                          have H9 := Lib.hid h95
                          clear h95
                          go_wp2_with fail
                          refine (rletter_at _ false HK.out _).mono ?_
                          rintro e w1 ⟨rfl, rfl⟩
                          go_wp2_with fail
                          refine (rdigit_at _ false HD.out _).mono ?_
                          rintro e w1 ⟨rfl, rfl⟩
                          go_wp2_with fail
                          go_round
                          case rel => exact ⟨k + 1, by omega, by omega, by go_num, HX.out (ins_und H9.out)⟩
                          case measure => simp [intOf]; omega
                        · have x95 : (((s[k]).toNat : Int) != 95) = true := by simp; omega
                          have HF := Lib.hid (tl_bad hak hlt (ins_no HK.out HD.out h95))
                          clear h95
                          go_wp2_with fail
                          refine (rletter_at _ false HK.out _).mono ?_
                          rintro e w1 ⟨rfl, rfl⟩
                          go_wp2_with fail
                          refine (rdigit_at _ false HD.out _).mono ?_
                          rintro e w1 ⟨rfl, rfl⟩
                          go_wp2_with fail
                          go_ret
                          exact ⟨by rw [HT.out, HF.out] <;> rfl, HBW.out⟩
                  · have hke : k = s.size := by omega
                    have HG := Lib.hid (tl_good ha HL.out (by rw [← hke]; exact HA.out))
                    clear hke
                    go_wp2_with fail
                    go_ret
                    exact ⟨by rw [HT.out, HG.out] <;> rfl, HBW.out⟩
  · rw [id_long h32]
    have hz : (32 : Int) < (s.size : Int) := by omega
    clear h32
    go_enter Tryd.func44, Tryd.ntmps44
    go_wp2_with fail
    go_ret
    exact ⟨rfl, Below.refl _ _⟩
end Go.Proofs.YtaocgibfabofhaaDoor
