/-
  Path of the program. Condition: internal/bytealg.MaxLen holds some number.
-/
import Derived.Test.YthlcdimofagmfaaGreatDoorL1
import Derived.Test.YthlcdimofagmfaaGreatDoorVA
import Derived.Lib.SplitLaws
namespace Go.Proofs.YthlcdimofagmfaaGreatDoor
open Go.RowKit
set_option linter.unusedSimpArgs false
set_option linter.unnecessarySimpa false
set_option linter.unusedVariables false
theorem splitL_len (c : UInt8) : ∀ (l x : List UInt8), x ∈ splitL c l → x.length ≤ l.length
  | [], x, h => by simp [splitL] at h; subst h; simp
  | b :: l, x, h => by
    have ih := splitL_len c l
    by_cases hb : b = c
    · rw [splitL_eq hb] at h
      rcases List.mem_cons.1 h with rfl | h
      · simp
      · have := ih x h; simp; omega
    · rw [splitL_no hb] at h
      cases hs : splitL c l with
      | nil => rw [hs] at h; simp [glue] at h; subst h; simp
      | cons u v =>
        rw [hs] at h ih
        rcases List.mem_cons.1 h with rfl | h
        · have := ih u (by simp); simp; omega
        · have := ih x (by simp [h]); simp; omega
def SplitIs (c : UInt8) (s : ByteArray) (w : World) (e : Ending) (w' : World) : Prop :=
  ∃ L : List ByteArray, L.map (·.data.toList) = splitL c s.data.toList ∧ L.length ≤ s.size + 1 ∧ (∀ x ∈ L, x.size ≤ s.size) ∧ e = .returned (.slice (some ⟨w.heap.size, 0, none⟩) L.length L.length) ∧ w' = w.alloc (.cells (L.map Value.string).toArray 9)
theorem split_at (c : UInt8) (s : ByteArray) (hs : s.size ≤ 100000) (w : World) (hM : Mx w) : Calls Tryz.prog 116 #[.string s, .string ⟨#[c]⟩] w (SplitIs c s w) := by
  obtain ⟨_, m, hm⟩ := hM
  have h1 : 1 ≤ (⟨#[c]⟩ : ByteArray).size := Nat.le_refl 1
  refine (Tryz.strings_Split s ⟨#[c]⟩ m w (by omega) hm h1).mono ?_
  rintro e w' ⟨he, hw⟩
  have hl := Lib.splitB_all ⟨#[c]⟩ h1 0 _ s rfl
  have hc := Lib.countB_le ⟨#[c]⟩ h1 s.size s (Nat.le_refl _)
  refine ⟨_, splitB_one c s, by omega, fun x hx => ?_, by rw [he, hl], hw⟩
  have hm : x.data.toList ∈ splitL c s.data.toList := by rw [← splitB_one c s]; exact List.mem_map_of_mem hx
  have := splitL_len c _ _ hm
  simpa using this
theorem byte_cell (w : World) (L : List ByteArray) (k : Nat) (h : k < L.length) (w' : World) (hb : Below (w.heap.size + 1) (w.alloc (.cells (L.map Value.string).toArray 9)) w') :
    w'.cell? ⟨w.heap.size, k, none⟩ = some (.string L[k]) := by
  rw [hb.cell (p := ⟨w.heap.size, k, none⟩) (by show w.heap.size < w.heap.size + 1; omega)]
  simp [h]
theorem toL (x : ByteArray) : x.toList = x.data.toList := Go.ByteArray.toList_eq x
theorem partB_eq (x : ByteArray) (h : 0 < x.size) : partB x.data.toList = (letB (x[0]).toNat && x.data.toList.all fun c => insB c.toNat) := by
  have h1 : x.data.toList[0]? = some x[0] := List.getElem?_eq_getElem (by simpa using h)
  cases hx : x.data.toList with
  | nil => rw [hx] at h1; cases h1
  | cons b t =>
    rw [hx] at h1
    have e : b = x[0] := Option.some.inj h1
    rw [← e]; rfl
set_option maxRecDepth 100000 in
set_option maxHeartbeats 4000000 in
theorem path_any (s : ByteArray) (w : World) (hM : Mx w) : Calls Tryz.prog 78 #[.string s] w fun e w' => e = .returned (.bool (pathB s.data.toList)) ∧ Below w.heap.size w w' := by
  have hsl : s.data.toList.length = s.size := by simp
  by_cases hs : s.size ≤ 60
  · have HS := Lib.hid (split_at 47 s (by omega) w hM)
    have hp : pathB s.data.toList = (splitL 47 s.data.toList).all partB := by unfold pathB; rw [hsl, decide_eq_true hs]; rfl
    obtain ⟨R, hR⟩ : ∃ R, R = pathB s.data.toList := ⟨_, rfl⟩
    rw [← hR]
    rw [hp] at hR
    have HRR := Lib.hid hR
    clear hR
    have h60 : ¬ (60 : Int) < (s.size : Int) := by omega
    have h60' : s.size ≤ 60 := hs
    clear hp hsl hM hs
    go_enter Tryz.func78, Tryz.ntmps78
    go_wp2_with fail
    refine HS.out.mono ?_
    rintro e w1 ⟨L, hL, hn, hsz, rfl, rfl⟩
    have HSZ := Lib.hid hsz
    clear hsz
    have hL' : R = L.all fun x => partB x.data.toList := by rw [HRR.out, ← hL, List.all_map]; rfl
    have HE := Lib.hid hL'
    clear hL hL' HS HRR
    have hb0 : Below w.heap.size w (w.alloc (.cells (L.map Value.string).toArray 9)) := (Below.refl _ _).alloc (Nat.le_refl _) _
    have HB0 := Lib.hid hb0
    clear hb0
    have hn' : L.length ≤ 61 := by omega
    clear hn
    go_wp2_with fail
    go_loopw [4, 5, 12] (fun _ _ s12 wr => ∃ k : Nat, s12 = .int .i64 (k : Int) ∧ k ≤ L.length ∧ Hid ((L.take k).all (fun x => partB x.data.toList) = true) ∧ Hid (Below (w.heap.size + 1) (w.alloc (.cells (L.map Value.string).toArray 9)) wr)) (fun _ _ s12 _ => (L.length - intOf s12).toNat)
    case atStart => exact ⟨0, rfl, by omega, Lib.hid rfl, Lib.hid (Below.refl _ _)⟩
    case round =>
      obtain ⟨k, rfl, hk, HA, HB⟩ := hrel
      by_cases hlt : k < L.length
      · have hc := byte_cell w L k hlt _ HB.out
        have hkl : (k : Int) < (L.length : Int) := by omega
        have HT := Lib.hid (show (L.take (k + 1)).all (fun x => partB x.data.toList) = partB (L[k]).data.toList by
          rw [← List.take_append_getElem hlt, List.all_append, HA.out]; simp)
        have HF := Lib.hid (show partB (L[k]).data.toList = false → (L.all fun x => partB x.data.toList) = false from fun h => by
          rw [Bool.eq_false_iff]; intro hh
          rw [List.all_eq_true] at hh
          have := hh _ (List.getElem_mem hlt)
          rw [h] at this; cases this)
        have HBW := Lib.hid (show Below w.heap.size w wr from HB0.out.trans (HB.out.mono (by omega)))
        have hxs := HSZ.out L[k] (List.getElem_mem hlt)
        generalize L[k] = x at *
        by_cases hx : x.size = 0
        · have hxl : x.data.toList = [] := List.eq_nil_of_length_eq_zero (by simpa using hx)
          have hxe : x = ⟨#[]⟩ := ByteArray.ext (Array.ext' hxl)
          subst hxe
          have HR := Lib.hid (HF.out rfl)
          clear hx hxl HF HT
          go_wp2_with fail
          go_ret
          exact ⟨ret_bool (HE.out.trans HR.out).symm, HBW.out⟩
        · have hxp : 0 < x.size := by omega
          have hxi : x.toList.isEmpty = false := by
            rw [toL]; cases hh : x.data.toList with
            | nil => exact absurd (show x.size = 0 by rw [Lib.size_eq, hh]; rfl) (by omega)
            | cons _ _ => rfl
          have hxi2 : ¬ x.toList = [] := by intro hh; rw [hh] at hxi; cases hxi
          have HP := Lib.hid (partB_eq x hxp)
          cases hl : letB (x[0]).toNat with
          | false =>
            have HR := Lib.hid (HF.out (by rw [HP.out, hl]; rfl))
            have HL := Lib.hid hl
            clear hx HF HT HP hl
            go_wp2_with fail
            refine (letter_at _ _ HL.out _).mono ?_
            rintro e w2 ⟨rfl, rfl⟩
            go_wp2_with fail
            go_ret
            exact ⟨ret_bool (HE.out.trans HR.out).symm, HBW.out⟩
          | true =>
            have HP2 := Lib.hid (show partB x.data.toList = x.data.toList.all fun c => insB c.toNat by rw [HP.out, hl]; rfl)
            have HL := Lib.hid hl
            clear hx HP hl
            go_wp2_with fail
            refine (letter_at _ _ HL.out _).mono ?_
            rintro e w2 ⟨rfl, rfl⟩
            obtain ⟨wl, rfl⟩ : ∃ wl, wl = wr := ⟨_, rfl⟩
            clear hxi hxi2
            go_wp2_with fail
            go_loopw [5, 26] (fun _ s26 wr => ∃ j : Nat, s26 = .int .i64 (j : Int) ∧ j ≤ x.size ∧ Hid (∀ i, (h : i < x.size) → i < j → insB (x[i]).toNat = true) ∧ wr = wl) (fun _ s26 _ => (x.size - intOf s26).toNat)
            case atStart => exact ⟨0, rfl, by omega, Lib.hid (fun i _ h => absurd h (Nat.not_lt_zero _)), rfl⟩
            case round =>
              obtain ⟨j, rfl, hj, HI, rfl⟩ := hrel
              by_cases hjl : j < x.size
              · have hjl' : (j : Int) < (x.size : Int) := by omega
                cases hi : insB (x[j]).toNat with
                | true =>
                  have HIN := Lib.hid hi
                  clear hi
                  go_wp2_with fail
                  refine (inside_at _ _ HIN.out _).mono ?_
                  rintro e w3 ⟨rfl, rfl⟩
                  go_wp2_with fail
                  go_roundw
                  case rel => exact ⟨j + 1, by go_num, by omega, Lib.hid (fun i h hij => by
                    rcases Nat.lt_or_ge i j with h1 | h1
                    · exact HI.out i h h1
                    · obtain rfl : i = j := by omega
                      exact HIN.out), by first | rfl | trivial⟩
                  case measure => simp [intOf]; omega
                | false =>
                  have HIN := Lib.hid hi
                  have HR := Lib.hid (HF.out (by
                    rw [HP2.out, Bool.eq_false_iff]; intro hh
                    rw [List.all_eq_true] at hh
                    have := hh (x[j]) (by
                      have : x[j] = x.data.toList[j]'(by simpa using hjl) := rfl
                      rw [this]; exact List.getElem_mem _)
                    rw [hi] at this; cases this))
                  clear hi
                  go_wp2_with fail
                  refine (inside_at _ _ HIN.out _).mono ?_
                  rintro e w3 ⟨rfl, rfl⟩
                  go_wp2_with fail
                  go_ret
                  exact ⟨ret_bool (HE.out.trans HR.out).symm, HBW.out⟩
              · obtain rfl : j = x.size := by omega
                have HN := Lib.hid (show (L.take (k + 1)).all (fun x => partB x.data.toList) = true by
                  rw [HT.out, HP2.out, List.all_eq_true]
                  intro c hc
                  obtain ⟨i, hi, rfl⟩ := List.getElem_of_mem hc
                  exact HI.out i (by simpa using hi) (by simpa using hi))
                clear hjl
                go_wp2_with fail
                go_roundw
                case rel => exact ⟨k + 1, by go_num, by omega, HN, HB⟩
                case measure => simp [intOf]; omega
      · obtain rfl : k = L.length := by omega
        have HBW := Lib.hid (show Below w.heap.size w wr from HB0.out.trans (HB.out.mono (by omega)))
        have HR := Lib.hid (show (L.all fun x => partB x.data.toList) = true by have := HA.out; rwa [List.take_length] at this)
        clear HA
        go_wp2_with fail
        go_ret
        exact ⟨ret_bool (HE.out.trans HR.out).symm, HBW.out⟩
  · have h60 : (60 : Int) < (s.size : Int) := by omega
    have hp : pathB s.data.toList = false := by unfold pathB; rw [hsl, decide_eq_false hs]; rfl
    rw [hp]
    clear hp hsl hM hs
    go_enter Tryz.func78, Tryz.ntmps78
    go_wp2_with fail
    go_ret
    exact ⟨rfl, Below.refl _ _⟩
end Go.Proofs.YthlcdimofagmfaaGreatDoor
