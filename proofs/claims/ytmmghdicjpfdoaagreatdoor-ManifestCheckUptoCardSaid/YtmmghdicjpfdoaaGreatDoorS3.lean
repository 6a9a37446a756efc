/-
  Whether two modules have one path, and Check, of the program. Condition: internal/bytealg.MaxLen holds some number; at most 90000 requirements.
-/
import Derived.Test.YtmmghdicjpfdoaaGreatDoorS2
import Derived.BigQuiet
import Derived.Deep.QuietTactic
namespace Go.Proofs.YtmmghdicjpfdoaaGreatDoor
open Go.RowKit Go.Sort Go.Lib Go.Shelf Go.Proofs
set_option linter.unusedSimpArgs false
set_option linter.unnecessarySimpa false
set_option linter.unusedVariables false
theorem nextB_drop (l : List Md) (k : Nat) (h : k + 1 < l.length) : nextB (l.drop k) = (decide (l[k].1 = l[k + 1].1) || nextB (l.drop (k + 1))) := by
  rw [List.drop_eq_getElem_cons (by omega : k < l.length), List.drop_eq_getElem_cons h]; rfl
theorem nextB_end (l : List Md) (k : Nat) (h : ¬ k + 1 < l.length) : nextB (l.drop k) = false := by
  have hl : (l.drop k).length ≤ 1 := by rw [List.length_drop]; omega
  match l.drop k, hl with
  | [], _ => rfl
  | [x], _ => rfl
theorem drewB (w : World) (n : Nat) : Below w.heap.size w (w.drewN n) := ((Gr.refl w).drewN n).below
set_option maxRecDepth 100000 in
set_option maxHeartbeats 4000000 in
theorem repeated_any (A : Option Addr) (c : Nat) (l : List Md) (w : World) (hR : RM w w.heap.size A l) (hf : Plain A c) (hl : l.length ≤ 100000) :
    Calls Tryz.prog 35 #[.slice A l.length c] w fun e w' => e = .returned (.bool (twiceB l)) ∧ Below w.heap.size w w' := by
  have K := Lib.hid (sorted_any A c l w hR hl hf)
  obtain ⟨R, hRR⟩ : ∃ R, R = twiceB l := ⟨_, rfl⟩
  have HN := Lib.hid (show R = nextB (sortM l) by rw [nextB_sorted _ (sortM_sorted l), twiceB_perm (sortM_perm l), hRR])
  rw [← hRR]
  have hls := sortM_length l
  obtain ⟨S, hS⟩ : ∃ S, S = sortM l := ⟨_, rfl⟩
  rw [← hS] at HN K hls
  have hsl : S.length ≤ 100000 := by omega
  clear hR hf hl hRR hS hls
  go_enter Tryz.func35, Tryz.ntmps35
  go_wp2_with fail
  refine K.out.mono ?_
  rintro e w1 ⟨A1, c1, rfl, hre, hpl, hb⟩
  have HRE := Lib.hid hre
  have HB := Lib.hid hb
  clear hre hpl hb K
  go_wp2_with fail
  go_loopw [3] (fun s3 wr => ∃ k : Nat, s3 = .int .i64 ((k : Int) + 1) ∧ k ≤ S.length ∧ Hid (R = nextB (S.drop k)) ∧ Hid (Below w1.heap.size w1 wr)) (fun s3 _ => (S.length + 1 - intOf s3).toNat)
  case atStart => exact ⟨0, rfl, by omega, Lib.hid (by rw [List.drop_zero]; exact HN.out), Lib.hid (Below.refl _ _)⟩
  case round =>
    obtain ⟨k, rfl, hk, HK, HW⟩ := hrel
    have HBW := Lib.hid (show Below w.heap.size w wr from HB.out.trans (HW.out.mono HB.out.size))
    by_cases hlt : k + 1 < S.length
    · obtain ⟨b, o, hA, hbl, c0, _, _, _⟩ := HRE.out.four k (by omega)
      obtain ⟨b', o', hA', _, d0, _, _, _⟩ := HRE.out.four (k + 1) hlt
      subst hA
      simp only [Option.some.injEq, Addr.mk.injEq] at hA'
      obtain ⟨rfl, rfl, _⟩ := hA'
      rw [← HW.out.cell (p := ⟨b, o + k * 4, none⟩) hbl] at c0
      rw [← HW.out.cell (p := ⟨b, o + (k + 1) * 4, none⟩) hbl] at d0
      have HD := Lib.hid (nextB_drop S k hlt)
      have hkl : (k : Int) + 1 < (S.length : Int) := by omega
      have t1 : IntKind.i64.wrap ((k : Int) + 1 - 1) = (k : Int) := by rw [show (k : Int) + 1 - 1 = k by omega]; exact IntWalk.i64_in _ (by omega)
      have t2 : ((k : Int) + 1).toNat = k + 1 := by omega
      by_cases he : (S[k]).1 = (S[k + 1]).1
      · have HR1 := Lib.hid (show R = true by rw [HK.out, HD.out, decide_eq_true he]; rfl)
        rw [he] at c0
        generalize (S[k + 1]).1 = p at *
        clear he HK HD HN
        go_wp2_with fail
        go_quiet (fail)
        have HBQ := Lib.hid (HBW.out.trans ((drewB wr nq).mono HBW.out.size))
        go_wp2_with fail
        go_ret
        exact ⟨ret_bool HR1.out.symm, HBQ.out⟩
      · have HR1 := Lib.hid (show R = nextB (S.drop (k + 1)) by rw [HK.out, HD.out, decide_eq_false he]; rfl)
        have q1 : ((S[k]).1.toList == (S[k + 1]).1.toList) = false := by
          rw [beq_eq_false_iff_ne, Go.ByteArray.toList_eq, Go.ByteArray.toList_eq]
          exact fun h => he (ByteArray.ext (Array.ext' h))
        generalize (S[k + 1]).1 = p at *
        generalize (S[k]).1 = p' at *
        clear he HK HD HN
        go_wp2_with fail
        go_quiet (fail)
        have HWQ := Lib.hid (HW.out.trans ((drewB wr nq).mono HW.out.size))
        clear t1 t2
        go_wp2_with fail
        go_roundw
        case rel => exact ⟨k + 1, by go_num, by omega, HR1, HWQ⟩
        case measure => simp [intOf]; omega
    · have HR1 := Lib.hid (show R = false by rw [HK.out, nextB_end S k hlt])
      have hkl : ¬ (k : Int) + 1 < (S.length : Int) := by omega
      clear HK HN hlt
      go_wp2_with fail
      go_ret
      exact ⟨ret_bool HR1.out.symm, HBW.out⟩
end Go.Proofs.YtmmghdicjpfdoaaGreatDoor
