/-
  Owner of the specification. At most 100000 modules, a path of at most 140737488355328 bytes.
-/
import Derived.Test.YtmmghdicjpfdoaaGreatDoorOL
namespace Go.Proofs.YtmmghdicjpfdoaaGreatDoor
open Go.RowKit Go.Sort Go.Lib Go.Shelf Go.Proofs
set_option linter.unusedSimpArgs false
set_option linter.unnecessarySimpa false
set_option linter.unusedVariables false
theorem size_of_eq {s p : ByteArray} (h : (p.toList == s.toList) = true) : p.size = s.size := by
  rw [beq_iff_eq, Go.ByteArray.toList_eq, Go.ByteArray.toList_eq] at h
  have := congrArg List.length h
  simpa using this
theorem step_none {path : List UInt8} {l : List Md} {k : Nat} {R b : Best} (hlt : k < l.length) (hK : R = ownL path (pathsL (l.drop k)) k b) (h : belowL path l[k].1.data.toList = none) : R = ownL path (pathsL (l.drop (k + 1))) (k + 1) b := by
  rw [hK, own_step path l k hlt b, h]
theorem step_yes0 {path : List UInt8} {l : List Md} {k : Nat} {R : Best} {r : List UInt8} (hlt : k < l.length) (hK : R = ownL path (pathsL (l.drop k)) k none) (h : belowL path l[k].1.data.toList = some r) : R = ownL path (pathsL (l.drop (k + 1))) (k + 1) (some (k, l[k].1.size, r)) := by
  rw [hK, own_step path l k hlt none, h]; rfl
theorem step_yes1 {path : List UInt8} {l : List Md} {k i n : Nat} {R : Best} {r r0 : List UInt8} (hlt : k < l.length) (hK : R = ownL path (pathsL (l.drop k)) k (some (i, n, r0))) (h : belowL path l[k].1.data.toList = some r) (hn : n < l[k].1.size) : R = ownL path (pathsL (l.drop (k + 1))) (k + 1) (some (k, l[k].1.size, r)) := by
  rw [hK, own_step path l k hlt _, h]; simp [hn]
theorem step_no {path : List UInt8} {l : List Md} {k i n : Nat} {R : Best} {r0 : List UInt8} (hlt : k < l.length) (hK : R = ownL path (pathsL (l.drop k)) k (some (i, n, r0))) (hn : ¬ n < l[k].1.size) : R = ownL path (pathsL (l.drop (k + 1))) (k + 1) (some (i, n, r0)) := by
  rw [hK, own_step path l k hlt _]
  cases belowL path l[k].1.data.toList with
  | none => rfl
  | some r => simp [hn]
set_option maxRecDepth 100000 in
set_option maxHeartbeats 4000000 in
theorem rowner_any (path : ByteArray) (A : Option Addr) (c : Nat) (l : List Md) (w : World) (hR : RM w w.heap.size A l) (hl : l.length ≤ 100000) (hpp : path.size ≤ 140737488355328) :
    Calls Tryz.prog 28 #[.slice A l.length c, .string path] w fun e w' => e = .returned (ownOut (ownL path.data.toList (pathsL l) 0 none)) ∧ Below w.heap.size w w' := by
  obtain ⟨R, hRR⟩ : ∃ R, R = ownL path.data.toList (pathsL l) 0 none := ⟨_, rfl⟩
  rw [← hRR]
  have HN := Lib.hid hRR
  have HRE := Lib.hid hR
  clear hR hRR
  go_enter Tryz.func28, Tryz.ntmps28
  go_wp2_with fail
  go_loopw [6, 7, 8, 9, 10, 11, 14] (fun s6 s7 _ _ _ _ s14 wr => ∃ (k : Nat) (b : Best), s14 = .int .i64 (k : Int) ∧ k ≤ l.length ∧ BestIs l b s6 s7 ∧ Hid (R = ownL path.data.toList (pathsL (l.drop k)) k b) ∧ Hid (Below w.heap.size w wr)) (fun _ _ _ _ _ _ s14 _ => (l.length - intOf s14).toNat)
  case atStart => exact ⟨0, none, rfl, by omega, ⟨rfl, rfl⟩, Lib.hid (by rw [List.drop_zero]; exact HN.out), Lib.hid (Below.refl _ _)⟩
  case round =>
    obtain ⟨k, bb, rfl, hk, hbb, HK, HW⟩ := hrel
    by_cases hlt : k < l.length
    · obtain ⟨g, o, hA, hgl, c0, c1, c2, c3⟩ := HRE.out.four k hlt
      subst hA
      rw [← HW.out.cell (p := ⟨g, o + k * 4, none⟩) hgl] at c0
      rw [← HW.out.cell (p := ⟨g, o + k * 4 + 1, none⟩) hgl] at c1
      rw [← HW.out.cell (p := ⟨g, o + k * 4 + 2, none⟩) hgl] at c2
      rw [← HW.out.cell (p := ⟨g, o + k * 4 + 3, none⟩) hgl] at c3
      have HB := Lib.hid (HW.out.alloc HW.out.size (.cells #[.string l[k].1, .int .i64 l[k].2.1, .int .i64 l[k].2.2.1, .int .i64 l[k].2.2.2] 25))
      have hkl : (k : Int) < (l.length : Int) := by omega
      have HLT := Lib.hid hlt
      cases hd : (l[k].1.toList == path.toList) with
      | true =>
        have hdp : l[k].1.toList = path.toList := by simpa using hd
        cases bb with
        | none =>
          obtain ⟨rfl, rfl⟩ := hbb
          have HST := Lib.hid (step_yes0 hlt HK.out (below_eq hd))
          clear HK
          go_wp2_with fail
          go_roundw
          case rel => exact ⟨k + 1, some (k, l[k].1.size, []), by go_num, by omega, ⟨rfl, rfl, hlt, rfl⟩, HST, HB⟩
          case measure => simp [intOf]; omega
        | some q =>
          obtain ⟨i, n, r0⟩ := q
          obtain ⟨rfl, rfl, hi, rfl⟩ := hbb
          obtain ⟨g', o', hA', _, d0, _, _, _⟩ := HRE.out.four i hi
          simp only [Option.some.injEq, Addr.mk.injEq] at hA'
          obtain ⟨rfl, rfl, _⟩ := hA'
          rw [← HB.out.cell (p := ⟨g, o + i * 4, none⟩) hgl] at d0
          have hil : (i : Int) < (l.length : Int) := by omega
          have hi0 : ¬ (i : Int) < 0 := by omega
          by_cases hn : l[i].1.size < l[k].1.size
          · have hnn : decide ((l[i].1.size : Int) < (l[k].1.size : Int)) = true := by simpa using hn
            have HST := Lib.hid (step_yes1 hlt HK.out (below_eq hd) hn)
            clear HK
            go_wp2_with fail
            go_roundw
            case rel => exact ⟨k + 1, some (k, l[k].1.size, []), by go_num, by omega, ⟨rfl, rfl, hlt, rfl⟩, HST, HB⟩
            case measure => simp [intOf]; omega
          · have hnn : decide ((l[i].1.size : Int) < (l[k].1.size : Int)) = false := by simpa using hn
            have HST := Lib.hid (step_no hlt HK.out hn)
            have hzz := size_of_eq hd
            have hz : ¬ l[k].1.size < path.size := by omega
            have hzi : ¬ (l[k].1.size : Int) < (path.size : Int) := by omega
            clear HK
            go_wp2_with fail
            go_roundw
            case rel => exact ⟨k + 1, some (i, l[i].1.size, r0), by go_num, by omega, ⟨rfl, rfl, hi, rfl⟩, HST, HB⟩
            case measure => simp [intOf]; omega
      | false =>
        have hdp : ¬ l[k].1.toList = path.toList := by simpa using hd
        cases bb with
        | none =>
          obtain ⟨rfl, rfl⟩ := hbb
          by_cases hz : l[k].1.size < path.size
          · have hzi : (l[k].1.size : Int) < (path.size : Int) := by omega
            by_cases ha : (path.extract 0 l[k].1.size).toList = l[k].1.toList
            · by_cases hb : ((path[l[k].1.size]'hz).toNat : Int) = 47
              · have HST := Lib.hid (step_yes0 hlt HK.out (below_yes hd hz ha hb))
                have hro := rest_of path (l[k].1.size + 1)
                clear HK
                go_wp2_with fail
                go_quiet (fail)
                have HBQ := Lib.hid (HB.out.trans ((drewB _ nq).mono HB.out.size))
                go_wp2_with fail
                go_roundw
                case rel => exact ⟨k + 1, some (k, l[k].1.size, path.data.toList.drop (l[k].1.size + 1)), by go_num, by omega, ⟨rfl, by first | rfl | (simp only [hro]) | (rw [← hro]; rfl), hlt, rfl⟩, HST, HBQ⟩
                case measure => simp [intOf]; omega
              · have HST := Lib.hid (step_none hlt HK.out (below_no2 hd hz hb))
                clear HK
                go_wp2_with fail
                go_roundw
                case rel => exact ⟨k + 1, none, by go_num, by omega, ⟨rfl, rfl⟩, HST, HB⟩
                case measure => simp [intOf]; omega
            · have HST := Lib.hid (step_none hlt HK.out (below_no1 hd hz ha))
              clear HK
              go_wp2_with fail
              go_roundw
              case rel => exact ⟨k + 1, none, by go_num, by omega, ⟨rfl, rfl⟩, HST, HB⟩
              case measure => simp [intOf]; omega
          · have hzi : ¬ (l[k].1.size : Int) < (path.size : Int) := by omega
            have HST := Lib.hid (step_none hlt HK.out (below_no3 hd hz))
            clear HK
            go_wp2_with fail
            go_roundw
            case rel => exact ⟨k + 1, none, by go_num, by omega, ⟨rfl, rfl⟩, HST, HB⟩
            case measure => simp [intOf]; omega
        | some q =>
          obtain ⟨i, n, r0⟩ := q
          obtain ⟨rfl, rfl, hi, rfl⟩ := hbb
          obtain ⟨g', o', hA', _, d0, _, _, _⟩ := HRE.out.four i hi
          simp only [Option.some.injEq, Addr.mk.injEq] at hA'
          obtain ⟨rfl, rfl, _⟩ := hA'
          rw [← HB.out.cell (p := ⟨g, o + i * 4, none⟩) hgl] at d0
          have hil : (i : Int) < (l.length : Int) := by omega
          have hi0 : ¬ (i : Int) < 0 := by omega
          by_cases hn : l[i].1.size < l[k].1.size
          · have hnn : decide ((l[i].1.size : Int) < (l[k].1.size : Int)) = true := by simpa using hn
            by_cases hz : l[k].1.size < path.size
            · have hzi : (l[k].1.size : Int) < (path.size : Int) := by omega
              by_cases ha : (path.extract 0 l[k].1.size).toList = l[k].1.toList
              · by_cases hb : ((path[l[k].1.size]'hz).toNat : Int) = 47
                · have HST := Lib.hid (step_yes1 hlt HK.out (below_yes hd hz ha hb) hn)
                  have hro := rest_of path (l[k].1.size + 1)
                  clear HK
                  go_wp2_with fail
                  go_quiet (fail)
                  have HBQ := Lib.hid (HB.out.trans ((drewB _ nq).mono HB.out.size))
                  go_wp2_with fail
                  go_roundw
                  case rel => exact ⟨k + 1, some (k, l[k].1.size, path.data.toList.drop (l[k].1.size + 1)), by go_num, by omega, ⟨rfl, by first | rfl | (simp only [hro]) | (rw [← hro]; rfl), hlt, rfl⟩, HST, HBQ⟩
                  case measure => simp [intOf]; omega
                · have HST := Lib.hid (step_none hlt HK.out (below_no2 hd hz hb))
                  clear HK
                  go_wp2_with fail
                  go_roundw
                  case rel => exact ⟨k + 1, some (i, l[i].1.size, r0), by go_num, by omega, ⟨rfl, rfl, hi, rfl⟩, HST, HB⟩
                  case measure => simp [intOf]; omega
              · have HST := Lib.hid (step_none hlt HK.out (below_no1 hd hz ha))
                clear HK
                go_wp2_with fail
                go_roundw
                case rel => exact ⟨k + 1, some (i, l[i].1.size, r0), by go_num, by omega, ⟨rfl, rfl, hi, rfl⟩, HST, HB⟩
                case measure => simp [intOf]; omega
            · have hzi : ¬ (l[k].1.size : Int) < (path.size : Int) := by omega
              have HST := Lib.hid (step_none hlt HK.out (below_no3 hd hz))
              clear HK
              go_wp2_with fail
              go_roundw
              case rel => exact ⟨k + 1, some (i, l[i].1.size, r0), by go_num, by omega, ⟨rfl, rfl, hi, rfl⟩, HST, HB⟩
              case measure => simp [intOf]; omega
          · have hnn : decide ((l[i].1.size : Int) < (l[k].1.size : Int)) = false := by simpa using hn
            by_cases hz : l[k].1.size < path.size
            · have hzi : (l[k].1.size : Int) < (path.size : Int) := by omega
              have HST := Lib.hid (step_no hlt HK.out hn)
              clear HK
              by_cases ha : (path.extract 0 l[k].1.size).toList = l[k].1.toList
              · by_cases hb : ((path[l[k].1.size]'hz).toNat : Int) = 47
                · go_wp2_with fail
                  go_roundw
                  case rel => exact ⟨k + 1, some (i, l[i].1.size, r0), by go_num, by omega, ⟨rfl, rfl, hi, rfl⟩, HST, HB⟩
                  case measure => simp [intOf]; omega
                · go_wp2_with fail
                  go_roundw
                  case rel => exact ⟨k + 1, some (i, l[i].1.size, r0), by go_num, by omega, ⟨rfl, rfl, hi, rfl⟩, HST, HB⟩
                  case measure => simp [intOf]; omega
              · go_wp2_with fail
                go_roundw
                case rel => exact ⟨k + 1, some (i, l[i].1.size, r0), by go_num, by omega, ⟨rfl, rfl, hi, rfl⟩, HST, HB⟩
                case measure => simp [intOf]; omega
            · have hzi : ¬ (l[k].1.size : Int) < (path.size : Int) := by omega
              have HST := Lib.hid (step_none hlt HK.out (below_no3 hd hz))
              clear HK
              go_wp2_with fail
              go_roundw
              case rel => exact ⟨k + 1, some (i, l[i].1.size, r0), by go_num, by omega, ⟨rfl, rfl, hi, rfl⟩, HST, HB⟩
              case measure => simp [intOf]; omega
    · have HR1 := Lib.hid (show R = bb by rw [HK.out, own_end _ l k hlt])
      have hkl : ¬ (k : Int) < (l.length : Int) := by omega
      clear HK HN hlt
      cases bb with
      | none =>
        obtain ⟨rfl, rfl⟩ := hbb
        go_wp2_with fail
        refine bodyPost_ret (v := .tuple #[.int .i64 (-1), .string ⟨#[]⟩]) (by simp [results, Tryz.results28, go_sem]) rfl ⟨by rw [HR1.out]; rfl, HW.out⟩
      | some q =>
        obtain ⟨i, n, r0⟩ := q
        obtain ⟨rfl, rfl, hi, rfl⟩ := hbb
        go_wp2_with fail
        refine bodyPost_ret (v := .tuple #[.int .i64 (i : Int), .string ⟨r0.toArray⟩]) (by simp [results, Tryz.results28, go_sem]) rfl ⟨by rw [HR1.out]; rfl, HW.out⟩
end Go.Proofs.YtmmghdicjpfdoaaGreatDoor
