/-
  below and Owner of the program. No conditions; at most 100000 modules.
  Owner of the program. At most 100000 modules, paths of at most 140737488355328 bytes.
-/
import Derived.Test.YtaeideimlagheaaGreatDoorS
import Derived.BigQuiet
import Derived.Deep.QuietTactic
namespace Go.Proofs.YtaeideimlagheaaGreatDoor
open Go.RowKit Go.Sort Go.Lib Go.Shelf Go.Proofs
set_option linter.unusedSimpArgs false
set_option linter.unnecessarySimpa false
set_option linter.unusedVariables false
theorem eqB {a b : ByteArray} : (a.toList == b.toList) = decide (a.data.toList = b.data.toList) := by
  rw [Go.ByteArray.toList_eq, Go.ByteArray.toList_eq]
  by_cases h : a.data.toList = b.data.toList
  · rw [h]; simp
  · rw [decide_eq_false h]; simpa using h
/-- what below answers: the rest, and whether -/
def belowOut (s p : ByteArray) : Value :=
  match belowL s.data.toList p.data.toList with
  | some r => .tuple #[.string ⟨r.toArray⟩, .bool true]
  | none => .tuple #[.string s, .bool false]
set_option maxRecDepth 100000 in
set_option maxHeartbeats 1000000 in
theorem below_any (s p : ByteArray) (w : World) (hps : p.size ≤ 140737488355328) : Calls Tryz.prog 57 #[.string s, .string p] w fun e w' => e = .returned (belowOut s p) ∧ w' = w := by
  have hd := eqB (a := s) (b := p)
  by_cases he : s.data.toList = p.data.toList
  · rw [decide_eq_true he] at hd
    have HO := Lib.hid (show belowOut s p = .tuple #[.string ⟨#[]⟩, .bool true] by unfold belowOut belowL; rw [if_pos he])
    clear he
    go_enter Tryz.func57, Tryz.ntmps57
    go_wp2_with fail
    refine bodyPost_ret (v := .tuple #[.string ⟨#[]⟩, .bool true]) (by simp [results, Tryz.results57, go_sem]) rfl ⟨congrArg _ HO.out.symm, rfl⟩
  · rw [decide_eq_false he] at hd
    have HO := Lib.hid (show belowOut s p = .tuple #[.string ⟨(Lib.trimPrefix s.data.toList (p.data.toList ++ [47])).toArray⟩, .bool (Lib.hasPrefix s.data.toList (p.data.toList ++ [47]))] by
      unfold belowOut belowL Lib.trimPrefix Lib.hasPrefix; rw [if_neg he]
      by_cases hp : (p.data.toList ++ [47]).isPrefixOf s.data.toList = true
      · rw [if_pos hp, if_pos hp, hp]; simp
      · rw [if_neg hp, if_neg hp, Bool.eq_false_iff.2 hp])
    clear he
    have hz : (p.size : Int) + 1 ≤ 9223372036854775807 := by omega
    have hz2 : p.size + 1 ≤ maxLen := by unfold maxLen; omega
    go_enter Tryz.func57, Tryz.ntmps57
    go_wp2_with fail
    refine (Tryz.strings_CutPrefix _ _ _).mono ?_
    rintro e w' ⟨rfl, rfl⟩
    have e3 : (p ++ (⟨#[47]⟩ : ByteArray)).data.toList = p.data.toList ++ [47] := by simp [ByteArray.data_append]
    rw [e3]
    go_wp2_with fail
    refine bodyPost_ret (v := .tuple #[_, _]) (by simp [results, Tryz.results57, go_sem]) rfl ⟨congrArg _ HO.out.symm, rfl⟩
end Go.Proofs.YtaeideimlagheaaGreatDoor
namespace Go.Proofs.YtaeideimlagheaaGreatDoor
open Go.RowKit Go.Sort Go.Lib Go.Shelf Go.Proofs
set_option linter.unusedSimpArgs false
set_option linter.unnecessarySimpa false
set_option linter.unusedVariables false
/-- the best so far -/
abbrev Best := Option (Nat × Nat × List UInt8)
def ownOut : Best → Value
  | none => .tuple #[.int .i64 (-1), .string ⟨#[]⟩]
  | some (i, _, r) => .tuple #[.int .i64 (i : Int), .string ⟨r.toArray⟩]
def BestIs (l : List Md) : Best → Value → Value → Prop
  | none, u, v => u = .int .i64 (-1) ∧ v = .string ⟨#[]⟩
  | some (i, n, r), u, v => u = .int .i64 (i : Int) ∧ v = .string ⟨r.toArray⟩ ∧ ∃ h : i < l.length, n = l[i].1.size
def pathsL (l : List Md) : List (List UInt8) := l.map fun x => x.1.data.toList
theorem own_step (path : List UInt8) (l : List Md) (k : Nat) (h : k < l.length) (b : Best) : ownL path (pathsL (l.drop k)) k b =
    match belowL path l[k].1.data.toList with
    | none => ownL path (pathsL (l.drop (k + 1))) (k + 1) b
    | some r => if (match b with | none => true | some (_, n, _) => decide (n < l[k].1.size)) then ownL path (pathsL (l.drop (k + 1))) (k + 1) (some (k, l[k].1.size, r)) else ownL path (pathsL (l.drop (k + 1))) (k + 1) b := by
  rw [List.drop_eq_getElem_cons h]
  simp only [pathsL, List.map_cons, ownL, Array.length_toList, ByteArray.size_data]
  cases belowL path l[k].1.data.toList <;> cases b <;> rfl
theorem own_end (path : List UInt8) (l : List Md) (k : Nat) (h : ¬ k < l.length) (b : Best) : ownL path (pathsL (l.drop k)) k b = b := by
  rw [List.drop_eq_nil_of_le (by omega)]; rfl
theorem below_none {s p : ByteArray} (h : belowL s.data.toList p.data.toList = none) : belowOut s p = .tuple #[.string s, .bool false] := by unfold belowOut; rw [h]
theorem below_some {s p : ByteArray} {r : List UInt8} (h : belowL s.data.toList p.data.toList = some r) : belowOut s p = .tuple #[.string ⟨r.toArray⟩, .bool true] := by unfold belowOut; rw [h]
set_option maxRecDepth 100000 in
set_option maxHeartbeats 4000000 in
theorem owner_any (path : ByteArray) (A : Option Addr) (c : Nat) (l : List Md) (w : World) (hR : RM w w.heap.size A l) (hl : l.length ≤ 100000) (hp : ∀ x ∈ l, x.1.size ≤ 140737488355328) :
    Calls Tryz.prog 27 #[.slice A l.length c, .string path] w fun e w' => e = .returned (ownOut (ownL path.data.toList (pathsL l) 0 none)) ∧ Below w.heap.size w w' := by
  obtain ⟨R, hRR⟩ : ∃ R, R = ownL path.data.toList (pathsL l) 0 none := ⟨_, rfl⟩
  rw [← hRR]
  have HN := Lib.hid hRR
  have HRE := Lib.hid hR
  have HPP := Lib.hid hp
  clear hR hp hRR
  go_enter Tryz.func27, Tryz.ntmps27
  go_wp2_with fail
  go_loopw [6, 7, 8, 9, 10, 11, 14] (fun s6 s7 _ _ _ _ s14 wr => ∃ (k : Nat) (b : Best), s14 = .int .i64 (k : Int) ∧ k ≤ l.length ∧ BestIs l b s6 s7 ∧ Hid (R = ownL path.data.toList (pathsL (l.drop k)) k b) ∧ Hid (Below w.heap.size w wr)) (fun _ _ _ _ _ _ s14 _ => (l.length - intOf s14).toNat)
  case atStart => exact ⟨0, none, rfl, by omega, ⟨rfl, rfl⟩, Lib.hid (by rw [List.drop_zero]; exact HN.out), Lib.hid (Below.refl _ _)⟩
  case round =>
    obtain ⟨k, bb, rfl, hk, hbb, HK, HW⟩ := hrel
    by_cases hlt : k < l.length
    · obtain ⟨g, o, hA, hgl, c0, c1, c2, c3⟩ := HRE.out.four k hlt
      subst hA
      rw [← HW.out.cell (p := ⟨g, o + k * 4, none⟩) hgl] at c0
      rw [← HW.out.cell (p := ⟨g, o + k * 4 + 1, none⟩) hgl] at c1
      rw [← HW.out.cell (p := ⟨g, o + k * 4 + 2, none⟩) hgl] at c2
      rw [← HW.out.cell (p := ⟨g, o + k * 4 + 3, none⟩) hgl] at c3
      have HST := Lib.hid (HK.out.trans (own_step path.data.toList l k hlt bb))
      have HB := Lib.hid (HW.out.alloc HW.out.size (.cells #[.string l[k].1, .int .i64 l[k].2.1, .int .i64 l[k].2.2.1, .int .i64 l[k].2.2.2] 25))
      have hkl : (k : Int) < (l.length : Int) := by omega
      have KB := Lib.hid (fun w => below_any path l[k].1 w (HPP.out _ (List.getElem_mem hlt)))
      clear HK
      cases hb : belowL path.data.toList l[k].1.data.toList with
      | none =>
        have HBO := Lib.hid (below_none hb)
        have HST2 := Lib.hid (show R = ownL path.data.toList (pathsL (l.drop (k + 1))) (k + 1) bb by rw [HST.out, hb])
        clear HST hb
        rw [HBO.out] at KB
        clear HBO
        go_wp2_with fail
        refine (KB.out _).mono ?_
        rintro e w2 ⟨rfl, rfl⟩
        go_wp2_with fail
        go_quiet (fail)
        have HBQ := Lib.hid (HB.out.trans ((drewB _ nq).mono HB.out.size))
        go_wp2_with fail
        go_roundw
        case rel => exact ⟨k + 1, bb, by go_num, by omega, hbb, HST2, HBQ⟩
        case measure => simp [intOf]; omega
      | some r =>
        have HBO := Lib.hid (below_some hb)
        rw [HBO.out] at KB
        clear HBO
        cases bb with
        | none =>
          obtain ⟨rfl, rfl⟩ := hbb
          have HST2 := Lib.hid (show R = ownL path.data.toList (pathsL (l.drop (k + 1))) (k + 1) (some (k, l[k].1.size, r)) by rw [HST.out, hb]; simp)
          clear HST hb
          go_wp2_with fail
          refine (KB.out _).mono ?_
          rintro e w2 ⟨rfl, rfl⟩
          go_wp2_with fail
          go_quiet (fail)
          have HBQ := Lib.hid (HB.out.trans ((drewB _ nq).mono HB.out.size))
          go_wp2_with fail
          go_roundw
          case rel => exact ⟨k + 1, some (k, l[k].1.size, r), by go_num, by omega, ⟨rfl, rfl, hlt, rfl⟩, HST2, HBQ⟩
          case measure => simp [intOf]; omega
        | some q =>
          obtain ⟨i, n, r0⟩ := q
          obtain ⟨rfl, rfl, hi, rfl⟩ := hbb
          obtain ⟨g', o', hA', _, d0, _, _, _⟩ := HRE.out.four i hi
          simp only [Option.some.injEq, Addr.mk.injEq] at hA'
          obtain ⟨rfl, rfl, _⟩ := hA'
          rw [← HB.out.cell (p := ⟨g, o + i * 4, none⟩) hgl] at d0
          have hil : (i : Int) < (l.length : Int) := by omega
          have hi0 : ¬ (i : Int) < 0 := by omega
          by_cases hn : l[i].1.size < l[k].1.size
          · have hnn : decide ((l[i].1.size : Int) < (l[k].1.size : Int)) = true := by simpa using hn
            have HST2 := Lib.hid (show R = ownL path.data.toList (pathsL (l.drop (k + 1))) (k + 1) (some (k, l[k].1.size, r)) by rw [HST.out, hb]; simp [hn])
            clear HST hb
            go_wp2_with fail
            refine (KB.out _).mono ?_
            rintro e w2 ⟨rfl, rfl⟩
            go_wp2_with fail
            go_quiet (fail)
            have HBQ := Lib.hid (HB.out.trans ((drewB _ nq).mono HB.out.size))
            go_wp2_with fail
            go_roundw
            case rel => exact ⟨k + 1, some (k, l[k].1.size, r), by go_num, by omega, ⟨rfl, rfl, hlt, rfl⟩, HST2, HBQ⟩
            case measure => simp [intOf]; omega
          · have hnn : decide ((l[i].1.size : Int) < (l[k].1.size : Int)) = false := by simpa using hn
            have HST2 := Lib.hid (show R = ownL path.data.toList (pathsL (l.drop (k + 1))) (k + 1) (some (i, l[i].1.size, r0)) by rw [HST.out, hb]; simp [hn])
            clear HST hb
            go_wp2_with fail
            refine (KB.out _).mono ?_
            rintro e w2 ⟨rfl, rfl⟩
            go_wp2_with fail
            go_quiet (fail)
            have HBQ := Lib.hid (HB.out.trans ((drewB _ nq).mono HB.out.size))
            go_wp2_with fail
            go_roundw
            case rel => exact ⟨k + 1, some (i, l[i].1.size, r0), by go_num, by omega, ⟨rfl, rfl, hi, rfl⟩, HST2, HBQ⟩
            case measure => simp [intOf]; omega
    · have HR1 := Lib.hid (show R = bb by rw [HK.out, own_end _ l k hlt])
      have hkl : ¬ (k : Int) < (l.length : Int) := by omega
      clear HK HN hlt
      cases bb with
      | none =>
        obtain ⟨rfl, rfl⟩ := hbb
        go_wp2_with fail
        refine bodyPost_ret (v := .tuple #[.int .i64 (-1), .string ⟨#[]⟩]) (by simp [results, Tryz.results27, go_sem]) rfl ⟨by rw [HR1.out]; rfl, HW.out⟩
      | some q =>
        obtain ⟨i, n, r0⟩ := q
        obtain ⟨rfl, rfl, hi, rfl⟩ := hbb
        go_wp2_with fail
        refine bodyPost_ret (v := .tuple #[.int .i64 (i : Int), .string ⟨r0.toArray⟩]) (by simp [results, Tryz.results27, go_sem]) rfl ⟨by rw [HR1.out]; rfl, HW.out⟩
end Go.Proofs.YtaeideimlagheaaGreatDoor
