/-
  Same of the specification. At most 100000 requirements.
-/
import Derived.Test.YtaeideimlagheaaGreatDoorC1
import Derived.Test.YtaeideimlagheaaGreatDoorS
namespace Go.Proofs.YtaeideimlagheaaGreatDoor
open Go.RowKit Go.Sort Go.Lib Go.Shelf Go.Proofs
set_option linter.unusedSimpArgs false
set_option linter.unnecessarySimpa false
set_option linter.unusedVariables false
theorem drop_ne {l m : List Md} {k : Nat} (h : k < l.length) (h' : k < m.length) (hn : l[k] ≠ m[k]) : l ≠ m := fun e => hn (by subst e; rfl)
theorem drop_same {l m : List Md} {k : Nat} (h : k < l.length) (h' : k < m.length) (hn : l[k] = m[k]) : (l.drop k = m.drop k ↔ l.drop (k + 1) = m.drop (k + 1)) := by
  rw [List.drop_eq_getElem_cons h, List.drop_eq_getElem_cons h', hn]
  exact ⟨fun e => (List.cons.inj e).2, fun e => by rw [e]⟩
/-- the two manifests, in their boxes -/
structure Two5 (w0 : World) (A B : Option Addr) (c d : Nat) (l m : List Md) (w : World) : Prop where
  bel : Below w0.heap.size w0 w
  p4 : w.cell? ⟨w0.heap.size, 4, none⟩ = some (.slice A l.length c)
  q4 : w.cell? ⟨w0.heap.size + 1, 4, none⟩ = some (.slice B m.length d)
set_option maxRecDepth 100000 in
set_option maxHeartbeats 4000000 in
theorem same_any (x y : Md) (A B : Option Addr) (c d : Nat) (l m : List Md) (w : World) (hA : RM w w.heap.size A l) (hB : RM w w.heap.size B m) (hl : l.length ≤ 100000) (hm : m.length ≤ 100000) :
    Calls Tryz.prog 22 #[mf x A l.length c, mf y B m.length d] w fun e w' => e = .returned (.bool (decide (x = y ∧ l = m))) ∧ Below w.heap.size w w' := by
  obtain ⟨R, hRR⟩ : ∃ R, R = decide (x = y ∧ l = m) := ⟨_, rfl⟩
  rw [← hRR]
  have q := fun w => eqMd x y w
  have HRA := Lib.hid hA
  have HRB := Lib.hid hB
  have HBW := Lib.hid (show Below w.heap.size w ((w.alloc (mblk x A l.length c 28)).alloc (mblk y B m.length d 28)) from ((Below.refl _ _).alloc (Nat.le_refl _) _).alloc (by simp) _)
  have p4 : ((w.alloc (mblk x A l.length c 28)).alloc (mblk y B m.length d 28)).cell? ⟨w.heap.size, 4, none⟩ = some (.slice A l.length c) := by simp
  have q4 : ((w.alloc (mblk x A l.length c 28)).alloc (mblk y B m.length d 28)).cell? ⟨w.heap.size + 1, 4, none⟩ = some (.slice B m.length d) := by simp
  have HT := Lib.hid (Two5.mk HBW.out p4 q4)
  clear hA hB p4 q4
  by_cases hxy : x = y
  · rw [decide_eq_true hxy] at q
    by_cases hlm : l.length = m.length
    · have HN := Lib.hid (show R = decide (l = m) by rw [hRR]; simp [hxy])
      have hne : ((l.length : Int) != (m.length : Int)) = false := by rw [hlm]; simp
      have HLM := Lib.hid hlm
      clear hRR hxy hlm
      unfold mf md at *
      unfold mblk at *
      go_enter Tryz.func22, Tryz.ntmps22
      go_wp2_with fail
      generalize hWW : ((w.alloc (.cells #[.string x.1, .int .i64 x.2.1, .int .i64 x.2.2.1, .int .i64 x.2.2.2, .slice A l.length c] 28)).alloc (.cells #[.string y.1, .int .i64 y.2.1, .int .i64 y.2.2.1, .int .i64 y.2.2.2, .slice B m.length d] 28)) = W at *
      clear hWW q hne
      go_loopw [5, 23] (fun _ s23 wr => ∃ k : Nat, s23 = .int .i64 (k : Int) ∧ k ≤ l.length ∧ Hid (R = decide (l.drop k = m.drop k)) ∧ Hid (Below W.heap.size W wr)) (fun _ s23 _ => (l.length - intOf s23).toNat)
      case atStart => exact ⟨0, rfl, by omega, Lib.hid (by rw [List.drop_zero, List.drop_zero]; exact HN.out), Lib.hid (Below.refl _ _)⟩
      case round =>
        obtain ⟨k, rfl, hk, HK, HR⟩ := hrel
        have HBR := Lib.hid (HBW.out.trans (HR.out.mono HBW.out.size))
        have p4 := cell_keep HT.out.p4 HR.out
        have q4 := cell_keep HT.out.q4 HR.out
        by_cases hlt : k < l.length
        · have hlt' : k < m.length := by have := HLM.out; omega
          obtain ⟨g, o, rfl, hgl, c0, c1, c2, c3⟩ := HRA.out.four k hlt
          obtain ⟨g', o', rfl, hgl', d0, d1, d2, d3⟩ := HRB.out.four k hlt'
          rw [← HBR.out.cell (p := ⟨g, o + k * 4, none⟩) hgl] at c0
          rw [← HBR.out.cell (p := ⟨g, o + k * 4 + 1, none⟩) hgl] at c1
          rw [← HBR.out.cell (p := ⟨g, o + k * 4 + 2, none⟩) hgl] at c2
          rw [← HBR.out.cell (p := ⟨g, o + k * 4 + 3, none⟩) hgl] at c3
          rw [← HBR.out.cell (p := ⟨g', o' + k * 4, none⟩) hgl'] at d0
          rw [← HBR.out.cell (p := ⟨g', o' + k * 4 + 1, none⟩) hgl'] at d1
          rw [← HBR.out.cell (p := ⟨g', o' + k * 4 + 2, none⟩) hgl'] at d2
          rw [← HBR.out.cell (p := ⟨g', o' + k * 4 + 3, none⟩) hgl'] at d3
          have hkl : (k : Int) < (l.length : Int) := by omega
          have hkm : (k : Int) < (m.length : Int) := by have := HLM.out; omega
          have q := fun w => eqMd l[k] m[k] w
          by_cases he : l[k] = m[k]
          · rw [decide_eq_true he] at q
            have HK2 := Lib.hid (show R = decide (l.drop (k + 1) = m.drop (k + 1)) by rw [HK.out]; exact decide_eq_decide.2 (drop_same hlt hlt' he))
            clear HK he HN HT HRA HRB
            unfold md at q
            go_wp2_with fail
            go_quiet (fail)
            have HWQ := Lib.hid (HR.out.trans ((drewB wr nq).mono HR.out.size))
            clear q p4 q4 c0 c1 c2 c3 d0 d1 d2 d3
            go_wp2_with fail
            go_roundw
            case rel => exact ⟨k + 1, by go_num, by omega, HK2, HWQ⟩
            case measure => simp [intOf]; omega
          · rw [decide_eq_false he] at q
            have HR1 := Lib.hid (show R = false by rw [HN.out]; exact decide_eq_false (drop_ne hlt hlt' he))
            clear HK he HN HT HRA HRB
            unfold md at q
            go_wp2_with fail
            go_quiet (fail)
            have HBQ := Lib.hid (HBR.out.trans ((drewB wr nq).mono HBR.out.size))
            go_wp2_with fail
            go_ret
            exact ⟨ret_bool HR1.out.symm, HBQ.out⟩
        · have HR1 := Lib.hid (show R = true by rw [HK.out, List.drop_eq_nil_of_le (by omega), List.drop_eq_nil_of_le (by have := HLM.out; omega)]; rfl)
          have hkl : ¬ (k : Int) < (l.length : Int) := by omega
          clear HK HN hlt HT p4 q4
          go_wp2_with fail
          go_ret
          exact ⟨ret_bool HR1.out.symm, HBR.out⟩
    · have HN := Lib.hid (show R = false by rw [hRR]; exact decide_eq_false (fun h => hlm (by rw [h.2])))
      have hne : ((l.length : Int) != (m.length : Int)) = true := by simp; omega
      clear hRR hxy
      unfold mf md at *
      unfold mblk at *
      go_enter Tryz.func22, Tryz.ntmps22
      go_wp2_with fail
      go_ret
      exact ⟨ret_bool HN.out.symm, HBW.out⟩
  · rw [decide_eq_false hxy] at q
    have HN := Lib.hid (show R = false by rw [hRR]; exact decide_eq_false (fun h => hxy h.1))
    clear hRR hxy
    unfold mf md at *
    unfold mblk at *
    go_enter Tryz.func22, Tryz.ntmps22
    go_wp2_with fail
    go_ret
    exact ⟨ret_bool HN.out.symm, HBW.out⟩
end Go.Proofs.YtaeideimlagheaaGreatDoor
