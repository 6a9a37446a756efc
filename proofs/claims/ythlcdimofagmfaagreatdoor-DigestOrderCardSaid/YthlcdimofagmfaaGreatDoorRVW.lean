/-
  The law's own reversed: its walk. At most 100 requirements and 100 sources.
-/
import Derived.Test.YthlcdimofagmfaaGreatDoorRV
namespace Go.Proofs.YthlcdimofagmfaaGreatDoor
open Go.RowKit Go.Sort Go.Lib Go.Shelf Go.Proofs
set_option linter.unusedSimpArgs false
set_option linter.unnecessarySimpa false
set_option linter.unusedVariables false
/-- what reversed returns -/
def RevIs (x : Md) (L : List Md) (S : List Src) (w : World) (e : Ending) (w' : World) : Prop :=
  ∃ A A2 c c2, e = .returned (rl x A L.length c A2 S.length c2) ∧ RM w' w'.heap.size A L ∧ Plain A c ∧ RN w' w'.heap.size A2 S ∧ Plain A2 c2 ∧ Hi w.heap.size A ∧ Hi w.heap.size A2 ∧ Below w.heap.size w w' ∧ Ty w' A ∧ TyS w' A2
set_option maxRecDepth 100000 in
set_option maxHeartbeats 4000000 in
theorem reversed_any (x : Md) (A A2 : Option Addr) (c c2 : Nat) (l : List Md) (S : List Src) (w : World) (hR : RM w w.heap.size A l) (hl : l.length ≤ 100) (hS : RN w w.heap.size A2 S) (hSl : S.length ≤ 100) :
    Calls Tryz.prog 24 #[rl x A l.length c A2 S.length c2] w (RevIs x l.reverse S.reverse w) := by
  have HR := Lib.hid hR
  have HS := Lib.hid hS
  have h1 : (w.alloc (rblk x A l.length c A2 S.length c2 40)).heap.size = w.heap.size + 1 := by simp
  have h2 : ((w.alloc (rblk x A l.length c A2 S.length c2 40)).alloc (.cells z40 40)).heap.size = w.heap.size + 1 + 1 := by simp
  have HP0 : Hid (PV w w.heap.size x (.slice A l.length c) (.slice A2 S.length c2) (.slice none 0 0) (.slice none 0 0) [] [] (((w.alloc (rblk x A l.length c A2 S.length c2 40)).alloc (.cells z40 40)).alloc (rblk x none 0 0 none 0 0 40))) := Lib.hid (by
    have b1 := bal w (rblk x A l.length c A2 S.length c2 40)
    have b2 := bal (w.alloc (rblk x A l.length c A2 S.length c2 40)) (.cells z40 40)
    have b3 := bal ((w.alloc (rblk x A l.length c A2 S.length c2 40)).alloc (.cells z40 40)) (rblk x none 0 0 none 0 0 40)
    refine ⟨rfl, (b1.trans (b2.mono (by omega))).trans (b3.mono (by omega)), ?_, ?_, ?_, World.ownsRow_nil _ _ _ _, World.ownsRow_nil _ _ _ _⟩
    · exact RowV.up (RowV.up (show RowV (w.alloc (rblk x A l.length c A2 S.length c2 40)) w.heap.size _ 40 from heap_alloc_new w _) b2 (by omega)) b3 (by omega)
    · rw [← h1]; exact RowV.up (show RowV ((w.alloc (rblk x A l.length c A2 S.length c2 40)).alloc (.cells z40 40)) (w.alloc (rblk x A l.length c A2 S.length c2 40)).heap.size z40 40 from heap_alloc_new _ _) b3 (by omega)
    · rw [show w.heap.size + 1 + 1 = ((w.alloc (rblk x A l.length c A2 S.length c2 40)).alloc (.cells z40 40)).heap.size by rw [h2]]; exact (show RowV _ _ _ 40 from heap_alloc_new _ _))
  have hb := HP0.out
  clear hR hS h1 h2 hb
  unfold rl
  unfold rblk at *
  go_enter Tryz.func24, Tryz.ntmps24
  go_wp2_with fail
  generalize ((w.alloc _).alloc _).alloc _ = W0 at *
  go_loopw [4] (fun s4 wr => ∃ (k : Nat) (v : Value), s4 = .int .i64 ((k : Int) - 1) ∧ k ≤ S.length ∧ Hid (PV w w.heap.size x (.slice A l.length c) (.slice A2 S.length c2) (.slice none 0 0) v [] (S.drop k).reverse wr)) (fun s4 _ => (intOf s4 + 1).toNat)
  case atStart => exact ⟨S.length, _, by go_num, Nat.le_refl _, by rw [List.drop_length]; exact HP0⟩
  case round =>
    obtain ⟨k, v, rfl, hk, HP⟩ := hrel
    by_cases hk0 : 0 < k
    · obtain ⟨m, rfl⟩ : ∃ m, k = m + 1 := ⟨k - 1, by omega⟩
      have hml : m < S.length := by omega
      have em : (((m + 1 : Nat) : Int) - 1) = (m : Int) := by omega
      rw [em]
      obtain ⟨g, o, hA, hg, d0, d1⟩ := HS.out.two m hml
      subst hA
      rw [← HP.out.bel.cell (p := ⟨g, o + m * 2, none⟩) hg] at d0
      rw [← HP.out.bel.cell (p := ⟨g, o + m * 2 + 1, none⟩) hg] at d1
      have hm0 : (0 : Int) ≤ (m : Int) := by omega
      have hmi : (m : Int) < (S.length : Int) := by omega
      have hm9 : m ≤ 99 := by omega
      have HRN := Lib.hid (rev_next hml)
      have HM1 := Lib.hid (show m ≤ S.length by omega)
      have hlen : ((S.drop (m + 1)).reverse).length ≤ 1000 := by simp; omega
      have HLEN := Lib.hid hlen
      have hown := HP.out.rowS
      have hf0 := HP.out.f0
      have hsz := HP.out.sz
      have hlt2 : w.heap.size + 1 + 1 < wr.heap.size := by omega
      have hlt0 : w.heap.size < wr.heap.size := by omega
      have hltg : g < wr.heap.size := by omega
      have hne2 : ¬ (w.heap.size + 1 + 1 = wr.heap.size) := by omega
      have hne0 : ¬ (w.heap.size = wr.heap.size) := by omega
      have hneg : ¬ (g = wr.heap.size) := by omega
      obtain ⟨x0, x1, x2, x3, x4, x5, f4, f5⟩ := HP.out.fz
      obtain ⟨y4, y5⟩ := hf0
      have HPD := Lib.hid HP.out.drew
      clear em hlen
      generalize S[m] = y at *
      clear hml
      generalize (S.drop (m + 1)).reverse = acc at *
      go_wp2_with fail
      go_region_law (first | (refine step_append_src rfl (.tmp 20) (.tmp 26) rfl (w.heap.size + 3) v acc y rfl (hown.alloc _) wr.heap.size rfl ((MapKept.heap_alloc _ _).1) HLEN.out (by simp; omega) ?_; intro v5 w5 HO5 hg5; have HA5 := Lib.hid (PV.appS (y := y) HPD.out hg5 HO5.out); obtain ⟨q5, e5, rfl⟩ := own_shapeE HO5.out; obtain ⟨z0, z1, z2, z3, z4, z5, g4, g5⟩ := HA5.out.2))
      all_goals
        have HP5 := Lib.hid HA5.out.1
        rw [← HRN.out] at HP5
        clear HA5 HO5 hg5 z0 z1 z2 z3 z4 z5 g4 g5 x0 x1 x2 x3 x4 x5 f4 f5 y4 y5 hown HPD d0 d1
        go_wp2_with fail
        go_roundw
        case rel => exact ⟨m, _, by go_num, HM1.out, HP5⟩
        case measure => first | (simp [intOf]; done) | (simp [intOf]; omega)
    · obtain rfl : k = 0 := by omega
      have e0 : (((0 : Nat) : Int) - 1) = -1 := by decide
      rw [e0]
      rw [List.drop_zero] at HP
      have wm : IntKind.i64.wrap (-1) = -1 := by decide
      obtain ⟨x0, x1, x2, x3, x4, x5, f4, f5⟩ := HP.out.fz
      obtain ⟨y4, y5⟩ := HP.out.f0
      have HP1 := HP
      clear HP0 HP x0 x1 x2 x3 x4 x5 f4 f5
      have hl0 : l.length ≤ 100 := hl
      go_wp2_with fail
      clear y4 y5
      go_loopw [5] (fun s5 wr => ∃ (k : Nat) (u : Value), s5 = .int .i64 ((k : Int) - 1) ∧ k ≤ l.length ∧ Hid (PV w w.heap.size x (.slice A l.length c) (.slice A2 S.length c2) u v (l.drop k).reverse S.reverse wr)) (fun s5 _ => (intOf s5 + 1).toNat)
      case atStart => exact ⟨l.length, _, by go_num, Nat.le_refl _, by rw [List.drop_length]; exact HP1⟩
      case round =>
        obtain ⟨k, u, rfl, hk, HP⟩ := hrel
        by_cases hk0 : 0 < k
        · obtain ⟨m, rfl⟩ : ∃ m, k = m + 1 := ⟨k - 1, by omega⟩
          have hml : m < l.length := by omega
          have em : (((m + 1 : Nat) : Int) - 1) = (m : Int) := by omega
          rw [em]
          obtain ⟨g, o, hA, hg, d0, d1, d2, d3⟩ := HR.out.four m hml
          subst hA
          rw [← HP.out.bel.cell (p := ⟨g, o + m * 4, none⟩) hg] at d0
          rw [← HP.out.bel.cell (p := ⟨g, o + m * 4 + 1, none⟩) hg] at d1
          rw [← HP.out.bel.cell (p := ⟨g, o + m * 4 + 2, none⟩) hg] at d2
          rw [← HP.out.bel.cell (p := ⟨g, o + m * 4 + 3, none⟩) hg] at d3
          have hm0 : (0 : Int) ≤ (m : Int) := by omega
          have hmi : (m : Int) < (l.length : Int) := by omega
          have hm9 : m ≤ 99 := by omega
          have HRN := Lib.hid (rev_next hml)
          have HM1 := Lib.hid (show m ≤ l.length by omega)
          have hlen : ((l.drop (m + 1)).reverse).length ≤ 1000 := by simp; omega
          have HLEN := Lib.hid hlen
          have hown := HP.out.rowM
          have hf0 := HP.out.f0
          have hsz := HP.out.sz
          have hlt2 : w.heap.size + 1 + 1 < wr.heap.size := by omega
          have hlt0 : w.heap.size < wr.heap.size := by omega
          have hltg : g < wr.heap.size := by omega
          have hne2 : ¬ (w.heap.size + 1 + 1 = wr.heap.size) := by omega
          have hne0 : ¬ (w.heap.size = wr.heap.size) := by omega
          have hneg : ¬ (g = wr.heap.size) := by omega
          obtain ⟨x0, x1, x2, x3, x4, x5, f4, f5⟩ := HP.out.fz
          obtain ⟨y4, y5⟩ := hf0
          have HPD := Lib.hid HP.out.drew
          clear em hlen
          generalize l[m] = y at *
          clear hml
          generalize (l.drop (m + 1)).reverse = acc at *
          go_wp2_with fail
          go_region_law (first | (refine step_append_md rfl (.tmp 40) (.tmp 47) rfl (w.heap.size + 3) u acc y rfl (hown.alloc _) wr.heap.size rfl ((MapKept.heap_alloc _ _).1) HLEN.out (by simp; omega) ?_; intro v5 w5 HO5 hg5; have HA5 := Lib.hid (PV.appM (m := y) HPD.out hg5 HO5.out); obtain ⟨q5, e5, rfl⟩ := own_shapeE HO5.out; obtain ⟨z0, z1, z2, z3, z4, z5, g4, g5⟩ := HA5.out.2))
          all_goals
            have HP5 := Lib.hid HA5.out.1
            rw [← HRN.out] at HP5
            clear HA5 HO5 hg5 z0 z1 z2 z3 z4 z5 g4 g5 x0 x1 x2 x3 x4 x5 f4 f5 y4 y5 hown HPD d0 d1 d2 d3
            go_wp2_with fail
            go_roundw
            case rel => exact ⟨m, _, by go_num, HM1.out, HP5⟩
            case measure => first | (simp [intOf]; done) | (simp [intOf]; omega)
        · obtain rfl : k = 0 := by omega
          have e0 : (((0 : Nat) : Int) - 1) = -1 := by decide
          rw [e0]
          rw [List.drop_zero] at HP
          have wm : IntKind.i64.wrap (-1) = -1 := by decide
          obtain ⟨x0, x1, x2, x3, x4, x5, f4, f5⟩ := HP.out.fz
          have r1c := fun j => HP.out.r1.cell j
          have r1f := fun j => HP.out.r1.frozen j
          have s0 : wr.cell? ⟨w.heap.size + 1, 0, none⟩ = some (.string ⟨#[]⟩) := r1c 0
          have s1 : wr.cell? ⟨w.heap.size + 1, 1, none⟩ = some (.int .i64 0) := r1c 1
          have s2 : wr.cell? ⟨w.heap.size + 1, 2, none⟩ = some (.int .i64 0) := r1c 2
          have s3 : wr.cell? ⟨w.heap.size + 1, 3, none⟩ = some (.int .i64 0) := r1c 3
          have s4 : wr.cell? ⟨w.heap.size + 1, 4, none⟩ = some (.slice none 0 0) := r1c 4
          have s5 : wr.cell? ⟨w.heap.size + 1, 5, none⟩ = some (.slice none 0 0) := r1c 5
          have t0 := r1f 0
          have t1 := r1f 1
          have t2 := r1f 2
          have t3 := r1f 3
          have t4 := r1f 4
          have t5 := r1f 5
          obtain ⟨A7, c7, e7, _⟩ := rm_of_own HP.out.rowM
          obtain ⟨A8, c8, e8, _⟩ := rn_of_own HP.out.rowS
          have HEND : Hid (∀ u0 u1 u2 u3 u4 u5 : Value, RevIs x l.reverse S.reverse w (.returned (rl x A7 l.length c7 A8 S.length c8)) ((((((wr.setCell ⟨w.heap.size + 1, 0, none⟩ u0).setCell ⟨w.heap.size + 1, 1, none⟩ u1).setCell ⟨w.heap.size + 1, 2, none⟩ u2).setCell ⟨w.heap.size + 1, 3, none⟩ u3).setCell ⟨w.heap.size + 1, 4, none⟩ u4).setCell ⟨w.heap.size + 1, 5, none⟩ u5)) := Lib.hid (by
            intro u0 u1 u2 u3 u4 u5
            have hM := own_setE (i := 5) (own_setE (i := 4) (own_setE (i := 3) (own_setE (i := 2) (own_setE (i := 1) (own_setE (i := 0) HP.out.rowM (b := w.heap.size + 1) (by omega) u0) (b := w.heap.size + 1) (by omega) u1) (b := w.heap.size + 1) (by omega) u2) (b := w.heap.size + 1) (by omega) u3) (b := w.heap.size + 1) (by omega) u4) (b := w.heap.size + 1) (by omega) u5
            have hS := own_setE (i := 5) (own_setE (i := 4) (own_setE (i := 3) (own_setE (i := 2) (own_setE (i := 1) (own_setE (i := 0) HP.out.rowS (b := w.heap.size + 1) (by omega) u0) (b := w.heap.size + 1) (by omega) u1) (b := w.heap.size + 1) (by omega) u2) (b := w.heap.size + 1) (by omega) u3) (b := w.heap.size + 1) (by omega) u4) (b := w.heap.size + 1) (by omega) u5
            obtain ⟨A', c', e', m1, m2, m3, m4⟩ := rm_of_own hM
            obtain ⟨B', d', g', n1, n2, n3, n4⟩ := rn_of_own hS
            have e9 := e7.symm.trans e'
            have g9 := e8.symm.trans g'
            simp only [Value.slice.injEq, true_and] at e9 g9
            obtain ⟨rfl, rfl⟩ := e9
            obtain ⟨rfl, rfl⟩ := g9
            refine ⟨A7, A8, c7, c8, by rw [List.length_reverse, List.length_reverse], m1, m2, n1, n2, m3.le (by omega), n3.le (by omega), ?_, m4, n4⟩
            have hw1 : w.heap.size ≤ w.heap.size + 1 := by omega
            exact (((((HP.out.bel.setCell (p := ⟨w.heap.size + 1, 0, none⟩) hw1 _).setCell (p := ⟨w.heap.size + 1, 1, none⟩) hw1 _).setCell (p := ⟨w.heap.size + 1, 2, none⟩) hw1 _).setCell (p := ⟨w.heap.size + 1, 3, none⟩) hw1 _).setCell (p := ⟨w.heap.size + 1, 4, none⟩) hw1 _).setCell (p := ⟨w.heap.size + 1, 5, none⟩) hw1 _)
          rw [List.length_reverse] at e7 e8
          subst e7 e8
          clear r1c r1f
          go_wp2_with fail
          refine bodyPost_ret (v := rl x A7 l.length c7 A8 S.length c8) (by simp [results, Tryz.results24, go_sem, s0, s1, s2, s3, s4, s5]) rfl (HEND.out _ _ _ _ _ _)
end Go.Proofs.YthlcdimofagmfaaGreatDoor
