/-
  The law of Check. Paths and the text of at most 2000000 bytes. Conditions: the table of powers of ten, internal/bytealg.MaxLen holds some number, the two error variables of strconv hold interface values.
-/
import Derived.Test.YtaeideimlagheaaGreatDoorEA
import Derived.Test.YtaeideimlagheaaGreatDoorOC
import Derived.Test.YtaeideimlagheaaGreatDoorS
namespace Go.Proofs.YtaeideimlagheaaGreatDoor
open Go.RowKit Go.Sort Go.Lib Go.Shelf Go.Proofs
set_option linter.unusedSimpArgs false
set_option linter.unnecessarySimpa false
set_option linter.unusedVariables false
set_option maxRecDepth 100000 in
theorem small_any (x : Md) (A : Option Addr) (c : Nat) (l : List Md) (w : World) : Calls Tryz.prog 12 #[mf x A l.length c] w fun e w' => e = .returned (.bool (decide (l.length ≤ 80))) ∧ Below w.heap.size w w' := by
  have HB := Lib.hid (bal w (mblk x A l.length c 28))
  by_cases h : l.length ≤ 80
  · have hi : (l.length : Int) ≤ 80 := by omega
    rw [decide_eq_true h]
    clear h
    unfold mf
    go_enter Tryz.func12, Tryz.ntmps12
    go_wp2_with fail
    go_ret
    exact ⟨rfl, HB.out⟩
  · have hi : ¬ (l.length : Int) ≤ 80 := by omega
    rw [decide_eq_false h]
    clear h
    unfold mf
    go_enter Tryz.func12, Tryz.ntmps12
    go_wp2_with fail
    go_ret
    exact ⟨rfl, HB.out⟩
/-- the manifest in its box, behind the worlds that came -/
abbrev S28 (W0 : World) (p : Nat) (x : Md) (A : Option Addr) (n c : Nat) (W : World) : Prop := Below W0.heap.size W0 W ∧ W.cell? ⟨p, 0, none⟩ = some (.string x.1) ∧ W.cell? ⟨p, 1, none⟩ = some (.int .i64 x.2.1) ∧ W.cell? ⟨p, 2, none⟩ = some (.int .i64 x.2.2.1) ∧ W.cell? ⟨p, 3, none⟩ = some (.int .i64 x.2.2.2) ∧ W.cell? ⟨p, 4, none⟩ = some (.slice A n c)
theorem S28.keep {W0 W W' : World} {p : Nat} {x : Md} {A : Option Addr} {n c : Nat} (h : S28 W0 p x A n c W) (hb : Below W.heap.size W W') : S28 W0 p x A n c W' :=
  ⟨h.1.trans (hb.mono h.1.size), cell_keep h.2.1 hb, cell_keep h.2.2.1 hb, cell_keep h.2.2.2.1 hb, cell_keep h.2.2.2.2.1 hb, cell_keep h.2.2.2.2.2 hb⟩
theorem S28.new (w : World) (x : Md) (A : Option Addr) (n c : Nat) : S28 (w.alloc (mblk x A n c 28)) w.heap.size x A n c (w.alloc (mblk x A n c 28)) := ⟨Below.refl _ _, by simp, by simp, by simp, by simp, by simp⟩
set_option maxRecDepth 100000 in
set_option maxHeartbeats 4000000 in
theorem law_check (x : Md) (A : Option Addr) (c : Nat) (l : List Md) (s : ByteArray) (w : World) (hC : Cond w) (hR : RM w w.heap.size A l) (hf : Plain A c) (hp : ∀ y ∈ x :: l, y.1.size ≤ 2000000) :
    Calls Tryz.prog 3 #[mf x A l.length c, .string s] w fun e w' => e = .returned (.bool true) ∧ Below w.heap.size w w' := by
  obtain ⟨W0, hW0⟩ : ∃ W0, W0 = w.alloc (mblk x A l.length c 28) := ⟨_, rfl⟩
  have hb0 : Below w.heap.size w W0 := by rw [hW0]; exact bal w _
  have hS : S28 W0 w.heap.size x A l.length c W0 := by rw [hW0]; exact S28.new w x A l.length c
  have HB0 := Lib.hid hb0
  have HC := Lib.hid (hC.keep hb0)
  have HW := Lib.hid hW0
  have KS := Lib.hid (fun W => small_any x A c l W)
  have KA := Lib.hid (fun W (hb : Below W0.heap.size W0 W) => alive_any W (HC.out.keep hb))
  by_cases hsm : l.length ≤ 80
  · rw [decide_eq_true hsm] at KS
    by_cases hss : s.size ≤ 2000
    · have hsi : ¬ (2000 : Int) < (s.size : Int) := by omega
      have hRR := hR.up hb0
      obtain ⟨n, hn⟩ : ∃ n, n = chkM x l := ⟨_, rfl⟩
      obtain ⟨q, hq⟩ : ∃ q, q = pathB s.data.toList := ⟨_, rfl⟩
      have K14 := Lib.hid (fun W (hb : Below W0.heap.size W0 W) => check_any x A c l W (HC.out.keep hb).max (hRR.up hb) hf (by omega))
      have K15 := Lib.hid (fun W (hb : Below W0.heap.size W0 W) => rcheck_any x A c l W (hRR.up hb) hf (by omega) hp)
      have K16 := Lib.hid (fun W (hb : Below W0.heap.size W0 W) => path_any s W (HC.out.keep hb).max)
      have K17 := Lib.hid (fun (W : World) => rpath_any s (by omega) W)
      rw [← hn] at K14 K15
      rw [← hq] at K16 K17
      clear hsm hss hR hf hp hC hb0 hW0 hRR hn hq
      unfold mf at *
      go_enter Tryz.func3, Tryz.ntmps3
      go_wp2_with fail
      rw [← HW.out]
      refine (KS.out _).mono ?_
      rintro e w1 ⟨rfl, hb1⟩
      have hS1 := S28.keep hS hb1
      clear hb1 hS
      go_wp2_with fail
      go_region_held3 (fun w' => S28 W0 w.heap.size x A l.length c w') (first | (with_reducible assumption) | ((with_reducible refine S28.keep ?_ ((Below.refl _ _).drew)); with_reducible assumption) | ((with_reducible refine S28.keep ?_ (by with_reducible assumption)); with_reducible assumption))
        (first | (go_at_call 14; ((with_reducible refine (K14.out _ (show S28 W0 w.heap.size x A l.length c _ by assumption).1).mono ?_)); rintro e w' ⟨rfl, hbN⟩) | (go_at_call 15; ((with_reducible refine (K15.out _ (show S28 W0 w.heap.size x A l.length c _ by assumption).1).mono ?_)); rintro e w' ⟨rfl, hbN⟩) | (go_at_call 16; ((with_reducible refine (K16.out _ (show S28 W0 w.heap.size x A l.length c _ by assumption).1).mono ?_)); rintro e w' ⟨rfl, hbN⟩) | (go_at_call 17; ((with_reducible refine (K17.out _).mono ?_)); rintro e w' ⟨rfl, hbN⟩) | (go_at_call 13; ((with_reducible refine (KA.out _ (show S28 W0 w.heap.size x A l.length c _ by assumption).1).mono ?_)); rintro e w' ⟨rfl, hbN⟩))
      all_goals
        go_wp2_with fail
        go_ret
        exact ⟨by simp, HB0.out.trans ((show S28 W0 w.heap.size x A l.length c _ by assumption).1.mono HB0.out.size)⟩
    · have hsi : (2000 : Int) < (s.size : Int) := by omega
      clear hss hR hf hp hC hb0 hW0
      unfold mf at *
      go_enter Tryz.func3, Tryz.ntmps3
      go_wp2_with fail
      rw [← HW.out]
      refine (KS.out _).mono ?_
      rintro e w1 ⟨rfl, hb1⟩
      have hS1 := S28.keep hS hb1
      clear hb1 hS
      go_wp2_with fail
      refine (KA.out _ hS1.1).mono ?_
      rintro e w2 ⟨rfl, hb2⟩
      have HE := Lib.hid (HB0.out.trans ((S28.keep hS1 hb2).1.mono HB0.out.size))
      clear hb2 hS1
      go_wp2_with fail
      go_ret
      exact ⟨rfl, HE.out⟩
  · rw [decide_eq_false hsm] at KS
    clear hR hf hp hC hb0 hW0
    unfold mf at *
    go_enter Tryz.func3, Tryz.ntmps3
    go_wp2_with fail
    rw [← HW.out]
    refine (KS.out _).mono ?_
    rintro e w1 ⟨rfl, hb1⟩
    have hS1 := S28.keep hS hb1
    clear hb1 hS
    go_wp2_with fail
    refine (KA.out _ hS1.1).mono ?_
    rintro e w2 ⟨rfl, hb2⟩
    have HE := Lib.hid (HB0.out.trans ((S28.keep hS1 hb2).1.mono HB0.out.size))
    clear hb2 hS1
    go_wp2_with fail
    go_ret
    exact ⟨rfl, HE.out⟩
end Go.Proofs.YtaeideimlagheaaGreatDoor
