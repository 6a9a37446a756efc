/-
  The law of Text. Paths of at most 2000000 bytes. Conditions: the table of powers of ten, internal/bytealg.MaxLen holds some number, the two error variables of strconv hold interface values.
-/
import Derived.Test.YtaeideimlagheaaGreatDoorLC
import Derived.Test.YtaeideimlagheaaGreatDoorRT
namespace Go.Proofs.YtaeideimlagheaaGreatDoor
open Go.RowKit Go.Sort Go.Lib Go.Shelf Go.Proofs
set_option linter.unusedSimpArgs false
set_option linter.unnecessarySimpa false
set_option linter.unusedVariables false
set_option maxRecDepth 100000 in
set_option maxHeartbeats 4000000 in
theorem law_text (x : Md) (A : Option Addr) (c : Nat) (l : List Md) (w : World) (hC : Cond w) (hR : RM w w.heap.size A l) (hf : Plain A c) (hp : ∀ y ∈ x :: l, y.1.size ≤ 2000000) :
    Calls Tryz.prog 4 #[mf x A l.length c] w fun e w' => e = .returned (.bool true) ∧ Below w.heap.size w w' := by
  obtain ⟨W0, hW0⟩ : ∃ W0, W0 = w.alloc (mblk x A l.length c 28) := ⟨_, rfl⟩
  have hb0 : Below w.heap.size w W0 := by rw [hW0]; exact bal w _
  have hS : S28 W0 w.heap.size x A l.length c W0 := by rw [hW0]; exact S28.new w x A l.length c
  have HB0 := Lib.hid hb0
  have HC := Lib.hid (hC.keep hb0)
  have HW := Lib.hid hW0
  have KS := Lib.hid (fun W => small_any x A c l W)
  have KA := Lib.hid (fun W (hb : Below W0.heap.size W0 W) => alive_any W (HC.out.keep hb))
  by_cases hsm : l.length ≤ 80
  · rw [decide_eq_true hsm] at KS
    have hRR := hR.up hb0
    obtain ⟨n, hn⟩ : ∃ n, n = chkM x l := ⟨_, rfl⟩
    obtain ⟨q, hq⟩ : ∃ q, q = textB x l := ⟨_, rfl⟩
    have K18 := Lib.hid (fun W (hb : Below W0.heap.size W0 W) => text_any x A c l W (HC.out.keep hb).max (HC.out.keep hb).tab (hRR.up hb) hf hsm)
    have K19 := Lib.hid (fun W (hb : Below W0.heap.size W0 W) => rtext_any x A c l W (hRR.up hb) hf hsm hp)
    rw [← hn, ← hq] at K18 K19
    have e1 : (q.toList == q.toList) = true := by simp
    have e2 : (n == n) = true := by simp
    clear hsm hR hf hp hC hb0 hW0 hRR hn hq
    unfold mf at *
    go_enter Tryz.func4, Tryz.ntmps4
    go_wp2_with fail
    rw [← HW.out]
    refine (KS.out _).mono ?_
    rintro e w1 ⟨rfl, hb1⟩
    have hS1 := S28.keep hS hb1
    obtain ⟨hbb, s0, s1, s2, s3, s4⟩ := id hS1
    clear hb1 hS
    go_wp2_with fail
    refine (K18.out _ hbb).mono ?_
    rintro e w2 ⟨rfl, hb2⟩
    have hS2 := S28.keep hS1 hb2
    clear hbb s0 s1 s2 s3 s4 hb2 hS1
    obtain ⟨hbb, s0, s1, s2, s3, s4⟩ := id hS2
    go_wp2_with fail
    refine (K19.out _ hbb).mono ?_
    rintro e w3 ⟨rfl, hb3⟩
    have hS3 := S28.keep hS2 hb3
    clear hbb s0 s1 s2 s3 s4 hb3 hS2
    go_wp2_with fail
    refine (KA.out _ hS3.1).mono ?_
    rintro e w4 ⟨rfl, hb4⟩
    have HE := Lib.hid (HB0.out.trans ((S28.keep hS3 hb4).1.mono HB0.out.size))
    clear hb4 hS3
    go_wp2_with fail
    go_ret
    exact ⟨by simp, HE.out⟩
  · rw [decide_eq_false hsm] at KS
    clear hR hf hp hC hb0 hW0
    unfold mf at *
    go_enter Tryz.func4, Tryz.ntmps4
    go_wp2_with fail
    rw [← HW.out]
    refine (KS.out _).mono ?_
    rintro e w1 ⟨rfl, hb1⟩
    have hS1 := S28.keep hS hb1
    clear hb1 hS
    go_wp2_with fail
    refine (KA.out _ hS1.1).mono ?_
    rintro e w2 ⟨rfl, hb2⟩
    have HE := Lib.hid (HB0.out.trans ((S28.keep hS1 hb2).1.mono HB0.out.size))
    clear hb2 hS1
    go_wp2_with fail
    go_ret
    exact ⟨rfl, HE.out⟩
end Go.Proofs.YtaeideimlagheaaGreatDoor
