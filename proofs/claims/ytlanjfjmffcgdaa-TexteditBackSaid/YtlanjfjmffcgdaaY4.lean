/-
  The law TexteditBack: its walk. Condition: the slice reads as a list.
-/
import Derived.Test.YtlanjfjmffcgdaaX
import Derived.Test.YtlanjfjmffcgdaaZ
namespace Go.Proofs.Ytlanjfjmffcgdaa
open Go.RowKit
set_option linter.unusedSimpArgs false
set_option linter.unusedVariables false
theorem invF_tx (s : ByteArray) : ∀ (b : Int) (l : List Ed), ∀ y ∈ invF s b l, y.2.2.size ≤ s.size
  | _, [], y, hy => by simp [invF] at hy
  | b, x :: t, y, hy => by
    rw [invF] at hy
    rcases List.mem_cons.1 hy with rfl | hy
    · show (s.extract _ _).size ≤ s.size
      rw [ByteArray.size_extract]; omega
    · exact invF_tx s _ t y hy
theorem invV_tx (s : ByteArray) (xs : List Ed) : ∀ y ∈ invV s xs, y.2.2.size ≤ s.size := by
  intro y hy
  unfold invV at hy
  split at hy
  · simp at hy
  · exact invF_tx s 0 xs y hy
theorem appS_size {s : ByteArray} {xs : List Ed} (h : appE s xs = 0) : (appS s xs).size ≤ 65536 := by
  have hc : chkL (s.size : Int) xs = 0 := by
    by_cases hc : chkL (s.size : Int) xs = 0
    · exact hc
    · have := (appE_1 hc).1; omega
  have hb : ¬ 65536 < totV s xs := by
    intro hb
    have := (appE_2 hc hb).1; omega
  rw [(appE_3 hc hb).2]
  have := aply_size hc
  omega
set_option maxRecDepth 100000 in
set_option maxHeartbeats 8000000 in
theorem law_back (s : ByteArray) (A : Option Addr) (c : Nat) (xs : List Ed) (hx : xs.length ≤ 9223372036854775807) (w : World) (h : Re w w.heap.size A xs) :
    Calls Try.prog 6 #[.string s, .slice A xs.length c] w fun e w' => e = .returned (.bool true) ∧ Below w.heap.size w w' := by
  have CS := Lib.hid (small_any s A c xs hx w h)
  cases hs : smB s.size xs with
  | false =>
    rw [hs] at CS
    clear hs h
    go_enter Try.func6, Try.ntmps6
    go_wp2_with fail
    refine CS.out.mono ?_
    rintro e w' ⟨rfl, rfl⟩
    go_wp2_with fail
    refine (example_any _).mono ?_
    rintro e w1 ⟨rfl, hb1⟩
    go_wp2_with fail
    go_ret
    exact ⟨rfl, hb1⟩
  | true =>
    rw [hs] at CS
    obtain ⟨h400, h20, h60⟩ := sm_facts hs
    have C1 := Lib.hid (apply_any s A c xs (by omega) h20 (fun x hx => by have := h60 x hx; omega) w h)
    have C2 : Hid (∀ W, Below w.heap.size w W → Calls Try.prog 19 #[.string s, .slice A xs.length c] W (InvP W (appE s xs) (invV s xs))) := Lib.hid fun W k => invert_any s A c xs (by omega) h20 h60 W (re_keep h k)
    have HTX := Lib.hid (invV_tx s xs)
    by_cases hz : appE s xs = 0
    · have HB := Lib.hid (inv_back hz (by omega))
      have HSz := Lib.hid (appS_size hz)
      rw [hz] at C1 C2
      generalize appS s xs = T at *
      generalize invV s xs = M at *
      have e1 : (s.toList == s.toList) = true := by simp
      clear hs h h60 hz
      go_enter Try.func6, Try.ntmps6
      go_wp2_with fail
      refine CS.out.mono ?_
      rintro e w' ⟨rfl, rfl⟩
      go_wp2_with fail
      refine C1.out.mono ?_
      rintro e w1 ⟨rfl, hb1⟩
      have B1 := Lib.hid hb1
      clear hb1 C1
      go_wp2_with fail
      refine (C2.out _ B1.out).mono ?_
      rintro e w2 ⟨v2, rfl, o2, hb2⟩
      have B2 := Lib.hid (B1.out.trans (hb2.mono B1.out.size))
      obtain ⟨A2, k2, rfl, _, r2⟩ := re_own o2
      have C3 := Lib.hid (apply_any T A2 k2 M (by have := HSz.out; omega) (by have := HB.out.2.2; omega) (fun y hy => by have := HTX.out y hy; omega) w2 r2)
      rw [HB.out.1, HB.out.2.1] at C3
      have HML := Lib.hid HB.out.2.2
      have e2 : ((M.length : Int) == (xs.length : Int)) = true := by rw [HML.out]; simp
      clear hb2 C2 B1 o2 r2 HB HTX HSz
      go_wp2_with fail
      refine C3.out.mono ?_
      rintro e w3 ⟨rfl, hb3⟩
      have B3 := Lib.hid (B2.out.trans (hb3.mono B2.out.size))
      clear hb3 C3 B2
      go_wp2_with fail
      refine (example_any _).mono ?_
      rintro e w5 ⟨rfl, hb5⟩
      have B5 := Lib.hid (B3.out.trans (hb5.mono B3.out.size))
      clear hb5
      go_wp2_with fail
      go_ret
      exact ⟨rfl, B5.out⟩
    · have hS : appS s xs = ⟨#[]⟩ := by unfold appS; rw [if_pos hz]
      have hI : invV s xs = [] := by unfold invV; rw [if_pos hz]
      have q1 : (appE s xs != 0) = true := by simp [hz]
      have q2 : (appE s xs == appE s xs) = true := by simp
      rw [hS] at C1
      rw [hI] at C2
      generalize appE s xs = E at *
      clear hs h h60 hz hS hI HTX
      go_enter Try.func6, Try.ntmps6
      go_wp2_with fail
      refine CS.out.mono ?_
      rintro e w' ⟨rfl, rfl⟩
      go_wp2_with fail
      refine C1.out.mono ?_
      rintro e w1 ⟨rfl, hb1⟩
      have B1 := Lib.hid hb1
      clear hb1 C1
      go_wp2_with fail
      refine (C2.out _ B1.out).mono ?_
      rintro e w2 ⟨v2, rfl, o2, hb2⟩
      have B2 := Lib.hid (B1.out.trans (hb2.mono B1.out.size))
      obtain ⟨A2, k2, rfl, _, r2⟩ := re_own (xs := []) o2
      clear hb2 C2 B1 o2 r2
      go_wp2_with fail
      refine (example_any _).mono ?_
      rintro e w5 ⟨rfl, hb5⟩
      have B5 := Lib.hid (B2.out.trans (hb5.mono B2.out.size))
      clear hb5
      go_wp2_with fail
      go_ret
      exact ⟨rfl, B5.out⟩
