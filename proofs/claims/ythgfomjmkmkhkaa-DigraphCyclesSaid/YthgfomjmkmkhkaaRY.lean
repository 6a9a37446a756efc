/-
  Cycle of the specification, with the search for the first node on a cycle. Conditions: the slice reads as a graph of at most 900 nodes with at most 1000 successors each.
-/
import Derived.Test.YthgfomjmkmkhkaaRX
namespace Go.Proofs.Ythgfomjmkmkhkaa
open Go.RowKit
set_option linter.unusedSimpArgs false
set_option linter.unusedVariables false
set_option maxRecDepth 100000 in
set_option maxHeartbeats 4000000 in
theorem rcycle_any (A : Option Addr) (c : Nat) (gs : Gr) (w : World) (h : RG w w.heap.size A gs) (hl : gs.length ≤ 900) (hl2 : ∀ l ∈ gs, l.length ≤ 1000) :
    Calls Try.prog 28 #[.slice A gs.length c] w (GivesI (ints (cycS gs)) w) := by
  have CP := Lib.hid (paths_any A c gs w h (by omega) hl2)
  have CT := Lib.hid (fun (s : Nat) W (hb : Below w.heap.size w W) (hs : cycAt gs = some s) => through_any A c gs s W (h.up hb) hl hl2 hs)
  obtain ⟨n, hn⟩ : ∃ n, gs.length = n := ⟨_, rfl⟩
  have HN := Lib.hid hn
  rw [hn] at hl CP CT ⊢
  clear h hl2 hn
  go_enter Try.func28, Try.ntmps28
  go_wp2_with fail
  refine CP.out.mono ?_
  rintro e w1 ⟨Ap, cp, T, rfl, hp1, hb1, hT⟩
  have HP1 := Lib.hid hp1
  have HB1 := Lib.hid hb1
  have HT := Lib.hid hT
  clear hp1 hb1 hT CP
  go_wp2_with fail
  go_loopw [4] (fun s4 wr => ∃ (a : Nat), s4 = .int .i64 (a : Int) ∧ a ≤ n ∧ Hid (∀ x, x < a → ¬ Con gs x x) ∧ wr = w1) (fun s4 _ => (n - intOf s4).toNat)
  case atStart => exact ⟨0, rfl, by omega, Lib.hid (fun i h => by omega), rfl⟩
  case round =>
    obtain ⟨a, rfl, ha, HC, rfl⟩ := hrel
    by_cases hlt : a < n
    · have hai : (a : Int) < (n : Int) := by omega
      have ha0 : (0 : Int) ≤ (a : Int) := by omega
      have HAK := Lib.hid (show a + 1 ≤ n by omega)
      obtain ⟨ad, a1, c1, hA, _, hr1, _, hb9⟩ := HP1.out.at_ a hlt
      subst hA
      have hr2 := hb9 a hlt
      have HTA := Lib.hid (HT.out a a hlt hlt)
      clear hlt hb9
      generalize T a a = t at *
      cases t with
      | true =>
        have HS : Hid (cycAt gs = some a) := Lib.hid (cycAt_some (by have := HN.out; have := HAK.out; omega) (HTA.out.1 rfl) HC.out)
        have C9 := Lib.hid (CT.out a wr HB1.out HS.out)
        go_wp2_with fail
        refine C9.out.mono ?_
        rintro e w3 ⟨A9, c9, rfl, hr9, hb9⟩
        have HB9 := Lib.hid hb9
        have HR9 := Lib.hid hr9
        clear hb9 hr9
        go_wp2_with fail
        go_ret
        exact ⟨A9, c9, rfl, HR9.out, HB1.out.trans (HB9.out.mono HB1.out.size)⟩
      | false =>
        have HC2 : Hid (∀ x, x < a + 1 → ¬ Con gs x x) := Lib.hid (fun x hx => by
          rcases Nat.lt_or_ge x a with h | h
          · exact HC.out x h
          · obtain rfl : x = a := by omega
            intro hm; have := HTA.out.2 hm; cases this)
        clear HC
        go_wp2_with fail
        go_roundw
        case rel => exact ⟨a + 1, by go_num, HAK.out, HC2, trivial⟩
        case measure => have := HAK.out; first | (simp [intOf]; done) | (simp [intOf]; omega)
    · obtain rfl : a = n := by omega
      have hki : ¬ (a : Int) < (a : Int) := by omega
      have HCS : Hid (cycS gs = []) := Lib.hid (by unfold cycS; rw [cycAt_none (fun x hx => HC.out x (by have := HN.out; omega))])
      clear hlt HC
      go_wp2_with fail
      go_ret
      exact ⟨none, 0, by rw [HCS.out]; rfl, by rw [HCS.out]; exact ⟨fun k hk => by simp [ints] at hk⟩, HB1.out⟩
end Go.Proofs.Ythgfomjmkmkhkaa
