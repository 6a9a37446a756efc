/-
  The law about reaches out of what awake gives (premise HA). Condition: the slices read as a graph and as numbers.
-/
import Derived.Test.YthgfomjmkmkhkaaAw
import Derived.Test.YthgfomjmkmkhkaaVB
namespace Go.Proofs.Ythgfomjmkmkhkaa
open Go.RowKit
set_option linter.unusedSimpArgs false
set_option linter.unusedVariables false
set_option maxRecDepth 100000 in
set_option maxHeartbeats 4000000 in
theorem law_reaches (A A1 : Option Addr) (c c1 : Nat) (gs : Gr) (xs : List Int) (w : World) (h : RG w w.heap.size A gs) (hi : RI w w.heap.size A1 xs) (hl : gs.length ≤ 9223372036854775807) (hl2 : ∀ l ∈ gs, l.length ≤ 9223372036854775807) (hl3 : xs.length ≤ 9223372036854775807) (ha : Alive w) :
    Calls Try.prog 3 #[.slice A gs.length c, .slice A1 xs.length c1] w fun e w' => e = .returned (.bool true) ∧ Below w.heap.size w w' := by
  have HA := Lib.hid ha
  have HX := Lib.hid h
  have HI := Lib.hid hi
  have CS := Lib.hid (small_any A c gs w h hl hl2)
  clear ha h hi
  by_cases hs : (decide (gs.length ≤ 12) && gs.all (fun l => decide (l.length ≤ 14))) = true
  · rw [hs] at CS
    rw [Bool.and_eq_true, decide_eq_true_eq, List.all_eq_true] at hs
    have hn : gs.length ≤ 12 := hs.1
    have hm : ∀ l ∈ gs, l.length ≤ 1000 := fun l hl => by have := hs.2 l hl; simp at this; omega
    by_cases hx : xs.length ≤ 14
    · have k1 : decide ((14 : Int) < (xs.length : Int)) = false := decide_eq_false (by omega)
      have k2 : decide (14 < xs.length) = false := decide_eq_false (by omega)
      have CD := Lib.hid (fun W (hb : Below w.heap.size w W) => reach_any A A1 c c1 gs xs W (HX.out.up hb) (HI.out.up hb) (by omega) hm (by omega))
      have CR := Lib.hid (fun W (hb : Below w.heap.size w W) => rreach_any A A1 c c1 gs xs W (HX.out.up hb) (HI.out.up hb) (by omega) hm (by omega))
      have HLD : Hid ((rchs gs xs).length ≤ 1000) := Lib.hid (by rw [rchs_len]; omega)
      clear hs hn hm hl hl2 HX HI hx
      generalize rchs gs xs = ds at *
      generalize gs.length = n at *
      generalize xs.length = q at *
      go_enter Try.func3, Try.ntmps3
      go_wp2_with fail
      refine CS.out.mono ?_
      rintro e w1 ⟨rfl, hb1⟩
      have HB1 := Lib.hid hb1
      clear hb1 CS
      go_wp2_with fail
      refine (CD.out w1 HB1.out).mono ?_
      rintro e w2 ⟨A2, c2, rfl, hr2, hb2⟩
      have HB2 := Lib.hid (HB1.out.trans (hb2.mono HB1.out.size))
      have HR2 := Lib.hid hr2
      clear hb2 hr2 k1 k2
      go_wp2_with fail
      refine (CR.out w2 HB2.out).mono ?_
      rintro e w3 ⟨A3, c3, rfl, hr3, hb3⟩
      have HB3 := Lib.hid (HB2.out.trans (hb3.mono HB2.out.size))
      have HR3 := Lib.hid hr3
      have HR4 := Lib.hid (HR2.out.up hb3)
      clear hb3 hr3
      go_wp2_with fail
      refine (bools_any A2 A3 c2 c3 ds ds w3 HR4.out HR3.out HLD.out HLD.out).mono ?_
      rintro e w4 ⟨rfl, hb4⟩
      have HB4 := Lib.hid (HB3.out.trans (hb4.mono HB3.out.size))
      clear hb4
      rw [decide_eq_true (rfl : ds = ds)]
      go_wp2_with fail
      refine (HA.out w4 HB4.out).mono ?_
      rintro e w5 ⟨rfl, hb5⟩
      have HB5 := Lib.hid (HB4.out.trans (hb5.mono HB4.out.size))
      clear hb5
      go_wp2_with fail
      go_ret
      exact ⟨rfl, HB5.out⟩
    · have k1 : decide ((14 : Int) < (xs.length : Int)) = true := decide_eq_true (by omega)
      have k2 : decide (14 < xs.length) = true := decide_eq_true (by omega)
      clear hs hn hm hl hl2 HX HI hx
      generalize gs.length = n at *
      generalize xs.length = q at *
      go_enter Try.func3, Try.ntmps3
      go_wp2_with fail
      refine CS.out.mono ?_
      rintro e w1 ⟨rfl, hb1⟩
      have HB1 := Lib.hid hb1
      clear hb1 CS
      go_wp2_with fail
      refine (HA.out w1 HB1.out).mono ?_
      rintro e w5 ⟨rfl, hb5⟩
      have HB5 := Lib.hid (HB1.out.trans (hb5.mono HB1.out.size))
      clear hb5
      go_wp2_with fail
      go_ret
      exact ⟨rfl, HB5.out⟩
  · rw [Bool.not_eq_true] at hs
    rw [hs] at CS
    clear hs hl hl2 HX HI
    generalize gs.length = n at *
    generalize xs.length = q at *
    go_enter Try.func3, Try.ntmps3
    go_wp2_with fail
    refine CS.out.mono ?_
    rintro e w1 ⟨rfl, hb1⟩
    have HB1 := Lib.hid hb1
    clear hb1 CS
    go_wp2_with fail
    refine (HA.out w1 HB1.out).mono ?_
    rintro e w5 ⟨rfl, hb5⟩
    have HB5 := Lib.hid (HB1.out.trans (hb5.mono HB1.out.size))
    clear hb5
    go_wp2_with fail
    go_ret
    exact ⟨rfl, HB5.out⟩
end Go.Proofs.Ythgfomjmkmkhkaa
