/-
  The laws DigraphDistances and DigraphSorts' parts out of what awake gives (premise HA). Condition: the slices read as a graph.
-/
import Derived.Test.YthgfomjmkmkhkaaY
import Derived.Test.YthgfomjmkmkhkaaU
namespace Go.Proofs.Ythgfomjmkmkhkaa
open Go.RowKit
set_option linter.unusedSimpArgs false
set_option linter.unusedVariables false
/-- awake gives true in every world behind w -/
def Alive (w : World) : Prop := ∀ W, Below w.heap.size w W → Calls Try.prog 13 #[] W fun e w' => e = .returned (.bool true) ∧ Below W.heap.size W w'
set_option maxRecDepth 100000 in
set_option maxHeartbeats 4000000 in
theorem law_distances (A : Option Addr) (c : Nat) (gs : Gr) (f : Int) (w : World) (h : RG w w.heap.size A gs) (hl : gs.length ≤ 9223372036854775807) (hl2 : ∀ l ∈ gs, l.length ≤ 9223372036854775807) (ha : Alive w) :
    Calls Try.prog 5 #[.slice A gs.length c, .int .i64 f] w fun e w' => e = .returned (.bool true) ∧ Below w.heap.size w w' := by
  have HA := Lib.hid ha
  have HX := Lib.hid h
  have CS := Lib.hid (small_any A c gs w h hl hl2)
  clear ha h
  by_cases hs : (decide (gs.length ≤ 12) && gs.all (fun l => decide (l.length ≤ 14))) = true
  · rw [hs] at CS
    rw [Bool.and_eq_true, decide_eq_true_eq, List.all_eq_true] at hs
    have hn : gs.length ≤ 1000 := by omega
    have hm : ∀ l ∈ gs, l.length ≤ 1000 := fun l hl => by have := hs.2 l hl; simp at this; omega
    have CD := Lib.hid (fun W (hb : Below w.heap.size w W) => pdist_any A c gs f W (HX.out.up hb) hn hm)
    have CR := Lib.hid (fun W (hb : Below w.heap.size w W) => rdist_any A c gs f W (HX.out.up hb) hn hm)
    have HLD := Lib.hid (distsI_len gs f)
    have HN := Lib.hid hn
    clear hs hn hm hl hl2 HX
    generalize distsI gs f = ds at *
    generalize gs.length = n at *
    go_enter Try.func5, Try.ntmps5
    go_wp2_with fail
    refine CS.out.mono ?_
    rintro e w1 ⟨rfl, hb1⟩
    have HB1 := Lib.hid hb1
    clear hb1 CS
    go_wp2_with fail
    refine (CD.out w1 HB1.out).mono ?_
    rintro e w2 ⟨A2, c2, rfl, hr2, hb2⟩
    have HB2 := Lib.hid (HB1.out.trans (hb2.mono HB1.out.size))
    have HR2 := Lib.hid hr2
    clear hb2 hr2
    go_wp2_with fail
    refine (CR.out w2 HB2.out).mono ?_
    rintro e w3 ⟨A3, c3, rfl, hr3, hb3⟩
    have HB3 := Lib.hid (HB2.out.trans (hb3.mono HB2.out.size))
    have HR3 := Lib.hid hr3
    have HR4 := Lib.hid (HR2.out.up hb3)
    clear hb3 hr3
    go_wp2_with fail
    refine (ints_any A2 A3 c2 c3 ds ds w3 HR4.out HR3.out (by rw [HLD.out]; exact HN.out) (by rw [HLD.out]; exact HN.out)).mono ?_
    rintro e w4 ⟨rfl, hb4⟩
    have HB4 := Lib.hid (HB3.out.trans (hb4.mono HB3.out.size))
    clear hb4
    rw [decide_eq_true (rfl : ds = ds)]
    go_wp2_with fail
    refine (HA.out w4 HB4.out).mono ?_
    rintro e w5 ⟨rfl, hb5⟩
    have HB5 := Lib.hid (HB4.out.trans (hb5.mono HB4.out.size))
    clear hb5
    go_wp2_with fail
    go_ret
    exact ⟨rfl, HB5.out⟩
  · rw [Bool.not_eq_true] at hs
    rw [hs] at CS
    clear hs hl hl2 HX
    generalize gs.length = n at *
    go_enter Try.func5, Try.ntmps5
    go_wp2_with fail
    refine CS.out.mono ?_
    rintro e w1 ⟨rfl, hb1⟩
    have HB1 := Lib.hid hb1
    clear hb1 CS
    go_wp2_with fail
    refine (HA.out w1 HB1.out).mono ?_
    rintro e w5 ⟨rfl, hb5⟩
    have HB5 := Lib.hid (HB1.out.trans (hb5.mono HB1.out.size))
    clear hb5
    go_wp2_with fail
    go_ret
    exact ⟨rfl, HB5.out⟩
end Go.Proofs.Ythgfomjmkmkhkaa
