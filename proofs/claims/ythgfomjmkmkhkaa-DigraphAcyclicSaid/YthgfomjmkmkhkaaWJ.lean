/-
  The law DigraphAcyclic out of what awake gives (premise HA). Condition: the slice reads as a graph.
-/
import Derived.Test.YthgfomjmkmkhkaaWE
namespace Go.Proofs.Ythgfomjmkmkhkaa
open Go.RowKit
set_option linter.unusedSimpArgs false
set_option linter.unusedVariables false
set_option maxRecDepth 100000 in
set_option maxHeartbeats 8000000 in
theorem law_acyclic (A : Option Addr) (c : Nat) (gs : Gr) (w : World) (h : RG w w.heap.size A gs) (hl : gs.length ≤ 9223372036854775807) (hl2 : ∀ l ∈ gs, l.length ≤ 9223372036854775807) (ha : Alive w) :
    Calls Try.prog 10 #[.slice A gs.length c] w fun e w' => e = .returned (.bool true) ∧ Below w.heap.size w w' := by
  have HA := Lib.hid ha
  have HX := Lib.hid h
  have CS := Lib.hid (small_any A c gs w h hl hl2)
  clear ha h
  by_cases hs : (decide (gs.length ≤ 12) && gs.all (fun l => decide (l.length ≤ 14))) = true
  · rw [hs] at CS
    rw [Bool.and_eq_true, decide_eq_true_eq, List.all_eq_true] at hs
    have hn : gs.length ≤ 12 := hs.1
    have hm : ∀ l ∈ gs, l.length ≤ 1000 := fun l hl => by have := hs.2 l hl; simp at this; omega
    have CT := Lib.hid (fun W (hb : Below w.heap.size w W) => ptopo_any A c gs W (HX.out.up hb) (by omega) hm)
    have CC := Lib.hid (fun W (hb : Below w.heap.size w W) => pcycle_any A c gs W (HX.out.up hb) (by omega) hm)
    have HTC := topo_cycle gs
    by_cases hc : cycS gs = []
    · rw [decide_eq_true hc] at HTC
      have hO := (topo_ordd gs.length [] (ordd_nil gs)).1
      have hlen : (topo gs gs.length []).length = gs.length := by
        apply Classical.byContradiction
        intro hne
        unfold topoR at HTC
        rw [if_neg hne] at HTC
        cases HTC
      have hT : topoR gs = (topo gs gs.length [], true) := by unfold topoR; rw [if_pos hlen]
      rw [hT, show ints ((topo gs gs.length [], true) : List Nat × Bool).1 = ints (topo gs gs.length []) from rfl] at CT
      rw [hc] at CC
      generalize topo gs gs.length [] = O at *
      have HLO : Hid ((ints O).length = gs.length) := Lib.hid (by rw [ints_len]; exact hlen)
      have CA := Lib.hid (fun Bl dl W (hb : Below w.heap.size w W) (h2 : RI W W.heap.size Bl (ints O)) => after_any A Bl c dl gs O W (HX.out.up hb) h2 hlen (by omega) hm hO)
      have tt : (true != true) = false := rfl
      clear hs hn hm hl hl2 HX hc HTC hO hlen hT
      generalize gs.length = n at *
      go_enter Try.func10, Try.ntmps10
      go_wp2_with fail
      refine CS.out.mono ?_
      rintro e w1 ⟨rfl, hb1⟩
      have HB1 := Lib.hid hb1
      clear hb1 CS
      go_wp2_with fail
      refine (CT.out w1 HB1.out).mono ?_
      rintro e w2 ⟨A2, c2, rfl, hr2, hb2⟩
      rw [HLO.out]
      have HB2 := Lib.hid (HB1.out.trans (hb2.mono HB1.out.size))
      have HR2 := Lib.hid hr2
      clear hb2 hr2
      go_wp2_with fail
      refine (CC.out w2 HB2.out).mono ?_
      rintro e w3 ⟨A3, c3, rfl, hr3, hb3⟩
      rw [show (ints []).length = 0 from rfl]
      have HB3 := Lib.hid (HB2.out.trans (hb3.mono HB2.out.size))
      have HR4 := Lib.hid (HR2.out.up hb3)
      clear hb3 hr3
      go_wp2_with fail
      refine (CA.out A2 c2 w3 HB3.out HR4.out).mono ?_
      rintro e w4 ⟨rfl, hb4⟩
      have HB4 := Lib.hid (HB3.out.trans (hb4.mono HB3.out.size))
      clear hb4
      go_wp2_with fail
      refine (HA.out w4 HB4.out).mono ?_
      rintro e w5 ⟨rfl, hb5⟩
      have HB5 := Lib.hid (HB4.out.trans (hb5.mono HB4.out.size))
      clear hb5
      go_wp2_with fail
      go_ret
      exact ⟨rfl, HB5.out⟩
    · rw [decide_eq_false hc] at HTC
      rw [HTC] at CT
      obtain ⟨l, hl9⟩ : ∃ l, (ints (cycS gs)).length = l := ⟨_, rfl⟩
      have hl0 : 0 < l := by
        rw [← hl9, ints_len]; exact List.length_pos_iff.2 hc
      have HL9 := Lib.hid hl9
      have q1 : ((l : Int) == 0) = false := beq_eq_false_iff_ne.2 (by omega)
      have tt : (false != false) = false := rfl
      clear hs hn hm hl hl2 HX hc HTC hl9
      generalize gs.length = n at *
      generalize ints (topoR gs).1 = ds at *
      go_enter Try.func10, Try.ntmps10
      go_wp2_with fail
      refine CS.out.mono ?_
      rintro e w1 ⟨rfl, hb1⟩
      have HB1 := Lib.hid hb1
      clear hb1 CS
      go_wp2_with fail
      refine (CT.out w1 HB1.out).mono ?_
      rintro e w2 ⟨A2, c2, rfl, hr2, hb2⟩
      have HB2 := Lib.hid (HB1.out.trans (hb2.mono HB1.out.size))
      clear hb2 hr2
      go_wp2_with fail
      refine (CC.out w2 HB2.out).mono ?_
      rintro e w3 ⟨A3, c3, rfl, hr3, hb3⟩
      rw [HL9.out]
      have HB3 := Lib.hid (HB2.out.trans (hb3.mono HB2.out.size))
      clear hb3 hr3
      go_wp2_with fail
      refine (HA.out w3 HB3.out).mono ?_
      rintro e w5 ⟨rfl, hb5⟩
      have HB5 := Lib.hid (HB3.out.trans (hb5.mono HB3.out.size))
      clear hb5
      go_wp2_with fail
      go_ret
      exact ⟨rfl, HB5.out⟩
  · rw [Bool.not_eq_true] at hs
    rw [hs] at CS
    clear hs hl hl2 HX
    generalize gs.length = n at *
    go_enter Try.func10, Try.ntmps10
    go_wp2_with fail
    refine CS.out.mono ?_
    rintro e w1 ⟨rfl, hb1⟩
    have HB1 := Lib.hid hb1
    clear hb1 CS
    go_wp2_with fail
    refine (HA.out w1 HB1.out).mono ?_
    rintro e w5 ⟨rfl, hb5⟩
    have HB5 := Lib.hid (HB1.out.trans (hb5.mono HB1.out.size))
    clear hb5
    go_wp2_with fail
    go_ret
    exact ⟨rfl, HB5.out⟩
end Go.Proofs.Ythgfomjmkmkhkaa
