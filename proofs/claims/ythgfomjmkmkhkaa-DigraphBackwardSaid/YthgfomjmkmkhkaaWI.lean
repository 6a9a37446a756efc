/-
  The law DigraphBackward out of what awake gives (premise HA). Condition: the slice reads as a graph.
-/
import Derived.Test.YthgfomjmkmkhkaaAw
import Derived.Test.YthgfomjmkmkhkaaWA
namespace Go.Proofs.Ythgfomjmkmkhkaa
open Go.RowKit
set_option linter.unusedSimpArgs false
set_option linter.unusedVariables false
set_option maxRecDepth 100000 in
set_option maxHeartbeats 8000000 in
theorem law_backward (A : Option Addr) (c : Nat) (gs : Gr) (a b : Int) (w : World) (h : RG w w.heap.size A gs) (hl : gs.length ≤ 9223372036854775807) (hl2 : ∀ l ∈ gs, l.length ≤ 9223372036854775807) (ha : Alive w) :
    Calls Try.prog 11 #[.slice A gs.length c, .int .i64 a, .int .i64 b] w fun e w' => e = .returned (.bool true) ∧ Below w.heap.size w w' := by
  have HA := Lib.hid ha
  have HX := Lib.hid h
  have CS := Lib.hid (small_any A c gs w h hl hl2)
  clear ha h
  by_cases hs : (decide (gs.length ≤ 12) && gs.all (fun l => decide (l.length ≤ 14))) = true
  · rw [hs] at CS
    rw [Bool.and_eq_true, decide_eq_true_eq, List.all_eq_true] at hs
    have hn : gs.length ≤ 12 := hs.1
    have hm : ∀ l ∈ gs, l.length ≤ 1000 := fun l hl => by have := hs.2 l hl; simp at this; omega
    clear hs
    by_cases ha0 : a < 0
    · have d1 : decide (a < 0) = true := decide_eq_true ha0
      clear hn hm hl hl2 HX
      generalize gs.length = n at *
      go_enter Try.func11, Try.ntmps11
      go_wp2_with fail
      refine CS.out.mono ?_
      rintro e w1 ⟨rfl, hb1⟩
      have HB1 := Lib.hid hb1
      clear hb1 CS
      go_wp2_with fail
      refine (HA.out w1 HB1.out).mono ?_
      rintro e w5 ⟨rfl, hb5⟩
      have HB5 := Lib.hid (HB1.out.trans (hb5.mono HB1.out.size))
      clear hb5
      go_wp2_with fail
      go_ret
      exact ⟨rfl, HB5.out⟩
    · have d1 : decide (a < 0) = false := decide_eq_false ha0
      by_cases hb0 : b < 0
      · have d2 : decide (b < 0) = true := decide_eq_true hb0
        clear hn hm hl hl2 HX
        generalize gs.length = n at *
        go_enter Try.func11, Try.ntmps11
        go_wp2_with fail
        refine CS.out.mono ?_
        rintro e w1 ⟨rfl, hb1⟩
        have HB1 := Lib.hid hb1
        clear hb1 CS
        go_wp2_with fail
        refine (HA.out w1 HB1.out).mono ?_
        rintro e w5 ⟨rfl, hb5⟩
        have HB5 := Lib.hid (HB1.out.trans (hb5.mono HB1.out.size))
        clear hb5
        go_wp2_with fail
        go_ret
        exact ⟨rfl, HB5.out⟩
      · have d2 : decide (b < 0) = false := decide_eq_false hb0
        by_cases ha1 : (gs.length : Int) ≤ a
        · have d3 : decide ((gs.length : Int) ≤ a) = true := decide_eq_true ha1
          clear hn hm hl hl2 HX
          generalize gs.length = n at *
          go_enter Try.func11, Try.ntmps11
          go_wp2_with fail
          refine CS.out.mono ?_
          rintro e w1 ⟨rfl, hb1⟩
          have HB1 := Lib.hid hb1
          clear hb1 CS
          go_wp2_with fail
          refine (HA.out w1 HB1.out).mono ?_
          rintro e w5 ⟨rfl, hb5⟩
          have HB5 := Lib.hid (HB1.out.trans (hb5.mono HB1.out.size))
          clear hb5
          go_wp2_with fail
          go_ret
          exact ⟨rfl, HB5.out⟩
        · have d3 : decide ((gs.length : Int) ≤ a) = false := decide_eq_false ha1
          by_cases hb1 : (gs.length : Int) ≤ b
          · have d4 : decide ((gs.length : Int) ≤ b) = true := decide_eq_true hb1
            clear hn hm hl hl2 HX
            generalize gs.length = n at *
            go_enter Try.func11, Try.ntmps11
            go_wp2_with fail
            refine CS.out.mono ?_
            rintro e w1 ⟨rfl, hb1⟩
            have HB1 := Lib.hid hb1
            clear hb1 CS
            go_wp2_with fail
            refine (HA.out w1 HB1.out).mono ?_
            rintro e w5 ⟨rfl, hb5⟩
            have HB5 := Lib.hid (HB1.out.trans (hb5.mono HB1.out.size))
            clear hb5
            go_wp2_with fail
            go_ret
            exact ⟨rfl, HB5.out⟩
          · have d4 : decide ((gs.length : Int) ≤ b) = false := decide_eq_false hb1
            obtain ⟨x, rfl⟩ : ∃ x : Nat, a = (x : Int) := ⟨a.toNat, by omega⟩
            obtain ⟨y, rfl⟩ : ∃ y : Nat, b = (y : Int) := ⟨b.toNat, by omega⟩
            have hx : x < gs.length := by omega
            have hy : y < gs.length := by omega
            have CR1 := Lib.hid (fun W (hb : Below w.heap.size w W) => preverse_any A c gs W (HX.out.up hb) (by omega) hm)
            have CR2 := Lib.hid (fun Ab cb W (hB : RG W W.heap.size Ab (rev gs)) => preverse_any Ab cb (rev gs) W hB (by rw [rev_len]; omega) (fun l hl => by have := rev_rows gs l hl; omega))
            have CR3 := Lib.hid (fun Ab cb W (hB : RG W W.heap.size Ab (rev (rev gs))) => preverse_any Ab cb (rev (rev gs)) W hB (by rw [rev_len, rev_len]; omega) (fun l hl => by have := rev_rows (rev gs) l hl; rw [rev_len] at this; omega))
            have CD1 := Lib.hid (fun W (hb : Below w.heap.size w W) => pdist_any A c gs (x : Int) W (HX.out.up hb) (by omega) hm)
            have CD2 := Lib.hid (fun Ab cb W (hB : RG W W.heap.size Ab (rev gs)) => pdist_any Ab cb (rev gs) (y : Int) W hB (by rw [rev_len]; omega) (fun l hl => by have := rev_rows gs l hl; omega))
            have HLX : Hid (∀ l ∈ rev gs, l.length ≤ 1000) := Lib.hid (fun l hl => by have := rev_rows gs l hl; omega)
            have HLR := Lib.hid (rev_len gs)
            have HLR2 := Lib.hid ((rev_len (rev gs)).trans (rev_len gs))
            have HR3 := Lib.hid (rev3 gs)
            have HLR3 := Lib.hid ((rev_len (rev (rev gs))).trans ((rev_len (rev gs)).trans (rev_len gs)))
            have HDX : Hid (distsI gs (x : Int) = dists gs x) := Lib.hid (by unfold distsI; rw [if_pos ⟨by omega, by omega⟩]; rfl)
            have HDY : Hid (distsI (rev gs) (y : Int) = dists (rev gs) y) := Lib.hid (by unfold distsI; rw [if_pos ⟨by omega, by rw [rev_len]; omega⟩]; rfl)
            have HV1 : Hid ((dists gs x)[y]? = some (dist gs x y)) := Lib.hid (dists_get hy)
            have HV2 : Hid ((dists (rev gs) y)[x]? = some (dist gs x y)) := Lib.hid (by rw [dists_get (by rw [rev_len]; exact hx), dist_rev])
            have HL1 := Lib.hid (dists_len gs x)
            have HL2 : Hid ((dists (rev gs) y).length = gs.length) := Lib.hid (by rw [dists_len, rev_len])
            have hn9 : gs.length ≤ 1000 := by omega
            rw [HLR.out] at CR2 CD2
            rw [HLR2.out] at CR3
            have HXL := Lib.hid hx
            have HYL := Lib.hid hy
            have hx0 : (0 : Int) ≤ (x : Int) := by omega
            have hy0 : (0 : Int) ≤ (y : Int) := by omega
            have hx1 : (x : Int) < (gs.length : Int) := by omega
            have hy1 : (y : Int) < (gs.length : Int) := by omega
            have HN := Lib.hid hn9
            clear hn hm hl hl2 HX hx hy
            generalize gs.length = n at *
            go_enter Try.func11, Try.ntmps11
            go_wp2_with fail
            refine CS.out.mono ?_
            rintro e w1 ⟨rfl, hb1⟩
            have HB1 := Lib.hid hb1
            clear hb1 CS
            go_wp2_with fail
            refine (CR1.out w1 HB1.out).mono ?_
            rintro e w2 ⟨A2, c2, rfl, hr2, hb2⟩
            rw [HLR.out]
            have HB2 := Lib.hid (HB1.out.trans (hb2.mono HB1.out.size))
            have HR2 := Lib.hid hr2.rg
            clear hb2 hr2 CR1
            go_wp2_with fail
            refine (CR2.out A2 c2 w2 HR2.out).mono ?_
            rintro e w3 ⟨A3, c3, rfl, hr3, hb3⟩
            rw [HLR2.out]
            have HB3 := Lib.hid (HB2.out.trans (hb3.mono HB2.out.size))
            have HRR3 := Lib.hid hr3.rg
            have HR23 := Lib.hid (HR2.out.up hb3)
            clear hb3 hr3 CR2
            go_wp2_with fail
            refine (CR3.out A3 c3 w3 HRR3.out).mono ?_
            rintro e w4 ⟨A4, c4, rfl, hr4, hb4⟩
            rw [HLR3.out]
            have HB4 := Lib.hid (HB3.out.trans (hb4.mono HB3.out.size))
            have HR4 := Lib.hid hr4.rg
            have HR24 := Lib.hid (HR23.out.up hb4)
            have HR4' : Hid (RG w4 w4.heap.size A4 (rev gs)) := Lib.hid (by have h := hr4.rg; rw [HR3.out] at h; exact h)
            have CL := Lib.hid (lists_any A4 A2 c4 c2 (rev gs) (rev gs) w4 HR4'.out HR24.out (by rw [HLR.out]; exact HN.out) (by rw [HLR.out]; exact HN.out) HLX.out HLX.out)
            rw [HLR.out, decide_eq_true (rfl : rev gs = rev gs)] at CL
            clear hb4 hr4 CR3 HR4 HRR3 HR23
            go_wp2_with fail
            refine CL.out.mono ?_
            rintro e w5 ⟨rfl, hb5⟩
            have HB5 := Lib.hid (HB4.out.trans (hb5.mono HB4.out.size))
            have HR25 := Lib.hid (HR24.out.up hb5)
            clear hb5 CL HR24
            go_wp2_with fail
            refine (CD1.out w5 HB5.out).mono ?_
            rintro e w6 ⟨A6, c6, rfl, hr6, hb6⟩
            rw [HDX.out] at hr6 ⊢
            rw [HL1.out]
            have HB6 := Lib.hid (HB5.out.trans (hb6.mono HB5.out.size))
            have HR26 := Lib.hid (HR25.out.up hb6)
            have HR6 := Lib.hid hr6
            clear hb6 hr6 CD1
            go_wp2_with fail
            refine (CD2.out A2 c2 w6 HR26.out).mono ?_
            rintro e w7 ⟨A7, c7, rfl, hr7, hb7⟩
            rw [HDY.out] at hr7 ⊢
            rw [HL2.out]
            have HB7 := Lib.hid (HB6.out.trans (hb7.mono HB6.out.size))
            have HR67 := Lib.hid (HR6.out.up hb7)
            obtain ⟨ax, hAx, _, cx⟩ := HR67.out.at_ y (by rw [HL1.out]; exact HYL.out)
            obtain ⟨ay, hAy, _, cy⟩ := hr7.at_ x (by rw [HL2.out]; exact HXL.out)
            subst hAx hAy
            have cx2 : w7.cell? (ax.add y) = some (.int .i64 (dist gs x y)) := by
              rw [cx]; have h := HV1.out; rw [List.getElem?_eq_getElem (by rw [HL1.out]; exact HYL.out)] at h; rw [Option.some.inj h]
            have cy2 : w7.cell? (ay.add x) = some (.int .i64 (dist gs x y)) := by
              rw [cy]; have h := HV2.out; rw [List.getElem?_eq_getElem (by rw [HL2.out]; exact HXL.out)] at h; rw [Option.some.inj h]
            have HAW := Lib.hid (HA.out w7.drew HB7.out.drew)
            have HB8 := Lib.hid HB7.out.drew
            clear hb7 hr7 CD2 cx cy
            generalize dist gs x y = dv at *
            have e1 : (dv == dv) = true := by simp
            go_wp2_with fail
            go_still_tail 24, (by kernel_rfl)
            change wpList _ _ _ _ _ w7.drew
            generalize w7.drew = w8 at *
            go_wp2_with fail
            refine HAW.out.mono ?_
            rintro e w9 ⟨rfl, hb9⟩
            have HB9 := Lib.hid (HB8.out.trans (hb9.mono HB8.out.size))
            clear hb9
            go_wp2_with fail
            go_ret
            exact ⟨rfl, HB9.out⟩
  · rw [Bool.not_eq_true] at hs
    rw [hs] at CS
    clear hs hl hl2 HX
    generalize gs.length = n at *
    go_enter Try.func11, Try.ntmps11
    go_wp2_with fail
    refine CS.out.mono ?_
    rintro e w1 ⟨rfl, hb1⟩
    have HB1 := Lib.hid hb1
    clear hb1 CS
    go_wp2_with fail
    refine (HA.out w1 HB1.out).mono ?_
    rintro e w5 ⟨rfl, hb5⟩
    have HB5 := Lib.hid (HB1.out.trans (hb5.mono HB1.out.size))
    clear hb5
    go_wp2_with fail
    go_ret
    exact ⟨rfl, HB5.out⟩
end Go.Proofs.Ythgfomjmkmkhkaa
