/-
  nearest of the program. Conditions: the slices read as a graph and as a list of as many numbers as it has nodes, at most 1000.
-/
import Derived.Test.YthgfomjmkmkhkaaX
namespace Go.Proofs.Ythgfomjmkmkhkaa
open Go.RowKit
set_option linter.unusedSimpArgs false
set_option linter.unusedVariables false
def lv (ls : List Int) (m : Int) : Int := ls.getD m.toNat 0
/-- one step of the choice -/
def nstep (ls : List Int) (n : Nat) (best m : Int) : Int :=
  if ¬ (0 ≤ m ∧ m < n) then best else if lv ls m < 0 then best else if best < 0 then m else if lv ls m < lv ls best then m else if lv ls m = lv ls best ∧ m < best then m else best
/-- the least of the nodes of ys that are nearest -/
def near (ls : List Int) (n : Nat) (ys : List Int) : Int := ys.foldl (nstep ls n) (-1)
theorem near_at {ls : List Int} {n : Nat} {ys : List Int} {j : Nat} {b : Int} (h : j < ys.length) : (ys.drop j).foldl (nstep ls n) b = (ys.drop (j + 1)).foldl (nstep ls n) (nstep ls n b ys[j]) := by
  rw [List.drop_eq_getElem_cons h]; rfl
set_option maxRecDepth 100000 in
set_option maxHeartbeats 4000000 in
theorem nearest_any (A B : Option Addr) (c d : Nat) (gs : Gr) (a : Nat) (ls : List Int) (w : World) (h : RG w w.heap.size A gs) (h2 : RI w w.heap.size B ls) (ha : a < gs.length) (hn : ls.length = gs.length) (hl : gs.length ≤ 1000) (hl2 : ∀ l ∈ gs, l.length ≤ 1000) :
    Calls Try.prog 48 #[.slice A gs.length c, .int .i64 (a : Int), .slice B gs.length d] w fun e w' => e = .returned (.int .i64 (near ls gs.length (suc gs a))) ∧ Below w.heap.size w w' := by
  have HN := Lib.hid (fun (x : Int) (W : World) => isnode_any A c gs x W (by omega))
  obtain ⟨ad, A2, c2, hA, hbk, hga, HRI⟩ := h.at_ a ha
  have hsu : suc gs a = gs[a] := by unfold suc; rw [List.getElem?_eq_getElem ha]; rfl
  have hyl : gs[a].length ≤ 1000 := hl2 _ (List.getElem_mem ha)
  rw [hsu]
  subst hA
  have HY := Lib.hid HRI
  have HL := Lib.hid h2
  have ha1 : (a : Int) < (gs.length : Int) := by omega
  have ha0 : (0 : Int) ≤ (a : Int) := by omega
  clear h h2 hbk hsu HRI hl2
  generalize gs[a] = ys at *
  have HR : Hid ((ys.drop 0).foldl (nstep ls gs.length) (-1) = near ls gs.length ys) := Lib.hid rfl
  obtain ⟨R, hR⟩ : ∃ R, near ls gs.length ys = R := ⟨_, rfl⟩
  rw [hR] at HR ⊢
  clear hR
  generalize gs.length = n at *
  have HLN := Lib.hid hn
  clear hn
  go_enter Try.func48, Try.ntmps48
  go_wp2_with fail
  go_loopw [7, 9, 15] (fun s7 _ s15 wr => ∃ (j : Nat) (best : Int), s15 = .int .i64 (j : Int) ∧ s7 = .int .i64 best ∧ j ≤ ys.length ∧ best < n ∧ Hid ((ys.drop j).foldl (nstep ls n) best = R) ∧ Hid (Below w.heap.size w wr)) (fun _ _ s15 _ => (ys.length - intOf s15).toNat)
  case atStart => exact ⟨0, -1, rfl, rfl, by omega, by omega, HR, Lib.hid (Below.refl _ _)⟩
  case round =>
    obtain ⟨j, best, rfl, rfl, hj, hbn, HS, HB⟩ := hrel
    by_cases hlt : j < ys.length
    · obtain ⟨a1, hA1, hl1, c0⟩ := (HY.out.below HB.out).at_ j hlt
      subst hA1
      have hki : (j : Int) < (ys.length : Int) := by omega
      have hk0 : (0 : Int) ≤ (j : Int) := by omega
      have HK := Lib.hid (show j + 1 ≤ ys.length by omega)
      have HS2 : Hid ((ys.drop (j + 1)).foldl (nstep ls n) (nstep ls n best ys[j]) = R) := Lib.hid ((near_at hlt).symm.trans HS.out)
      generalize ys[j] = m at *
      have HI := Lib.hid (HN.out m wr)
      clear hlt HS
      go_wp2_with fail
      refine HI.out.mono ?_
      rintro e w1 ⟨rfl, hb1⟩
      have HB1 := Lib.hid (HB.out.trans (hb1.mono HB.out.size))
      clear hb1 HI HB c0
      by_cases hm : 0 ≤ m ∧ m < (n : Int)
      · rw [decide_eq_true hm.1, decide_eq_true hm.2]
        obtain ⟨q, rfl⟩ : ∃ q : Nat, m = (q : Int) := ⟨m.toNat, by omega⟩
        have hq : q < ls.length := by have := HLN.out; omega
        obtain ⟨a3, hA3, hl3, c3⟩ := (HL.out.below HB1.out).at_ q hq
        subst hA3
        have HV : Hid (lv ls (q : Int) = ls[q]) := Lib.hid (by unfold lv; simp [List.getD_eq_getElem?_getD, List.getElem?_eq_getElem hq])
        have hq1 := hm.2
        have hq0 := hm.1
        generalize ls[q] = v at *
        clear hq
        by_cases hv : v < 0
        · have HST : Hid (nstep ls n best (q : Int) = best) := Lib.hid (by unfold nstep; rw [if_neg (by omega), HV.out, if_pos hv])
          rw [HST.out] at HS2
          clear HST HV hm
          go_wp2_with fail
          go_roundw
          case rel => exact ⟨j + 1, best, by go_num, rfl, HK.out, hbn, HS2, HB1⟩
          case measure => have := HK.out; first | (simp [intOf]; done) | (simp [intOf]; omega)
        · by_cases hb : best < 0
          · have HST : Hid (nstep ls n best (q : Int) = (q : Int)) := Lib.hid (by unfold nstep; rw [if_neg (by omega), HV.out, if_neg hv, if_pos hb])
            rw [HST.out] at HS2
            clear HST HV hm
            go_wp2_with fail
            go_region
            go_wp2_with fail
            go_roundw
            case rel => exact ⟨j + 1, (q : Int), by go_num, rfl, HK.out, hq1, HS2, Lib.hid HB1.out.drew⟩
            case measure => have := HK.out; first | (simp [intOf]; done) | (simp [intOf]; omega)
          · obtain ⟨p, rfl⟩ : ∃ p : Nat, best = (p : Int) := ⟨best.toNat, by omega⟩
            have hp : p < ls.length := by have := HLN.out; omega
            obtain ⟨a4, hA4, hl4, c4⟩ := (HL.out.below HB1.out).at_ p hp
            obtain rfl : a3 = a4 := Option.some.inj hA4
            have HVp : Hid (lv ls (p : Int) = ls[p]) := Lib.hid (by unfold lv; simp [List.getD_eq_getElem?_getD, List.getElem?_eq_getElem hp])
            have hp0 : (0 : Int) ≤ (p : Int) := by omega
            generalize ls[p] = u at *
            have d1 : decide ((p : Int) < 0) = false := decide_eq_false (by omega)
            have d2 : decide (v < 0) = false := decide_eq_false hv
            clear hp hA4
            by_cases h1 : v < u
            · have HST : Hid (nstep ls n (p : Int) (q : Int) = (q : Int)) := Lib.hid (by unfold nstep; rw [if_neg (by omega), HV.out, if_neg hv, if_neg hb, HVp.out, if_pos h1])
              rw [HST.out] at HS2
              have d3 : decide (v < u) = true := decide_eq_true h1
              clear HST HV HVp hm
              go_wp2_with fail
              go_region
              go_wp2_with fail
              go_roundw
              case rel => exact ⟨j + 1, (q : Int), by go_num, rfl, HK.out, hq1, HS2, Lib.hid HB1.out.drew⟩
              case measure => have := HK.out; first | (simp [intOf]; done) | (simp [intOf]; omega)
            · by_cases h2 : v = u
              · by_cases h3 : (q : Int) < (p : Int)
                · have HST : Hid (nstep ls n (p : Int) (q : Int) = (q : Int)) := Lib.hid (by unfold nstep; rw [if_neg (by omega), HV.out, if_neg hv, if_neg hb, HVp.out, if_neg h1, if_pos ⟨h2, h3⟩])
                  rw [HST.out] at HS2
                  subst h2
                  have d3 : decide (v < v) = false := decide_eq_false h1
                  have d4 : decide ((q : Int) < (p : Int)) = true := decide_eq_true h3
                  clear HST HV HVp hm
                  go_wp2_with fail
                  go_region
                  go_wp2_with fail
                  go_roundw
                  case rel => exact ⟨j + 1, (q : Int), by go_num, rfl, HK.out, hq1, HS2, Lib.hid HB1.out.drew⟩
                  case measure => have := HK.out; first | (simp [intOf]; done) | (simp [intOf]; omega)
                · have HST : Hid (nstep ls n (p : Int) (q : Int) = (p : Int)) := Lib.hid (by unfold nstep; rw [if_neg (by omega), HV.out, if_neg hv, if_neg hb, HVp.out, if_neg h1, if_neg (fun e => h3 e.2)])
                  rw [HST.out] at HS2
                  subst h2
                  have d3 : decide (v < v) = false := decide_eq_false h1
                  have d4 : decide ((q : Int) < (p : Int)) = false := decide_eq_false h3
                  clear HST HV HVp hm
                  go_wp2_with fail
                  go_region
                  go_wp2_with fail
                  go_roundw
                  case rel => exact ⟨j + 1, (p : Int), by go_num, rfl, HK.out, hbn, HS2, Lib.hid HB1.out.drew⟩
                  case measure => have := HK.out; first | (simp [intOf]; done) | (simp [intOf]; omega)
              · have HST : Hid (nstep ls n (p : Int) (q : Int) = (p : Int)) := Lib.hid (by unfold nstep; rw [if_neg (by omega), HV.out, if_neg hv, if_neg hb, HVp.out, if_neg h1, if_neg (fun e => h2 e.1)])
                rw [HST.out] at HS2
                have q1 : (v == u) = false := beq_eq_false_iff_ne.2 h2
                have d3 : decide (v < u) = false := decide_eq_false h1
                clear HST HV HVp hm
                go_wp2_with fail
                go_region
                go_wp2_with fail
                go_roundw
                case rel => exact ⟨j + 1, (p : Int), by go_num, rfl, HK.out, hbn, HS2, Lib.hid HB1.out.drew⟩
                case measure => have := HK.out; first | (simp [intOf]; done) | (simp [intOf]; omega)
      · have HST : Hid (nstep ls n best m = best) := Lib.hid (by unfold nstep; rw [if_pos hm])
        rw [HST.out] at HS2
        have hmf : (decide (0 ≤ m) && decide (m < (n : Int))) = false := by
          rw [Bool.and_eq_false_iff]
          by_cases h0 : 0 ≤ m
          · right; exact decide_eq_false (fun h => hm ⟨h0, h⟩)
          · left; exact decide_eq_false h0
        rw [hmf]
        clear HST hm hmf
        go_wp2_with fail
        go_roundw
        case rel => exact ⟨j + 1, best, by go_num, rfl, HK.out, hbn, HS2, HB1⟩
        case measure => have := HK.out; first | (simp [intOf]; done) | (simp [intOf]; omega)
    · obtain rfl : j = ys.length := by omega
      have HT : Hid (best = R) := Lib.hid (by rw [← HS.out, List.drop_eq_nil_of_le (Nat.le_refl _)]; rfl)
      have hki : ¬ (ys.length : Int) < (ys.length : Int) := by omega
      clear HS hlt
      go_wp2_with fail
      go_ret
      exact ⟨ret_int HT.out, HB.out⟩
end Go.Proofs.Ythgfomjmkmkhkaa
