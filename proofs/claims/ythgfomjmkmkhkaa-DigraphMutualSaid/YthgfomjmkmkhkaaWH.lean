/-
  The law about mutual reach out of what awake gives (premise HA). Condition: the slice reads as a graph.
-/
import Derived.Test.YthgfomjmkmkhkaaAw
import Derived.Test.YthgfomjmkmkhkaaVC
namespace Go.Proofs.Ythgfomjmkmkhkaa
open Go.RowKit
set_option linter.unusedSimpArgs false
set_option linter.unusedVariables false
set_option maxRecDepth 100000 in
set_option maxHeartbeats 4000000 in
theorem law_mutual (A : Option Addr) (c : Nat) (gs : Gr) (w : World) (h : RG w w.heap.size A gs) (hl : gs.length ≤ 9223372036854775807) (hl2 : ∀ l ∈ gs, l.length ≤ 9223372036854775807) (ha : Alive w) :
    Calls Try.prog 9 #[.slice A gs.length c] w fun e w' => e = .returned (.bool true) ∧ Below w.heap.size w w' := by
  have HA := Lib.hid ha
  have HX := Lib.hid h
  have CS := Lib.hid (small_any A c gs w h hl hl2)
  clear ha h
  by_cases hs : (decide (gs.length ≤ 12) && gs.all (fun l => decide (l.length ≤ 14))) = true
  · rw [hs] at CS
    rw [Bool.and_eq_true, decide_eq_true_eq, List.all_eq_true] at hs
    have hn : gs.length ≤ 12 := hs.1
    have hm : ∀ l ∈ gs, l.length ≤ 1000 := fun l hl => by have := hs.2 l hl; simp at this; omega
    have CC := Lib.hid (fun W (hb : Below w.heap.size w W) => pcomp_any A c gs W (HX.out.up hb) (by omega) hm)
    have CR := Lib.hid (fun A1 c1 xs W (hb : Below w.heap.size w W) (hi : RI W W.heap.size A1 xs) (hx : xs.length ≤ 1000) => reach_row A A1 c c1 gs xs W (HX.out.up hb) hi (by omega) hm hx)
    have HCL := Lib.hid (comps_len gs)
    obtain ⟨n, hng⟩ : ∃ n, gs.length = n := ⟨_, rfl⟩
    have HN := Lib.hid hng
    rw [hng] at hn CS CR CC HCL ⊢
    obtain ⟨T, hT⟩ : ∃ T : Nat → Nat → Bool, T = fun (a b : Nat) => rchB gs [((a : Nat) : Int)] b := ⟨_, rfl⟩
    have HT := Lib.hid hT
    clear hs hm hl hl2 HX hng hT
    go_enter Try.func9, Try.ntmps9
    go_wp2_with fail
    refine CS.out.mono ?_
    rintro e w1 ⟨rfl, hb1⟩
    have HB1 := Lib.hid hb1
    clear hb1 CS
    go_wp2_with fail
    refine (CC.out w1 HB1.out).mono ?_
    rintro e w2 ⟨A2, c2, rfl, hr2, hb2⟩
    rw [HCL.out]
    have HB2 := Lib.hid (HB1.out.trans (hb2.mono HB1.out.size))
    have HR2 := Lib.hid hr2
    have HM0 : Hid (MT w2 w2.heap.size n 0 (.slice none 0 0) T) := Lib.hid ⟨[], World.ownsRow_nil _ _ _ _, fun j hj => by omega⟩
    clear hb2 hr2 CC
    go_wp2_with fail
    go_loopw [4, 5] (fun s4 s5 wr => ∃ (i : Nat) (vo : Value), s5 = .int .i64 (i : Int) ∧ vo = s4 ∧ i ≤ n ∧ Hid (MT wr w2.heap.size n i vo T) ∧ Hid (Below w2.heap.size w2 wr)) (fun _ s5 _ => (n - intOf s5).toNat)
    case atStart => exact ⟨0, _, rfl, rfl, by omega, HM0, Lib.hid (Below.refl _ _)⟩
    case round =>
      clear HM0
      obtain ⟨i, vo, rfl, rfl, hi, HM, HB⟩ := hrel
      obtain ⟨wr9, rfl⟩ : ∃ x, x = wr := ⟨_, rfl⟩
      by_cases hlt : i < n
      · have hii : (i : Int) < (n : Int) := by omega
        have hi0 : (0 : Int) ≤ (i : Int) := by omega
        have HIK := Lib.hid (show i + 1 ≤ n by omega)
        have HAL := Lib.hid ((Below.refl wr9.heap.size wr9).alloc (Nat.le_refl _) (.cells #[.int .i64 (i : Int)] 3))
        have HBW := Lib.hid (HB2.out.trans ((HB.out.trans (HAL.out.mono HB.out.size)).mono HB2.out.size))
        have C9 := Lib.hid (CR.out (some ⟨wr9.heap.size, 0, none⟩) 1 [(i : Int)] (wr9.alloc (.cells #[.int .i64 (i : Int)] 3)) HBW.out ((ri_lit wr9 [(i : Int)]).le (by simp)) (by simp))
        clear hlt HBW
        go_wp2_with fail
        refine C9.out.mono ?_
        rintro e w3 ⟨r, rfl, hr1, hr2, hF, hb3⟩
        have HB3 := Lib.hid (HAL.out.trans (hb3.mono HAL.out.size))
        obtain ⟨V, hV1, hV2⟩ := HM.out.row
        have HV1 := Lib.hid hV1
        have HV2 := Lib.hid hV2
        have HRa := Lib.hid (show wr9.heap.size ≤ r by have := HAL.out.size; omega)
        have HRb := Lib.hid hr2
        have HAL4 := Lib.hid ((Below.refl w3.heap.size w3).alloc (Nat.le_refl _) (.cells #[.slice (some ⟨r, 0, none⟩) n n] 27))
        have HB4 := Lib.hid (HB3.out.trans (HAL4.out.mono HB3.out.size))
        have HF4 : Hid (BF (w3.alloc (.cells #[.slice (some ⟨r, 0, none⟩) n n] 27)) r n (T i)) := Lib.hid (by rw [HT.out]; exact hF.keep HAL4.out)
        have HO4 := Lib.hid (own_below HV1.out HB4.out)
        have HSZ := Lib.hid HB.out.size
        have HSR : Hid (r < (w3.alloc (.cells #[.slice (some ⟨r, 0, none⟩) n n] 27)).heap.size) := Lib.hid (by simp; omega)
        have hib : i ≤ 1000 := by omega
        clear hr1 hr2 hF hb3 hV1 hV2 C9 HAL
        go_wp2_with (at_builtin; refine wpList_append_row rfl (.tmp 25) (.tmp 30) rfl w2.heap.size vo i V (.slice (some ⟨r, 0, none⟩) n n) rfl rfl HO4.out _ rfl ((MapKept.heap_alloc _ _).1) hib (by have := HSZ.out; have := HB4.out.size; omega) ?_)
        intro v5 w6 HO6 hg6 hd6
        have HM6 := Lib.hid (MT.push HV1.out HV2.out HB4.out HRa.out HSR.out HF4.out HO6.out hg6 (hd6.imp id (fun h => h.trans (by simp))))
        have HB6 := Lib.hid ((HB.out.trans (HB4.out.mono HB.out.size)).grown hg6 (by have := HSZ.out; have := HB4.out.size; omega) (fun j hj => (World.ownsRow.lt HV1.out j hj).1))
        obtain ⟨A6, c6, hv5⟩ := own_vis HO6.out
        subst hv5
        obtain ⟨b6, r6, hA6, hc6, _⟩ := HM6.out.at_ (Nat.lt_succ_self i)
        subst hA6
        have hi1 : (i : Int) < ((i + 1 : Nat) : Int) := by omega
        have hi2 : i < i + 1 := by omega
        clear HO6 hg6 hd6 HO4 HV1 HV2 HM HAL4 HB4 HB3 HF4 hib
        go_wp2_with fail
        go_roundw
        case rel => exact ⟨i + 1, _, by go_num, rfl, HIK.out, HM6, HB6⟩
        case measure => have := HIK.out; first | (simp [intOf]; done) | (simp [intOf]; omega)
      · obtain rfl : i = n := by omega
        have hki : ¬ (i : Int) < (i : Int) := by omega
        obtain ⟨V, hV1, _⟩ := HM.out.row
        obtain ⟨Ao, co, hvo⟩ := own_vis hV1
        subst hvo
        have HM1 := HM
        have HB1' := HB
        clear hlt HM HB hV1 CR
        go_wp2_with fail
        go_loopw [6, 7] (fun s6 _ wr => ∃ (a : Nat), s6 = .int .i64 (a : Int) ∧ a ≤ i ∧ Hid (MT wr w2.heap.size i i (.slice Ao i co) T) ∧ Hid (Below w2.heap.size w2 wr)) (fun s6 _ _ => (i - intOf s6).toNat)
        case atStart => exact ⟨0, rfl, by omega, HM1, HB1'⟩
        case round =>
          clear HM1 HB1'
          obtain ⟨a, rfl, ha, HM, HB⟩ := hrel
          by_cases hlt : a < i
          · have hai : (a : Int) < (i : Int) := by omega
            have ha0 : (0 : Int) ≤ (a : Int) := by omega
            have HAK := Lib.hid (show a + 1 ≤ i by omega)
            have HM1 := HM
            have HB1' := HB
            clear hlt HM HB
            go_wp2_with fail
            go_loopw [7] (fun s7 wr => ∃ (b : Nat), s7 = .int .i64 (b : Int) ∧ b ≤ i ∧ Hid (MT wr w2.heap.size i i (.slice Ao i co) T) ∧ Hid (Below w2.heap.size w2 wr)) (fun s7 _ => (i - intOf s7).toNat)
            case atStart => exact ⟨0, rfl, by omega, HM1, HB1'⟩
            case round =>
              clear HM1 HB1'
              obtain ⟨b, rfl, hb, HM, HB⟩ := hrel
              obtain ⟨wr8, rfl⟩ : ∃ x, x = wr := ⟨_, rfl⟩
              by_cases hlt : b < i
              · have hbi : (b : Int) < (i : Int) := by omega
                have hb0 : (0 : Int) ≤ (b : Int) := by omega
                have HBK := Lib.hid (show b + 1 ≤ i by omega)
                have hai2 : a < i := by have := HAK.out; omega
                obtain ⟨ad, hAd, _, ca⟩ := (HR2.out.below HB.out).at_ a (by rw [HCL.out]; exact hai2)
                obtain ⟨ad', hAd', _, cb⟩ := (HR2.out.below HB.out).at_ b (by rw [HCL.out]; exact hlt)
                obtain rfl : ad = ad' := by rw [hAd] at hAd'; exact Option.some.inj hAd'
                subst hAd
                obtain ⟨la, hla, HLA⟩ := comps_get (g := gs) (a := a) (by rw [HN.out]; exact hai2)
                obtain ⟨lb, hlb, HLB⟩ := comps_get (g := gs) (a := b) (by rw [HN.out]; exact hlt)
                have ca2 : wr8.cell? (ad.add a) = some (.int .i64 (la : Int)) := by
                  rw [ca]; rw [List.getElem?_eq_getElem (by rw [HCL.out]; exact hai2)] at hla; rw [Option.some.inj hla]
                have cb2 : wr8.cell? (ad.add b) = some (.int .i64 (lb : Int)) := by
                  rw [cb]; rw [List.getElem?_eq_getElem (by rw [HCL.out]; exact hlt)] at hlb; rw [Option.some.inj hlb]
                obtain ⟨g1, r1, hA1, hc1, hk1⟩ := HM.out.at_ hai2
                obtain ⟨g2, r2, hA2, hc2, hk2⟩ := HM.out.at_ hlt
                obtain rfl : g1 = g2 := by rw [hA1] at hA2; injection hA2 with e; injection e
                subst hA1
                have hk1' := hk1 b hlt
                have hk2' := hk2 a hai2
                have hmu := reach_mut (g := gs) (a := a) (b := b) (by rw [HN.out]; exact hai2) (by rw [HN.out]; exact hlt)
                have hTab : T a b = rchB gs [(a : Int)] b := by rw [HT.out]
                have hTba : T b a = rchB gs [(b : Int)] a := by rw [HT.out]
                rw [← hTab, ← hTba] at hmu
                have HMU := Lib.hid hmu
                have HLM := Lib.hid (LeastOf.mut HLA HLB)
                have HM8 := Lib.hid (HM.out.keep (drewB wr8))
                have HB8 := Lib.hid (HB.out.trans ((drewB wr8).mono HB.out.size))
                clear hlt ca cb hla hlb HLA HLB hAd' hA2 hk1 hk2 hmu hTab hTba HM HB
                generalize T a b = t1 at *
                generalize T b a = t2 at *
                cases t1 with
                | false =>
                  have q1 : ((la : Int) == (lb : Int)) = false := beq_eq_false_iff_ne.2 (fun e => by have := HMU.out.2 (HLM.out.1 (by omega)); simp at this)
                  go_wp2_with fail
                  go_region
                  go_wp2_with fail
                  go_roundw
                  case rel => exact ⟨b + 1, by go_num, HBK.out, HM8, HB8⟩
                  case measure => have := HBK.out; first | (simp [intOf]; done) | (simp [intOf]; omega)
                | true =>
                  cases t2 with
                  | false =>
                    have q1 : ((la : Int) == (lb : Int)) = false := beq_eq_false_iff_ne.2 (fun e => by have := HMU.out.2 (HLM.out.1 (by omega)); simp at this)
                    go_wp2_with fail
                    go_region
                    go_wp2_with fail
                    go_roundw
                    case rel => exact ⟨b + 1, by go_num, HBK.out, HM8, HB8⟩
                    case measure => have := HBK.out; first | (simp [intOf]; done) | (simp [intOf]; omega)
                  | true =>
                    have q1 : ((la : Int) == (lb : Int)) = true := by rw [HLM.out.2 (HMU.out.1 rfl)]; simp
                    go_wp2_with fail
                    go_region
                    go_wp2_with fail
                    go_roundw
                    case rel => exact ⟨b + 1, by go_num, HBK.out, HM8, HB8⟩
                    case measure => have := HBK.out; first | (simp [intOf]; done) | (simp [intOf]; omega)
              · obtain rfl : b = i := by omega
                have hki3 : ¬ (b : Int) < (b : Int) := by omega
                clear hlt
                go_wp2_with fail
                go_roundw
                case rel => exact ⟨a + 1, by go_num, HAK.out, HM, HB⟩
                case measure => have := HAK.out; first | (simp [intOf]; done) | (simp [intOf]; omega)
          · obtain rfl : a = i := by omega
            have hki3 : ¬ (a : Int) < (a : Int) := by omega
            have HBZ := Lib.hid (HB2.out.trans (HB.out.mono HB2.out.size))
            clear hlt HM
            go_wp2_with fail
            refine (HA.out wr HBZ.out).mono ?_
            rintro e w9 ⟨rfl, hb5⟩
            have HB5 := Lib.hid ((HBZ.out).trans (hb5.mono (HBZ.out).size))
            clear hb5
            go_wp2_with fail
            go_ret
            exact ⟨rfl, HB5.out⟩
  · rw [Bool.not_eq_true] at hs
    rw [hs] at CS
    clear hs hl hl2 HX
    generalize gs.length = n at *
    go_enter Try.func9, Try.ntmps9
    go_wp2_with fail
    refine CS.out.mono ?_
    rintro e w1 ⟨rfl, hb1⟩
    have HB1 := Lib.hid hb1
    clear hb1 CS
    go_wp2_with fail
    refine (HA.out w1 HB1.out).mono ?_
    rintro e w9 ⟨rfl, hb5⟩
    have HB5 := Lib.hid ((HB1.out).trans (hb5.mono (HB1.out).size))
    clear hb5
    go_wp2_with fail
    go_ret
    exact ⟨rfl, HB5.out⟩
end Go.Proofs.Ythgfomjmkmkhkaa
