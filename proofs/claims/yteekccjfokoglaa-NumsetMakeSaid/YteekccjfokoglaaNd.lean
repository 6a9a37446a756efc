/-
  The specification's fracs. Condition: at most 100000 spans, their ends 64-bit integers.
-/
import Derived.Test.YteekccjfokoglaaNc
namespace Go.Proofs.Yteekccjfokoglaa
open Go.RowKit Go.Sort Go.Lib Go.Proofs
set_option linter.unusedSimpArgs false
set_option linter.unnecessarySimpa false
set_option linter.unusedVariables false
theorem fstep_no {acc : List Sp} {x : Sp} {a b : Int} (ha : a = max x.1 (-1000000000000000)) (hb : b = min x.2 1000000000000000) (h : b < a) : fstep acc x = acc := by
  unfold fstep; rw [if_pos (by simp only [clipF]; omega)]
/-- an end, moved off the whole numbers -/
def upE (a : Int) : Int := if a % 10000 = 0 then a + 1 else a
def dnE (b : Int) : Int := if b % 10000 = 0 then b - 1 else b
theorem fstep_yes {acc : List Sp} {x : Sp} {a b : Int} (ha : a = max x.1 (-1000000000000000)) (hb : b = min x.2 1000000000000000) (h : ¬b < a) : fstep acc x = if upE a ≤ dnE b then acc ++ [(rk (upE a), rk (dnE b))] else acc := by
  subst ha hb
  unfold fstep; rw [if_neg (by simp only [clipF]; omega)]; rfl
set_option maxRecDepth 100000 in
set_option maxHeartbeats 2000000 in
theorem rfracs_any (A1 A2 : Option Addr) (c1 c2 : Nat) (s : NS) (w : World) (hN : Ns w A1 c1 A2 c2 s) (hk : okN 100000 s) :
    Calls Try.prog 56 #[nv A1 s.1.length c1 A2 s.2.length c2] w (RnIs (rn (fr s.2)) w) := by
  have hb0 : Below w.heap.size w (w.alloc (.cells #[.slice A1 s.1.length c1, .slice A2 s.2.length c2] 24)) := (Below.refl _ _).alloc (Nat.le_refl _) _
  have HR := Lib.hid (hN.r2.up hb0)
  have HK := Lib.hid hk
  have HB0 := Lib.hid hb0
  have hlen := hk.2.1
  clear hN hk hb0
  go_enter Try.func56, Try.ntmps56
  go_wp2_with fail
  generalize w.alloc (.cells #[.slice A1 s.1.length c1, .slice A2 s.2.length c2] 24) = w3 at *
  go_loopw [3, 11] (fun s3 s11 wr => ∃ (k : Nat) (v : Value), s11 = .int .i64 (k : Int) ∧ s3 = v ∧ k ≤ s.2.length ∧ Hid (wr.ownsRow w3.heap.size 46 2 v (fr (s.2.take k)).length (flat (fr (s.2.take k)))) ∧ Hid (Below w3.heap.size w3 wr)) (fun _ s11 _ => (s.2.length - intOf s11).toNat)
  case atStart => exact ⟨0, _, rfl, rfl, by omega, Lib.hid (World.ownsRow_nil _ _ _ _), Lib.hid (Below.refl _ _)⟩
  case round =>
    obtain ⟨i0, hi, hz0, hz1, hz2⟩ := info_parts info46
    obtain ⟨k, v, rfl, rfl, hk, HO, HB⟩ := hrel
    by_cases hlt : k < s.2.length
    · obtain ⟨b, o, hA, hbl, d0, d1⟩ := HR.out.at_ k hlt
      subst hA
      rw [← HB.out.cell (p := ⟨b, o + k * 2, none⟩) hbl] at d0
      rw [← HB.out.cell (p := ⟨b, o + k * 2 + 1, none⟩) hbl] at d1
      have HT := Lib.hid (show fr (s.2.take (k + 1)) = fstep (fr (s.2.take k)) s.2[k] by rw [← List.take_append_getElem hlt, fr_snoc])
      have h64 := HK.out.2.2.2 s.2[k] (List.getElem_mem hlt)
      obtain ⟨x, hx⟩ : ∃ x, x = s.2[k] := ⟨_, rfl⟩
      rw [← hx] at d0 d1 HT h64
      have hacl : (fr (s.2.take k)).length ≤ 100000 := by have := fr_len (s.2.take k); simp at this; omega
      obtain ⟨acc, hacc⟩ : ∃ acc, acc = fr (s.2.take k) := ⟨_, rfl⟩
      rw [← hacc] at HO HT hacl
      have hkl : (k : Int) < (s.2.length : Int) := by omega
      have hwr : w3.heap.size ≤ wr.heap.size := HB.out.size
      obtain ⟨W, hW⟩ : ∃ W, W = wr.alloc (.cells #[.int .i64 x.1, .int .i64 x.2] 46) := ⟨_, rfl⟩
      obtain ⟨b9, hb9⟩ : ∃ b9, b9 = wr.heap.size := ⟨_, rfl⟩
      have HO1 := Lib.hid (show W.ownsRow w3.heap.size 46 2 u3 acc.length (flat acc) by rw [hW]; exact HO.out.alloc _)
      have HB1 := Lib.hid (show Below w3.heap.size w3 W by rw [hW]; exact HB.out.alloc hwr _)
      have e0 : W.cell? ⟨b9, 0, none⟩ = some (.int .i64 x.1) := by rw [hW, hb9]; simp
      have e1 : W.cell? ⟨b9, 1, none⟩ = some (.int .i64 x.2) := by rw [hW, hb9]; simp
      have l9 : b9 < W.heap.size := by rw [hW, hb9]; simp
      obtain ⟨a, ha⟩ : ∃ a, a = max x.1 (-1000000000000000) := ⟨_, rfl⟩
      obtain ⟨z, hz⟩ : ∃ z, z = min x.2 1000000000000000 := ⟨_, rfl⟩
      have HF1 := Lib.hid (fun h : z < a => HT.out.trans (fstep_no ha hz h))
      have HF2 := Lib.hid (fun h : ¬z < a => HT.out.trans (fstep_yes ha hz h))
      have ba : -1000000000000000 ≤ a := by omega
      have bz : z ≤ 1000000000000000 := by omega
      have HA := Lib.hid ha
      have HZ := Lib.hid hz
      clear hx hacc ha hz h64 HT
      go_upto_region 5 with fail
      rw [← hW, ← hb9]
      clear hW hb9 d0 d1 HO HB hkl
      go_region
      rw [← HA.out, ← HZ.out]
      have HO2 := Lib.hid (own_up HO1.out (drewB W))
      have HB2 := Lib.hid (HB1.out.drew)
      clear HO1 HB1 e0 e1 l9 HA HZ
      generalize W.drew = Wd at *
      have hW3 : w3.heap.size ≤ Wd.heap.size := HB2.out.size
      by_cases hsk : z < a
      · have HT2 := Lib.hid (HF1.out hsk)
        have g1 : decide (z < a) = true := decide_eq_true hsk
        have HO8 := Lib.hid (show Wd.ownsRow w3.heap.size 46 2 u3 (fr (s.2.take (k + 1))).length (flat (fr (s.2.take (k + 1)))) by rw [HT2.out]; exact HO2.out)
        clear HF1 HF2 hsk
        go_wp2_with fail
        go_roundw
        case rel => exact ⟨k + 1, _, by go_num, rfl, by omega, HO8, HB2⟩
        case measure => simp [intOf]; omega
      · have HTT := Lib.hid (HF2.out hsk)
        have g1 : decide (z < a) = false := decide_eq_false hsk
        have haz : a ≤ z := by omega
        clear HF1 HF2 hsk
        by_cases qa : a % 10000 = 0
        · have HWa := Lib.hid (show ∀ W : World, Calls Try.prog 61 #[.int .i64 a] W (fun e w' => e = .returned (.bool true) ∧ W = w') from fun W => by
            have h := rwhole_any a W; rw [decide_eq_true qa] at h; exact h)
          have HT0 := Lib.hid (HTT.out.trans (show (if upE a ≤ dnE z then acc ++ [(rk (upE a), rk (dnE z))] else acc) = (if a + 1 ≤ dnE z then acc ++ [(rk (a + 1), rk (dnE z))] else acc) by rw [show upE a = a + 1 by unfold upE; rw [if_pos qa]]))
          have aw : IntKind.i64.wrap (a + 1) = a + 1 := IntWalk.i64_in _ (by omega)
          clear qa HTT
          go_wp2_with fail
          refine (HWa.out _).mono ?_
          rintro e w' ⟨rfl, rfl⟩
          by_cases qz : z % 10000 = 0
          · have HWz := Lib.hid (show ∀ W : World, Calls Try.prog 61 #[.int .i64 z] W (fun e w' => e = .returned (.bool true) ∧ W = w') from fun W => by
              have h := rwhole_any z W; rw [decide_eq_true qz] at h; exact h)
            have HT1 := Lib.hid (HT0.out.trans (show (if a + 1 ≤ dnE z then acc ++ [(rk (a + 1), rk (dnE z))] else acc) = (if a + 1 ≤ z - 1 then acc ++ [(rk (a + 1), rk (z - 1))] else acc) by rw [show dnE z = z - 1 by unfold dnE; rw [if_pos qz]]))
            have zw : IntKind.i64.wrap (z - 1) = z - 1 := IntWalk.i64_in _ (by omega)
            clear qz HT0
            go_wp2_with fail
            refine (HWz.out _).mono ?_
            rintro e w' ⟨rfl, rfl⟩
            by_cases hle : a + 1 ≤ z - 1
            · have HT2 := Lib.hid (HT1.out.trans (if_pos hle))
              have g9 : decide (a + 1 ≤ z - 1) = true := decide_eq_true hle
              have HR1 := Lib.hid (fun W => rrank_any (a + 1) W (by unfold bdu; omega))
              have HR2 := Lib.hid (fun W => rrank_any (z - 1) W (by unfold bdu; omega))
              have hown := HO2.out
              clear hle HT1
              go_wp2_with fail
              refine (HR1.out _).mono ?_
              rintro e w' ⟨rfl, rfl⟩
              go_wp2_with fail
              refine (HR2.out _).mono ?_
              rintro e w' ⟨rfl, rfl⟩
              go_wp2_with (at_builtin; refine wpList_append_own _ rfl _ _ 22 rfl w3.heap.size 46 i0 (.agg #[.int .i64 0, .int .i64 0]) 2 16 Try.underlying22 hi hz0 hz1 hz2 rfl (by decide) _ _ _ rfl (hown.alloc _) ⟨Wd.heap.size, 0, none⟩ 1 1 [.int .i64 (rk (a + 1)), .int .i64 (rk (z - 1))] rfl rfl ?c1 ?c2 ?c3 ?c4 ?c5 ?_)
              case c1 => exact new2 _ _ _ _
              case c2 => exact one2 _ _
              case c3 => unfold maxLen; omega
              case c4 => omega
              case c5 => simp; omega
              intro v8 w8 hown8 hgrow _
              have HO8 := Lib.hid (show w8.ownsRow w3.heap.size 46 2 v8 (fr (s.2.take (k + 1))).length (flat (fr (s.2.take (k + 1)))) by rw [HT2.out, flat_append, List.length_append]; exact hown8)
              have HB8 := Lib.hid ((HB2.out.alloc hW3 _).grown hgrow (by simp; omega) (fun j hj => (hown.lt j hj).1))
              clear hown8 hgrow hown HO2 HB2 HR1 HR2
              go_wp2_with fail
              go_roundw
              case rel => exact ⟨k + 1, _, by go_num, rfl, by omega, HO8, HB8⟩
              case measure => simp [intOf]; omega
            · have HT2 := Lib.hid (HT1.out.trans (if_neg hle))
              have g9 : decide (a + 1 ≤ z - 1) = false := decide_eq_false hle
              have HO8 := Lib.hid (show Wd.ownsRow w3.heap.size 46 2 u3 (fr (s.2.take (k + 1))).length (flat (fr (s.2.take (k + 1)))) by rw [HT2.out]; exact HO2.out)
              clear hle HT1
              go_wp2_with fail
              go_roundw
              case rel => exact ⟨k + 1, _, by go_num, rfl, by omega, HO8, HB2⟩
              case measure => simp [intOf]; omega
          · have HWz := Lib.hid (show ∀ W : World, Calls Try.prog 61 #[.int .i64 z] W (fun e w' => e = .returned (.bool false) ∧ W = w') from fun W => by
              have h := rwhole_any z W; rw [decide_eq_false qz] at h; exact h)
            have HT1 := Lib.hid (HT0.out.trans (show (if a + 1 ≤ dnE z then acc ++ [(rk (a + 1), rk (dnE z))] else acc) = (if a + 1 ≤ z then acc ++ [(rk (a + 1), rk (z))] else acc) by rw [show dnE z = z by unfold dnE; rw [if_neg qz]]))
            clear qz HT0
            go_wp2_with fail
            refine (HWz.out _).mono ?_
            rintro e w' ⟨rfl, rfl⟩
            by_cases hle : a + 1 ≤ z
            · have HT2 := Lib.hid (HT1.out.trans (if_pos hle))
              have g9 : decide (a + 1 ≤ z) = true := decide_eq_true hle
              have HR1 := Lib.hid (fun W => rrank_any (a + 1) W (by unfold bdu; omega))
              have HR2 := Lib.hid (fun W => rrank_any (z) W (by unfold bdu; omega))
              have hown := HO2.out
              clear hle HT1
              go_wp2_with fail
              refine (HR1.out _).mono ?_
              rintro e w' ⟨rfl, rfl⟩
              go_wp2_with fail
              refine (HR2.out _).mono ?_
              rintro e w' ⟨rfl, rfl⟩
              go_wp2_with (at_builtin; refine wpList_append_own _ rfl _ _ 22 rfl w3.heap.size 46 i0 (.agg #[.int .i64 0, .int .i64 0]) 2 16 Try.underlying22 hi hz0 hz1 hz2 rfl (by decide) _ _ _ rfl (hown.alloc _) ⟨Wd.heap.size, 0, none⟩ 1 1 [.int .i64 (rk (a + 1)), .int .i64 (rk (z))] rfl rfl ?c1 ?c2 ?c3 ?c4 ?c5 ?_)
              case c1 => exact new2 _ _ _ _
              case c2 => exact one2 _ _
              case c3 => unfold maxLen; omega
              case c4 => omega
              case c5 => simp; omega
              intro v8 w8 hown8 hgrow _
              have HO8 := Lib.hid (show w8.ownsRow w3.heap.size 46 2 v8 (fr (s.2.take (k + 1))).length (flat (fr (s.2.take (k + 1)))) by rw [HT2.out, flat_append, List.length_append]; exact hown8)
              have HB8 := Lib.hid ((HB2.out.alloc hW3 _).grown hgrow (by simp; omega) (fun j hj => (hown.lt j hj).1))
              clear hown8 hgrow hown HO2 HB2 HR1 HR2
              go_wp2_with fail
              go_roundw
              case rel => exact ⟨k + 1, _, by go_num, rfl, by omega, HO8, HB8⟩
              case measure => simp [intOf]; omega
            · have HT2 := Lib.hid (HT1.out.trans (if_neg hle))
              have g9 : decide (a + 1 ≤ z) = false := decide_eq_false hle
              have HO8 := Lib.hid (show Wd.ownsRow w3.heap.size 46 2 u3 (fr (s.2.take (k + 1))).length (flat (fr (s.2.take (k + 1)))) by rw [HT2.out]; exact HO2.out)
              clear hle HT1
              go_wp2_with fail
              go_roundw
              case rel => exact ⟨k + 1, _, by go_num, rfl, by omega, HO8, HB2⟩
              case measure => simp [intOf]; omega
        · have HWa := Lib.hid (show ∀ W : World, Calls Try.prog 61 #[.int .i64 a] W (fun e w' => e = .returned (.bool false) ∧ W = w') from fun W => by
            have h := rwhole_any a W; rw [decide_eq_false qa] at h; exact h)
          have HT0 := Lib.hid (HTT.out.trans (show (if upE a ≤ dnE z then acc ++ [(rk (upE a), rk (dnE z))] else acc) = (if a ≤ dnE z then acc ++ [(rk (a), rk (dnE z))] else acc) by rw [show upE a = a by unfold upE; rw [if_neg qa]]))
          clear qa HTT
          go_wp2_with fail
          refine (HWa.out _).mono ?_
          rintro e w' ⟨rfl, rfl⟩
          by_cases qz : z % 10000 = 0
          · have HWz := Lib.hid (show ∀ W : World, Calls Try.prog 61 #[.int .i64 z] W (fun e w' => e = .returned (.bool true) ∧ W = w') from fun W => by
              have h := rwhole_any z W; rw [decide_eq_true qz] at h; exact h)
            have HT1 := Lib.hid (HT0.out.trans (show (if a ≤ dnE z then acc ++ [(rk (a), rk (dnE z))] else acc) = (if a ≤ z - 1 then acc ++ [(rk (a), rk (z - 1))] else acc) by rw [show dnE z = z - 1 by unfold dnE; rw [if_pos qz]]))
            have zw : IntKind.i64.wrap (z - 1) = z - 1 := IntWalk.i64_in _ (by omega)
            clear qz HT0
            go_wp2_with fail
            refine (HWz.out _).mono ?_
            rintro e w' ⟨rfl, rfl⟩
            by_cases hle : a ≤ z - 1
            · have HT2 := Lib.hid (HT1.out.trans (if_pos hle))
              have g9 : decide (a ≤ z - 1) = true := decide_eq_true hle
              have HR1 := Lib.hid (fun W => rrank_any (a) W (by unfold bdu; omega))
              have HR2 := Lib.hid (fun W => rrank_any (z - 1) W (by unfold bdu; omega))
              have hown := HO2.out
              clear hle HT1
              go_wp2_with fail
              refine (HR1.out _).mono ?_
              rintro e w' ⟨rfl, rfl⟩
              go_wp2_with fail
              refine (HR2.out _).mono ?_
              rintro e w' ⟨rfl, rfl⟩
              go_wp2_with (at_builtin; refine wpList_append_own _ rfl _ _ 22 rfl w3.heap.size 46 i0 (.agg #[.int .i64 0, .int .i64 0]) 2 16 Try.underlying22 hi hz0 hz1 hz2 rfl (by decide) _ _ _ rfl (hown.alloc _) ⟨Wd.heap.size, 0, none⟩ 1 1 [.int .i64 (rk (a)), .int .i64 (rk (z - 1))] rfl rfl ?c1 ?c2 ?c3 ?c4 ?c5 ?_)
              case c1 => exact new2 _ _ _ _
              case c2 => exact one2 _ _
              case c3 => unfold maxLen; omega
              case c4 => omega
              case c5 => simp; omega
              intro v8 w8 hown8 hgrow _
              have HO8 := Lib.hid (show w8.ownsRow w3.heap.size 46 2 v8 (fr (s.2.take (k + 1))).length (flat (fr (s.2.take (k + 1)))) by rw [HT2.out, flat_append, List.length_append]; exact hown8)
              have HB8 := Lib.hid ((HB2.out.alloc hW3 _).grown hgrow (by simp; omega) (fun j hj => (hown.lt j hj).1))
              clear hown8 hgrow hown HO2 HB2 HR1 HR2
              go_wp2_with fail
              go_roundw
              case rel => exact ⟨k + 1, _, by go_num, rfl, by omega, HO8, HB8⟩
              case measure => simp [intOf]; omega
            · have HT2 := Lib.hid (HT1.out.trans (if_neg hle))
              have g9 : decide (a ≤ z - 1) = false := decide_eq_false hle
              have HO8 := Lib.hid (show Wd.ownsRow w3.heap.size 46 2 u3 (fr (s.2.take (k + 1))).length (flat (fr (s.2.take (k + 1)))) by rw [HT2.out]; exact HO2.out)
              clear hle HT1
              go_wp2_with fail
              go_roundw
              case rel => exact ⟨k + 1, _, by go_num, rfl, by omega, HO8, HB2⟩
              case measure => simp [intOf]; omega
          · have HWz := Lib.hid (show ∀ W : World, Calls Try.prog 61 #[.int .i64 z] W (fun e w' => e = .returned (.bool false) ∧ W = w') from fun W => by
              have h := rwhole_any z W; rw [decide_eq_false qz] at h; exact h)
            have HT1 := Lib.hid (HT0.out.trans (show (if a ≤ dnE z then acc ++ [(rk (a), rk (dnE z))] else acc) = (if a ≤ z then acc ++ [(rk (a), rk (z))] else acc) by rw [show dnE z = z by unfold dnE; rw [if_neg qz]]))
            clear qz HT0
            go_wp2_with fail
            refine (HWz.out _).mono ?_
            rintro e w' ⟨rfl, rfl⟩
            by_cases hle : a ≤ z
            · have HT2 := Lib.hid (HT1.out.trans (if_pos hle))
              have g9 : decide (a ≤ z) = true := decide_eq_true hle
              have HR1 := Lib.hid (fun W => rrank_any (a) W (by unfold bdu; omega))
              have HR2 := Lib.hid (fun W => rrank_any (z) W (by unfold bdu; omega))
              have hown := HO2.out
              clear hle HT1
              go_wp2_with fail
              refine (HR1.out _).mono ?_
              rintro e w' ⟨rfl, rfl⟩
              go_wp2_with fail
              refine (HR2.out _).mono ?_
              rintro e w' ⟨rfl, rfl⟩
              go_wp2_with (at_builtin; refine wpList_append_own _ rfl _ _ 22 rfl w3.heap.size 46 i0 (.agg #[.int .i64 0, .int .i64 0]) 2 16 Try.underlying22 hi hz0 hz1 hz2 rfl (by decide) _ _ _ rfl (hown.alloc _) ⟨Wd.heap.size, 0, none⟩ 1 1 [.int .i64 (rk (a)), .int .i64 (rk (z))] rfl rfl ?c1 ?c2 ?c3 ?c4 ?c5 ?_)
              case c1 => exact new2 _ _ _ _
              case c2 => exact one2 _ _
              case c3 => unfold maxLen; omega
              case c4 => omega
              case c5 => simp; omega
              intro v8 w8 hown8 hgrow _
              have HO8 := Lib.hid (show w8.ownsRow w3.heap.size 46 2 v8 (fr (s.2.take (k + 1))).length (flat (fr (s.2.take (k + 1)))) by rw [HT2.out, flat_append, List.length_append]; exact hown8)
              have HB8 := Lib.hid ((HB2.out.alloc hW3 _).grown hgrow (by simp; omega) (fun j hj => (hown.lt j hj).1))
              clear hown8 hgrow hown HO2 HB2 HR1 HR2
              go_wp2_with fail
              go_roundw
              case rel => exact ⟨k + 1, _, by go_num, rfl, by omega, HO8, HB8⟩
              case measure => simp [intOf]; omega
            · exact absurd haz hle
    · obtain rfl : k = s.2.length := by omega
      rw [List.take_length] at HO
      obtain ⟨A3, c3, rfl, hre3, hp3, hhi3⟩ := re_of_own HO.out
      have hc := rnormal_any A3 c3 (fr s.2) wr hre3 (by have := fr_len s.2; omega) (fun y hy => by
        have := fr_bd s.2 y hy
        unfold i64ok; omega) (fun y hy _ => fr_bd s.2 y hy)
      have hbel : Below w.heap.size w wr := HB0.out.trans (HB.out.mono HB0.out.size)
      have HC := Lib.hid (Calls.mono hc (fun e w' h => RnIs.le h hbel))
      clear hbel
      clear hc hre3 hp3 hhi3 HO
      go_wp2_with fail
      refine HC.out.mono ?_
      rintro e w5 ⟨v5, rfl, h1, h2⟩
      have H1 := Lib.hid (And.intro h1 h2)
      clear h1 h2 HC
      go_wp2_with fail
      go_ret
      exact ⟨_, rfl, H1.out.1, H1.out.2⟩
end Go.Proofs.Yteekccjfokoglaa
