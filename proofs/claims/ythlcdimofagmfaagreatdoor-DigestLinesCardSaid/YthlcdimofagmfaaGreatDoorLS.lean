/-
  The law DigestLines: its walk. Conditions: the table of powers of ten, internal/bytealg.MaxLen holds some number.
-/
import Derived.Test.YthlcdimofagmfaaGreatDoorLN
import Derived.Test.YthlcdimofagmfaaGreatDoorSM
import Derived.Test.YthlcdimofagmfaaGreatDoorWS
namespace Go.Proofs.YthlcdimofagmfaaGreatDoor
open Go.RowKit Go.Sort Go.Lib Go.Shelf Go.Proofs
set_option linter.unusedSimpArgs false
set_option linter.unnecessarySimpa false
set_option linter.unusedVariables false
theorem at_line {rs : List Rl} (h0 : ∀ r ∈ rs, er r = 0) (hd : (rs.map (·.1)).Nodup) {w : World} {B : Nat} {A9 : Option Addr} (hX : RT1 w B A9 ((sortM (rs.map (·.1))).map (lineM rs))) {r : Rl} (hr : r ∈ rs) :
    ∃ b o, A9 = some ⟨b, o, none⟩ ∧ b < B ∧ w.cell? ⟨b, o + cntM (rs.map (·.1)) r.1, none⟩ = some (.string (lineM rs r.1)) ∧ cntM (rs.map (·.1)) r.1 < rs.length ∧ listOut [r] = ([lineM rs r.1], 0) := by
  obtain ⟨hci, hce⟩ := cnt_sort hd (List.mem_map.2 ⟨r, hr, rfl⟩)
  obtain ⟨b, o, hA, hb, hc⟩ := hX.at_ (cntM (rs.map (·.1)) r.1) (by rw [List.length_map]; exact hci)
  refine ⟨b, o, hA, hb, ?_, by rw [sortM_length, List.length_map] at hci; exact hci, by rw [out_one (h0 r hr), line_one hd hr]⟩
  rw [hc, List.getElem_map]
  simp only [hce]
theorem rr6_one (W : World) (b : Nat) (x : Md) (l : List Md) (S : List Src) (A1 A2 : Option Addr) (c1 c2 : Nat) (h : B6 W b x A1 l.length c1 A2 S.length c2) (hb : b < W.heap.size) (hrm : RM W W.heap.size A1 l) (hpm : Plane A1 c1) (hrn : RN W W.heap.size A2 S) (hpn : Plane A2 c2) :
    RR6 W W.heap.size (some ⟨b, 0, none⟩) [(x, l, S)] :=
  ⟨fun i hi => by
    obtain rfl : i = 0 := by simpa using hi
    exact ⟨b, 0, A1, A2, c1, c2, rfl, hb, ⟨by simpa using h.k0, by simpa using h.k1, by simpa using h.k2, by simpa using h.k3, by simpa using h.k4, by simpa using h.k5, hrm, hpm, hrn, hpn⟩⟩⟩
set_option maxRecDepth 100000 in
set_option maxHeartbeats 4000000 in
theorem law_lines (A : Option Addr) (c : Nat) (rs : List Rl) (w : World) (hM : Mx w) (hT : P10 w) (hR : RR6 w w.heap.size A rs) (hl : ∀ r ∈ rs, r.2.2.length ≤ 9223372036854775807) :
    Calls Tryz.prog 10 #[.slice A rs.length c] w fun e w' => e = .returned (.bool true) ∧ Below w.heap.size w w' := by
  have HAL := Lib.hid (alive_at w hM hT)
  have HR0 := Lib.hid hR
  have HL := Lib.hid hl
  have hM' := hM
  have hT' := hT
  clear hM hT hR hl
  by_cases h6 : rs.length ≤ 6
  · have hk6 : ¬ ((6 : Int) < (rs.length : Int)) := by omega
    have HRL := Lib.hid (show rs.length ≤ 9223372036854775806 by omega)
    go_enter Tryz.func10, Tryz.ntmps10
    go_wp2_with fail
    go_loopw [4, 20] (fun _ s20 wr => ∃ k : Nat, s20 = .int .i64 (k : Int) ∧ k ≤ rs.length ∧ Hid (∀ r ∈ rs.take k, okRl r) ∧ Hid (Below w.heap.size w wr)) (fun _ s20 _ => (rs.length - intOf s20).toNat)
    case atStart => exact ⟨0, rfl, by omega, Lib.hid (by simp), Lib.hid (Below.refl _ _)⟩
    case round =>
      obtain ⟨k, rfl, hk, HE, HB⟩ := hrel
      by_cases hlt : k < rs.length
      · obtain ⟨b, o, A1, A2, c1, c2, hA, hbl, kk⟩ := HR0.out.at_ k hlt
        subst hA
        obtain ⟨z0, z1, z2, z3, z4, z5, hrm, hpm, hrn, hpn⟩ := kk.below HB.out hbl
        have hkl : (k : Int) < (rs.length : Int) := by omega
        have hkr : (k : Int) + 1 ≤ 9223372036854775807 := by have := HRL.out; omega
        have HEN := Lib.hid (show okRl rs[k] → ∀ r ∈ rs.take (k + 1), okRl r from fun h r hr => by
          rw [← List.take_append_getElem hlt] at hr
          rcases List.mem_append.1 hr with hr | hr
          · exact HE.out r hr
          · simp at hr; subst hr; exact h)
        have HK1 := Lib.hid (show k + 1 ≤ rs.length by omega)
        have hll := HL.out rs[k] (List.getElem_mem hlt)
        generalize rs[k] = r at *
        obtain ⟨x, l, S⟩ := r
        simp only at z0 z1 z2 z3 z4 z5 hrm hrn hll
        have hsz := HB.out.size
        have hb0 := bal wr (rblk x A1 l.length c1 A2 S.length c2 40)
        have KS := Lib.hid (small_any x A1 A2 l.length c1 c2 S (wr.alloc (rblk x A1 l.length c1 A2 S.length c2 40)) ((hrn.le hsz).up hb0) hll)
        have HX := Lib.hid (B6.new wr x A1 A2 l.length c1 S.length c2 40)
        have HB1 := Lib.hid (HB.out.alloc hsz (rblk x A1 l.length c1 A2 S.length c2 40))
        have HSM := Lib.hid (show smallB S l.length = true → okRl (x, l, S) from fun h => by
          unfold smallB at h
          simp only [Bool.and_eq_true, decide_eq_true_eq, List.all_eq_true] at h
          refine ⟨h.2.2, h.2.1, fun y hy => ?_⟩
          have := h.1 y hy
          unfold okS at this
          simpa using this)
        obtain ⟨v, hv⟩ : ∃ v, v = smallB S l.length := ⟨_, rfl⟩
        rw [← hv] at KS HSM
        clear hv hb0 hrm hpm hrn hpn kk hll hlt
        unfold rl at *
        unfold rblk at *
        cases v with
        | false =>
          go_wp2_with fail
          obtain ⟨y0, y1, y2, y3, y4, y5⟩ := HX.out
          clear z0 z1 z2 z3 z4 z5
          go_wp2_with fail
          refine KS.out.mono ?_
          rintro e w3 ⟨rfl, hb3⟩
          have HB3 := Lib.hid (HB1.out.trans (hb3.mono HB1.out.size))
          clear hb3 y0 y1 y2 y3 y4 y5 KS HX
          go_wp2_with fail
          refine (HAL.out _ HB3.out).mono ?_
          rintro e w6 ⟨rfl, hb6⟩
          have HB6 := Lib.hid (HB3.out.trans (hb6.mono HB3.out.size))
          clear hb6
          go_wp2_with fail
          go_ret
          exact ⟨rfl, HB6.out⟩
        | true =>
          have HEN2 := Lib.hid (HEN.out (HSM.out rfl))
          go_wp2_with fail
          obtain ⟨y0, y1, y2, y3, y4, y5⟩ := HX.out
          clear z0 z1 z2 z3 z4 z5
          go_wp2_with fail
          refine KS.out.mono ?_
          rintro e w3 ⟨rfl, hb3⟩
          have HB3 := Lib.hid (HB1.out.trans (hb3.mono HB1.out.size))
          clear hb3 y0 y1 y2 y3 y4 y5 KS HX
          go_wp2_with fail
          go_roundw
          case rel => exact ⟨k + 1, by go_num, HK1.out, HEN2, HB3⟩
          case measure => have := HK1.out; first | (simp [intOf]; done) | (simp [intOf]; omega)
      · obtain rfl : k = rs.length := by omega
        rw [List.take_length] at HE
        have hkl : ¬ (rs.length : Int) < (rs.length : Int) := by omega
        clear hk hlt
        have KLI := Lib.hid (list_any A c rs wr (hM'.keep HB.out hM'.1) (P10.keep hT' HB.out) (HR0.out.up HB.out) (by omega) HE.out)
        go_wp2_with fail
        refine KLI.out.mono ?_
        rintro e w4 ⟨A9, c9, rfl, hrt, hpl, hb4⟩
        have HB4 := Lib.hid (HB.out.trans (hb4.mono HB.out.size))
        clear hb4 KLI HB
        by_cases he : (listOut rs).2 = 0
        · obtain ⟨h0, hd, hf⟩ := out_inv he
          obtain ⟨ms, hms⟩ : ∃ ms, ms = rs.map (·.1) := ⟨_, rfl⟩
          rw [← hms] at hd hf
          have hml : ms.length = rs.length := by rw [hms]; simp
          have HDL := Lib.hid (show (sortM ms).length = rs.length by rw [sortM_length, hml])
          rw [hf] at hrt ⊢
          have HX0 := Lib.hid hrt
          have HZ := Lib.hid (And.intro h0 hd)
          have HMS := Lib.hid hms
          have hxl : ((sortM ms).map (lineM rs)).length = rs.length := by rw [List.length_map]; exact HDL.out
          rw [hxl]
          have HXL := Lib.hid hxl
          clear hrt h0 hd hf hml he hms hxl
          have HR4 := Lib.hid (HR0.out.up HB4.out)
          go_wp2_with fail
          go_loopw [8, 9, 10, 11, 13, 44] (fun _ _ _ _ _ s44 wr => ∃ k : Nat, s44 = .int .i64 (k : Int) ∧ k ≤ rs.length ∧ Hid (Below w4.heap.size w4 wr)) (fun _ _ _ _ _ s44 _ => (rs.length - intOf s44).toNat)
          case atStart => exact ⟨0, rfl, by omega, Lib.hid (Below.refl _ _)⟩
          case round =>
            obtain ⟨k, rfl, hk, HB⟩ := hrel
            by_cases hlt : k < rs.length
            · obtain ⟨b, o, A1, A2, c1, c2, hA, hbl, kk⟩ := HR4.out.at_ k hlt
              subst hA
              obtain ⟨z0, z1, z2, z3, z4, z5, hrm, hpm, hrn, hpn⟩ := kk.below HB.out hbl
              have hkl : (k : Int) < (rs.length : Int) := by omega
              have hk6 : k ≤ 5 := by omega
              have hmem := List.getElem_mem hlt
              have hok := HE.out _ hmem
              have hx0 := HX0.out
              have hz0 := HZ.out
              rw [HMS.out] at hx0 hz0
              obtain ⟨b9, o9, hA9, hb9, hc9, hcl, hone⟩ := at_line hz0.1 hz0.2 hx0 hmem
              rw [← HMS.out] at hc9 hcl
              subst hA9
              have HC9 := Lib.hid (And.intro hb9 hc9)
              have HK1 := Lib.hid (show k + 1 ≤ rs.length by omega)
              clear hx0 hz0 hb9 hc9 hmem
              generalize rs[k] = r at *
              obtain ⟨x, l, S⟩ := r
              simp only at z0 z1 z2 z3 z4 z5 hrm hrn hone hcl
              have hsz := HB.out.size
              have hba := bal wr (rblk x A1 l.length c1 A2 S.length c2 40)
              have hbb := bal (wr.alloc (rblk x A1 l.length c1 A2 S.length c2 40)) (rblk x A1 l.length c1 A2 S.length c2 40)
              have hbc := HB4.out.trans (HB.out.mono HB4.out.size)
              have hbd := (hbc.trans (hba.mono hbc.size)).trans (hbb.mono (hbc.trans (hba.mono hbc.size)).size)
              have hr1 := rr6_one ((wr.alloc (rblk x A1 l.length c1 A2 S.length c2 40)).alloc (rblk x A1 l.length c1 A2 S.length c2 40)) (wr.heap.size + 1) x l S A1 A2 c1 c2 (by have := B6.new (wr.alloc (rblk x A1 l.length c1 A2 S.length c2 40)) x A1 A2 l.length c1 S.length c2 40; simpa using this) (by simp) (((hrm.leB hsz).up hba).up hbb) hpm (((hrn.le hsz).up hba).up hbb) hpn
              have KL1 := Lib.hid (list_any (some ⟨wr.heap.size + 1, 0, none⟩) 1 [(x, l, S)] _ (hM'.keep hbd hM'.1) (P10.keep hT' hbd) hr1 (by simp) (by intro r hr; simp at hr; subst hr; exact hok))
              rw [hone] at KL1
              have HX := Lib.hid ((B6.new wr x A1 A2 l.length c1 S.length c2 40).keep hbb)
              have HBD := Lib.hid hbd
              have HB2 := Lib.hid (show Below w4.heap.size w4 ((wr.alloc (rblk x A1 l.length c1 A2 S.length c2 40)).alloc (rblk x A1 l.length c1 A2 S.length c2 40)) from (HB.out.alloc hsz _).alloc (by simp; omega) _)
              have HBX := Lib.hid (B6.new wr x A1 A2 l.length c1 S.length c2 40)
              clear hba hbb hbc hbd hr1 hone hok hrm hpm hrn hpn kk hlt
              unfold rl at *
              unfold rblk at *
              simp only [List.length_singleton] at KL1
              go_wp2_with fail
              refine KL1.out.mono ?_
              rintro e w5 ⟨A5, c5, rfl, hrt5, hpl5, hb5⟩
              obtain ⟨b5, o5, hA5, hl5, hc5⟩ := hrt5.at_ 0 (by simp)
              subst hA5
              simp only [List.getElem_cons_zero, Nat.add_zero] at hc5
              have HX5 := Lib.hid (HX.out.keep hb5)
              have HB5 := Lib.hid (HB2.out.trans (hb5.mono HB2.out.size))
              have HBD5 := Lib.hid (HBD.out.trans (hb5.mono HBD.out.size))
              have HC5 := Lib.hid (And.intro hl5 hc5)
              clear hrt5 hpl5 hb5 hl5 hc5 KL1 HX HB2 HBX z0 z1 z2 z3 z4 z5 HBD HB
              obtain ⟨mm, hmm⟩ : ∃ mm, mm = rs.map (·.1) := ⟨_, rfl⟩
              obtain ⟨u, hu⟩ : ∃ u, u = lineM rs x := ⟨_, rfl⟩
              rw [← hu] at HC9 HC5
              clear hu
              go_wp2_with fail
              go_loopw [11, 13, 63] (fun s11 _ s63 wr => ∃ i : Nat, s63 = .int .i64 (i : Int) ∧ i ≤ rs.length ∧ s11 = .int .i64 ((cntM (ms.take i) x : Nat) : Int) ∧ Hid (Below w5.heap.size w5 wr)) (fun _ _ s63 _ => (rs.length - intOf s63).toNat)
              case atStart => exact ⟨0, rfl, by omega, by simp [cntM], Lib.hid (Below.refl _ _)⟩
              case round =>
                obtain ⟨i, rfl, hi, rfl, HW⟩ := hrel
                by_cases hil : i < rs.length
                · obtain ⟨b', o', B1, B2, d1, d2, hA', hbl', kq⟩ := HR4.out.at_ i hil
                  simp only [Option.some.injEq, Addr.mk.injEq] at hA'
                  obtain ⟨rfl, rfl, _⟩ := hA'
                  have HBW := HB5.out.trans (HW.out.mono HB5.out.size)
                  obtain ⟨z0, z1, z2, z3, z4, z5, _, _, _, _⟩ := kq.below HBW hbl'
                  have hil' : (i : Int) < (rs.length : Int) := by omega
                  have hmi : i < ms.length := by rw [HMS.out, List.length_map]; exact hil
                  have hme : ms[i] = rs[i].1 := by simp only [HMS.out, List.getElem_map]
                  have hct := cnt_take (m := x) hmi
                  rw [hme] at hct
                  have hcl2 := cnt_le ms x i
                  have hi6 : i ≤ 5 := by omega
                  have HI1 := Lib.hid (show i + 1 ≤ rs.length by omega)
                  have HXW := HX5.out.keep HW.out
                  clear hmi hme kq HBW
                  generalize rs[i] = q at *
                  clear hil
                  obtain ⟨y, l2, S2⟩ := q
                  simp only at z0 z1 z2 z3 z4 z5 hct
                  have KC := Lib.hid (fun W => mcompare_any y x _ rfl W)
                  obtain ⟨n, hn⟩ : ∃ n, n = cmpM y x := ⟨_, rfl⟩
                  rw [← hn] at KC hct
                  have HB6 := Lib.hid (HW.out.alloc HW.out.size (rblk y B1 l2.length d1 B2 S2.length d2 40))
                  have HY := Lib.hid (B6.new wr y B1 B2 l2.length d1 S2.length d2 40)
                  have HXX := Lib.hid (HXW.keep (bal wr (rblk y B1 l2.length d1 B2 S2.length d2 40)))
                  generalize cntM (ms.take i) x = cn at *
                  clear HXW hn
                  unfold rblk at *
                  by_cases hc : n < 0
                  · rw [if_pos hc] at hct
                    have HCT := Lib.hid hct
                    clear hct
                    obtain ⟨x0, x1, x2, x3, x4, x5⟩ := HXX.out
                    go_wp2_with fail
                    refine (KC.out _).mono ?_
                    rintro e w7 ⟨rfl, hb7⟩
                    have HB7 := Lib.hid (HB6.out.trans (hb7.mono HB6.out.size))
                    clear hb7 x0 x1 x2 x3 x4 x5 z0 z1 z2 z3 z4 z5
                    go_wp2_with fail
                    go_roundw
                    case rel => exact ⟨i + 1, by go_num, HI1.out, by rw [HCT.out]; first | rfl | (push_cast; rfl), HB7⟩
                    case measure => have := HI1.out; first | (simp [intOf]; done) | (simp [intOf]; omega)
                  · rw [if_neg hc] at hct
                    have HCT := Lib.hid hct
                    clear hct
                    obtain ⟨x0, x1, x2, x3, x4, x5⟩ := HXX.out
                    go_wp2_with fail
                    refine (KC.out _).mono ?_
                    rintro e w7 ⟨rfl, hb7⟩
                    have HB7 := Lib.hid (HB6.out.trans (hb7.mono HB6.out.size))
                    clear hb7 x0 x1 x2 x3 x4 x5 z0 z1 z2 z3 z4 z5
                    go_wp2_with fail
                    go_roundw
                    case rel => exact ⟨i + 1, by go_num, HI1.out, by rw [HCT.out]; rfl, HB7⟩
                    case measure => have := HI1.out; first | (simp [intOf]; done) | (simp [intOf]; omega)
                · obtain rfl : i = rs.length := by omega
                  have hil' : ¬ (rs.length : Int) < (rs.length : Int) := by omega
                  have htk : ms.take rs.length = ms := List.take_of_length_le (by rw [HMS.out, List.length_map]; exact Nat.le_refl _)
                  rw [htk]
                  have HBW := HB5.out.trans (HW.out.mono HB5.out.size)
                  have e9 := HC9.out.2
                  rw [← HBW.cell (p := ⟨b9, o9 + cntM ms x, none⟩) HC9.out.1] at e9
                  have e5 := HC5.out.2
                  rw [← HW.out.cell (p := ⟨b5, o5, none⟩) HC5.out.1] at e5
                  have HBE := Lib.hid HBW.drew
                  have hclI : ((cntM ms x : Nat) : Int) < (rs.length : Int) := by omega
                  have hcl0 : (0 : Int) ≤ ((cntM ms x : Nat) : Int) := by omega
                  generalize cntM ms x = cn at *
                  have hge : ¬ ((rs.length : Int) ≤ (cn : Int)) := by omega
                  have hge2 : ¬ (rs.length ≤ cn) := by omega
                  have hgd : decide ((rs.length : Int) ≤ (cn : Int)) = false := by simpa using hge2
                  have hgd2 : decide (rs.length ≤ cn) = false := by simpa using hge2
                  clear htk HBW hil hi
                  go_wp2_with fail
                  go_region
                  go_wp2_with fail
                  go_roundw
                  case rel => exact ⟨k + 1, by go_num, HK1.out, HBE⟩
                  case measure => have := HK1.out; first | (simp [intOf]; done) | (simp [intOf]; omega)
            · obtain rfl : k = rs.length := by omega
              have hkl : ¬ (rs.length : Int) < (rs.length : Int) := by omega
              have HBE := Lib.hid (HB4.out.trans (HB.out.mono HB4.out.size))
              clear hlt hk
              go_wp2_with fail
              refine (HAL.out _ HBE.out).mono ?_
              rintro e w6 ⟨rfl, hb6⟩
              have HB6 := Lib.hid (HBE.out.trans (hb6.mono HBE.out.size))
              clear hb6
              go_wp2_with fail
              go_ret
              exact ⟨rfl, HB6.out⟩
        · have hne : ((listOut rs).2 != 0) = true := by simpa using he
          have h1 := out_fail he
          rw [h1]
          clear he h1 hrt hpl
          generalize (listOut rs).2 = n at *
          simp only [List.length_nil]
          go_wp2_with fail
          refine (HAL.out _ HB4.out).mono ?_
          rintro e w6 ⟨rfl, hb6⟩
          have HB6 := Lib.hid (HB4.out.trans (hb6.mono HB4.out.size))
          clear hb6
          go_wp2_with fail
          go_ret
          exact ⟨rfl, HB6.out⟩
  · have hk6 : (6 : Int) < (rs.length : Int) := by omega
    clear h6
    go_enter Tryz.func10, Tryz.ntmps10
    go_wp2_with fail
    refine (HAL.out _ (Below.refl _ _)).mono ?_
    rintro e w6 ⟨rfl, hb6⟩
    have HB6 := Lib.hid hb6
    clear hb6
    go_wp2_with fail
    go_ret
    exact ⟨rfl, HB6.out⟩
end Go.Proofs.YthlcdimofagmfaaGreatDoor
