/-
  The law DigestList: its walk. Conditions: the table of powers of ten, internal/bytealg.MaxLen holds some number; every path at most 2000000 bytes long.
-/
import Derived.Test.YthlcdimofagmfaaGreatDoorRLs
import Derived.Test.YthlcdimofagmfaaGreatDoorSX
import Derived.Test.YthlcdimofagmfaaGreatDoorSM
import Derived.Test.YthlcdimofagmfaaGreatDoorWS
namespace Go.Proofs.YthlcdimofagmfaaGreatDoor
open Go.RowKit Go.Sort Go.Lib Go.Shelf Go.Proofs
set_option linter.unusedSimpArgs false
set_option linter.unnecessarySimpa false
set_option linter.unusedVariables false
theorem out_len (rs : List Rl) : (listOut rs).1.length ≤ rs.length := by
  unfold listOut
  cases rs.find? (fun r => decide (er r ≠ 0)) with
  | some q => simp
  | none =>
    simp only
    by_cases hd : (rs.map (·.1)).Nodup
    · rw [if_pos hd, List.length_map, sortM_length, List.length_map]; exact Nat.le_refl _
    · rw [if_neg hd]; simp
set_option maxRecDepth 100000 in
set_option maxHeartbeats 4000000 in
theorem law_list (A : Option Addr) (c : Nat) (rs : List Rl) (w : World) (hM : Mx w) (hT : P10 w) (hR : RR6 w w.heap.size A rs) (hl : ∀ r ∈ rs, r.2.2.length ≤ 9223372036854775807) (hn : rs.length ≤ 9223372036854775807) (hp : ∀ r ∈ rs, ∀ y ∈ r.1 :: r.2.1, y.1.size ≤ 2000000) :
    Calls Tryz.prog 7 #[.slice A rs.length c] w fun e w' => e = .returned (.bool true) ∧ Below w.heap.size w w' := by
  have HAL := Lib.hid (alive_at w hM hT)
  have HR0 := Lib.hid hR
  have HL := Lib.hid hl
  have hM' := hM
  have hT' := hT
  clear hM hT hR hl
  have HRL := Lib.hid hn
  have HP := Lib.hid hp
  clear hn hp
  go_enter Tryz.func7, Tryz.ntmps7
  go_wp2_with fail
  go_loopw [4, 11] (fun _ s11 wr => ∃ k : Nat, s11 = .int .i64 (k : Int) ∧ k ≤ rs.length ∧ Hid (∀ r ∈ rs.take k, okRl r) ∧ Hid (Below w.heap.size w wr)) (fun _ s11 _ => (rs.length - intOf s11).toNat)
  case atStart => exact ⟨0, rfl, by omega, Lib.hid (by simp), Lib.hid (Below.refl _ _)⟩
  case round =>
    obtain ⟨k, rfl, hk, HE, HB⟩ := hrel
    by_cases hlt : k < rs.length
    · obtain ⟨b, o, A1, A2, c1, c2, hA, hbl, kk⟩ := HR0.out.at_ k hlt
      subst hA
      obtain ⟨z0, z1, z2, z3, z4, z5, hrm, hpm, hrn, hpn⟩ := kk.below HB.out hbl
      have hkl : (k : Int) < (rs.length : Int) := by omega
      have hkr : (k : Int) + 1 ≤ 9223372036854775807 := by have := HRL.out; omega
      have HEN := Lib.hid (show okRl rs[k] → ∀ r ∈ rs.take (k + 1), okRl r from fun h r hr => by
        rw [← List.take_append_getElem hlt] at hr
        rcases List.mem_append.1 hr with hr | hr
        · exact HE.out r hr
        · simp at hr; subst hr; exact h)
      have HK1 := Lib.hid (show k + 1 ≤ rs.length by omega)
      have hll := HL.out rs[k] (List.getElem_mem hlt)
      generalize rs[k] = r at *
      obtain ⟨x, l, S⟩ := r
      simp only at z0 z1 z2 z3 z4 z5 hrm hrn hll
      have hsz := HB.out.size
      have hb0 := bal wr (rblk x A1 l.length c1 A2 S.length c2 40)
      have KS := Lib.hid (small_any x A1 A2 l.length c1 c2 S (wr.alloc (rblk x A1 l.length c1 A2 S.length c2 40)) ((hrn.le hsz).up hb0) hll)
      have HX := Lib.hid (B6.new wr x A1 A2 l.length c1 S.length c2 40)
      have HB1 := Lib.hid (HB.out.alloc hsz (rblk x A1 l.length c1 A2 S.length c2 40))
      have HSM := Lib.hid (show smallB S l.length = true → okRl (x, l, S) from fun h => by
        unfold smallB at h
        simp only [Bool.and_eq_true, decide_eq_true_eq, List.all_eq_true] at h
        refine ⟨h.2.2, h.2.1, fun y hy => ?_⟩
        have := h.1 y hy
        unfold okS at this
        simpa using this)
      obtain ⟨v, hv⟩ : ∃ v, v = smallB S l.length := ⟨_, rfl⟩
      rw [← hv] at KS HSM
      clear hv hb0 hrm hpm hrn hpn kk hll hlt
      unfold rl at *
      unfold rblk at *
      cases v with
      | false =>
        go_wp2_with fail
        obtain ⟨y0, y1, y2, y3, y4, y5⟩ := HX.out
        clear z0 z1 z2 z3 z4 z5
        go_wp2_with fail
        refine KS.out.mono ?_
        rintro e w3 ⟨rfl, hb3⟩
        have HB3 := Lib.hid (HB1.out.trans (hb3.mono HB1.out.size))
        clear hb3 y0 y1 y2 y3 y4 y5 KS HX
        go_wp2_with fail
        refine (HAL.out _ HB3.out).mono ?_
        rintro e w6 ⟨rfl, hb6⟩
        have HB6 := Lib.hid (HB3.out.trans (hb6.mono HB3.out.size))
        clear hb6
        go_wp2_with fail
        go_ret
        exact ⟨rfl, HB6.out⟩
      | true =>
        have HEN2 := Lib.hid (HEN.out (HSM.out rfl))
        go_wp2_with fail
        obtain ⟨y0, y1, y2, y3, y4, y5⟩ := HX.out
        clear z0 z1 z2 z3 z4 z5
        go_wp2_with fail
        refine KS.out.mono ?_
        rintro e w3 ⟨rfl, hb3⟩
        have HB3 := Lib.hid (HB1.out.trans (hb3.mono HB1.out.size))
        clear hb3 y0 y1 y2 y3 y4 y5 KS HX
        go_wp2_with fail
        go_roundw
        case rel => exact ⟨k + 1, by go_num, HK1.out, HEN2, HB3⟩
        case measure => have := HK1.out; first | (simp [intOf]; done) | (simp [intOf]; omega)
    · obtain rfl : k = rs.length := by omega
      rw [List.take_length] at HE
      have hkl : ¬ (rs.length : Int) < (rs.length : Int) := by omega
      clear hk hlt
      by_cases h6 : rs.length ≤ 6
      · have hk6 : ¬ ((6 : Int) < (rs.length : Int)) := by omega
        have KLI := Lib.hid (list_any A c rs wr (hM'.keep HB.out hM'.1) (P10.keep hT' HB.out) (HR0.out.up HB.out) (by omega) HE.out)
        have hol := out_len rs
        have KRL : Hid (∀ W, Below w.heap.size w W → Calls Tryz.prog 22 #[.slice A rs.length c] W (StrsIs (listOut rs) W)) := Lib.hid fun W hb => rlist_any A c rs W (hM'.keep hb hM'.1) (P10.keep hT' hb) (HR0.out.up hb) h6 HE.out HP.out
        generalize listOut rs = O at *
        obtain ⟨L, n⟩ := O
        have hL1 : L.length ≤ 1000 := by simp only at hol; omega
        clear hol
        go_wp2_with fail
        refine KLI.out.mono ?_
        rintro e w4 ⟨A9, c9, rfl, hrt, hpl, hb4⟩
        have HB4 := Lib.hid (HB.out.trans (hb4.mono HB.out.size))
        have HX4 := Lib.hid hrt
        clear hb4 KLI HB hrt hpl
        go_wp2_with fail
        refine (KRL.out _ HB4.out).mono ?_
        rintro e w5 ⟨B9, d9, rfl, hrt5, hpl5, hb5⟩
        have HB5 := Lib.hid (HB4.out.trans (hb5.mono HB4.out.size))
        have KS := Lib.hid (same_any A9 B9 c9 d9 L w5 (HX4.out.up hb5) hrt5 hL1)
        clear hb5 hrt5 hpl5 HX4 KRL
        go_wp2_with fail
        refine KS.out.mono ?_
        rintro e w6 ⟨rfl, hb6⟩
        have HB6 := Lib.hid (HB5.out.trans (hb6.mono HB5.out.size))
        clear hb6 KS
        go_wp2_with fail
        refine (HAL.out _ HB6.out).mono ?_
        rintro e w7 ⟨rfl, hb7⟩
        have HB7 := Lib.hid (HB6.out.trans (hb7.mono HB6.out.size))
        clear hb7
        go_wp2_with fail
        go_ret
        exact ⟨rfl, HB7.out⟩
      · have hk6 : (6 : Int) < (rs.length : Int) := by omega
        go_wp2_with fail
        refine (HAL.out _ HB.out).mono ?_
        rintro e w7 ⟨rfl, hb7⟩
        have HB7 := Lib.hid (HB.out.trans (hb7.mono HB.out.size))
        clear hb7
        go_wp2_with fail
        go_ret
        exact ⟨rfl, HB7.out⟩
end Go.Proofs.YthlcdimofagmfaaGreatDoor
