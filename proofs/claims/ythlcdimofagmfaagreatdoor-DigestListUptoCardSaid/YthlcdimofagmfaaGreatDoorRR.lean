/-
  Release of the specification.
-/
import Derived.Test.YthlcdimofagmfaaGreatDoorRXZ
import Derived.Test.YthlcdimofagmfaaGreatDoorRT
import Derived.Test.YthlcdimofagmfaaGreatDoorQRA
import Derived.Test.YthlcdimofagmfaaGreatDoorD3
namespace Go.Proofs.YthlcdimofagmfaaGreatDoor
open Go.RowKit Go.Sort Go.Lib Go.Shelf Go.Proofs
open Dg (txtH hsum txtL txtL_len hsum_lt)
set_option linter.unusedSimpArgs false
set_option linter.unnecessarySimpa false
set_option linter.unusedVariables false
/-- what the specification's Release must give -/
def RRel : Prop := ∀ (x : Md) (A A2 : Option Addr) (c c2 : Nat) (l : List Md) (S : List Src) (w : World), Mx w → P10 w → RM w w.heap.size A l → Plane A c → l.length ≤ 20 → (∀ y ∈ x :: l, y.1.size ≤ 2000000) → RN w w.heap.size A2 S → Plane A2 c2 → S.length ≤ 8 → (∀ y ∈ S, y.1.size ≤ 200 ∧ y.2.size ≤ 1000) →
    Calls Tryz.prog 20 #[rl x A l.length c A2 S.length c2] w (RelIs (relOut x l S) w)
/-- the source at hand, all that was there before as it was -/
abbrev SR2 (W0 : World) (p : Nat) (y : Src) (W : World) : Prop := Below W0.heap.size W0 W ∧ W.cell? ⟨p, 0, none⟩ = some (.string y.1) ∧ W.cell? ⟨p, 1, none⟩ = some (.string y.2)
theorem SR2.keep {W0 W W' : World} {p : Nat} {y : Src} (h : SR2 W0 p y W) (hb : Below W.heap.size W W') : SR2 W0 p y W' :=
  ⟨h.1.trans (hb.mono h.1.size), cell_keep h.2.1 hb, cell_keep h.2.2 hb⟩
theorem sr2_of {W : World} {p : Nat} {y : Src} (h : C2s W p y) : SR2 W p y W := ⟨Below.refl _ _, h.c0, h.c1⟩
set_option maxRecDepth 100000 in
set_option maxHeartbeats 4000000 in
theorem rrel_any : RRel := by
  intro x A A2 c c2 l S w hM hT hR hf hl hp hS hf2 hSl hsz
  have hb0 := bal w (rblk x A l.length c A2 S.length c2 40)
  have HB0 := Lib.hid hb0
  have HX := Lib.hid (B6.new w x A A2 l.length c S.length c2 40)
  have KT := Lib.hid (rtext_any x A c l _ (hR.up hb0) hf (by omega) hp)
  have HSR := Lib.hid (hS.up hb0)
  have HF2 := Lib.hid hf2
  have HZ := Lib.hid (And.intro hSl hsz)
  have HCH := Lib.hid (fun (h : chkM x l ≠ 0) => relOut_chk (S := S) h)
  have HDU := Lib.hid (fun (h : chkM x l = 0) (hd : dupN S = true) => relOut_dup (x := x) (l := l) (S := S) (D := S) h (List.Perm.refl _) hd)
  have HOK := Lib.hid (fun (h : chkM x l = 0) (hn : (S.map (·.1)).Nodup) => relOut_ok (x := x) (l := l) (S := S) (D := sortN S) h (sortN_perm S) (sortN_sorted S) (nodup_sortN hn))
  have HTS := Lib.hid (show chkM x l = 0 → (textB x l).size ≤ 100000 from fun h => by
    have hp := chk_path h
    unfold textB; rw [if_pos h]
    show (textL x (sortM l)).toArray.size ≤ _
    rw [List.size_toArray]
    have h1 := flat_bound kR (by decide) (sortM l) (fun y hy => hp y (by simp [(sortM_perm l).mem_iff.1 hy]))
    have h2 := line_le kM (by decide) x (hp x (by simp))
    have h3 : (lineB kM x).data.toList.length = (lineB kM x).size := by simp
    rw [sortM_length] at h1
    unfold textL
    rw [List.length_append]; omega)
  obtain ⟨n, hn⟩ : ∃ n, n = chkM x l := ⟨_, rfl⟩
  obtain ⟨T, hTd⟩ : ∃ T, T = textB x l := ⟨_, rfl⟩
  rw [← hn, ← hTd] at KT
  rw [← hn, ← hTd] at HTS
  rw [← hn] at HCH
  simp only [← hn] at HDU HOK
  simp only [← hTd] at HOK
  generalize relOut x l S = O at *
  clear hb0 hM hT hR hf hl hp hS hf2 hSl hsz hTd
  unfold rl
  unfold rblk at *
  by_cases hz : n = 0
  · have q0 : (n != 0) = false := by simp [hz]
    have HZ0 := Lib.hid hz
    clear hz hn
    go_enter Tryz.func20, Tryz.ntmps20
    go_wp2_with fail
    obtain ⟨x0, x1, x2, x3, x4, x5⟩ := HX.out
    go_wp2_with fail
    refine KT.out.mono ?_
    rintro e w1 ⟨rfl, hb1⟩
    have HB1 := Lib.hid (HB0.out.trans (hb1.mono HB0.out.size))
    have HSR1 := Lib.hid (HSR.out.up hb1)
    obtain ⟨y0, y1, y2, y3, y4, y5⟩ := HX.out.keep hb1
    clear hb1 x0 x1 x2 x3 x4 x5 KT HB0 HX HSR
    go_wp2_with fail
    go_loopw [6, 8, 9, 10, 25] (fun s6 _ _ _ s25 wr => ∃ k : Nat, s25 = .int .i64 (k : Int) ∧ k ≤ S.length ∧ Hid (((S.take k).map (·.1)).Nodup) ∧ Hid (wr.ownsRow w1.heap.size 56 2 s6 (sortN (S.take k)).length (flatS (sortN (S.take k)))) ∧ Hid (Below w1.heap.size w1 wr)) (fun _ _ _ _ s25 _ => (S.length - intOf s25).toNat)
    case atStart => exact ⟨0, rfl, by omega, Lib.hid (by simp), Lib.hid (World.ownsRow_nil _ _ _ _), Lib.hid (Below.refl _ _)⟩
    case round =>
      obtain ⟨k, rfl, hk, HND, HO, HW⟩ := hrel
      by_cases hlt : k < S.length
      · obtain ⟨g, o, hA, hgl, c0, c1⟩ := HSR1.out.two k hlt
        subst hA
        rw [← HW.out.cell (p := ⟨g, o + k * 2, none⟩) hgl] at c0
        rw [← HW.out.cell (p := ⟨g, o + k * 2 + 1, none⟩) hgl] at c1
        have hkl : (k : Int) < (S.length : Int) := by omega
        obtain ⟨D, hD⟩ : ∃ D, D = sortN (S.take k) := ⟨_, rfl⟩
        have hDl : D.length = k := by rw [hD, sortN_length, List.length_take]; omega
        have hk8 : k ≤ 7 := by have := HZ.out.1; omega
        have HSS := Lib.hid (show D.Pairwise LeN by rw [hD]; exact sortN_sorted _)
        have HNX := Lib.hid (show sortN (S.take (k + 1)) = insN S[k] D by rw [hD]; exact sortN_take hlt)
        have HDUP := Lib.hid (show ∀ y ∈ D, y.1 = S[k].1 → dupN S = true from fun y hy e => dup_next hlt (by rw [← hD]; exact hy) e)
        have HNN := Lib.hid (show (∀ y ∈ D, y.1 ≠ S[k].1) → ((S.take (k + 1)).map (·.1)).Nodup from fun h => nodup_next hlt HND.out (by rw [← hD]; exact h))
        rw [← hD] at HO
        have HDL := Lib.hid (And.intro hDl hk8)
        obtain ⟨A3, c3', hs3, hm3, hp3, hh3, _⟩ := rn_of_own HO.out
        subst hs3
        have hcp : D.length ≤ c3' := by
          rcases own_cell HO.out with ⟨e1, e2⟩ | ⟨g0, c0', e, _, _, e1, _, _⟩
          · omega
          · simp only [Value.slice.injEq] at e
            obtain ⟨_, _, rfl⟩ := e
            exact e1
        have HM3 := Lib.hid (hm3.up (bal wr (.cells #[.string S[k].1, .string S[k].2] 56)))
        have HP3 := Lib.hid (And.intro hp3 hh3)
        have HB2 := Lib.hid (HW.out.alloc HW.out.size (.cells #[.string S[k].1, .string S[k].2] 56))
        have HN0 := Lib.hid (C2s.new wr S[k])
        clear hD hDl hm3 hp3 hh3 HO HND
        go_wp2_with fail
        clear c0 c1
        generalize wr.alloc (.cells #[.string S[k].1, .string S[k].2] 56) = W2 at *
        generalize wr.heap.size = b5 at *
        generalize S[k] = xs at *
        go_loopw [9] (fun s9 wz => ∃ n : Nat, s9 = .int .i64 (n : Int) ∧ n ≤ D.length ∧ Hid (∀ y ∈ D.drop n, cmpN xs y < 0) ∧ Hid (Below W2.heap.size W2 wz)) (fun s9 _ => (intOf s9).toNat)
        case atStart => exact ⟨D.length, rfl, Nat.le_refl _, Lib.hid (by rw [List.drop_length]; intro y hy; cases hy), Lib.hid (Below.refl _ _)⟩
        case round =>
          obtain ⟨n, rfl, hn, HDD, HZ1⟩ := hrel
          by_cases hn0 : 0 < n
          · have hni : (0 : Int) < (n : Int) := by omega
            obtain ⟨m, rfl⟩ : ∃ m, n = m + 1 := ⟨n - 1, by omega⟩
            have hml : m < D.length := by omega
            obtain ⟨g3, o3, hA3, hg3, d0, d1⟩ := HM3.out.two m hml
            subst hA3
            rw [← HZ1.out.cell (p := ⟨g3, o3 + m * 2, none⟩) hg3] at d0
            have hy0 := (HN0.out.keep HZ1.out).c0
            have hmi : (m : Int) < (D.length : Int) := by omega
            have hm0 : (0 : Int) ≤ (m : Int) := by omega
            have t1 : IntKind.i64.wrap (((m + 1 : Nat) : Int) - 1) = (m : Int) := by rw [show ((m + 1 : Nat) : Int) - 1 = (m : Int) by omega]; exact IntWalk.i64_in _ (by have := HDL.out; omega)
            have t1' : IntKind.i64.wrap ((m : Int) + 1 - 1) = (m : Int) := by rw [show (m : Int) + 1 - 1 = (m : Int) by omega]; exact IntWalk.i64_in _ (by have := HDL.out; omega)
            have t0 : IntKind.i64.wrap (m : Int) = (m : Int) := IntWalk.i64_in _ (by have := HDL.out; omega)
            have HLE := Lib.hid (lessN xs D[m])
            have HEQ := Lib.hid (show D[m].1 = xs.1 → dupN S = true from HDUP.out D[m] (List.getElem_mem hml))
            by_cases hc : cmpN xs D[m] < 0
            · have hdc : Op.bytesLess xs.1.toList D[m].1.toList = true := by rw [HLE.out]; simpa using hc
              have HD2 := Lib.hid (show ∀ z ∈ D.drop m, cmpN xs z < 0 from highN hml hc HDD.out)
              have HZ2 := Lib.hid HZ1.out.drew
              clear HDD HZ1 hc HLE HEQ
              go_wp2_with fail
              go_region
              go_wp2_with fail
              go_roundw
              case rel => exact ⟨m, by go_num, by omega, HD2, HZ2⟩
              case measure => first | (simp [intOf]; done) | (simp [intOf]; omega)
            · have hdc : Op.bytesLess xs.1.toList D[m].1.toList = false := by rw [HLE.out]; simpa using hc
              have HTK0 := Lib.hid (lowN HSS.out hml hc)
              have HZ2 := Lib.hid HZ1.out.drew
              by_cases hEq : D[m].1 = xs.1
              · have HOD := Lib.hid (HDU.out HZ0.out (HEQ.out hEq))
                have hd : (D[m].1.toList == xs.1.toList) = true := by rw [hEq]; simp
                have HBE := Lib.hid (HB1.out.trans ((HB2.out.trans (HZ2.out.mono HB2.out.size)).mono HB1.out.size))
                clear HZ1 hc HLE HEQ hEq HDD
                go_wp2_with fail
                go_region
                go_wp2_with fail
                go_region
                go_wp2_with fail
                go_ret2
                rw [HOD.out]
                exact ⟨rfl, HBE.out.drew⟩
              · have hfr : ∀ i (h : i < D.length), i + 1 = m + 1 → D[i].1 ≠ xs.1 := fun i h e => by
                  have him : i = m := by omega
                  simp only [him]
                  exact hEq
                have HFR := Lib.hid (freshN (x := xs) HSS.out hn HTK0.out HDD.out hfr)
                clear hfr
                have hdp : ¬ D[m].1.toList = xs.1.toList := by rw [Go.ByteArray.toList_eq, Go.ByteArray.toList_eq]; exact fun h => hEq (ByteArray.ext (Array.ext' h))
                have hd : (D[m].1.toList == xs.1.toList) = false := by simpa using hdp
                clear hc HLE HEQ hEq
                go_wp2_with fail
                go_region
                go_wp2_with fail
                go_region
                have HZ2 := Lib.hid HZ2.out.drew
                clear HZ1 d0 d1 hy0
                generalize wr.drew.drew = wz at *
                have hlen : (D.take (m + 1)).length = (m + 1) := by rw [List.length_take]; omega
                have hlen2 : (D.drop (m + 1)).length = D.length - (m + 1) := List.length_drop
                have hm4 := HM3.out.up HZ2.out
                have hTK := (hm4.take (m + 1)).up (bal wz (.cells #[] 56))
                have hown := own_emptyS wz wz.heap.size rfl
                have HX4 := Lib.hid (HN0.out.keep HZ2.out)
                have HLN := Lib.hid (And.intro hlen hlen2)
                have HSZ := Lib.hid (show D.length ≤ 8 by have := HDL.out; omega)
                have hnc : ((((m + 1) : Nat)) : Int) ≤ (c3' : Int) := by omega
                have hnS : ((((m + 1) : Nat)) : Int) ≤ (D.length : Int) := by omega
                clear hlen hlen2
                go_wp2_with (at_builtin; refine wpList_append_rn rfl _ _ rfl wz.heap.size _ _ 0 [] rfl hown (some ⟨g3, o3, none⟩) c3' (D.take (m + 1)) (by rw [HLN.out.1]; rfl) hTK HP3.out.1 ?_ ?_ ?_)
                · rw [HLN.out.1]; have := HSZ.out; omega
                · simp
                intro v1 wa h1 g1
                try rw [HLN.out.1] at h1
                have HO1 := Lib.hid (show wa.ownsRow wz.heap.size 56 2 v1 (m + 1) (flatS (D.take (m + 1))) by simpa using h1)
                have HB1a := Lib.hid (((Below.refl wz.heap.size wz).alloc (Nat.le_refl _) (.cells #[] 56)).grown g1 (by simp) (fun k hk => by simp [Value.ownBlock] at hk; subst hk; simp))
                clear h1 g1 hown hTK hm4
                obtain ⟨d0, d1⟩ := C2s.keep HX4.out HB1a.out
                have hone := rn_one wa xs
                have hown1 := HO1.out.alloc (.cells #[.string xs.1, .string xs.2] 56)
                go_wp2_with (at_builtin; refine wpList_append_rn rfl _ _ rfl wz.heap.size _ _ (m + 1) _ rfl hown1 (some ⟨wa.heap.size, 0, none⟩) 1 [xs] rfl hone (.inr ⟨_, _, rfl⟩) ?_ ?_ ?_)
                · first | (simp; done) | (have := HSZ.out; simp; omega)
                · have := HB1a.out.size; simp; omega
                intro v2 w2 h2 g2
                have HO2 := Lib.hid (show w2.ownsRow wz.heap.size 56 2 v2 ((m + 1) + 1) (flatS (D.take (m + 1)) ++ flatS [xs]) from h2)
                have HB2z := Lib.hid ((HB1a.out.alloc HB1a.out.size (.cells #[.string xs.1, .string xs.2] 56)).grown g2 (by have := HB1a.out.size; simp; omega) (fun k hk => (HO1.out.lt k hk).1))
                clear h2 g2 hown1 hone HO1 HB1a d0 d1
                have hown2 := HO2.out
                have hRM := (HM3.out.up (HZ2.out.trans (HB2z.out.mono HZ2.out.size)))
                by_cases hcn : c3' = (m + 1)
                ·
                  have hDR9 : RN w2 w2.heap.size (some ⟨g3, o3, none⟩) (D.drop (m + 1)) := by
                    rw [List.drop_eq_nil_of_le (by omega)]; exact rn_nil _ _ _
                  have hpl9 : Plain (some ⟨g3, o3, none⟩) 0 := .inr ⟨_, _, rfl⟩
                  go_wp2_with (at_builtin; refine wpList_append_rn rfl _ _ rfl wz.heap.size _ _ ((m + 1) + 1) _ rfl hown2 _ _ (D.drop (m + 1)) (by rw [HLN.out.2]; rfl) hDR9 hpl9 ?_ ?_ ?_)
                  · rw [HLN.out.2]; have := HSZ.out; omega
                  · exact HB2z.out.size
                  intro v3 w3 h3 g3'
                  have HO3 := Lib.hid (show w3.ownsRow w1.heap.size 56 2 v3 (sortN (S.take (k + 1))).length (flatS (sortN (S.take (k + 1)))) by
                    have hz : w1.heap.size ≤ wz.heap.size := (HB2.out.trans (HZ2.out.mono HB2.out.size)).size
                    rw [HNX.out, ← insN_at (fun y hy h => by have := HTK0.out y hy; omega) HDD.out, List.length_append, List.length_cons, flatS_append, flatS_cons, HLN.out.1]
                    rw [HLN.out.2]
                    refine own_le ?_ hz
                    try rw [HLN.out.2] at h3
                    have e : flatS [xs] = sc xs := by rw [flatS_cons, flatS_nil, List.append_nil]
                    rw [e] at h3
                    rw [show (m + 1) + (D.length - (m + 1) + 1) = (m + 1) + 1 + (D.length - (m + 1)) by omega]
                    first | exact h3 | (rw [List.append_assoc] at h3; exact h3))
                  have HB3 := Lib.hid ((HB2.out.trans (HZ2.out.mono HB2.out.size)).trans ((HB2z.out.grown g3' (by exact HB2z.out.size) (fun k hk => (HO2.out.lt k hk).1)).mono (HB2.out.trans (HZ2.out.mono HB2.out.size)).size))
                  have HND2 := Lib.hid (HNN.out HFR.out)
                  clear h3 g3' hown2 hRM hDR9 HO2 HB2z
                  go_wp2_with fail
                  go_roundw
                  case rel => exact ⟨k + 1, by go_num, by omega, HND2, HO3, HB3⟩
                  case measure => first | (simp [intOf]; done) | (simp [intOf]; omega)
                ·
                  have hDR9 := hRM.drop (m + 1)
                  have hpl9 : Plain (some ⟨g3, o3 + (m + 1) * 2, none⟩) (c3' - (m + 1)) := .inr ⟨_, _, rfl⟩
                  go_wp2_with (at_builtin; refine wpList_append_rn rfl _ _ rfl wz.heap.size _ _ ((m + 1) + 1) _ rfl hown2 _ _ (D.drop (m + 1)) (by rw [HLN.out.2]; rfl) hDR9 hpl9 ?_ ?_ ?_)
                  · rw [HLN.out.2]; have := HSZ.out; omega
                  · exact HB2z.out.size
                  intro v3 w3 h3 g3'
                  have HO3 := Lib.hid (show w3.ownsRow w1.heap.size 56 2 v3 (sortN (S.take (k + 1))).length (flatS (sortN (S.take (k + 1)))) by
                    have hz : w1.heap.size ≤ wz.heap.size := (HB2.out.trans (HZ2.out.mono HB2.out.size)).size
                    rw [HNX.out, ← insN_at (fun y hy h => by have := HTK0.out y hy; omega) HDD.out, List.length_append, List.length_cons, flatS_append, flatS_cons, HLN.out.1]
                    rw [HLN.out.2]
                    refine own_le ?_ hz
                    try rw [HLN.out.2] at h3
                    have e : flatS [xs] = sc xs := by rw [flatS_cons, flatS_nil, List.append_nil]
                    rw [e] at h3
                    rw [show (m + 1) + (D.length - (m + 1) + 1) = (m + 1) + 1 + (D.length - (m + 1)) by omega]
                    first | exact h3 | (rw [List.append_assoc] at h3; exact h3))
                  have HB3 := Lib.hid ((HB2.out.trans (HZ2.out.mono HB2.out.size)).trans ((HB2z.out.grown g3' (by exact HB2z.out.size) (fun k hk => (HO2.out.lt k hk).1)).mono (HB2.out.trans (HZ2.out.mono HB2.out.size)).size))
                  have HND2 := Lib.hid (HNN.out HFR.out)
                  clear h3 g3' hown2 hRM hDR9 HO2 HB2z
                  go_wp2_with fail
                  go_roundw
                  case rel => exact ⟨k + 1, by go_num, by omega, HND2, HO3, HB3⟩
                  case measure => first | (simp [intOf]; done) | (simp [intOf]; omega)
          · have hni : ¬ (0 : Int) < (n : Int) := by omega
            have HTK0 := Lib.hid (show ∀ y ∈ D.take n, ¬ cmpN xs y < 0 by rw [show n = 0 by omega]; intro y hy; cases hy)
            have HFR := Lib.hid (freshN (x := xs) HSS.out hn HTK0.out HDD.out (fun i h e => by omega))
            have HZ2 := Lib.hid HZ1.out.drew.drew
            go_wp2_with fail
            go_region
            go_wp2_with fail
            go_region
            clear HZ1
            generalize wr.drew.drew = wz at *
            rcases HP3.out.1 with ⟨hA3, hc3⟩ | ⟨g3, o3, hA3⟩
            · subst hA3 hc3
              obtain rfl := rn_none HM3.out
              obtain rfl : n = 0 := by omega
              have hlen : (([] : List Src).take 0).length = 0 := by rw [List.length_take]; omega
              have hlen2 : (([] : List Src).drop 0).length = ([] : List Src).length - 0 := List.length_drop
              have hm4 := HM3.out.up HZ2.out
              have hTK := (hm4.take 0).up (bal wz (.cells #[] 56))
              have hown := own_emptyS wz wz.heap.size rfl
              have HX4 := Lib.hid (HN0.out.keep HZ2.out)
              have HLN := Lib.hid (And.intro hlen hlen2)
              have HSZ := Lib.hid (show ([] : List Src).length ≤ 8 by have := HDL.out; omega)
              have hnc : (((0 : Nat)) : Int) ≤ (0 : Int) := by omega
              have hnS : (((0 : Nat)) : Int) ≤ (([] : List Src).length : Int) := by omega
              clear hlen hlen2
              go_wp2_with (at_builtin; refine wpList_append_rn rfl _ _ rfl wz.heap.size _ _ 0 [] rfl hown none 0 (([] : List Src).take 0) (by rw [HLN.out.1]; rfl) hTK HP3.out.1 ?_ ?_ ?_)
              · rw [HLN.out.1]; have := HSZ.out; omega
              · simp
              intro v1 wa h1 g1
              try rw [HLN.out.1] at h1
              have HO1 := Lib.hid (show wa.ownsRow wz.heap.size 56 2 v1 0 (flatS (([] : List Src).take 0)) by simpa using h1)
              have HB1a := Lib.hid (((Below.refl wz.heap.size wz).alloc (Nat.le_refl _) (.cells #[] 56)).grown g1 (by simp) (fun k hk => by simp [Value.ownBlock] at hk; subst hk; simp))
              clear h1 g1 hown hTK hm4
              obtain ⟨d0, d1⟩ := C2s.keep HX4.out HB1a.out
              have hone := rn_one wa xs
              have hown1 := HO1.out.alloc (.cells #[.string xs.1, .string xs.2] 56)
              go_wp2_with (at_builtin; refine wpList_append_rn rfl _ _ rfl wz.heap.size _ _ 0 _ rfl hown1 (some ⟨wa.heap.size, 0, none⟩) 1 [xs] rfl hone (.inr ⟨_, _, rfl⟩) ?_ ?_ ?_)
              · first | (simp; done) | (have := HSZ.out; simp; omega)
              · have := HB1a.out.size; simp; omega
              intro v2 w2 h2 g2
              have HO2 := Lib.hid (show w2.ownsRow wz.heap.size 56 2 v2 (0 + 1) (flatS (([] : List Src).take 0) ++ flatS [xs]) from h2)
              have HB2z := Lib.hid ((HB1a.out.alloc HB1a.out.size (.cells #[.string xs.1, .string xs.2] 56)).grown g2 (by have := HB1a.out.size; simp; omega) (fun k hk => (HO1.out.lt k hk).1))
              clear h2 g2 hown1 hone HO1 HB1a d0 d1
              have hown2 := HO2.out
              have hRM := (HM3.out.up (HZ2.out.trans (HB2z.out.mono HZ2.out.size)))
              ·
                have hDR9 : RN w2 w2.heap.size none (([] : List Src).drop 0) := rn_nil _ _ _
                have hpl9 : Plain none 0 := .inl ⟨rfl, rfl⟩
                go_wp2_with (at_builtin; refine wpList_append_rn rfl _ _ rfl wz.heap.size _ _ (0 + 1) _ rfl hown2 _ _ (([] : List Src).drop 0) (by rw [HLN.out.2]; rfl) hDR9 hpl9 ?_ ?_ ?_)
                · rw [HLN.out.2]; have := HSZ.out; omega
                · exact HB2z.out.size
                intro v3 w3 h3 g3'
                have HO3 := Lib.hid (show w3.ownsRow w1.heap.size 56 2 v3 (sortN (S.take (k + 1))).length (flatS (sortN (S.take (k + 1)))) by
                  have hz : w1.heap.size ≤ wz.heap.size := (HB2.out.trans (HZ2.out.mono HB2.out.size)).size
                  rw [HNX.out, ← insN_at (fun y hy h => by have := HTK0.out y hy; omega) HDD.out, List.length_append, List.length_cons, flatS_append, flatS_cons, HLN.out.1]
                  rw [HLN.out.2]
                  refine own_le ?_ hz
                  try rw [HLN.out.2] at h3
                  have e : flatS [xs] = sc xs := by rw [flatS_cons, flatS_nil, List.append_nil]
                  rw [e] at h3
                  rw [show 0 + (([] : List Src).length - 0 + 1) = 0 + 1 + (([] : List Src).length - 0) by omega]
                  first | exact h3 | (rw [List.append_assoc] at h3; exact h3))
                have HB3 := Lib.hid ((HB2.out.trans (HZ2.out.mono HB2.out.size)).trans ((HB2z.out.grown g3' (by exact HB2z.out.size) (fun k hk => (HO2.out.lt k hk).1)).mono (HB2.out.trans (HZ2.out.mono HB2.out.size)).size))
                have HND2 := Lib.hid (HNN.out HFR.out)
                clear h3 g3' hown2 hRM hDR9 HO2 HB2z
                go_wp2_with fail
                go_roundw
                case rel => exact ⟨k + 1, by go_num, by omega, HND2, HO3, HB3⟩
                case measure => first | (simp [intOf]; done) | (simp [intOf]; omega)
            · subst hA3
              have hlen : (D.take n).length = n := by rw [List.length_take]; omega
              have hlen2 : (D.drop n).length = D.length - n := List.length_drop
              have hm4 := HM3.out.up HZ2.out
              have hTK := (hm4.take n).up (bal wz (.cells #[] 56))
              have hown := own_emptyS wz wz.heap.size rfl
              have HX4 := Lib.hid (HN0.out.keep HZ2.out)
              have HLN := Lib.hid (And.intro hlen hlen2)
              have HSZ := Lib.hid (show D.length ≤ 8 by have := HDL.out; omega)
              have hnc : (((n : Nat)) : Int) ≤ (c3' : Int) := by omega
              have hnS : (((n : Nat)) : Int) ≤ (D.length : Int) := by omega
              clear hlen hlen2
              go_wp2_with (at_builtin; refine wpList_append_rn rfl _ _ rfl wz.heap.size _ _ 0 [] rfl hown (some ⟨g3, o3, none⟩) c3' (D.take n) (by rw [HLN.out.1]; rfl) hTK HP3.out.1 ?_ ?_ ?_)
              · rw [HLN.out.1]; have := HSZ.out; omega
              · simp
              intro v1 wa h1 g1
              try rw [HLN.out.1] at h1
              have HO1 := Lib.hid (show wa.ownsRow wz.heap.size 56 2 v1 n (flatS (D.take n)) by simpa using h1)
              have HB1a := Lib.hid (((Below.refl wz.heap.size wz).alloc (Nat.le_refl _) (.cells #[] 56)).grown g1 (by simp) (fun k hk => by simp [Value.ownBlock] at hk; subst hk; simp))
              clear h1 g1 hown hTK hm4
              obtain ⟨d0, d1⟩ := C2s.keep HX4.out HB1a.out
              have hone := rn_one wa xs
              have hown1 := HO1.out.alloc (.cells #[.string xs.1, .string xs.2] 56)
              go_wp2_with (at_builtin; refine wpList_append_rn rfl _ _ rfl wz.heap.size _ _ n _ rfl hown1 (some ⟨wa.heap.size, 0, none⟩) 1 [xs] rfl hone (.inr ⟨_, _, rfl⟩) ?_ ?_ ?_)
              · first | (simp; done) | (have := HSZ.out; simp; omega)
              · have := HB1a.out.size; simp; omega
              intro v2 w2 h2 g2
              have HO2 := Lib.hid (show w2.ownsRow wz.heap.size 56 2 v2 (n + 1) (flatS (D.take n) ++ flatS [xs]) from h2)
              have HB2z := Lib.hid ((HB1a.out.alloc HB1a.out.size (.cells #[.string xs.1, .string xs.2] 56)).grown g2 (by have := HB1a.out.size; simp; omega) (fun k hk => (HO1.out.lt k hk).1))
              clear h2 g2 hown1 hone HO1 HB1a d0 d1
              have hown2 := HO2.out
              have hRM := (HM3.out.up (HZ2.out.trans (HB2z.out.mono HZ2.out.size)))
              by_cases hcn : c3' = n
              ·
                have hDR9 : RN w2 w2.heap.size (some ⟨g3, o3, none⟩) (D.drop n) := by
                  rw [List.drop_eq_nil_of_le (by omega)]; exact rn_nil _ _ _
                have hpl9 : Plain (some ⟨g3, o3, none⟩) 0 := .inr ⟨_, _, rfl⟩
                go_wp2_with (at_builtin; refine wpList_append_rn rfl _ _ rfl wz.heap.size _ _ (n + 1) _ rfl hown2 _ _ (D.drop n) (by rw [HLN.out.2]; rfl) hDR9 hpl9 ?_ ?_ ?_)
                · rw [HLN.out.2]; have := HSZ.out; omega
                · exact HB2z.out.size
                intro v3 w3 h3 g3'
                have HO3 := Lib.hid (show w3.ownsRow w1.heap.size 56 2 v3 (sortN (S.take (k + 1))).length (flatS (sortN (S.take (k + 1)))) by
                  have hz : w1.heap.size ≤ wz.heap.size := (HB2.out.trans (HZ2.out.mono HB2.out.size)).size
                  rw [HNX.out, ← insN_at (fun y hy h => by have := HTK0.out y hy; omega) HDD.out, List.length_append, List.length_cons, flatS_append, flatS_cons, HLN.out.1]
                  rw [HLN.out.2]
                  refine own_le ?_ hz
                  try rw [HLN.out.2] at h3
                  have e : flatS [xs] = sc xs := by rw [flatS_cons, flatS_nil, List.append_nil]
                  rw [e] at h3
                  rw [show n + (D.length - n + 1) = n + 1 + (D.length - n) by omega]
                  first | exact h3 | (rw [List.append_assoc] at h3; exact h3))
                have HB3 := Lib.hid ((HB2.out.trans (HZ2.out.mono HB2.out.size)).trans ((HB2z.out.grown g3' (by exact HB2z.out.size) (fun k hk => (HO2.out.lt k hk).1)).mono (HB2.out.trans (HZ2.out.mono HB2.out.size)).size))
                have HND2 := Lib.hid (HNN.out HFR.out)
                clear h3 g3' hown2 hRM hDR9 HO2 HB2z
                go_wp2_with fail
                go_roundw
                case rel => exact ⟨k + 1, by go_num, by omega, HND2, HO3, HB3⟩
                case measure => first | (simp [intOf]; done) | (simp [intOf]; omega)
              ·
                have hDR9 := hRM.drop n
                have hpl9 : Plain (some ⟨g3, o3 + n * 2, none⟩) (c3' - n) := .inr ⟨_, _, rfl⟩
                go_wp2_with (at_builtin; refine wpList_append_rn rfl _ _ rfl wz.heap.size _ _ (n + 1) _ rfl hown2 _ _ (D.drop n) (by rw [HLN.out.2]; rfl) hDR9 hpl9 ?_ ?_ ?_)
                · rw [HLN.out.2]; have := HSZ.out; omega
                · exact HB2z.out.size
                intro v3 w3 h3 g3'
                have HO3 := Lib.hid (show w3.ownsRow w1.heap.size 56 2 v3 (sortN (S.take (k + 1))).length (flatS (sortN (S.take (k + 1)))) by
                  have hz : w1.heap.size ≤ wz.heap.size := (HB2.out.trans (HZ2.out.mono HB2.out.size)).size
                  rw [HNX.out, ← insN_at (fun y hy h => by have := HTK0.out y hy; omega) HDD.out, List.length_append, List.length_cons, flatS_append, flatS_cons, HLN.out.1]
                  rw [HLN.out.2]
                  refine own_le ?_ hz
                  try rw [HLN.out.2] at h3
                  have e : flatS [xs] = sc xs := by rw [flatS_cons, flatS_nil, List.append_nil]
                  rw [e] at h3
                  rw [show n + (D.length - n + 1) = n + 1 + (D.length - n) by omega]
                  first | exact h3 | (rw [List.append_assoc] at h3; exact h3))
                have HB3 := Lib.hid ((HB2.out.trans (HZ2.out.mono HB2.out.size)).trans ((HB2z.out.grown g3' (by exact HB2z.out.size) (fun k hk => (HO2.out.lt k hk).1)).mono (HB2.out.trans (HZ2.out.mono HB2.out.size)).size))
                have HND2 := Lib.hid (HNN.out HFR.out)
                clear h3 g3' hown2 hRM hDR9 HO2 HB2z
                go_wp2_with fail
                go_roundw
                case rel => exact ⟨k + 1, by go_num, by omega, HND2, HO3, HB3⟩
                case measure => first | (simp [intOf]; done) | (simp [intOf]; omega)
      · obtain rfl : k = S.length := by omega
        rw [List.take_length] at HO HND
        have HOE := Lib.hid (HOK.out HZ0.out HND.out)
        obtain ⟨D, hD⟩ : ∃ D, D = sortN S := ⟨_, rfl⟩
        have hDl : D.length = S.length := by rw [hD, sortN_length]
        have HDS := Lib.hid (show ∀ y ∈ D, y.1.size ≤ 200 ∧ y.2.size ≤ 1000 from fun y hy => HZ.out.2 y ((sortN_perm S).mem_iff.1 (by rw [← hD]; exact hy)))
        rw [← hD] at HO HOE
        obtain ⟨A9, c9, hs9, h1, h2, h3, h4⟩ := rn_of_own HO.out
        subst hs9
        have HRD := Lib.hid h1
        have HDN := Lib.hid (show D.length ≤ 8 by have := HZ.out.1; omega)
        clear h1 h2 h3 h4 HO hlt hk hD HND hDl
        have hac0 := accR_nil T
        have HWE := Lib.hid (HB1.out.trans (HW.out.mono HB1.out.size))
        go_wp2_with fail
        rw [← hac0]
        go_loopw [4, 12, 77] (fun s4 _ s77 wz => ∃ j : Nat, s77 = .int .i64 (j : Int) ∧ j ≤ D.length ∧ s4 = .string (accR T (D.take j)) ∧ Hid (Below wr.heap.size wr wz)) (fun _ _ s77 _ => (D.length - intOf s77).toNat)
        case atStart => exact ⟨0, rfl, by omega, rfl, Lib.hid (Below.refl _ _)⟩
        case round =>
          clear hac0
          obtain ⟨j, rfl, hj, rfl, HZZ⟩ := hrel
          by_cases hjl : j < D.length
          · obtain ⟨g, o, hA, hgl, c0, c1⟩ := HRD.out.two j hjl
            subst hA
            rw [← HZZ.out.cell (p := ⟨g, o + j * 2, none⟩) hgl] at c0
            rw [← HZZ.out.cell (p := ⟨g, o + j * 2 + 1, none⟩) hgl] at c1
            have hjk : (j : Int) < (D.length : Int) := by omega
            have hj8 : j ≤ 8 := by have := HDN.out; omega
            have hsy := HDS.out D[j] (List.getElem_mem hjl)
            have hAS := accR_size (T := T) (D := D.take j) (fun y hy => (HDS.out y (List.mem_of_mem_take hy)).1)
            have hTz := HTS.out HZ0.out
            have hS8 := HDN.out
            rw [List.length_take, Nat.min_eq_left (by omega)] at hAS
            have hAS2 : (accR T (D.take j)).size ≤ 110000 := by omega
            have hac : accR T (D.take (j + 1)) = accR T (D.take j) ++ ⟨(Qt.quoteL D[j].1.data.toList).toArray⟩ ++ ⟨#[32]⟩ ++ txtH (hsum st0 D[j].2.data.toList) ++ ⟨#[10]⟩ := by rw [(List.take_append_getElem hjl).symm]; exact accR_snoc T (D.take j) D[j]
            have HAC := Lib.hid hac
            have hq := qsize hsy.1
            have ht := tsize (hsum st0 D[j].2.data.toList)
            have KQ := Lib.hid (fun w => Qt.rquote_any D[j].1 (by omega) w)
            have KS := Lib.hid (fun w => Dg.rsum_any D[j].2 (by omega) w)
            have hhl := hsum_lt D[j].2.data.toList 14695981039346656037 (by decide)
            have HB7 := Lib.hid (HZZ.out.alloc HZZ.out.size (.cells #[.string D[j].1, .string D[j].2] 56))
            have HNW := Lib.hid (C2s.new wr D[j])
            have HJ := Lib.hid (show j + 1 ≤ D.length by omega)
            clear hac hAS hTz hS8 hsy
            generalize D[j] = y at *
            generalize (⟨(Qt.quoteL y.1.data.toList).toArray⟩ : ByteArray) = qs at *
            change Hid (∀ w, Calls Tryz.prog 13 #[.string y.2] w fun e w' => e = .returned (.int .u64 (hsum st0 y.2.data.toList : Nat)) ∧ w' = w) at KS
            change hsum st0 y.2.data.toList < _ at hhl
            generalize hsum st0 y.2.data.toList = hh at *
            have KX := Lib.hid (fun w => Dg.rtext_any hh hhl w)
            generalize txtH hh = ts at *
            generalize accR T (D.take j) = acc at *
            have e1 : (⟨#[32]⟩ : ByteArray).size = 1 := rfl
            have e2 : (⟨#[10]⟩ : ByteArray).size = 1 := rfl
            have f1 : ¬ (9223372036854775807 < acc.size + qs.size) := by omega
            have f2 : ¬ (9223372036854775807 < acc.size + qs.size + 1) := by omega
            have f3 : ¬ (9223372036854775807 < acc.size + qs.size + 1 + ts.size) := by omega
            have f4 : ¬ (9223372036854775807 < acc.size + qs.size + 1 + ts.size + 1) := by omega
            have f5 : ¬ (9223372036854775807 < (acc ++ qs).size + (⟨#[32]⟩ : ByteArray).size) := by rw [ByteArray.size_append, e1]; omega
            have f6 : ¬ (9223372036854775807 < (acc ++ qs ++ ⟨#[32]⟩).size + ts.size) := by rw [ByteArray.size_append, ByteArray.size_append, e1]; omega
            have f7 : ¬ (9223372036854775807 < (acc ++ qs ++ ⟨#[32]⟩ ++ ts).size + (⟨#[10]⟩ : ByteArray).size) := by rw [ByteArray.size_append, ByteArray.size_append, ByteArray.size_append, e1, e2]; omega
            clear e1 e2 ht hq hAS2
            clear hhl hjl
            go_wp2_with fail
            clear c0 c1
            generalize wr.alloc (.cells #[.string y.1, .string y.2] 56) = W2 at *
            generalize wr.heap.size = bY at *
            have hS := sr2_of HNW.out
            go_region_held3 (fun w' => SR2 W2 bY y w') (first | (with_reducible assumption) | ((with_reducible refine SR2.keep ?_ ((Below.refl _ _).drew)); with_reducible assumption) | ((with_reducible refine SR2.keep ?_ (by with_reducible assumption)); with_reducible assumption))
              (first
                | (go_at_call 38; (with_reducible refine (KQ.out _).mono ?_); rintro e w6 ⟨rfl, hb6⟩)
                | (go_at_call 13; (with_reducible refine (KS.out _).mono ?_); rintro e w7 ⟨rfl, rfl⟩)
                | (go_at_call 15; (with_reducible refine (KX.out _).mono ?_); rintro e w8 ⟨rfl, rfl⟩))
            have HS8 := Lib.hid (HB7.out.trans ((show SR2 W2 bY y _ by assumption).1.mono HB7.out.size))
            go_wp2_with fail
            go_roundw
            case rel => exact ⟨j + 1, by go_num, HJ.out, by rw [HAC.out], HS8⟩
            case measure => have := HJ.out; have := HDN.out; first | (simp [intOf]; done) | (simp [intOf]; omega)
          · obtain rfl : j = D.length := by omega
            rw [List.take_length]
            have hkl : ¬ (D.length : Int) < (D.length : Int) := by omega
            have hAS := accR_size (T := T) (D := D) (fun y hy => (HDS.out y hy).1)
            have hTz := HTS.out HZ0.out
            have hS8 := HDN.out
            have KS := Lib.hid (fun w => Dg.rsum_any (accR T D) (by omega) w)
            rw [accR_list] at KS
            change Hid (∀ w, Calls Tryz.prog 13 #[.string (accR T D)] w fun e w' => e = .returned (.int .u64 (hsum st0 ((relPs T D).flatMap fun s => s.data.toList) : Nat)) ∧ w' = w) at KS
            have hhl := hsum_lt ((relPs T D).flatMap fun s => s.data.toList) st0 (by decide)
            have HB5 := Lib.hid (HWE.out.trans (HZZ.out.mono HWE.out.size))
            generalize hsum st0 ((relPs T D).flatMap fun s => s.data.toList) = hh at *
            have KX := Lib.hid (fun w => Dg.rtext_any hh hhl w)
            generalize accR T D = acc at *
            clear hAS hTz hS8 hjl hj hhl HZZ
            go_wp2_with fail
            refine (KS.out _).mono ?_
            rintro e w8 ⟨rfl, rfl⟩
            go_wp2_with fail
            refine (KX.out _).mono ?_
            rintro e w9 ⟨rfl, rfl⟩
            go_wp2_with fail
            go_ret2
            rw [HOE.out]
            exact ⟨rfl, HB5.out⟩
  · have q0 : (n != 0) = true := by simp [hz]
    have HO := Lib.hid (HCH.out hz)
    clear hz hn
    go_enter Tryz.func20, Tryz.ntmps20
    obtain ⟨x0, x1, x2, x3, x4, x5⟩ := HX.out
    go_wp2_with fail
    refine KT.out.mono ?_
    rintro e w1 ⟨rfl, hb1⟩
    have HB1 := Lib.hid (HB0.out.trans (hb1.mono HB0.out.size))
    clear hb1
    go_wp2_with fail
    go_ret2
    rw [HO.out]
    exact ⟨rfl, HB1.out⟩
end Go.Proofs.YthlcdimofagmfaaGreatDoor
