/-
  The law DigestOrder: its walk. Conditions: the table of powers of ten, internal/bytealg.MaxLen holds some number.
-/
import Derived.Test.YthlcdimofagmfaaGreatDoorOI
import Derived.Test.YthlcdimofagmfaaGreatDoorSX
import Derived.Test.YthlcdimofagmfaaGreatDoorSM
import Derived.Test.YthlcdimofagmfaaGreatDoorWS
namespace Go.Proofs.YthlcdimofagmfaaGreatDoor
open Go.RowKit Go.Sort Go.Lib Go.Shelf Go.Proofs
set_option linter.unusedSimpArgs false
set_option linter.unnecessarySimpa false
set_option linter.unusedVariables false
theorem out_len1 (rs : List Rl) : (listOut rs).1.length ≤ rs.length := by
  unfold listOut
  cases rs.find? (fun r => decide (er r ≠ 0)) with
  | some q => simp
  | none =>
    simp only
    by_cases hd : (rs.map (·.1)).Nodup
    · rw [if_pos hd, List.length_map, sortM_length, List.length_map]; exact Nat.le_refl _
    · rw [if_neg hd]; simp
set_option maxRecDepth 100000 in
set_option maxHeartbeats 4000000 in
theorem law_orders (A : Option Addr) (c : Nat) (rs : List Rl) (w : World) (hM : Mx w) (hT : P10 w) (hR : RR6 w w.heap.size A rs) (hl : ∀ r ∈ rs, r.2.2.length ≤ 9223372036854775807) :
    Calls Tryz.prog 8 #[.slice A rs.length c] w fun e w' => e = .returned (.bool true) ∧ Below w.heap.size w w' := by
  have HAL := Lib.hid (alive_at w hM hT)
  have HR0 := Lib.hid hR
  have HL := Lib.hid hl
  have hM' := hM
  have hT' := hT
  clear hM hT hR hl
  by_cases h6 : rs.length ≤ 6
  · have hk6 : ¬ ((6 : Int) < (rs.length : Int)) := by omega
    go_enter Tryz.func8, Tryz.ntmps8
    go_wp2_with fail
    go_loopw [3, 4, 5, 6, 7, 8] (fun s3 s4 _ _ _ _ wr => ∃ (k : Nat) (v : Value) (its : List Itm), s4 = .int .i64 ((k : Int) - 1) ∧ k ≤ rs.length ∧ s3 = v ∧ Hid (its.map (·.1) = backR (rs.drop k)) ∧ Hid (∀ r ∈ rs.drop k, okRl r) ∧ Hid (wr.ownsRow w.heap.size 40 6 v its.length (flatR its)) ∧ Hid (∀ q ∈ its, It wr q) ∧ Hid (Below w.heap.size w wr)) (fun _ s4 _ _ _ _ _ => (intOf s4 + 1).toNat)
    case atStart => exact ⟨rs.length, _, [], by go_num, Nat.le_refl _, rfl, Lib.hid (by simp [backR]), Lib.hid (by simp), Lib.hid (World.ownsRow_nil _ _ _ _), Lib.hid (by simp), Lib.hid (Below.refl _ _)⟩
    case round =>
      obtain ⟨k, v, its, rfl, hk, rfl, HBK, HOKS, HO, HI, HB⟩ := hrel
      by_cases hk0 : 0 < k
      · obtain ⟨m, rfl⟩ : ∃ m, k = m + 1 := ⟨k - 1, by omega⟩
        have hml : m < rs.length := by omega
        have em : (((m + 1 : Nat) : Int) - 1) = (m : Int) := by omega
        rw [em]
        obtain ⟨b, o, A1, A2, c1, c2, hA, hbl, kk⟩ := HR0.out.at_ m hml
        subst hA
        have hm0 : (0 : Int) ≤ (m : Int) := by omega
        have hmi : (m : Int) < (rs.length : Int) := by omega
        have hm9 : m ≤ 5 := by omega
        have HM1 := Lib.hid (show m ≤ rs.length by omega)
        have hit : its.length ≤ 6 := by
          have := congrArg List.length HBK.out
          simp [backR] at this; omega
        have HIL := Lib.hid hit
        have HBN := Lib.hid (show backR (rs.drop m) = its.map (·.1) ++ [revR rs[m]] by rw [HBK.out]; exact back_next hml)
        have HKN := Lib.hid (show okRl rs[m] → ∀ r ∈ rs.drop m, okRl r from fun h r hr => by
          rw [List.drop_eq_getElem_cons hml] at hr
          rcases List.mem_cons.1 hr with rfl | hr
          · exact h
          · exact HOKS.out r hr)
        have hll := HL.out rs[m] (List.getElem_mem hml)
        clear em hit HBK HOKS
        generalize rs[m] = r at *
        clear hml
        obtain ⟨x, l, S⟩ := r
        simp only at hll
        have KZ := Lib.hid (fun (W : World) (hb : Below w.heap.size w W) => kk.below hb hbl)
        have hrm := kk.rm
        have hrn := kk.rn
        have hpm := kk.pm
        have hpn := kk.pn
        simp only at hrm hrn
        have KS : Hid (∀ W, Below w.heap.size w W → Calls Tryz.prog 18 #[rl x A1 l.length c1 A2 S.length c2] W fun e w' => e = .returned (.bool (smallB S l.length)) ∧ Below W.heap.size W w') := Lib.hid fun W hb => small_any x A1 A2 l.length c1 c2 S W (hrn.up hb) hll
        have KR : Hid (okRl (x, l, S) → ∀ W, Below w.heap.size w W → Calls Tryz.prog 19 #[rl x A1 l.length c1 A2 S.length c2] W (RelIs (relOut x l S) W)) := Lib.hid fun h W hb => release_any x A1 A2 c1 c2 l S W (hM'.keep hb hM'.1) (P10.keep hT' hb) (hrm.up hb) hpm (by have := h.1; simp only at this; omega) (hrn.up hb) hpn (by have := h.2.1; simp only at this; omega) (fun y hy => by have := h.2.2 y hy; omega)
        have KV : Hid (okRl (x, l, S) → ∀ W, Below w.heap.size w W → Calls Tryz.prog 24 #[rl x A1 l.length c1 A2 S.length c2] W (RevIs x l.reverse S.reverse W)) := Lib.hid fun h W hb => reversed_any x A1 A2 c1 c2 l S W (hrm.up hb) (by have := h.1; simp only at this; omega) (hrn.up hb) (by have := h.2.1; simp only at this; omega)
        have KQ : Hid (okRl (x, l, S) → ∀ W (B1 B2 : Option Addr) (d1 d2 : Nat), Below w.heap.size w W → RM W W.heap.size B1 l.reverse → Plain B1 d1 → RN W W.heap.size B2 S.reverse → Plain B2 d2 → Calls Tryz.prog 19 #[rl x B1 l.reverse.length d1 B2 S.reverse.length d2] W (RelIs (relOut x l S) W)) := Lib.hid fun h W B1 B2 d1 d2 hb q1 q2 q3 q4 => by
          have hrp := rel_perm (x := x) (List.reverse_perm l) (List.reverse_perm S)
          rw [← hrp]
          exact release_any x B1 B2 d1 d2 l.reverse S.reverse W (hM'.keep hb hM'.1) (P10.keep hT' hb) q1 (.inl q2) (by have := h.1; simp only [List.length_reverse] at this ⊢; omega) q3 (.inl q4) (by have := h.2.1; simp only [List.length_reverse] at this ⊢; omega) (fun y hy => by have := h.2.2 y (by simpa using hy); omega)
        have HSM := Lib.hid (show smallB S l.length = true → okRl (x, l, S) from fun h => by
          unfold smallB at h
          simp only [Bool.and_eq_true, decide_eq_true_eq, List.all_eq_true] at h
          refine ⟨h.2.2, h.2.1, fun y hy => ?_⟩
          have := h.1 y hy
          unfold okS at this
          simpa using this)
        obtain ⟨vv0, hv⟩ : ∃ v, v = smallB S l.length := ⟨_, rfl⟩
        rw [← hv] at KS HSM
        clear hv hrm hpm hrn hpn hll
        generalize relOut x l S = OO at *
        obtain ⟨T, n⟩ := OO
        obtain ⟨z0, z1, z2, z3, z4, z5, _, _, _, _⟩ := KZ.out wr HB.out
        simp only at z0 z1 z2 z3 z4 z5
        unfold rl at KS KR KV KQ
        cases vv0 with
        | false =>
          go_wp2_with fail
          refine (KS.out _ HB.out).mono ?_
          rintro e w3 ⟨rfl, hb3⟩
          have HB3 := Lib.hid (HB.out.trans (hb3.mono HB.out.size))
          clear hb3 z0 z1 z2 z3 z4 z5
          go_wp2_with fail
          refine (HAL.out _ HB3.out).mono ?_
          rintro e w6 ⟨rfl, hb6⟩
          have HB6 := Lib.hid (HB3.out.trans (hb6.mono HB3.out.size))
          clear hb6
          go_wp2_with fail
          go_ret
          exact ⟨rfl, HB6.out⟩
        | true =>
          have hok := HSM.out rfl
          have KR2 := Lib.hid (KR.out hok)
          have KV2 := Lib.hid (KV.out hok)
          have KQ2 := Lib.hid (KQ.out hok)
          have HKS := Lib.hid (HKN.out hok)
          clear hok KR KV KQ HKN HSM
          simp only [List.length_reverse] at KQ2
          go_wp2_with fail
          refine (KS.out _ HB.out).mono ?_
          rintro e w3 ⟨rfl, hb3⟩
          have HB3 := Lib.hid (HB.out.trans (hb3.mono HB.out.size))
          have HO3 := Lib.hid (own_up HO.out hb3)
          have HI3 := Lib.hid (fun q hq => (HI.out q hq).up hb3)
          clear hb3 z0 z1 z2 z3 z4 z5 HB HO HI KS
          obtain ⟨z0, z1, z2, z3, z4, z5, _, _, _, _⟩ := KZ.out w3 HB3.out
          simp only at z0 z1 z2 z3 z4 z5
          go_wp2_with fail
          refine (KR2.out _ HB3.out).mono ?_
          rintro e w4 ⟨rfl, hb4⟩
          have HB4 := Lib.hid (HB3.out.trans (hb4.mono HB3.out.size))
          have HO4 := Lib.hid (own_up HO3.out hb4)
          have HI4 := Lib.hid (fun q hq => (HI3.out q hq).up hb4)
          clear hb4 z0 z1 z2 z3 z4 z5 HB3 HO3 HI3 KR2
          obtain ⟨z0, z1, z2, z3, z4, z5, _, _, _, _⟩ := KZ.out w4 HB4.out
          simp only at z0 z1 z2 z3 z4 z5
          go_wp2_with fail
          refine (KV2.out _ HB4.out).mono ?_
          rintro e w5 ⟨B1, B2, d1, d2, rfl, q1, q2, q3, q4, _, _, hb5, _, _⟩
          have HB5 := Lib.hid (HB4.out.trans (hb5.mono HB4.out.size))
          have HO5 := Lib.hid (own_up HO4.out hb5)
          have HI5 := Lib.hid (fun q hq => (HI4.out q hq).up hb5)
          have KQ3 := Lib.hid (KQ2.out w5 B1 B2 d1 d2 HB5.out q1 q2 q3 q4)
          clear hb5 z0 z1 z2 z3 z4 z5 HB4 HO4 HI4 q1 q2 q3 q4 KQ2
          simp only [List.length_reverse]
          go_wp2_with fail
          refine KQ3.out.mono ?_
          rintro e w6 ⟨rfl, hb6⟩
          have HB6 := Lib.hid (HB5.out.trans (hb6.mono HB5.out.size))
          have HO6 := Lib.hid (own_up HO5.out hb6)
          have HI6 := Lib.hid (fun q hq => (HI5.out q hq).up hb6)
          clear hb6 HB5 HO5 HI5 KQ3
          obtain ⟨z0, z1, z2, z3, z4, z5, _, _, _, _⟩ := KZ.out w6 HB6.out
          simp only at z0 z1 z2 z3 z4 z5
          go_wp2_with fail
          refine (KV2.out _ HB6.out).mono ?_
          rintro e w7 ⟨B3, B4, d3, d4, rfl, q1, q2, q3, q4, _, _, hb7, q5, q6⟩
          have HB7 := Lib.hid (HB6.out.trans (hb7.mono HB6.out.size))
          have HO7 := Lib.hid (own_up HO6.out hb7)
          have HI7 := Lib.hid (fun q hq => (HI6.out q hq).up hb7)
          have HQ7 := Lib.hid (show It w7 (revR (x, l, S), B3, d3, B4, d4) from ⟨q1, q2, q3, q4, q5, q6⟩)
          clear hb7 z0 z1 z2 z3 z4 z5 HB6 HO6 HI6 q1 q2 q3 q4 q5 q6 KV2 KZ kk
          simp only [List.length_reverse]
          have hb8 := bal w7 (rblk x B3 l.length d3 B4 S.length d4 40)
          have hown8 := HO7.out.alloc (rblk x B3 l.length d3 B4 S.length d4 40)
          have hcell8 : (w7.alloc (rblk x B3 l.length d3 B4 S.length d4 40)).heap[w7.heap.size]? = some (.cells (rcs (revR (x, l, S), B3, d3, B4, d4)).toArray 40 (0, 0)) := by
            rw [heap_alloc_new]; simp [rcs, revR]
          have HI8 := Lib.hid (fun q hq => (HI7.out q hq).up hb8)
          have HQ8 := Lib.hid (HQ7.out.up hb8)
          have HB8 := Lib.hid (HB7.out.alloc HB7.out.size (rblk x B3 l.length d3 B4 S.length d4 40))
          have HO8 := Lib.hid hown8
          have HC8 := Lib.hid hcell8
          have HSZ7 := Lib.hid HB7.out.size
          clear hb8 hown8 hcell8 HI7 HQ7 HB7 HO7
          unfold rblk at *
          go_wp2_with (at_builtin; refine wpList_append_rl rfl _ _ rfl w.heap.size u3 its (revR (x, l, S), B3, d3, B4, d4) rfl HO8.out w7.heap.size rfl HC8.out ?_ ?_ ?_)
          · have := HIL.out; omega
          · have := HSZ7.out; simp; omega
          intro v9 w9 h9 g9
          have HO9 := Lib.hid h9
          have HI9 := Lib.hid (show ∀ q ∈ its ++ [(revR (x, l, S), B3, d3, B4, d4)], It w9 q from fun q hq => by
            rcases List.mem_append.1 hq with hq | hq
            · exact (HI8.out q hq).gb HO8.out g9
            · simp only [List.mem_singleton] at hq
              subst hq
              exact HQ8.out.gb HO8.out g9)
          have HB9 := Lib.hid (HB8.out.grown g9 HB8.out.size (fun k hk => (HO8.out.lt k hk).1))
          have HBK9 := Lib.hid (show (its ++ [(revR (x, l, S), B3, d3, B4, d4)]).map (·.1) = backR (rs.drop m) by rw [HBN.out, List.map_append]; rfl)
          clear h9 g9 HO8 HI8 HQ8 HB8 HC8
          go_wp2_with fail
          go_roundw
          case rel => exact ⟨m, _, _, by go_num, HM1.out, rfl, HBK9, HKS, Lib.hid (by have hq := HO9.out; rw [List.length_append]; exact hq), HI9, HB9⟩
          case measure => first | (simp [intOf]; done) | (simp [intOf]; omega)
      · obtain rfl : k = 0 := by omega
        have e0 : (((0 : Nat) : Int) - 1) = -1 := by decide
        rw [e0]
        rw [List.drop_zero] at HBK HOKS
        have wm : IntKind.i64.wrap (-1) = -1 := by decide
        obtain ⟨A9, c9, h9, hr9⟩ := rr6_of_own HO.out HI.out
        rw [HBK.out] at hr9
        have hil : its.length = rs.length := by
          have := congrArg List.length HBK.out
          simpa [backR] using this
        rw [hil] at h9
        subst h9
        have hbl : (backR rs).length = rs.length := by simp [backR]
        have hob : ∀ q ∈ backR rs, okRl q := fun q hq => by
          obtain ⟨r, hr, rfl⟩ := mem_back.1 hq
          obtain ⟨h1, h2, h3⟩ := HOKS.out r hr
          exact ⟨by simpa [revR] using h1, by simpa [revR] using h2, fun y hy => h3 y (by simpa [revR] using hy)⟩
        have KL1 : Hid (∀ W, Below w.heap.size w W → Calls Tryz.prog 21 #[.slice A rs.length c] W (StrsIs (listOut rs) W)) := Lib.hid fun W hb => list_any A c rs W (hM'.keep hb hM'.1) (P10.keep hT' hb) (HR0.out.up hb) (by omega) HOKS.out
        have KL2 : Hid (∀ W, Below wr.heap.size wr W → Calls Tryz.prog 21 #[.slice A9 rs.length c9] W (StrsIs (listOut (backR rs)) W)) := Lib.hid fun W hb => by
          have hbw := HB.out.trans (hb.mono HB.out.size)
          have := list_any A9 c9 (backR rs) W (hM'.keep hbw hM'.1) (P10.keep hT' hbw) (hr9.up hb) (by rw [hbl]; omega) hob
          rw [hbl] at this
          exact this
        obtain ⟨ob1, ob2⟩ := out_back rs
        have hol := out_len1 rs
        generalize listOut rs = O1 at *
        generalize listOut (backR rs) = O2 at *
        obtain ⟨L, n1⟩ := O1
        obtain ⟨L2, n2⟩ := O2
        simp only at ob1 ob2 hol
        subst ob1
        have hL1 : L2.length ≤ 1000 := by omega
        have HOB := Lib.hid ob2
        clear hr9 hil hbl hob hol HBK HOKS HO HI ob2 hk hk0
        go_wp2_with fail
        refine (KL1.out _ HB.out).mono ?_
        rintro e w4 ⟨E9, f9, rfl, hrt, _, hb4⟩
        have HB4 := Lib.hid (HB.out.trans (hb4.mono HB.out.size))
        have HW4 := Lib.hid hb4
        have HX4 := Lib.hid hrt
        clear hb4 hrt
        go_wp2_with fail
        refine (KL2.out _ HW4.out).mono ?_
        rintro e w5 ⟨E8, f8, rfl, hrt5, _, hb5⟩
        have HB5 := Lib.hid (HB4.out.trans (hb5.mono HB4.out.size))
        have KS := Lib.hid (same_any E9 E8 f9 f8 L2 w5 (HX4.out.up hb5) hrt5 hL1)
        clear hb5 hrt5 HX4 KL1 KL2 HW4
        simp only
        by_cases hn1 : n1 = 0
        · have hn2 : n2 = 0 := HOB.out.2 hn1
          subst hn1 hn2
          go_wp2_with fail
          refine KS.out.mono ?_
          rintro e w6 ⟨rfl, hb6⟩
          have HB6 := Lib.hid (HB5.out.trans (hb6.mono HB5.out.size))
          clear hb6 KS
          go_wp2_with fail
          refine (HAL.out _ HB6.out).mono ?_
          rintro e w7 ⟨rfl, hb7⟩
          have HB7 := Lib.hid (HB6.out.trans (hb7.mono HB6.out.size))
          clear hb7
          go_wp2_with fail
          go_ret
          exact ⟨rfl, HB7.out⟩
        · have hn2 : ¬ n2 = 0 := fun h => hn1 (HOB.out.1 h)
          have q1 : (n1 == 0) = false := by simpa using hn1
          have q2 : (n2 == 0) = false := by simpa using hn2
          go_wp2_with fail
          refine KS.out.mono ?_
          rintro e w6 ⟨rfl, hb6⟩
          have HB6 := Lib.hid (HB5.out.trans (hb6.mono HB5.out.size))
          clear hb6 KS
          go_wp2_with fail
          refine (HAL.out _ HB6.out).mono ?_
          rintro e w7 ⟨rfl, hb7⟩
          have HB7 := Lib.hid (HB6.out.trans (hb7.mono HB6.out.size))
          clear hb7
          go_wp2_with fail
          go_ret
          exact ⟨rfl, HB7.out⟩
  · have hk6 : (6 : Int) < (rs.length : Int) := by omega
    clear h6
    go_enter Tryz.func8, Tryz.ntmps8
    go_wp2_with fail
    refine (HAL.out _ (Below.refl _ _)).mono ?_
    rintro e w6 ⟨rfl, hb6⟩
    have HB6 := Lib.hid hb6
    clear hb6
    go_wp2_with fail
    go_ret
    exact ⟨rfl, HB6.out⟩
end Go.Proofs.YthlcdimofagmfaaGreatDoor
