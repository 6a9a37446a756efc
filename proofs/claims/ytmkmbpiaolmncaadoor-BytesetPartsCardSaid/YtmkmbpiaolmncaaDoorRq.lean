/-
  The walk of the specification's Partition. No condition on the world.
-/
import Derived.Test.YtmkmbpiaolmncaaDoorRp
import Derived.Deep.CutRange
namespace Go.Proofs.YtmkmbpiaolmncaaDoor
open Go.RowKit
set_option linter.unusedSimpArgs false
set_option linter.unnecessarySimpa false
set_option linter.unusedVariables false
theorem Row4.grow' {w w' : World} {p : Nat} {s : BS} {r : Option Nat} (h : Row4 w p s) (hg : w.grownBy w' r) (hne : some p ≠ r) : Row4 w' p s := by
  obtain ⟨z, c0, c1, c2, c3, f0, f1, f2, f3⟩ := h
  have e : w'.heap[p]? = w.heap[p]? := hg.block p z hne
  have ec : ∀ j, w'.cell? ⟨p, j, none⟩ = w.cell? ⟨p, j, none⟩ := fun j => by simp only [World.cell?, e]
  have ef : ∀ j, w'.frozen? ⟨p, j, none⟩ = w.frozen? ⟨p, j, none⟩ := fun j => by simp only [World.frozen?, e]
  have hz : p < w'.heap.size := by
    rcases Nat.lt_or_ge p w'.heap.size with h1 | h1
    · exact h1
    · rw [Array.getElem?_eq_none h1] at e
      simp [z] at e
  exact ⟨hz, by rw [ec]; exact c0, by rw [ec]; exact c1, by rw [ec]; exact c2, by rw [ec]; exact c3, by rw [ef]; exact f0, by rw [ef]; exact f1, by rw [ef]; exact f2, by rw [ef]; exact f3⟩
set_option maxRecDepth 100000 in
set_option maxHeartbeats 8000000 in
theorem rpart_any (l : List BS) (v : Value) (w : World) (hv : Sets w v l) (hl : l.length ≤ 12) :
    Calls Tryd.prog 30 #[v] w fun e w' => ∃ u, e = .returned u ∧ w'.ownsRow (w.heap.size + 1) 24 4 u (refL l 256).length (flatB (refL l 256)) ∧ Below w.heap.size w w' := by
  obtain ⟨i0, hi, hz0, hz1, hz2⟩ := info_parts Tryd.info24
  obtain ⟨av, cv, rfl⟩ := hv.form
  have HI := Lib.hid (And.intro hi (And.intro hz0 (And.intro hz1 hz2)))
  have HV := Lib.hid hv
  have HL := Lib.hid hl
  clear hv hl hi hz0 hz1 hz2
  go_enter Tryd.func30, Tryd.ntmps30
  go_wp2_with fail
  go_loopw [3, 5] (fun u i wr => ∃ (k : Nat) (D : BS), i = .int .i64 (k : Int) ∧ k ≤ 256 ∧ Hid (Outer l w u k D wr)) (fun _ i _ => (256 - intOf i).toNat)
  case atStart =>
    refine ⟨0, 0#256, rfl, by omega, Lib.hid ⟨?_, Row4.zero w _ rfl, done_zero l, (Below.refl _ _).alloc (Nat.le_refl _) _⟩⟩
    have : refL l 0 = [] := rfl
    rw [this]; exact World.ownsRow_nil _ _ _ _
  case round =>
    obtain ⟨k, D, rfl, hk, HO⟩ := hrel
    by_cases hlt : k < 256
    · have hki : (k : Int) < 256 := by omega
      have wk : IntKind.i64.wrap ((k : Int) + 1) = (k : Int) + 1 := by simp [IntKind.wrap, IntKind.bits, IntKind.signed]; omega
      have hrow := HO.out.row
      obtain ⟨z0, a0, a1, a2, a3, _, _, _, _⟩ := hrow
      cases hd : D.getLsbD k with
      | true =>
        have hf := first_not hlt HO.out.done hd
        have C1 := Lib.hid (fun w => rhas_at D k hlt true hd w)
        have hrn := refL_next l k
        rw [hf.1] at hrn
        have HF := Lib.hid hf
        have HRN := Lib.hid (show refL l (k + 1) = refL l k by simpa using hrn)
        unfold st at C1
        clear hd hf hrn
        go_wp2_with fail
        refine (C1.out _).mono ?_
        rintro e w1 ⟨rfl, hb1⟩
        have HO1 := Lib.hid (HO.out.below hb1)
        clear hb1 z0 a0 a1 a2 a3
        go_wp2_with fail
        go_roundw
        case rel => exact ⟨k + 1, D, by go_num, by omega, Lib.hid ⟨by rw [HRN.out]; exact HO1.out.own, HO1.out.row, HF.out.2, HO1.out.bel⟩⟩
        case measure => simp [intOf]; omega
      | false =>
        have hf := first_of hlt HO.out.done hd
        have C1 := Lib.hid (fun w => rhas_at D k hlt false hd w)
        have HF := Lib.hid hf
        unfold st at C1
        clear hd hf
        go_wp2_with fail
        refine (C1.out _).mono ?_
        rintro e w1 ⟨rfl, hb1⟩
        have HO1 := Lib.hid (HO.out.below hb1)
        clear hb1 z0 a0 a1 a2 a3 HO
        have hin : Inner l w u3 k w1.heap.size k D 0#256 (w1.alloc (.cells #[.int .u64 0, .int .u64 0, .int .u64 0, .int .u64 0] 24)) :=
          ⟨own_below HO1.out.own ((Below.refl _ _).alloc (Nat.le_refl _) _), fun g cap e => by have h := HO1.out.own; rw [e] at h; have := (h.lt g rfl).2; omega, HO1.out.row.size,
            HO1.out.row.below ((Below.refl _ _).alloc (Nat.le_refl _) _) HO1.out.row.size, Row4.zero w1 _ rfl, doneto_start HO1.out.done, part_zero l k, HO1.out.bel.alloc HO1.out.bel.size _⟩
        have HIN := Lib.hid hin
        clear hin
        go_wp2_with fail
        go_loopw [7] (fun j wr => ∃ (m : Nat) (D' P : BS), j = .int .i64 (m : Int) ∧ k ≤ m ∧ m ≤ 256 ∧ Hid (Inner l w u3 k w1.heap.size m D' P wr)) (fun j _ => (256 - intOf j).toNat)
        case atStart => exact ⟨k, D, 0#256, rfl, Nat.le_refl _, hk, HIN⟩
        case round =>
          clear HIN HO1
          obtain ⟨m, D', P, rfl, hkm, hm, HN⟩ := hrel
          by_cases hmlt : m < 256
          · have hmi : (m : Int) < 256 := by omega
            have wm : IntKind.i64.wrap ((m : Int) + 1) = (m : Int) + 1 := by simp [IntKind.wrap, IntKind.bits, IntKind.signed]; omega
            have hs2 := HV.out.below HN.out.bel
            obtain ⟨sb, hsb⟩ : ∃ sb, sb = sameB k m l := ⟨_, rfl⟩
            have CA := Lib.hid (alike_any l _ k m hlt hmlt _ hs2 HL.out)
            rw [← hsb] at CA
            cases sb with
            | false =>
              have HSB := Lib.hid hsb.symm
              clear hsb hs2
              go_wp2_with fail
              refine CA.out.mono ?_
              rintro e w2 ⟨rfl, hb2⟩
              have h2 := HN.out.below hb2
              have H2 := Lib.hid h2
              clear hb2 h2
              go_wp2_with fail
              go_roundw
              case rel => exact ⟨m + 1, D', P, by go_num, by omega, by omega, Lib.hid ⟨H2.out.own, H2.out.ne, H2.out.lt, H2.out.row, H2.out.part, done_skip H2.out.done HSB.out, part_skip H2.out.pt HSB.out, H2.out.bel⟩⟩
              case measure => simp [intOf]; omega
            | true =>
              have HSB := Lib.hid hsb.symm
              clear hsb hs2
              have CP := Lib.hid (fun w => with_at P m hmlt w)
              have CD := Lib.hid (fun w => with_at D' m hmlt w)
              unfold st at CP CD
              go_wp2_with fail
              refine CA.out.mono ?_
              rintro e w2 ⟨rfl, hb2⟩
              have H2 := Lib.hid (HN.out.below hb2)
              clear hb2 CA HN
              have hp2 := H2.out.part
              obtain ⟨y0, p0, p1, p2, p3, g0, g1, g2, g3⟩ := hp2
              go_wp2_with fail
              refine (CP.out _).mono ?_
              rintro e w3 ⟨rfl, hb3⟩
              have H3 := Lib.hid (H2.out.below hb3)
              clear hb3 H2 CP y0 p0 p1 p2 p3 g0 g1 g2 g3
              have hput := H3.out.putP (wth P m)
              unfold put4 at hput
              have HPUT := Lib.hid hput
              clear hput
              have hp3 := H3.out.part
              obtain ⟨y0, p0, p1, p2, p3, g0, g1, g2, g3⟩ := hp3
              go_upto_region 13 with fail
              generalize (((w3.setCell ⟨w1.heap.size, 0, none⟩ (.int .u64 (wd 0 (wth P m)))).setCell ⟨w1.heap.size, 1, none⟩ (.int .u64 (wd 1 (wth P m)))).setCell ⟨w1.heap.size, 2, none⟩ (.int .u64 (wd 2 (wth P m)))).setCell ⟨w1.heap.size, 3, none⟩ (.int .u64 (wd 3 (wth P m))) = w4 at *
              clear y0 p0 p1 p2 p3 g0 g1 g2 g3
              have hi4 : Inner l w u3 k w1.heap.size m D' (wth P m) w4 ∨ True := .inr trivial
              have hr4 := HPUT.out.2.1
              obtain ⟨y0, p0, p1, p2, p3, g0, g1, g2, g3⟩ := hr4
              clear hi4
              go_wp2_with fail
              refine (CD.out _).mono ?_
              rintro e w5 ⟨rfl, hb5⟩
              have o5 := own_below HPUT.out.1 hb5
              have r5 := HPUT.out.2.1.below hb5 HPUT.out.2.1.size
              have q5 := HPUT.out.2.2.1.below hb5 HPUT.out.2.2.1.size
              have b5 := HPUT.out.2.2.2.trans (hb5.mono HPUT.out.2.2.2.size)
              have hfin : Inner l w u3 k w1.heap.size (m + 1) (wth D' m) (wth P m) (put4 w5 w.heap.size (wth D' m)) :=
                ⟨own_put4 o5 _ H3.out.done_ne, H3.out.ne, H3.out.lt, r5.put _, q5.put_other _ (by have := H3.out.lt; omega), done_take H3.out.done hkm HSB.out, part_take H3.out.pt hkm HSB.out, below_put4 b5 (Nat.le_refl _) _⟩
              unfold put4 at hfin
              have HFIN := Lib.hid hfin
              clear hfin o5 q5 b5 hb5 y0 p0 p1 p2 p3 g0 g1 g2 g3
              obtain ⟨y0, p0, p1, p2, p3, g0, g1, g2, g3⟩ := r5
              go_wp2_with fail
              go_roundw
              case rel => exact ⟨m + 1, wth D' m, wth P m, by go_num, by omega, by omega, HFIN⟩
              case measure => simp [intOf]; omega
          · obtain rfl : m = 256 := by omega
            have hPc := part_end HF.out HN.out.pt
            have hDn := done_end HF.out HN.out.done
            have hrn := refL_next l k
            rw [HF.out, if_pos rfl] at hrn
            have HRN := Lib.hid hrn
            have HDN := Lib.hid hDn
            subst hPc
            have hi := HI.out.1
            have hz0 := HI.out.2.1
            have hz1 := HI.out.2.2.1
            have hz2 := HI.out.2.2.2
            have hlen := refL_len l k
            have hown := HN.out.own
            have hpp := HN.out.part
            obtain ⟨y0, p0, p1, p2, p3, g0, g1, g2, g3⟩ := hpp
            have hBs : w.heap.size + 1 ≤ wr.heap.size := by have := HN.out.row.size; omega
            clear hrn hDn
            go_wp2_with (at_builtin; refine wpList_append_own _ rfl _ _ 45 rfl (w.heap.size + 1) 24 i0 (.agg #[.int .u64 0, .int .u64 0, .int .u64 0, .int .u64 0]) 4 32 Tryd.underlying45 hi hz0 hz1 hz2 rfl (by decide) _ _ _ rfl (hown.alloc _) ⟨wr.heap.size, 0, none⟩ 1 1 (b4 (cl l k)) rfl rfl ?c1 ?c2 ?c3 ?c4 ?c5 ?_)
            case c1 => exact cells_new4 _ _ _ _ _ _
            case c2 => intro u hu; simp [b4] at hu; rcases hu with rfl | rfl | rfl | rfl <;> rfl
            case c3 => unfold maxLen; omega
            case c4 => omega
            case c5 => simp; omega
            intro v' w6 hown6 hgrow _
            have hrow6 := (HN.out.row.below ((Below.refl _ _).alloc (Nat.le_refl _) _) HN.out.row.size).grow' hgrow (fun e => by have := (hown.lt _ e.symm).1; omega)
            have hbel6 := (HN.out.bel.alloc HN.out.bel.size _).grown hgrow (by have := HN.out.bel.size; simp; omega) (fun j hj => by have := (hown.lt j hj).1; omega)
            have hlen6 : (refL l (k + 1)).length = (refL l k).length + 1 := by rw [HRN.out, List.length_append]; rfl
            have hflat6 : flatB (refL l (k + 1)) = flatB (refL l k) ++ b4 (cl l k) := by rw [HRN.out, flatB_append]; simp [flatB]
            have hout6 : Outer l w v' (k + 1) D' w6 := ⟨by rw [hlen6, hflat6]; exact hown6, hrow6, HDN.out, hbel6⟩
            have HOUT := Lib.hid hout6
            clear hown6 hgrow hrow6 hbel6 hlen6 hflat6 hout6 hown hi hz0 hz1 hz2 hlen y0 p0 p1 p2 p3 g0 g1 g2 g3
            go_wp2_with fail
            go_roundw
            case rel => exact ⟨k + 1, D', by go_num, by omega, HOUT⟩
            case measure => simp [intOf]; omega
    · obtain rfl : k = 256 := by omega
      have hO := HO.out
      clear HI
      have HO2 := Lib.hid hO
      clear hO HO
      go_wp2_with fail
      go_ret
      exact ⟨_, rfl, HO2.out.own, HO2.out.bel⟩
end Go.Proofs.YtmkmbpiaolmncaaDoor
