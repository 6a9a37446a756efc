/-
  The specification's alike and Same. No condition on the world.
-/
import Derived.Test.YtmkmbpiaolmncaaDoorPm2
import Derived.Test.YtmkmbpiaolmncaaDoorWSp
import Derived.Test.YtmkmbpiaolmncaaDoorRef2
namespace Go.Proofs.YtmkmbpiaolmncaaDoor
open Go.RowKit
set_option linter.unusedSimpArgs false
set_option linter.unnecessarySimpa false
set_option linter.unusedVariables false
theorem Sets.form {w : World} {v : Value} {l : List BS} (h : Sets w v l) : ∃ A cap, v = .slice A l.length cap := by
  rcases h with ⟨rfl, A, cap, rfl⟩ | ⟨b, o, cap, rfl, _⟩
  · exact ⟨A, cap, rfl⟩
  · exact ⟨_, _, rfl⟩
theorem Sets.at_ {w : World} {A : Option Addr} {cv : Nat} {l : List BS} (h : Sets w (.slice A l.length cv) l) {k : Nat} (hk : k < l.length) :
    ∃ b o, A = some ⟨b, o, none⟩ ∧ b < w.heap.size ∧ (w.cell? ⟨b, o + k * 4, none⟩ = some (.int .u64 (wd 0 l[k])) ∧ w.cell? ⟨b, o + k * 4 + 1, none⟩ = some (.int .u64 (wd 1 l[k])) ∧ w.cell? ⟨b, o + k * 4 + 2, none⟩ = some (.int .u64 (wd 2 l[k])) ∧ w.cell? ⟨b, o + k * 4 + 3, none⟩ = some (.int .u64 (wd 3 l[k]))) := by
  rcases h with ⟨h2, _⟩ | ⟨b, o, cap, h1, hbl, hc⟩
  · rw [h2] at hk; exact absurd hk (by simp)
  · injection h1 with e1 _ _
    exact ⟨b, o, e1, hbl, hc k _ (List.getElem?_eq_getElem hk)⟩
theorem sameB_false {x y : Nat} {l : List BS} {k : Nat} (hk : k < l.length) (h : (l[k].getLsbD x == l[k].getLsbD y) = false) : sameB x y l = false := by
  unfold sameB
  rw [List.all_eq_false]
  exact ⟨l[k], List.getElem_mem hk, by rw [h]; simp⟩
set_option maxRecDepth 100000 in
set_option maxHeartbeats 4000000 in
theorem alike_any (l : List BS) (v : Value) (x y : Nat) (hx : x < 256) (hy : y < 256) (w : World) (hv : Sets w v l) (hl : l.length ≤ 12) :
    Calls Tryd.prog 40 #[v, .int .i64 (x : Int), .int .i64 (y : Int)] w fun e w' => e = .returned (.bool (sameB x y l)) ∧ Below w.heap.size w w' := by
  obtain ⟨av, cv, rfl⟩ := hv.form
  have HV := Lib.hid hv
  have HL := Lib.hid hl
  have HXY := Lib.hid (And.intro hx hy)
  obtain ⟨S, hS⟩ : ∃ S, S = sameB x y l := ⟨_, rfl⟩
  rw [← hS]
  have HS := Lib.hid hS
  clear hv hl hx hy hS
  go_enter Tryd.func40, Tryd.ntmps40
  go_wp2_with fail
  go_loopw [7] (fun i wr => ∃ k : Nat, i = .int .i64 (k : Int) ∧ k ≤ l.length ∧ Hid (sameB x y (l.take k) = true) ∧ Hid (Below w.heap.size w wr)) (fun i _ => (l.length - intOf i).toNat)
  case atStart => exact ⟨0, rfl, by omega, Lib.hid rfl, Lib.hid (Below.refl _ _)⟩
  case round =>
    obtain ⟨k, rfl, hk, HA, HB⟩ := hrel
    by_cases hlt : k < l.length
    · have hkl : (k : Int) < (l.length : Int) := by omega
      have wk : IntKind.i64.wrap ((k : Int) + 1) = (k : Int) + 1 := by simp [IntKind.wrap, IntKind.bits, IntKind.signed]; have := HL.out; omega
      have hsn : sameB x y (l.take (k + 1)) = (sameB x y (l.take k) && (l[k].getLsbD x == l[k].getLsbD y)) := by
        rw [(List.take_append_getElem hlt).symm, sameB_snoc]
      rw [HA.out, Bool.true_and] at hsn
      have hfl : (l[k].getLsbD x == l[k].getLsbD y) = false → S = false := fun h => by rw [HS.out]; exact sameB_false hlt h
      obtain ⟨bb, o, rfl, hbl, hc⟩ := HV.out.at_ hlt
      have hone0 : One w bb o k l[k] w := ⟨Below.refl _ _, hc⟩
      have hone1 := hone0.keep HB.out
      have hS : One wr bb o k l[k] wr := ⟨Below.refl _ _, hone1.2⟩
      obtain ⟨p, hp⟩ : ∃ p, p = l[k].getLsbD x := ⟨_, rfl⟩
      obtain ⟨q, hq⟩ : ∃ q, q = l[k].getLsbD y := ⟨_, rfl⟩
      rw [← hp, ← hq] at hsn hfl
      have C1 := Lib.hid (fun w => rhas_at l[k] x HXY.out.1 p hp.symm w)
      have C2 := Lib.hid (fun w => rhas_at l[k] y HXY.out.2 q hq.symm w)
      unfold st at C1 C2
      generalize l[k] = s at *
      have HSN := Lib.hid hsn
      have HFL := Lib.hid hfl
      clear hsn hfl hp hq hc hone0 hone1
      cases p <;> cases q
      · have HS2 := Lib.hid (show sameB x y (l.take (k + 1)) = true from HSN.out)
        clear HFL HSN
        go_wp2_with fail
        go_region_held3 (fun w' => One wr bb o k s w') (first | exact One.keep hS ((Below.refl _ _).drew) | exact One.keep (by assumption) (by assumption)) (first | (go_at_call 33; ((with_reducible refine (C1.out _).mono ?_)); rintro e w' ⟨rfl, hbN⟩) | (go_at_call 33; ((with_reducible refine (C2.out _).mono ?_)); rintro e w' ⟨rfl, hbN⟩))
        all_goals (have HB2 := Lib.hid (HB.out.trans ((One.below (by assumption : One wr bb o k s _)).mono HB.out.size)); go_wp2_with fail)
        all_goals go_roundw
        all_goals first | exact ⟨k + 1, by go_num, by omega, HS2, HB2⟩ | (simp [intOf]; omega)
      · have HF2 := Lib.hid (HFL.out rfl)
        clear HFL HSN
        go_wp2_with fail
        go_region_held3 (fun w' => One wr bb o k s w') (first | exact One.keep hS ((Below.refl _ _).drew) | exact One.keep (by assumption) (by assumption)) (first | (go_at_call 33; ((with_reducible refine (C1.out _).mono ?_)); rintro e w' ⟨rfl, hbN⟩) | (go_at_call 33; ((with_reducible refine (C2.out _).mono ?_)); rintro e w' ⟨rfl, hbN⟩))
        all_goals (have HB2 := Lib.hid (HB.out.trans ((One.below (by assumption : One wr bb o k s _)).mono HB.out.size)); go_wp2_with fail; go_ret; exact ⟨ret_bool HF2.out.symm, HB2.out⟩)
      · have HF2 := Lib.hid (HFL.out rfl)
        clear HFL HSN
        go_wp2_with fail
        go_region_held3 (fun w' => One wr bb o k s w') (first | exact One.keep hS ((Below.refl _ _).drew) | exact One.keep (by assumption) (by assumption)) (first | (go_at_call 33; ((with_reducible refine (C1.out _).mono ?_)); rintro e w' ⟨rfl, hbN⟩) | (go_at_call 33; ((with_reducible refine (C2.out _).mono ?_)); rintro e w' ⟨rfl, hbN⟩))
        all_goals (have HB2 := Lib.hid (HB.out.trans ((One.below (by assumption : One wr bb o k s _)).mono HB.out.size)); go_wp2_with fail; go_ret; exact ⟨ret_bool HF2.out.symm, HB2.out⟩)
      · have HS2 := Lib.hid (show sameB x y (l.take (k + 1)) = true from HSN.out)
        clear HFL HSN
        go_wp2_with fail
        go_region_held3 (fun w' => One wr bb o k s w') (first | exact One.keep hS ((Below.refl _ _).drew) | exact One.keep (by assumption) (by assumption)) (first | (go_at_call 33; ((with_reducible refine (C1.out _).mono ?_)); rintro e w' ⟨rfl, hbN⟩) | (go_at_call 33; ((with_reducible refine (C2.out _).mono ?_)); rintro e w' ⟨rfl, hbN⟩))
        all_goals (have HB2 := Lib.hid (HB.out.trans ((One.below (by assumption : One wr bb o k s _)).mono HB.out.size)); go_wp2_with fail)
        all_goals go_roundw
        all_goals first | exact ⟨k + 1, by go_num, by omega, HS2, HB2⟩ | (simp [intOf]; omega)
    · obtain rfl : k = l.length := by omega
      have hA := HA.out
      rw [List.take_length, ← HS.out] at hA
      have HA2 := Lib.hid hA
      clear hA HA
      go_wp2_with fail
      go_ret
      exact ⟨ret_bool HA2.out.symm, HB.out⟩
/-- a row of sets in some block -/
def Hold (w : World) (g : Nat) (R : List BS) : Prop := ∀ i x c, R[i]? = some x → c < 4 → w.cell? ⟨g, i * 4 + c, none⟩ = some (.int .u64 (wd c x))
set_option maxRecDepth 100000 in
set_option maxHeartbeats 4000000 in
theorem same_any (R : List BS) (g h c1 c2 : Nat) (w : World) (h1 : Hold w g R) (h2 : Hold w h R) (hl : R.length ≤ 1000000) :
    Calls Tryd.prog 28 #[.slice (some ⟨g, 0, none⟩) R.length c1, .slice (some ⟨h, 0, none⟩) R.length c2] w fun e w' => e = .returned (.bool true) ∧ Below w.heap.size w w' := by
  have H1 := Lib.hid h1
  have H2 := Lib.hid h2
  have HL := Lib.hid hl
  clear h1 h2 hl
  go_enter Tryd.func28, Tryd.ntmps28
  go_wp2_with fail
  go_loopw [5] (fun i wr => ∃ k n : Nat, i = .int .i64 (k : Int) ∧ k ≤ R.length ∧ Hid (wr = w.drewN n)) (fun i _ => (R.length - intOf i).toNat)
  case atStart => exact ⟨0, 0, rfl, by omega, Lib.hid rfl⟩
  case round =>
    obtain ⟨k, n, rfl, hk, HW⟩ := hrel
    obtain rfl := HW.out
    by_cases hlt : k < R.length
    · have hkl : (k : Int) < (R.length : Int) := by omega
      have wk : IntKind.i64.wrap ((k : Int) + 1) = (k : Int) + 1 := by simp [IntKind.wrap, IntKind.bits, IntKind.signed]; have := HL.out; omega
      have hx := List.getElem?_eq_getElem hlt
      have a0 : ∀ m, (w.drewN m).cell? ⟨g, k * 4, none⟩ = some (.int .u64 (wd 0 R[k])) := fun m => by simpa using H1.out k _ 0 hx (by omega)
      have a1 : ∀ m, (w.drewN m).cell? ⟨g, k * 4 + 1, none⟩ = some (.int .u64 (wd 1 R[k])) := fun m => H1.out k _ 1 hx (by omega)
      have a2 : ∀ m, (w.drewN m).cell? ⟨g, k * 4 + 2, none⟩ = some (.int .u64 (wd 2 R[k])) := fun m => H1.out k _ 2 hx (by omega)
      have a3 : ∀ m, (w.drewN m).cell? ⟨g, k * 4 + 3, none⟩ = some (.int .u64 (wd 3 R[k])) := fun m => H1.out k _ 3 hx (by omega)
      have b0 : ∀ m, (w.drewN m).cell? ⟨h, k * 4, none⟩ = some (.int .u64 (wd 0 R[k])) := fun m => by simpa using H2.out k _ 0 hx (by omega)
      have b1 : ∀ m, (w.drewN m).cell? ⟨h, k * 4 + 1, none⟩ = some (.int .u64 (wd 1 R[k])) := fun m => H2.out k _ 1 hx (by omega)
      have b2 : ∀ m, (w.drewN m).cell? ⟨h, k * 4 + 2, none⟩ = some (.int .u64 (wd 2 R[k])) := fun m => H2.out k _ 2 hx (by omega)
      have b3 : ∀ m, (w.drewN m).cell? ⟨h, k * 4 + 3, none⟩ = some (.int .u64 (wd 3 R[k])) := fun m => H2.out k _ 3 hx (by omega)
      have a0' := a0 n; have a1' := a1 n; have a2' := a2 n; have a3' := a3 n
      have b0' := b0 n; have b1' := b1 n; have b2' := b2 n; have b3' := b3 n
      have q1 : ∀ w, (Op.equalIn 10000 24 (.agg #[.int .u64 (wd 0 R[k]), .int .u64 (wd 1 R[k]), .int .u64 (wd 2 R[k]), .int .u64 (wd 3 R[k])]) (.agg #[.int .u64 (wd 0 R[k]), .int .u64 (wd 1 R[k]), .int .u64 (wd 2 R[k]), .int .u64 (wd 3 R[k])])).run Tryd.prog w = .ok true w := fun w => by
        have := eqS R[k] R[k] w
        unfold st at this
        rw [this]; simp
      clear hx
      generalize R[k] = x at *
      go_wp2_with fail
      go_quiet (fail)
      go_wp2_with fail
      go_roundw
      case rel => exact ⟨k + 1, _, by go_num, by omega, Lib.hid rfl⟩
      case measure => simp [intOf]; omega
    · go_wp2_with fail
      go_ret
      exact ⟨rfl, bdrewN (Below.refl _ _) _⟩
end Go.Proofs.YtmkmbpiaolmncaaDoor
