/-
  Least. No condition but the bounds on the lists.
-/
import Derived.Test.YteekccjfokoglaaX
namespace Go.Proofs.Yteekccjfokoglaa
open Go.RowKit Go.Sort Go.Lib Go.Shelf Go.Proofs
set_option linter.unusedSimpArgs false
set_option linter.unnecessarySimpa false
set_option linter.unusedVariables false
attribute [local go_sem] Oper.semAt_some
def accV (pre : List V) : Option Int := (pre.map (·.1)).foldl lstep none
theorem accV_snoc (pre : List V) (x : V) : accV (pre ++ [x]) = lstep (accV pre) x.1 := by simp [accV]
theorem accV_bd (pre : List V) : ∀ l, accV pre = some l → -1000000000000000 ≤ l ∧ l ≤ 1000000000000000 := by
  have aux : ∀ (pre : List V) (a : Option Int), (∀ l, a = some l → -1000000000000000 ≤ l ∧ l ≤ 1000000000000000) → ∀ l, (pre.map (·.1)).foldl lstep a = some l → -1000000000000000 ≤ l ∧ l ≤ 1000000000000000 := by
    intro pre
    induction pre with
    | nil => intro a ha l hl; exact ha l hl
    | cons x pre ih =>
      intro a ha l hl
      refine ih (lstep a x.1) (fun m hm => ?_) l hl
      cases a with
      | none => simp only [lstep, Option.some.injEq] at hm; rw [← hm]; exact x.2
      | some y =>
        simp only [lstep] at hm
        split at hm <;> simp only [Option.some.injEq] at hm <;> rw [← hm]
        · exact x.2
        · exact ha y rfl
  exact aux pre none (fun l h => by cases h)
def lv (a : Option Int) : Int := a.getD 0
theorem keeps2 {W : World} {p q : Nat} (u v : Value) : KeepsOthers W ((W.setCell ⟨p, 0, none⟩ u).setCell ⟨q, 0, none⟩ v) := (KeepsOthers.setCell _ _ _).trans (KeepsOthers.setCell _ _ _)
theorem kp2_set {B p q : Nat} {W : World} (hp : B ≤ p) (hq : B ≤ q) (u v : Value) : Kp2 B p q W ((W.setCell ⟨p, 0, none⟩ u).setCell ⟨q, 0, none⟩ v) :=
  ⟨((Below.refl B W).setCell (p := ⟨p, 0, none⟩) hp u).setCell (p := ⟨q, 0, none⟩) hq v, fun k o hk ho h1 h2 => by
    have h1' : p ≠ k := fun e => h1 e.symm
    have h2' : q ≠ k := fun e => h2 e.symm
    simp [World.setCell, Array.getElem?_modify, h1', h2', hk]⟩
def LeastIs (s : NS) (w : World) (e : Ending) (w' : World) : Prop := e = .returned (.tuple #[.int .i64 (lv (leastO s)), .bool (leastO s).isSome]) ∧ Below w.heap.size w w'
set_option maxRecDepth 100000 in
set_option maxHeartbeats 4000000 in
theorem least_any (A1 A2 : Option Addr) (c1 c2 : Nat) (s : NS) (w : World) (hN : Ns w A1 c1 A2 c2 s) (hk : okN 1000 s) :
    Calls Try.prog 39 #[nv A1 s.1.length c1 A2 s.2.length c2] w (LeastIs s w) := by
  have hb1 : Below w.heap.size w (((w.alloc (.cells #[.slice A1 s.1.length c1, .slice A2 s.2.length c2] 24)).alloc (.cells #[.int .i64 0] 2)).alloc (.cells #[.bool false] 4)) := (((Below.refl _ _).alloc (Nat.le_refl _) _).alloc (by simp) _).alloc (by simp; omega) _
  have HM := Lib.hid (make_any A1 A2 c1 c2 s _ (hN.up hb1) (hk.le (by omega)))
  have HMK := Lib.hid (mk_ok hk)
  have HC := Lib.hid (can_mk s)
  have HLO := Lib.hid (show leastO s = accV (cV (mk s)) by unfold leastO accV; rw [cV_cands (can_mk s)])
  clear hN hk
  obtain ⟨M, hMM⟩ : ∃ M, M = mk s := ⟨_, rfl⟩
  rw [← hMM] at HM HMK HC HLO
  clear hMM
  refine (callsIn_wide (n := 8)).1 ?_
  refine callsIn_of_wp_marks Try.func39 rfl trivial ?_ rfl
  simp only [Try.ntmps39, List.size_toArray, List.length_cons, List.length_nil, Nat.reduceAdd, Nat.reduceSub, Array.replicate_succ, Array.replicate_zero, List.push_toArray, List.append_toArray, List.nil_append, List.cons_append]
  gi_wp2_with fail
  have bP := (Boxed.new (w.alloc (.cells #[.slice A1 s.1.length c1, .slice A2 s.2.length c2] 24)) 2 (.int .i64 0)).alloc (.cells #[.bool false] 4)
  have bQ := Boxed.new ((w.alloc (.cells #[.slice A1 s.1.length c1, .slice A2 s.2.length c2] 24)).alloc (.cells #[.int .i64 0] 2)) 4 (.bool false)
  have hsz : (((w.alloc (.cells #[.slice A1 s.1.length c1, .slice A2 s.2.length c2] 24)).alloc (.cells #[.int .i64 0] 2)).alloc (.cells #[.bool false] 4)).heap.size = w.heap.size + 3 := by simp
  simp only [World.size_alloc] at bP bQ
  obtain ⟨w1, hw1⟩ : ∃ w1, w1 = ((w.alloc (.cells #[.slice A1 s.1.length c1, .slice A2 s.2.length c2] 24)).alloc (.cells #[.int .i64 0] 2)).alloc (.cells #[.bool false] 4) := ⟨_, rfl⟩
  rw [← hw1] at HM bP bQ hb1 hsz ⊢
  clear hw1
  refine ⟨trivial, (callsIn_wide.2 HM.out).mono ?_⟩
  rintro e w2 ⟨E1, e1, E2, e2, rfl, ⟨hns, hi1, hi2⟩, hb2⟩
  have z2 : w.heap.size + 3 ≤ w2.heap.size := by have := hb2.size; omega
  have bP2 : Boxed w2 (w.heap.size + 1) 2 (.int .i64 0) := (hb2.block _ (by omega)).trans bP
  have bQ2 : Boxed w2 (w.heap.size + 1 + 1) 4 (.bool false) := (hb2.block _ (by omega)).trans bQ
  have hB2 := hb1.trans (hb2.mono hb1.size)
  gi_wp2_with fail
  refine ⟨trivial, (callsIn_wide.2 (near_any E1 E2 e1 e2 M.1.length M.2.length w2)).mono ?_⟩
  rintro e w3 ⟨rfl, rfl⟩
  have hbw := bal w2 (.cells #[.slice E1 M.1.length e1, .slice E2 M.2.length e2] 24)
  have hG : Gn E1 e1 E2 e2 M w2.heap.size (w.heap.size + 3) (w2.alloc (.cells #[.slice E1 M.1.length e1, .slice E2 M.2.length e2] 24)) := ⟨by simp, by simp, hns.up hbw, hi1.le (by omega), hi2.le (by omega), z2⟩
  have bP3 := bP2.alloc (.cells #[.slice E1 M.1.length e1, .slice E2 M.2.length e2] 24)
  have bQ3 := bQ2.alloc (.cells #[.slice E1 M.1.length e1, .slice E2 M.2.length e2] 24)
  have hB3 := hB2.alloc hB2.size (.cells #[.slice E1 M.1.length e1, .slice E2 M.2.length e2] 24)
  have hsz3 : w2.heap.size < (w2.alloc (.cells #[.slice E1 M.1.length e1, .slice E2 M.2.length e2] 24)).heap.size := by simp
  have HCV := Lib.hid (show cV M = cV M from rfl)
  clear hb1 hb2 hB2 bP bQ bP2 bQ2 hbw hns hi1 hi2
  gi_wp2_with fail
  generalize w2.alloc (.cells #[.slice E1 M.1.length e1, .slice E2 M.2.length e2] 24) = W0 at *
  refine wpIn_rangeFunc_ownF rfl (by omega) (gf := 87) (lb := #[.pointer (some ⟨w2.heap.size, 0, none⟩)]) rfl trivial (enters_of Try.func87 (by kernel_rfl) rfl)
    (near_stops 7 (by omega) w2.heap.size (w.heap.size + 3) w.heap.size (w.heap.size + 1) (w.heap.size + 1 + 1) e1 e2 E1 E2 M HC.out HMK.out (by omega) (by omega) W0 hB3.size hsz3 hG) kp2_t (kp2_b hB3.size) (Below.refl _ _) (fun _ => rfl)
    (fun pre W => (Boxed W (w.heap.size + 1) 2 (.int .i64 (lv (accV pre))) ∧ Boxed W (w.heap.size + 1 + 1) 4 (.bool (accV pre).isSome)) ∧ Below w.heap.size w W)
    (fun _ _ _ => False)
    (OwnFrom.and (OwnFrom.and (Own.from (boxed_own (w.heap.size + 1) 2 (fun pre : List V => .int .i64 (lv (accV pre)))) _) (Own.from (boxed_own (w.heap.size + 1 + 1) 4 (fun pre : List V => .bool (accV pre).isSome)) _)) (ownFrom_below (Nat.le_refl _) hB3.size))
    (fun _ _ _ _ _ hs _ _ => hs)
    ⟨⟨bP3, bQ3⟩, hB3⟩
    (fun x => { tmps := #[nv A1 s.1.length c1 A2 s.2.length c2, .pointer (some ⟨w.heap.size, 0, none⟩), .int .i64 0, .bool false, .pointer (some ⟨w.heap.size + 1, 0, none⟩), .pointer (some ⟨w.heap.size + 1 + 1, 0, none⟩), .int .i64 x.1, .agg #[.slice A1 s.1.length c1, .slice A2 s.2.length c2], nv E1 M.1.length e1 E2 M.2.length e2, .func (.func 87) #[] #[.pointer (some ⟨w2.heap.size, 0, none⟩)], .int .i64 x.1, undef, undef, undef, undef, undef, undef, undef, undef, undef, undef], defers := [] }) ?assign ?body ?done ?stop
  case assign =>
    intro l x W K hK
    gi_wp2
    exact hK
  case body =>
    rintro l pre x W ⟨⟨hP, hQ⟩, hB⟩ hlen
    have cP := hP.cell
    have cQ := hQ.cell
    have fP := hP.frozen
    have fQ := hQ.frozen
    have hxb := x.2
    have hb1 : bd62 x.1 := by unfold bd62; omega
    cases ha : accV pre with
    | none =>
      have hs := accV_snoc pre x
      rw [ha] at hs cP cQ
      simp only [lstep] at hs
      simp only [lv, Option.getD_none, Option.isSome_none] at cP cQ
      have HS := Lib.hid hs
      clear hs
      gi_wp2_with fail
      refine ⟨trivial, ?_⟩
      gi_wp2_with fail
      exact ⟨keeps2 _ _, kp2_set (by omega) (by omega) _ _, ⟨by rw [HS.out]; exact (hP.set _).other (by omega) _, by rw [HS.out]; exact (hQ.other (by omega) _).set _⟩, (hB.setCell (p := ⟨w.heap.size + 1, 0, none⟩) (by show w.heap.size ≤ w.heap.size + 1; omega) _).setCell (p := ⟨w.heap.size + 1 + 1, 0, none⟩) (by show w.heap.size ≤ w.heap.size + 1 + 1; omega) _⟩
    | some y =>
      have hs := accV_snoc pre x
      have hyb := accV_bd pre y ha
      have hb2 : bd62 y := by unfold bd62; omega
      rw [ha] at hs cP cQ hP hQ
      simp only [lstep] at hs
      simp only [lv, Option.getD_some, Option.isSome_some] at cP cQ hP hQ
      have HN := Lib.hid (nearer_any x.1 y W hb1 hb2)
      have HS := Lib.hid hs
      clear hs
      cases hn : nearB x.1 y
      · rw [hn] at HN HS
        gi_wp2_with fail
        refine ⟨trivial, (CallsIn.inRound l (callsIn_wide.2 HN.out)).mono ?_⟩
        rintro e w' ⟨rfl, rfl⟩
        have hx2 : accV (pre ++ [x]) = some y := by rw [HS.out]; rfl
        have HX2 := Lib.hid hx2
        clear hx2
        gi_wp2_with fail
        exact ⟨KeepsOthers.refl _, ⟨Below.refl _ _, fun _ _ h _ _ _ => h⟩, ⟨by rw [HX2.out]; exact hP, by rw [HX2.out]; exact hQ⟩, hB⟩
      · rw [hn] at HN HS
        gi_wp2_with fail
        refine ⟨trivial, (CallsIn.inRound l (callsIn_wide.2 HN.out)).mono ?_⟩
        rintro e w' ⟨rfl, rfl⟩
        have hx2 : accV (pre ++ [x]) = some x.1 := by rw [HS.out]; rfl
        have HX2 := Lib.hid hx2
        clear hx2
        gi_wp2_with fail
        exact ⟨keeps2 _ _, kp2_set (by omega) (by omega) _ _, ⟨by rw [HX2.out]; exact (hP.set _).other (by omega) _, by rw [HX2.out]; exact (hQ.other (by omega) _).set _⟩, (hB.setCell (p := ⟨w.heap.size + 1, 0, none⟩) (by show w.heap.size ≤ w.heap.size + 1; omega) _).setCell (p := ⟨w.heap.size + 1 + 1, 0, none⟩) (by show w.heap.size ≤ w.heap.size + 1 + 1; omega) _⟩
  case done =>
    rintro D xs W hD rfl ⟨⟨hP, hQ⟩, hB⟩ hK
    have cP := hP.cell
    have cQ := hQ.cell
    rw [← HLO.out] at cP cQ
    have HB := Lib.hid (hB.drew.trans (belowK_b (w := w) (Nat.le_refl _) W.drew D _ (.deferred none) (by have := hB3.size; omega) (show W.drew.heap[D]? = _ from hK) rfl rfl))
    gi_wp2_with fail
    gi_region
    have hK' : W.drew.heap[D]? = some (.deferred (some [])) := hK
    have HK' := Lib.hid hK'
    clear hK hK' hP hQ cP cQ
    gi_wp2_with fail
    refine ⟨by simp, .inl ⟨_, _, rfl, run_takeDeferred HK'.out, ?_⟩⟩
    have hbf : Below w.heap.size w (W.drew.putObj D (.deferred none)) := HB.out
    exact ⟨_, results_tmp2 rfl _ _ _, rfl, hbf⟩
  case stop =>
    rintro D c pre W _ _ h _
    exact h.elim
end Go.Proofs.Yteekccjfokoglaa
