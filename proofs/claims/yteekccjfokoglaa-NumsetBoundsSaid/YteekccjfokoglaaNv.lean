/-
  The specification's gaps. Condition: at most 100000 spans, all ends between -10^15 and 10^15.
-/
import Derived.Test.YteekccjfokoglaaNm
import Derived.Laws.AppendOwnNone
import Derived.Test.YteekccjfokoglaaM8
namespace Go.Proofs.Yteekccjfokoglaa
open Go.RowKit Go.Sort Go.Lib Go.Proofs
set_option linter.unusedSimpArgs false
set_option linter.unnecessarySimpa false
set_option linter.unusedVariables false
theorem rg_at {hi lo : Int} {l : List Sp} {k : Nat} (h : k < l.length) : rg hi lo (l.drop k) = if lo < l[k].1 then (lo, l[k].1 - 1) :: rg hi (l[k].2 + 1) (l.drop (k + 1)) else rg hi (l[k].2 + 1) (l.drop (k + 1)) := by
  rw [List.drop_eq_getElem_cons h, rg]
set_option maxRecDepth 100000 in
set_option maxHeartbeats 2000000 in
theorem rgaps_any (A : Option Addr) (c : Nat) (l : List Sp) (lo0 hi : Int) (w : World) (hR : Re w w.heap.size A l) (hl : l.length ≤ 100000) (hb : ∀ x ∈ l, bd15 x) (h1 : -1000000000000001 ≤ lo0) (h2 : lo0 ≤ 1000000000000001) (h3 : -1000000000000001 ≤ hi) (h4 : hi ≤ 1000000000000001) :
    Calls Try.prog 64 #[.slice A l.length c, .int .i64 lo0, .int .i64 hi] w (Gives (rg hi lo0 l) w) := by
  have HR := Lib.hid hR
  have HL := Lib.hid hb
  have HS := Lib.hid (show ([] : List Sp) ++ rg hi lo0 (l.drop 0) = rg hi lo0 l by simp)
  clear hR hb
  go_enter Try.func64, Try.ntmps64
  go_wp2_with fail
  go_loopw [1, 7, 12] (fun s1 s7 s12 wr => ∃ (k : Nat) (lo : Int) (acc : List Sp) (v : Value), s12 = .int .i64 (k : Int) ∧ s1 = .int .i64 lo ∧ s7 = v ∧ k ≤ l.length ∧ acc.length ≤ k ∧ -1000000000000001 ≤ lo ∧ lo ≤ 1000000000000001 ∧ Hid (acc ++ rg hi lo (l.drop k) = rg hi lo0 l) ∧ Hid (wr.ownsRow w.heap.size 46 2 v acc.length (flat acc)) ∧ Hid (Below w.heap.size w wr)) (fun _ _ s12 _ => (l.length - intOf s12).toNat)
  case atStart => exact ⟨0, lo0, [], _, rfl, rfl, rfl, by omega, by simp, h1, h2, HS, Lib.hid (World.ownsRow_nil _ _ _ _), Lib.hid (Below.refl _ _)⟩
  case round =>
    obtain ⟨i0, hi0, hz0, hz1, hz2⟩ := info_parts info46
    obtain ⟨k, lo, acc, v, rfl, rfl, rfl, hk, hacl, b1, b2, HE, HO, HB⟩ := hrel
    clear HS
    by_cases hlt : k < l.length
    · obtain ⟨b, o, hA, hbl, d0, d1⟩ := HR.out.at_ k hlt
      subst hA
      rw [← HB.out.cell (p := ⟨b, o + k * 2, none⟩) hbl] at d0
      rw [← HB.out.cell (p := ⟨b, o + k * 2 + 1, none⟩) hbl] at d1
      have HT := Lib.hid (rg_at (hi := hi) (lo := lo) hlt)
      have hbx := HL.out l[k] (List.getElem_mem hlt)
      obtain ⟨x, hx⟩ : ∃ x, x = l[k] := ⟨_, rfl⟩
      rw [← hx] at d0 d1 HT hbx
      unfold bd15 at hbx
      have hkl : (k : Int) < (l.length : Int) := by omega
      have hwr : w.heap.size ≤ wr.heap.size := HB.out.size
      obtain ⟨W, hW⟩ : ∃ W, W = wr.alloc (.cells #[.int .i64 x.1, .int .i64 x.2] 46) := ⟨_, rfl⟩
      obtain ⟨b9, hb9⟩ : ∃ b9, b9 = wr.heap.size := ⟨_, rfl⟩
      have HO1 := Lib.hid (show W.ownsRow w.heap.size 46 2 u7 acc.length (flat acc) by rw [hW]; exact HO.out.alloc _)
      have HOW := Lib.hid (show ∀ j, u7.ownBlock = some j → j < b9 from fun j hj => by rw [hb9]; exact (HO.out.lt j hj).2)
      have HB1 := Lib.hid (show Below w.heap.size w W by rw [hW]; exact HB.out.alloc hwr _)
      have e0 : W.cell? ⟨b9, 0, none⟩ = some (.int .i64 x.1) := by rw [hW, hb9]; simp
      have e1 : W.cell? ⟨b9, 1, none⟩ = some (.int .i64 x.2) := by rw [hW, hb9]; simp
      have l9 : b9 < W.heap.size := by rw [hW, hb9]; simp
      have hW3 : w.heap.size ≤ W.heap.size := HB1.out.size
      have xw1 : IntKind.i64.wrap (x.1 - 1) = x.1 - 1 := IntWalk.i64_in _ (by omega)
      have xw2 : IntKind.i64.wrap (x.2 + 1) = x.2 + 1 := IntWalk.i64_in _ (by omega)
      clear hx
      go_upto_region 5 with fail
      rw [← hW, ← hb9]
      clear hW hb9 d0 d1 HO HB
      by_cases hlo : lo < x.1
      · have g1 : decide (lo < x.1) = true := decide_eq_true hlo
        have HE2 := Lib.hid (show (acc ++ [(lo, x.1 - 1)]) ++ rg hi (x.2 + 1) (l.drop (k + 1)) = rg hi lo0 l by
          rw [← HE.out, HT.out, if_pos hlo]; simp)
        have hown := HO1.out
        clear HE HT hlo
        go_wp2_with (at_builtin; refine wpList_append_own _ rfl _ _ 22 rfl w.heap.size 46 i0 (.agg #[.int .i64 0, .int .i64 0]) 2 16 Try.underlying22 hi0 hz0 hz1 hz2 rfl (by decide) _ _ _ rfl (hown.alloc _) ⟨W.heap.size, 0, none⟩ 1 1 [.int .i64 lo, .int .i64 (x.1 - 1)] rfl rfl ?c1 ?c2 ?c3 ?c4 ?c5 ?_)
        case c1 => exact new2 _ _ _ _
        case c2 => exact one2 _ _
        case c3 => unfold maxLen; omega
        case c4 => omega
        case c5 => simp; omega
        intro v8 w8 hown8 hgrow _
        have HO8 := Lib.hid (show w8.ownsRow w.heap.size 46 2 v8 (acc ++ [(lo, x.1 - 1)]).length (flat (acc ++ [(lo, x.1 - 1)])) by rw [flat_append, List.length_append]; exact hown8)
        have HB8 := Lib.hid ((HB1.out.alloc hW3 _).grown hgrow (by simp; omega) (fun j hj => (hown.lt j hj).1))
        have n1 : w8.cell? ⟨b9, 1, none⟩ = some (.int .i64 x.2) := hgrow.cell (by rw [World.cell?_alloc_lt _ _ _ l9]; exact e1) (fun e => Nat.lt_irrefl b9 (HOW.out b9 e.symm))
        have hal2 : (acc ++ [(lo, x.1 - 1)]).length ≤ k + 1 := by simp; omega
        clear hown8 hgrow hown HO1 HB1 e0 e1
        go_wp2_with fail
        go_roundw
        case rel => exact ⟨k + 1, x.2 + 1, _, _, by go_num, rfl, rfl, by omega, hal2, by omega, by omega, HE2, HO8, HB8⟩
        case measure => simp [intOf]; omega
      · have g1 : decide (lo < x.1) = false := decide_eq_false hlo
        have HE2 := Lib.hid (show acc ++ rg hi (x.2 + 1) (l.drop (k + 1)) = rg hi lo0 l by
          rw [← HE.out, HT.out, if_neg hlo])
        clear HE HT hlo
        go_wp2_with fail
        go_roundw
        case rel => exact ⟨k + 1, x.2 + 1, _, _, by go_num, rfl, rfl, by omega, by omega, by omega, by omega, HE2, HO1, HB1⟩
        case measure => simp [intOf]; omega
    · obtain rfl : k = l.length := by omega
      rw [List.drop_length, rg] at HE
      have hown := HO.out
      have hwr : w.heap.size ≤ wr.heap.size := HB.out.size
      by_cases hlo : lo ≤ hi
      · have g1 : decide (lo ≤ hi) = true := decide_eq_true hlo
        rw [if_pos hlo] at HE
        clear hlo
        go_wp2_with (at_builtin; refine wpList_append_own _ rfl _ _ 22 rfl w.heap.size 46 i0 (.agg #[.int .i64 0, .int .i64 0]) 2 16 Try.underlying22 hi0 hz0 hz1 hz2 rfl (by decide) _ _ _ rfl (hown.alloc _) ⟨wr.heap.size, 0, none⟩ 1 1 [.int .i64 lo, .int .i64 hi] rfl rfl ?c1 ?c2 ?c3 ?c4 ?c5 ?_)
        case c1 => exact new2 _ _ _ _
        case c2 => exact one2 _ _
        case c3 => unfold maxLen; omega
        case c4 => omega
        case c5 => simp; omega
        intro v8 w8 hown8 hgrow _
        have HO8 := Lib.hid (show w8.ownsRow w.heap.size 46 2 v8 (rg hi lo0 l).length (flat (rg hi lo0 l)) by rw [← HE.out, flat_append, List.length_append]; exact hown8)
        have HB8 := Lib.hid ((HB.out.alloc hwr _).grown hgrow (by simp; omega) (fun j hj => (hown.lt j hj).1))
        clear hown8 hgrow hown HO HB HE
        go_wp2_with fail
        go_ret
        exact rn_gives ⟨_, rfl, HO8.out, HB8.out⟩
      · have g1 : decide (lo ≤ hi) = false := decide_eq_false hlo
        rw [if_neg hlo, List.append_nil] at HE
        have HO8 := Lib.hid (show wr.ownsRow w.heap.size 46 2 u7 (rg hi lo0 l).length (flat (rg hi lo0 l)) by rw [← HE.out]; exact hown)
        clear hlo hown HE
        go_wp2_with fail
        go_ret
        exact rn_gives ⟨_, rfl, HO8.out, HB.out⟩
end Go.Proofs.Yteekccjfokoglaa
namespace Go.Proofs.Yteekccjfokoglaa
open Go.RowKit Go.Sort Go.Lib Go.Proofs
set_option linter.unusedSimpArgs false
set_option linter.unnecessarySimpa false
set_option linter.unusedVariables false
theorem rnF_bd15 (l : List Sp) : ∀ x ∈ rn (fr l), bd15 x := fun x hx => by
  have h := rnF_line l x hx
  have h2 := (rnF_spec l).1.1 x hx
  unfold bd15; omega
theorem rnI_bd15 (l : List Sp) : ∀ x ∈ rn (l.map clipI), bd15 x := fun x hx => by
  have h := rnI_line l x hx
  have h2 := (rnI_spec l).1.1 x hx
  unfold bd15; omega
theorem nt_rg (s : NS) : nt s = (rg 100000000000 (-100000000000) (rn (s.1.map clipI)), (rg 999899999999999 (-999900000000000) (rn (fr s.2))).map unS) := by
  have h2 := gapF_cpl s.2
  rw [show (999900000000 * 1000 - 1 : Int) = 999899999999999 by decide, show (-999900000000 * 1000 : Int) = -999900000000000 by decide] at h2
  rw [gapI_cpl, h2]; rfl
theorem gF_spec (l : List Sp) : (∀ x ∈ rg 999899999999999 (-999900000000000) (rn (fr l)), bdu x.1 ∧ bdu x.2) ∧ (rg 999899999999999 (-999900000000000) (rn (fr l))).length ≤ l.length + 1 := by
  obtain ⟨a, b, c, d⟩ := rg_spec 999899999999999 (rn (fr l)) (-999900000000000) (rnF_spec l).1 (fun s hs => by have := rnF_line l s hs; omega)
  have h := (rnF_spec l).2.1
  refine ⟨fun x hx => ?_, by omega⟩
  have h1 := b x hx
  have h2 := a.1 x hx
  unfold bdu; omega
set_option maxRecDepth 100000 in
set_option maxHeartbeats 2000000 in
theorem rnot_any (A1 A2 : Option Addr) (c1 c2 : Nat) (s : NS) (w : World) (hN_s : Ns w A1 c1 A2 c2 s) (hk_s : okN 100000 s) :
    Calls Try.prog 30 #[nv A1 s.1.length c1 A2 s.2.length c2] w (GivesN (nt s) w) := by
  have HN_s := Lib.hid hN_s
  have HK_s := Lib.hid hk_s
  clear hN_s hk_s
  obtain ⟨w1, hw1⟩ : ∃ w1, w1 = ((w.alloc (.cells #[.slice A1 s.1.length c1, .slice A2 s.2.length c2] 24)).alloc (.cells #[.slice none 0 0, .slice none 0 0] 24)) := ⟨_, rfl⟩
  obtain ⟨r, hr⟩ : ∃ r, r = w.heap.size + 1 := ⟨_, rfl⟩
  have hb0 : Below w.heap.size w w1 := by rw [hw1]; exact ((Below.refl _ _).alloc (Nat.le_refl _) _).alloc (by simp) _
  have a0 : w1.cell? ⟨w.heap.size, 0, none⟩ = some (.slice A1 s.1.length c1) := by rw [hw1]; simp
  have a1 : w1.cell? ⟨w.heap.size, 1, none⟩ = some (.slice A2 s.2.length c2) := by rw [hw1]; simp
  have hY : Yb r w1 := by rw [hw1, hr]; exact ⟨by simp, by simp, by simp, by simp, by simp⟩
  have z0 : w.heap.size < r := by omega
  have KP := Lib.hid (show ∀ W : World, Below r w1 W → W.cell? ⟨w.heap.size, 0, none⟩ = some (.slice A1 s.1.length c1) ∧ W.cell? ⟨w.heap.size, 1, none⟩ = some (.slice A2 s.2.length c2) ∧ Below r w1 W from fun W hb => ⟨(hb.cell (p := ⟨w.heap.size, 0, none⟩) (by show w.heap.size < r; omega)).trans a0, (hb.cell (p := ⟨w.heap.size, 1, none⟩) (by show w.heap.size < r; omega)).trans a1, hb⟩)
  have HB0 := Lib.hid hb0
  have HR := Lib.hid hr
  have HY := Lib.hid hY
  have rl : r ≤ w1.heap.size := Nat.le_of_lt hY.lt
  have HM_s := Lib.hid (HN_s.out.up hb0)
  obtain ⟨LI, hLI⟩ : ∃ LI, LI = rn (s.1.map clipI) := ⟨_, rfl⟩
  obtain ⟨LF, hLF⟩ : ∃ LF, LF = rn (fr s.2) := ⟨_, rfl⟩
  obtain ⟨GI, hGI⟩ : ∃ GI, GI = rg 100000000000 (-100000000000) LI := ⟨_, rfl⟩
  obtain ⟨GF, hGF⟩ : ∃ GF, GF = rg 999899999999999 (-999900000000000) LF := ⟨_, rfl⟩
  obtain ⟨FF, hFF⟩ : ∃ FF, FF = GF.map unS := ⟨_, rfl⟩
  have HC1 := Lib.hid (show ∀ W : World, Ns W A1 c1 A2 c2 s → Calls Try.prog 55 #[nv A1 s.1.length c1 A2 s.2.length c2] W (Gives LI W) from fun W h => by
    rw [hLI]; exact (rints_any A1 A2 c1 c2 s W h HK_s.out).mono fun e w' h => rn_gives h)
  have HC2 := Lib.hid (show ∀ (W : World) P p, Re W W.heap.size P LI → Calls Try.prog 64 #[.slice P LI.length p, .int .i64 (-100000000000), .int .i64 100000000000] W (Gives GI W) from fun W P p h => by
    rw [hGI]; exact rgaps_any P p LI _ _ W h (by have := (rnI_spec s.1).2; have := HK_s.out.1; rw [hLI]; omega) (by rw [hLI]; exact rnI_bd15 s.1) (by omega) (by omega) (by omega) (by omega))
  have HC3 := Lib.hid (show ∀ W : World, Ns W A1 c1 A2 c2 s → Calls Try.prog 56 #[nv A1 s.1.length c1 A2 s.2.length c2] W (Gives LF W) from fun W h => by
    rw [hLF]; exact (rfracs_any A1 A2 c1 c2 s W h HK_s.out).mono fun e w' h => rn_gives h)
  have HC4 := Lib.hid (show ∀ (W : World) P p, Re W W.heap.size P LF → Calls Try.prog 64 #[.slice P LF.length p, .int .i64 (-999900000000000), .int .i64 999899999999999] W (Gives GF W) from fun W P p h => by
    rw [hGF]; exact rgaps_any P p LF _ _ W h (by have := (rnF_spec s.2).2.1; have := HK_s.out.2.1; rw [hLF]; omega) (by rw [hLF]; exact rnF_bd15 s.2) (by omega) (by omega) (by omega) (by omega))
  have HC5 := Lib.hid (show ∀ (W : World) P p Q q, Ns W P p Q q (GI, GF) → Calls Try.prog 54 #[.slice P GI.length p, .slice Q GF.length q] W (OfIs P p (GI, FF) W) from fun W P p Q q h => by
    rw [hFF]; exact rof_any P Q p q (GI, GF) W h (by have := (gF_spec s.2).2; have := HK_s.out.2.1; rw [hGF, hLF]; show (rg 999899999999999 (-999900000000000) (rn (fr s.2))).length ≤ 200000; omega) (by rw [hGF, hLF]; exact (gF_spec s.2).1))
  have HMK := Lib.hid (show nt s = (GI, FF) by rw [nt_rg, hFF, hGF, hGI, hLI, hLF])
  clear hLI hLF hFF hGI hGF
  go_enter Try.func30, Try.ntmps30
  go_wp2_with fail
  rw [← hw1, ← hr]
  clear hb0 hY hr hw1 a0 a1
  have b0 : Below w1.heap.size w1 w1.drew := drewB w1
  go_region_held3 (fun w' => w'.cell? ⟨w.heap.size, 0, none⟩ = some (.slice A1 s.1.length c1) ∧ w'.cell? ⟨w.heap.size, 1, none⟩ = some (.slice A2 s.2.length c2) ∧ Below r w1 w')
    (first | assumption | exact KP.out _ (Below.refl _ _) | exact KP.out _ (b5.mono rl) | exact KP.out _ (b4.mono rl) | exact KP.out _ (b3.mono rl) | exact KP.out _ (b2.mono rl) | exact KP.out _ (b1.mono rl) | exact KP.out _ (b0.mono rl) | exact KP.out _ (((b5.mono rl).setCell (p := ⟨r, 0, none⟩) (Nat.le_refl _) _).setCell (p := ⟨r, 1, none⟩) (Nat.le_refl _) _))
    (first
      | (go_at_call 54; (with_reducible refine (HC5.out _ P2 p2 Q2 q2 ⟨hr2.up (hb3.trans (hb4.mono hb3.size)), hr4, hp2, hp4⟩).mono ?_); rintro e v5 ⟨T, t, rfl, hns, hh5, hb5⟩; have b5 : Below w1.heap.size w1 v5 := b4.trans (hb5.mono b4.size); obtain ⟨y0, y1, f0, f1, yl⟩ := HY.out.up b5)
      | (go_at_call 64; (with_reducible refine (HC4.out _ Q q hr3).mono ?_); rintro e v4 ⟨Q2, q2, rfl, hr4, ⟨hp4, hh4⟩, hb4⟩; have b4 : Below w1.heap.size w1 v4 := b3.trans (hb4.mono b3.size))
      | (go_at_call 56; (with_reducible refine (HC3.out _ (HM_s.out.up b2)).mono ?_); rintro e v3 ⟨Q, q, rfl, hr3, ⟨hp3, hh3⟩, hb3⟩; have b3 : Below w1.heap.size w1 v3 := b2.trans (hb3.mono b2.size))
      | (go_at_call 64; (with_reducible refine (HC2.out _ P p hr1).mono ?_); rintro e v2 ⟨P2, p2, rfl, hr2, ⟨hp2, hh2⟩, hb2⟩; have b2 : Below w1.heap.size w1 v2 := b1.trans (hb2.mono b1.size))
      | (go_at_call 55; (with_reducible refine (HC1.out _ (HM_s.out.up b0)).mono ?_); rintro e v1 ⟨P, p, rfl, hr1, ⟨hp1, hh1⟩, hb1⟩; have b1 : Below w1.heap.size w1 v1 := b0.trans (hb1.mono b0.size)))
  all_goals
    obtain ⟨q0, q1, hup⟩ := st_cell y0 y1 P2 GI.length p2 T FF.length t
    have HE := Lib.hid (show GivesN (nt s) w (.returned (nv P2 GI.length p2 T FF.length t)) (stW v5 r P2 GI.length p2 T FF.length t) from by
      have hns := hup (hns)
      have hbE : Below w.heap.size w (stW v5 r P2 GI.length p2 T FF.length t) := (((HB0.out.trans (b5.mono HB0.out.size)).setCell (p := ⟨r, 0, none⟩) (by have := HR.out; show w.heap.size ≤ r; omega) _).setCell (p := ⟨r, 1, none⟩) (by have := HR.out; show w.heap.size ≤ r; omega) _)
      rw [HMK.out]
      exact ⟨P2, p2, T, t, rfl, ⟨hns, hh2.le (Nat.le_trans HB0.out.size b1.size), hh5.le (Nat.le_trans HB0.out.size b4.size)⟩, hbE⟩)
    unfold stW at q0 q1 HE
    clear hup y0 y1 f0 f1
    generalize (v5.setCell ⟨r, 0, none⟩ (.slice P2 GI.length p2)).setCell ⟨r, 1, none⟩ (.slice T FF.length t) = Wf at *
    go_wp2_with fail
    refine bodyPost_ret (v := nv P2 GI.length p2 T FF.length t) (by simp [results, Try.results30, go_sem, q0, q1]) rfl HE.out
theorem Rv.setL {W0 : World} {bk B k k' : Nat} {v vo : Value} {Ao : Option Addr} {l lo : List Sp} {w W5 : World} {v' : Value} {m : List Sp} (h : Rv W0 bk B k k' v vo Ao l lo w) (hk : k ≠ k')
    (hown : W5.ownsRow B 46 2 v' m.length (flat m)) (hg : w.grownBy W5 v.ownBlock) : Rv W0 bk B k k' v' vo Ao m lo (W5.setCell ⟨bk, k, none⟩ v') := by
  have hb : Below B w W5 := (Below.refl B w).grown hg h.le (fun j hj => (h.own.lt j hj).1)
  have c0 : W5.cell? ⟨bk, k, none⟩ = some v := by rw [hb.cell (p := ⟨bk, k, none⟩) h.lt]; exact h.ck
  obtain ⟨A, c, rfl⟩ := own_slice h.own
  refine ⟨World.cell?_setCell_same _ _ _ c0, ?_, ?_, ?_, own_set hown h.lt _, (h.re.below hb).put c0 _, ?_, h.lt, ?_⟩
  · rw [World.cell?_setCell_other _ _ _ _ (by simp [hk]), hb.cell (p := ⟨bk, k', none⟩) h.lt]; exact h.co
  · rw [World.frozen?_setCell, hb.frozen (p := ⟨bk, k, none⟩) h.lt]; exact h.fk
  · rw [World.frozen?_setCell, hb.frozen (p := ⟨bk, k', none⟩) h.lt]; exact h.fo
  · exact (h.bel.trans (hb.mono (Nat.le_of_lt h.lt))).setCell (p := ⟨bk, k, none⟩) (Nat.le_refl _) _
  · rw [heap_setCell]; exact Nat.le_trans h.le hb.size
theorem cell_keep (W : World) (o : Obj) (b j : Nat) (h : b < W.heap.size) : (W.alloc o).cell? ⟨b, j, none⟩ = W.cell? ⟨b, j, none⟩ := (bal W o).cell (p := ⟨b, j, none⟩) h
theorem frozen_keep (W : World) (o : Obj) (b j : Nat) (h : b < W.heap.size) : (W.alloc o).frozen? ⟨b, j, none⟩ = W.frozen? ⟨b, j, none⟩ := (bal W o).frozen (p := ⟨b, j, none⟩) h
set_option maxRecDepth 100000 in
set_option maxHeartbeats 2000000 in
theorem ror_any (A1 A2 B1 B2 : Option Addr) (c1 c2 d1 d2 : Nat) (s t : NS) (w : World) (hN_s : Ns w A1 c1 A2 c2 s) (hN_t : Ns w B1 d1 B2 d2 t) (hk_s : okN 50000 s) (hk_t : okN 50000 t) :
    Calls Try.prog 28 #[nv A1 s.1.length c1 A2 s.2.length c2, nv B1 t.1.length d1 B2 t.2.length d2] w (GivesN (orr s t) w) := by
  have HK_s := Lib.hid hk_s
  have HK_t := Lib.hid hk_t
  obtain ⟨Wf, hWf⟩ : ∃ Wf, Wf = ((((w.alloc (.cells #[.slice A1 s.1.length c1, .slice A2 s.2.length c2] 24)).alloc (.cells #[.slice B1 t.1.length d1, .slice B2 t.2.length d2] 24)).alloc (.cells #[.slice none 0 0, .slice none 0 0] 24)).alloc (.cells #[.slice none 0 0, .slice none 0 0] 24)) := ⟨_, rfl⟩
  obtain ⟨r, hr⟩ : ∃ r, r = w.heap.size + 1 + 1 := ⟨_, rfl⟩
  obtain ⟨bk, hbk⟩ : ∃ bk, bk = w.heap.size + 1 + 1 + 1 := ⟨_, rfl⟩
  have hbf : Below w.heap.size w Wf := by rw [hWf]; exact ((((Below.refl _ _).alloc (Nat.le_refl _) _).alloc (by simp) _).alloc (by simp; omega) _).alloc (by simp; omega) _
  have HZ := Lib.hid (show w.heap.size < bk ∧ w.heap.size + 1 < bk by omega)
  have HRr := Lib.hid (show w.heap.size ≤ r ∧ r < bk by omega)
  have HKA := Lib.hid (show (Wf.cell? ⟨w.heap.size, 0, none⟩ = some (.slice A1 s.1.length c1) ∧ Wf.cell? ⟨w.heap.size, 1, none⟩ = some (.slice A2 s.2.length c2)) ∧ (Wf.cell? ⟨w.heap.size + 1, 0, none⟩ = some (.slice B1 t.1.length d1) ∧ Wf.cell? ⟨w.heap.size + 1, 1, none⟩ = some (.slice B2 t.2.length d2)) by
    rw [hWf]; refine ⟨⟨?_, ?_⟩, ⟨?_, ?_⟩⟩
    · rw [cell_keep _ _ _ _ (by simp; omega), cell_keep _ _ _ _ (by simp; omega), cell_keep _ _ _ _ (by simp)]; simp
    · rw [cell_keep _ _ _ _ (by simp; omega), cell_keep _ _ _ _ (by simp; omega), cell_keep _ _ _ _ (by simp)]; simp
    · rw [cell_keep _ _ _ _ (by simp), cell_keep _ _ _ _ (by simp)]; try simp
    · rw [cell_keep _ _ _ _ (by simp), cell_keep _ _ _ _ (by simp)]; try simp)
  have HYr := Lib.hid (show Wf.cell? ⟨r, 0, none⟩ = some (.slice none 0 0) ∧ Wf.cell? ⟨r, 1, none⟩ = some (.slice none 0 0) ∧ Wf.frozen? ⟨r, 0, none⟩ = false ∧ Wf.frozen? ⟨r, 1, none⟩ = false by
    have hsr : ((w.alloc (.cells #[.slice A1 s.1.length c1, .slice A2 s.2.length c2] 24)).alloc (.cells #[.slice B1 t.1.length d1, .slice B2 t.2.length d2] 24)).heap.size = r := by rw [hr]; simp
    rw [hWf]
    generalize (w.alloc (.cells #[.slice A1 s.1.length c1, .slice A2 s.2.length c2] 24)).alloc (.cells #[.slice B1 t.1.length d1, .slice B2 t.2.length d2] 24) = Wx at hsr ⊢
    rw [← hsr]; refine ⟨?_, ?_, ?_, ?_⟩
    · rw [cell_keep _ _ _ _ (by simp)]; simp
    · rw [cell_keep _ _ _ _ (by simp)]; simp
    · rw [frozen_keep _ _ _ _ (by simp)]; simp
    · rw [frozen_keep _ _ _ _ (by simp)]; simp)
  have HRA := Lib.hid (show (Re Wf bk A1 s.1 ∧ Re Wf bk A2 s.2) ∧ (Re Wf bk B1 t.1 ∧ Re Wf bk B2 t.2) from
    ⟨⟨(hN_s.r1.below hbf).le (by omega), (hN_s.r2.below hbf).le (by omega)⟩, ⟨(hN_t.r1.below hbf).le (by omega), (hN_t.r2.below hbf).le (by omega)⟩⟩)
  have HPA := Lib.hid (show (Plain A1 c1 ∧ Plain A2 c2) ∧ (Plain B1 d1 ∧ Plain B2 d2) from ⟨⟨hN_s.p1, hN_s.p2⟩, ⟨hN_t.p1, hN_t.p2⟩⟩)
  have HBF := Lib.hid hbf
  have HRv := Lib.hid (show Rv Wf bk Wf.heap.size 0 1 (.slice none 0 0) (.slice none 0 0) none ([] : List Sp) [] Wf from by
    have hsz : (((((w.alloc (.cells #[.slice A1 s.1.length c1, .slice A2 s.2.length c2] 24)).alloc (.cells #[.slice B1 t.1.length d1, .slice B2 t.2.length d2] 24))).alloc (.cells #[.slice none 0 0, .slice none 0 0] 24))).heap.size = bk := by rw [hbk]; simp
    have hwf2 : Wf = (((w.alloc (.cells #[.slice A1 s.1.length c1, .slice A2 s.2.length c2] 24)).alloc (.cells #[.slice B1 t.1.length d1, .slice B2 t.2.length d2] 24)).alloc (.cells #[.slice none 0 0, .slice none 0 0] 24)).alloc (.cells #[.slice none 0 0, .slice none 0 0] 24) := hWf
    generalize ((w.alloc (.cells #[.slice A1 s.1.length c1, .slice A2 s.2.length c2] 24)).alloc (.cells #[.slice B1 t.1.length d1, .slice B2 t.2.length d2] 24)).alloc (.cells #[.slice none 0 0, .slice none 0 0] 24) = Wx at hsz hwf2
    refine ⟨?_, ?_, ?_, ?_, World.ownsRow_nil _ _ _ _, re_nil _ _ _, Below.refl _ _, ?_, Nat.le_refl _⟩ <;> rw [hwf2, ← hsz] <;> simp)
  obtain ⟨L1, hL1⟩ : ∃ L1, L1 = s.1 ++ t.1 := ⟨_, rfl⟩
  obtain ⟨L2, hL2⟩ : ∃ L2, L2 = s.2 ++ t.2 := ⟨_, rfl⟩
  have HL := Lib.hid (And.intro hL1 hL2)
  have hOk : okN 100000 (L1, L2) := by rw [hL1, hL2]; exact app_ok hk_s hk_t
  have HM := Lib.hid (show ∀ (W : World) P p Q q, Ns W P p Q q (L1, L2) → Calls Try.prog 16 #[nv P L1.length p Q L2.length q] W (GivesN (orr s t) W) from fun W P p Q q h => by
    have h := rmake_any P Q p q (L1, L2) W h hOk
    rw [show mk (L1, L2) = orr s t by rw [hL1, hL2]; rfl] at h; exact h)
  clear hbf hN_s hN_t hk_s hk_t hOk hL1 hL2
  go_enter Try.func28, Try.ntmps28
  go_upto_region 2 with fail
  rw [← hWf, ← hbk, ← hr]
  clear hWf hbk hr
  have u0 : Wf.cell? ⟨w.heap.size, 0, none⟩ = some (.slice A1 s.1.length c1) := by rw [HRv.out.bel.cell (p := ⟨w.heap.size, 0, none⟩) HZ.out.1]; exact HKA.out.1.1
  have hck := HRv.out.ck
  have hre := HRA.out.1.1.below HRv.out.bel
  have hln : ([] : List Sp).length + s.1.length ≤ 4000000 := by have h1 := HK_s.out.1; have h2 := HK_s.out.2.1; have h3 := HK_t.out.1; have h4 := HK_t.out.2.1; (try simp only [List.length_nil]); omega
  go_wp2_with (at_builtin; refine wpList_append_re rfl _ _ rfl Wf.heap.size bk _ ([] : List Sp).length (flat ([] : List Sp)) rfl ?a1 A1 c1 s.1 rfl ?a2 ?a3 ?a4 ?a5 ?_)
  case a1 => exact HRv.out.own
  case a2 => exact hre
  case a3 => exact HPA.out.1.1
  case a4 => exact hln
  case a5 => exact HRv.out.le
  intro v1 w1 hown1 hg1
  have hown : w1.ownsRow Wf.heap.size 46 2 v1 (s.1).length (flat (s.1)) := by simpa [flat_nil] using hown1
  obtain ⟨gA1, gc1, rfl⟩ := own_slice hown
  have hnx := HRv.out.setL (by decide) hown hg1
  obtain ⟨gx, gy⟩ := HRv.out.facts (Below.refl _ _) hg1
  have glb : bk < w1.heap.size := Nat.lt_of_lt_of_le HRv.out.lt (Nat.le_trans HRv.out.le hg1.size)
  obtain ⟨y1, hwn⟩ : ∃ x, x = w1.setCell ⟨bk, 0, none⟩ (.slice gA1 (s.1).length gc1) := ⟨_, rfl⟩
  rw [← hwn] at hnx
  clear hck hre hln u0 hown1 hg1 hown
  go_upto_region 3 with fail
  rw [← hwn]
  clear hwn gx gy glb
  replace HRv := Lib.hid hnx
  clear hnx
  have u0 : y1.cell? ⟨w.heap.size + 1, 0, none⟩ = some (.slice B1 t.1.length d1) := by rw [HRv.out.bel.cell (p := ⟨w.heap.size + 1, 0, none⟩) HZ.out.2]; exact HKA.out.2.1
  have hck := HRv.out.ck
  have hre := HRA.out.2.1.below HRv.out.bel
  have hln : (s.1).length + t.1.length ≤ 4000000 := by have h1 := HK_s.out.1; have h2 := HK_s.out.2.1; have h3 := HK_t.out.1; have h4 := HK_t.out.2.1; (try simp only [List.length_nil]); omega
  go_wp2_with (at_builtin; refine wpList_append_re rfl _ _ rfl Wf.heap.size bk _ (s.1).length (flat (s.1)) rfl ?a1 B1 d1 t.1 rfl ?a2 ?a3 ?a4 ?a5 ?_)
  case a1 => exact HRv.out.own
  case a2 => exact hre
  case a3 => exact HPA.out.2.1
  case a4 => exact hln
  case a5 => exact HRv.out.le
  intro v2 w2 hown2 hg2
  have hown : w2.ownsRow Wf.heap.size 46 2 v2 (L1).length (flat (L1)) := by rw [HL.out.1, flat_append, List.length_append]; exact hown2
  obtain ⟨gA2, gc2, rfl⟩ := own_slice hown
  have hnx := HRv.out.setL (by decide) hown hg2
  obtain ⟨gx, gy⟩ := HRv.out.facts (Below.refl _ _) hg2
  have glb : bk < w2.heap.size := Nat.lt_of_lt_of_le HRv.out.lt (Nat.le_trans HRv.out.le hg2.size)
  obtain ⟨y2, hwn⟩ : ∃ x, x = w2.setCell ⟨bk, 0, none⟩ (.slice gA2 (L1).length gc2) := ⟨_, rfl⟩
  rw [← hwn] at hnx
  clear hck hre hln u0 hown2 hg2 hown
  go_upto_region 4 with fail
  rw [← hwn]
  clear hwn gx gy glb
  replace HRv := Lib.hid hnx
  clear hnx
  obtain ⟨A5, c5, hv5, hre5, hp5, hhi5⟩ := re_of_own HRv.out.own
  have h5 := HRv.out
  rw [hv5] at h5
  have HR5 := Lib.hid (And.intro hp5 hhi5)
  injection hv5 with e1 e2 e3
  subst e1 e3
  have HRx := Lib.hid (show Rv Wf bk y2.heap.size 1 0 (.slice none 0 0) (.slice gA2 L1.length gc2) gA2 ([] : List Sp) L1 y2 from
    ⟨h5.co, h5.ck, h5.fo, h5.fk, World.ownsRow_nil _ _ _ _, hre5, h5.bel, Nat.lt_of_lt_of_le h5.lt h5.le, Nat.le_refl _⟩)
  clear HRv hre5 hp5 hhi5 h5 e2
  have HRv := HRx
  clear HRx
  have u0 : y2.cell? ⟨w.heap.size, 1, none⟩ = some (.slice A2 s.2.length c2) := by rw [HRv.out.bel.cell (p := ⟨w.heap.size, 1, none⟩) HZ.out.1]; exact HKA.out.1.2
  have hck := HRv.out.ck
  have hre := HRA.out.1.2.below HRv.out.bel
  have hln : ([] : List Sp).length + s.2.length ≤ 4000000 := by have h1 := HK_s.out.1; have h2 := HK_s.out.2.1; have h3 := HK_t.out.1; have h4 := HK_t.out.2.1; (try simp only [List.length_nil]); omega
  go_wp2_with (at_builtin; refine wpList_append_re rfl _ _ rfl y2.heap.size bk _ ([] : List Sp).length (flat ([] : List Sp)) rfl ?a1 A2 c2 s.2 rfl ?a2 ?a3 ?a4 ?a5 ?_)
  case a1 => exact HRv.out.own
  case a2 => exact hre
  case a3 => exact HPA.out.1.2
  case a4 => exact hln
  case a5 => exact HRv.out.le
  intro v3 w3 hown3 hg3
  have hown : w3.ownsRow y2.heap.size 46 2 v3 (s.2).length (flat (s.2)) := by simpa [flat_nil] using hown3
  obtain ⟨gA3, gc3, rfl⟩ := own_slice hown
  have hnx := HRv.out.setL (by decide) hown hg3
  obtain ⟨gx, gy⟩ := HRv.out.facts (Below.refl _ _) hg3
  have glb : bk < w3.heap.size := Nat.lt_of_lt_of_le HRv.out.lt (Nat.le_trans HRv.out.le hg3.size)
  obtain ⟨y3, hwn⟩ : ∃ x, x = w3.setCell ⟨bk, 1, none⟩ (.slice gA3 (s.2).length gc3) := ⟨_, rfl⟩
  rw [← hwn] at hnx
  clear hck hre hln u0 hown3 hg3 hown
  go_upto_region 5 with fail
  rw [← hwn]
  clear hwn gx gy glb
  replace HRv := Lib.hid hnx
  clear hnx
  have u0 : y3.cell? ⟨w.heap.size + 1, 1, none⟩ = some (.slice B2 t.2.length d2) := by rw [HRv.out.bel.cell (p := ⟨w.heap.size + 1, 1, none⟩) HZ.out.2]; exact HKA.out.2.2
  have hck := HRv.out.ck
  have hre := HRA.out.2.2.below HRv.out.bel
  have hln : (s.2).length + t.2.length ≤ 4000000 := by have h1 := HK_s.out.1; have h2 := HK_s.out.2.1; have h3 := HK_t.out.1; have h4 := HK_t.out.2.1; (try simp only [List.length_nil]); omega
  go_wp2_with (at_builtin; refine wpList_append_re rfl _ _ rfl y2.heap.size bk _ (s.2).length (flat (s.2)) rfl ?a1 B2 d2 t.2 rfl ?a2 ?a3 ?a4 ?a5 ?_)
  case a1 => exact HRv.out.own
  case a2 => exact hre
  case a3 => exact HPA.out.2.2
  case a4 => exact hln
  case a5 => exact HRv.out.le
  intro v4 w4 hown4 hg4
  have hown : w4.ownsRow y2.heap.size 46 2 v4 (L2).length (flat (L2)) := by rw [HL.out.2, flat_append, List.length_append]; exact hown4
  obtain ⟨gA4, gc4, rfl⟩ := own_slice hown
  have hnx := HRv.out.setL (by decide) hown hg4
  obtain ⟨gx, gy⟩ := HRv.out.facts (Below.refl _ _) hg4
  have glb : bk < w4.heap.size := Nat.lt_of_lt_of_le HRv.out.lt (Nat.le_trans HRv.out.le hg4.size)
  obtain ⟨y4, hwn⟩ : ∃ x, x = w4.setCell ⟨bk, 1, none⟩ (.slice gA4 (L2).length gc4) := ⟨_, rfl⟩
  rw [← hwn] at hnx
  clear hck hre hln u0 hown4 hg4 hown
  go_upto_region 6 with fail
  rw [← hwn]
  clear hwn gx gy glb
  replace HRv := Lib.hid hnx
  clear hnx
  obtain ⟨A6, c6, hv6, hre6, hp6, hhi6⟩ := re_of_own HRv.out.own
  have h6 := HRv.out
  rw [hv6] at h6
  injection hv6 with e1 e2 e3
  subst e1 e3
  have hns : Ns y4 gA2 gc2 gA4 gc4 (L1, L2) := ⟨h6.re.le h6.le, hre6, HR5.out.1, hp6⟩
  have k0 := h6.co
  have k1 := h6.ck
  have r0 : y4.cell? ⟨r, 0, none⟩ = some (.slice none 0 0) := by rw [h6.bel.cell (p := ⟨r, 0, none⟩) HRr.out.2]; exact HYr.out.1
  have r1 : y4.cell? ⟨r, 1, none⟩ = some (.slice none 0 0) := by rw [h6.bel.cell (p := ⟨r, 1, none⟩) HRr.out.2]; exact HYr.out.2.1
  have f0 : y4.frozen? ⟨r, 0, none⟩ = false := by rw [h6.bel.frozen (p := ⟨r, 0, none⟩) HRr.out.2]; exact HYr.out.2.2.1
  have f1 : y4.frozen? ⟨r, 1, none⟩ = false := by rw [h6.bel.frozen (p := ⟨r, 1, none⟩) HRr.out.2]; exact HYr.out.2.2.2
  have lr : r < y4.heap.size := Nat.lt_trans HRr.out.2 (Nat.lt_of_lt_of_le h6.lt h6.le)
  have HBy := Lib.hid (HBF.out.trans (h6.bel.mono (Nat.le_of_lt HZ.out.1)))
  have HNs := Lib.hid hns
  clear e2 h6 hre6 hp6 hhi6 HRv hns
  go_wp2_with fail
  refine (HM.out _ gA2 gc2 gA4 gc4 HNs.out).mono ?_
  rintro e w9 ⟨P, p, Q, q, rfl, ⟨hns, hh1, hh2⟩, hb9⟩
  have s0 : w9.cell? ⟨r, 0, none⟩ = some (.slice none 0 0) := by rw [hb9.cell (p := ⟨r, 0, none⟩) lr]; exact r0
  have s1 : w9.cell? ⟨r, 1, none⟩ = some (.slice none 0 0) := by rw [hb9.cell (p := ⟨r, 1, none⟩) lr]; exact r1
  have g0 : w9.frozen? ⟨r, 0, none⟩ = false := by rw [hb9.frozen (p := ⟨r, 0, none⟩) lr]; exact f0
  have g1 : w9.frozen? ⟨r, 1, none⟩ = false := by rw [hb9.frozen (p := ⟨r, 1, none⟩) lr]; exact f1
  have lr9 : r < w9.heap.size := Nat.lt_of_lt_of_le lr hb9.size
  obtain ⟨q0, q1, hup⟩ := st_cell s0 s1 P (orr s t).1.length p Q (orr s t).2.length q
  have HE := Lib.hid (show GivesN (orr s t) w (.returned (nv P (orr s t).1.length p Q (orr s t).2.length q)) (stW w9 r P (orr s t).1.length p Q (orr s t).2.length q) from
    ⟨P, p, Q, q, rfl, ⟨hup hns, hh1.le HBy.out.size, hh2.le HBy.out.size⟩, ((HBy.out.trans (hb9.mono HBy.out.size)).setCell (p := ⟨r, 0, none⟩) HRr.out.1 _).setCell (p := ⟨r, 1, none⟩) HRr.out.1 _⟩)
  unfold stW at q0 q1 HE
  clear hup hns hh1 hh2 hb9 r0 r1 f0 f1 k0 k1
  go_wp2_with fail
  refine bodyPost_ret (v := nv P (orr s t).1.length p Q (orr s t).2.length q) (by simp [results, Try.results28, go_sem, q0, q1]) rfl HE.out
end Go.Proofs.Yteekccjfokoglaa
namespace Go.Proofs.Yteekccjfokoglaa
open Go.RowKit Go.Sort Go.Lib Go.Proofs
set_option linter.unusedSimpArgs false
set_option linter.unnecessarySimpa false
set_option linter.unusedVariables false
set_option maxRecDepth 100000 in
set_option maxHeartbeats 2000000 in
theorem rand_any0 (A1 A2 B1 B2 : Option Addr) (c1 c2 d1 d2 : Nat) (s t : NS) (w : World) (hN_s : Ns w A1 c1 A2 c2 s) (hk_s : okN 11000 s) (hN_t : Ns w B1 d1 B2 d2 t) (hk_t : okN 11000 t) :
    Calls Try.prog 26 #[nv A1 s.1.length c1 A2 s.2.length c2, nv B1 t.1.length d1 B2 t.2.length d2] w (GivesN (nt (orr (nt s) (nt t))) w) := by
  have HN_s := Lib.hid hN_s
  have HK_s := Lib.hid hk_s
  have HN_t := Lib.hid hN_t
  have HK_t := Lib.hid hk_t
  clear hN_s hk_s hN_t hk_t
  obtain ⟨w1, hw1⟩ : ∃ w1, w1 = (((w.alloc (.cells #[.slice A1 s.1.length c1, .slice A2 s.2.length c2] 24)).alloc (.cells #[.slice B1 t.1.length d1, .slice B2 t.2.length d2] 24)).alloc (.cells #[.slice none 0 0, .slice none 0 0] 24)) := ⟨_, rfl⟩
  obtain ⟨r, hr⟩ : ∃ r, r = w.heap.size + 1 + 1 := ⟨_, rfl⟩
  have hb0 : Below w.heap.size w w1 := by rw [hw1]; exact (((Below.refl _ _).alloc (Nat.le_refl _) _).alloc (by simp) _).alloc (by simp; omega) _
  have a0 : w1.cell? ⟨w.heap.size, 0, none⟩ = some (.slice A1 s.1.length c1) := by rw [hw1, cell_keep _ _ _ _ (by simp; omega), cell_keep _ _ _ _ (by simp)]; try simp
  have a1 : w1.cell? ⟨w.heap.size, 1, none⟩ = some (.slice A2 s.2.length c2) := by rw [hw1, cell_keep _ _ _ _ (by simp; omega), cell_keep _ _ _ _ (by simp)]; try simp
  have a2 : w1.cell? ⟨w.heap.size + 1, 0, none⟩ = some (.slice B1 t.1.length d1) := by rw [hw1, cell_keep _ _ _ _ (by simp)]; try simp
  have a3 : w1.cell? ⟨w.heap.size + 1, 1, none⟩ = some (.slice B2 t.2.length d2) := by rw [hw1, cell_keep _ _ _ _ (by simp)]; try simp
  have hY : Yb r w1 := by
    have hsr : (((w.alloc (.cells #[.slice A1 s.1.length c1, .slice A2 s.2.length c2] 24)).alloc (.cells #[.slice B1 t.1.length d1, .slice B2 t.2.length d2] 24))).heap.size = r := by rw [hr]; simp
    rw [hw1]
    generalize ((w.alloc (.cells #[.slice A1 s.1.length c1, .slice A2 s.2.length c2] 24)).alloc (.cells #[.slice B1 t.1.length d1, .slice B2 t.2.length d2] 24)) = Wx at hsr ⊢
    rw [← hsr]; exact yb_new Wx
  have z0 : w.heap.size < r := by omega
  have z1 : w.heap.size + 1 < r := by omega
  have KP := Lib.hid (show ∀ W : World, Below r w1 W → W.cell? ⟨w.heap.size, 0, none⟩ = some (.slice A1 s.1.length c1) ∧ W.cell? ⟨w.heap.size, 1, none⟩ = some (.slice A2 s.2.length c2) ∧ W.cell? ⟨w.heap.size + 1, 0, none⟩ = some (.slice B1 t.1.length d1) ∧ W.cell? ⟨w.heap.size + 1, 1, none⟩ = some (.slice B2 t.2.length d2) ∧ Below r w1 W from fun W hb => ⟨(hb.cell (p := ⟨w.heap.size, 0, none⟩) (by show w.heap.size < r; omega)).trans a0, (hb.cell (p := ⟨w.heap.size, 1, none⟩) (by show w.heap.size < r; omega)).trans a1, (hb.cell (p := ⟨w.heap.size + 1, 0, none⟩) (by show w.heap.size + 1 < r; omega)).trans a2, (hb.cell (p := ⟨w.heap.size + 1, 1, none⟩) (by show w.heap.size + 1 < r; omega)).trans a3, hb⟩)
  have HB0 := Lib.hid hb0
  have HR := Lib.hid hr
  have HY := Lib.hid hY
  have rl : r ≤ w1.heap.size := Nat.le_of_lt hY.lt
  have HM_s := Lib.hid (HN_s.out.up hb0)
  have HM_t := Lib.hid (HN_t.out.up hb0)
  have HC1 := Lib.hid (show ∀ (W : World) F1 f1 F2 f2, Ns W F1 f1 F2 f2 (s) → Calls Try.prog 30 #[nv F1 s.1.length f1 F2 s.2.length f2] W (GivesN (nt s) W) from fun W F1 f1 F2 f2 h => rnot_any F1 F2 f1 f2 (s) W h (HK_s.out.le (by omega)))
  have HC2 := Lib.hid (show ∀ (W : World) F1 f1 F2 f2, Ns W F1 f1 F2 f2 (t) → Calls Try.prog 30 #[nv F1 t.1.length f1 F2 t.2.length f2] W (GivesN (nt t) W) from fun W F1 f1 F2 f2 h => rnot_any F1 F2 f1 f2 (t) W h (HK_t.out.le (by omega)))
  have HC3 := Lib.hid (show ∀ (W : World) F1 f1 F2 f2 G1 g1 G2 g2, Ns W F1 f1 F2 f2 (nt s) → Ns W G1 g1 G2 g2 (nt t) → Calls Try.prog 28 #[nv F1 (nt s).1.length f1 F2 (nt s).2.length f2, nv G1 (nt t).1.length g1 G2 (nt t).2.length g2] W (GivesN (orr (nt s) (nt t)) W) from fun W F1 f1 F2 f2 G1 g1 G2 g2 h k => ror_any F1 F2 G1 G2 f1 f2 g1 g2 (nt s) (nt t) W h k ((nt_ok HK_s.out).le (by omega)) ((nt_ok HK_t.out).le (by omega)))
  have HC4 := Lib.hid (show ∀ (W : World) F1 f1 F2 f2, Ns W F1 f1 F2 f2 (orr (nt s) (nt t)) → Calls Try.prog 30 #[nv F1 (orr (nt s) (nt t)).1.length f1 F2 (orr (nt s) (nt t)).2.length f2] W (GivesN (nt (orr (nt s) (nt t))) W) from fun W F1 f1 F2 f2 h => rnot_any F1 F2 f1 f2 (orr (nt s) (nt t)) W h ((or_ok (nt_ok HK_s.out) (nt_ok HK_t.out)).le (by omega)))
  go_enter Try.func26, Try.ntmps26
  go_wp2_with fail
  rw [← hw1, ← hr]
  clear hb0 hY hr hw1 a0 a1 a2 a3
  have b0 : Below w1.heap.size w1 w1.drew := drewB w1
  go_region_held3 (fun w' => w'.cell? ⟨w.heap.size, 0, none⟩ = some (.slice A1 s.1.length c1) ∧ w'.cell? ⟨w.heap.size, 1, none⟩ = some (.slice A2 s.2.length c2) ∧ w'.cell? ⟨w.heap.size + 1, 0, none⟩ = some (.slice B1 t.1.length d1) ∧ w'.cell? ⟨w.heap.size + 1, 1, none⟩ = some (.slice B2 t.2.length d2) ∧ Below r w1 w')
    (first | assumption | exact KP.out _ (Below.refl _ _) | exact KP.out _ (b4.mono rl) | exact KP.out _ (b3.mono rl) | exact KP.out _ (b2.mono rl) | exact KP.out _ (b1.mono rl) | exact KP.out _ (b0.mono rl) | exact KP.out _ (((b4.mono rl).setCell (p := ⟨r, 0, none⟩) (Nat.le_refl _) _).setCell (p := ⟨r, 1, none⟩) (Nat.le_refl _) _))
    (first
      | (go_at_call 30; (with_reducible refine (HC4.out _ _ _ _ _ nU).mono ?_); rintro e v4 ⟨V1, v1, V2, v2, rfl, ⟨nV, hV1, hV2⟩, hb4⟩; have b4 : Below w1.heap.size w1 v4 := b3.trans (hb4.mono b3.size); obtain ⟨y0, y1, f0, f1, yl⟩ := HY.out.up b4)
      | (go_at_call 28; (with_reducible refine (HC3.out _ _ _ _ _ _ _ _ _ (nP.up hb2) nQ).mono ?_); rintro e v3 ⟨U1, u1, U2, u2, rfl, ⟨nU, hU1, hU2⟩, hb3⟩; have b3 : Below w1.heap.size w1 v3 := b2.trans (hb3.mono b2.size))
      | (go_at_call 30; (with_reducible refine (HC2.out _ _ _ _ _ (HM_t.out.up b1)).mono ?_); rintro e v2 ⟨Q1, q1, Q2, q2, rfl, ⟨nQ, hQ1, hQ2⟩, hb2⟩; have b2 : Below w1.heap.size w1 v2 := b1.trans (hb2.mono b1.size))
      | (go_at_call 30; (with_reducible refine (HC1.out _ _ _ _ _ (HM_s.out.up b0)).mono ?_); rintro e v1 ⟨P1, p1, P2, p2, rfl, ⟨nP, hP1, hP2⟩, hb1⟩; have b1 : Below w1.heap.size w1 v1 := b0.trans (hb1.mono b0.size)))
  all_goals
    obtain ⟨q0, q1, hup⟩ := st_cell y0 y1 V1 (nt (orr (nt s) (nt t))).1.length v1 V2 (nt (orr (nt s) (nt t))).2.length v2
    have HE := Lib.hid (show GivesN (nt (orr (nt s) (nt t))) w (.returned (nv V1 (nt (orr (nt s) (nt t))).1.length v1 V2 (nt (orr (nt s) (nt t))).2.length v2)) (stW v4 r V1 (nt (orr (nt s) (nt t))).1.length v1 V2 (nt (orr (nt s) (nt t))).2.length v2) from by
      have hns := hup (nV)
      have hbE : Below w.heap.size w (stW v4 r V1 (nt (orr (nt s) (nt t))).1.length v1 V2 (nt (orr (nt s) (nt t))).2.length v2) := (((HB0.out.trans (b4.mono HB0.out.size)).setCell (p := ⟨r, 0, none⟩) (by have := HR.out; show w.heap.size ≤ r; omega) _).setCell (p := ⟨r, 1, none⟩) (by have := HR.out; show w.heap.size ≤ r; omega) _)
      
      exact ⟨V1, v1, V2, v2, rfl, ⟨hns, hV1.le (Nat.le_trans HB0.out.size b3.size), hV2.le (Nat.le_trans HB0.out.size b3.size)⟩, hbE⟩)
    unfold stW at q0 q1 HE
    clear hup y0 y1 f0 f1
    generalize (v4.setCell ⟨r, 0, none⟩ (.slice V1 (nt (orr (nt s) (nt t))).1.length v1)).setCell ⟨r, 1, none⟩ (.slice V2 (nt (orr (nt s) (nt t))).2.length v2) = Wf at *
    go_wp2_with fail
    refine bodyPost_ret (v := nv V1 (nt (orr (nt s) (nt t))).1.length v1 V2 (nt (orr (nt s) (nt t))).2.length v2) (by simp [results, Try.results26, go_sem, q0, q1]) rfl HE.out
theorem rand_any (A1 B1 A2 B2 : Option Addr) (c1 d1 c2 d2 : Nat) (s t : NS) (w : World) (h : Ns w A1 c1 B1 d1 s) (k : Ns w A2 c2 B2 d2 t) (hk : okN 11000 s) (hj : okN 11000 t) :
    Calls Try.prog 26 #[nv A1 s.1.length c1 B1 s.2.length d1, nv A2 t.1.length c2 B2 t.2.length d2] w (GivesN (andd s t) w) := rand_any0 A1 B1 A2 B2 c1 d1 c2 d2 s t w h hk k hj
set_option maxRecDepth 100000 in
set_option maxHeartbeats 2000000 in
theorem rminus_any0 (A1 A2 B1 B2 : Option Addr) (c1 c2 d1 d2 : Nat) (s t : NS) (w : World) (hN_s : Ns w A1 c1 A2 c2 s) (hk_s : okN 10000 s) (hN_t : Ns w B1 d1 B2 d2 t) (hk_t : okN 10000 t) :
    Calls Try.prog 32 #[nv A1 s.1.length c1 A2 s.2.length c2, nv B1 t.1.length d1 B2 t.2.length d2] w (GivesN (andd s (nt t)) w) := by
  have HN_s := Lib.hid hN_s
  have HK_s := Lib.hid hk_s
  have HN_t := Lib.hid hN_t
  have HK_t := Lib.hid hk_t
  clear hN_s hk_s hN_t hk_t
  obtain ⟨w1, hw1⟩ : ∃ w1, w1 = (((w.alloc (.cells #[.slice A1 s.1.length c1, .slice A2 s.2.length c2] 24)).alloc (.cells #[.slice B1 t.1.length d1, .slice B2 t.2.length d2] 24)).alloc (.cells #[.slice none 0 0, .slice none 0 0] 24)) := ⟨_, rfl⟩
  obtain ⟨r, hr⟩ : ∃ r, r = w.heap.size + 1 + 1 := ⟨_, rfl⟩
  have hb0 : Below w.heap.size w w1 := by rw [hw1]; exact (((Below.refl _ _).alloc (Nat.le_refl _) _).alloc (by simp) _).alloc (by simp; omega) _
  have a0 : w1.cell? ⟨w.heap.size, 0, none⟩ = some (.slice A1 s.1.length c1) := by rw [hw1, cell_keep _ _ _ _ (by simp; omega), cell_keep _ _ _ _ (by simp)]; try simp
  have a1 : w1.cell? ⟨w.heap.size, 1, none⟩ = some (.slice A2 s.2.length c2) := by rw [hw1, cell_keep _ _ _ _ (by simp; omega), cell_keep _ _ _ _ (by simp)]; try simp
  have a2 : w1.cell? ⟨w.heap.size + 1, 0, none⟩ = some (.slice B1 t.1.length d1) := by rw [hw1, cell_keep _ _ _ _ (by simp)]; try simp
  have a3 : w1.cell? ⟨w.heap.size + 1, 1, none⟩ = some (.slice B2 t.2.length d2) := by rw [hw1, cell_keep _ _ _ _ (by simp)]; try simp
  have hY : Yb r w1 := by
    have hsr : (((w.alloc (.cells #[.slice A1 s.1.length c1, .slice A2 s.2.length c2] 24)).alloc (.cells #[.slice B1 t.1.length d1, .slice B2 t.2.length d2] 24))).heap.size = r := by rw [hr]; simp
    rw [hw1]
    generalize ((w.alloc (.cells #[.slice A1 s.1.length c1, .slice A2 s.2.length c2] 24)).alloc (.cells #[.slice B1 t.1.length d1, .slice B2 t.2.length d2] 24)) = Wx at hsr ⊢
    rw [← hsr]; exact yb_new Wx
  have z0 : w.heap.size < r := by omega
  have z1 : w.heap.size + 1 < r := by omega
  have KP := Lib.hid (show ∀ W : World, Below r w1 W → W.cell? ⟨w.heap.size, 0, none⟩ = some (.slice A1 s.1.length c1) ∧ W.cell? ⟨w.heap.size, 1, none⟩ = some (.slice A2 s.2.length c2) ∧ W.cell? ⟨w.heap.size + 1, 0, none⟩ = some (.slice B1 t.1.length d1) ∧ W.cell? ⟨w.heap.size + 1, 1, none⟩ = some (.slice B2 t.2.length d2) ∧ Below r w1 W from fun W hb => ⟨(hb.cell (p := ⟨w.heap.size, 0, none⟩) (by show w.heap.size < r; omega)).trans a0, (hb.cell (p := ⟨w.heap.size, 1, none⟩) (by show w.heap.size < r; omega)).trans a1, (hb.cell (p := ⟨w.heap.size + 1, 0, none⟩) (by show w.heap.size + 1 < r; omega)).trans a2, (hb.cell (p := ⟨w.heap.size + 1, 1, none⟩) (by show w.heap.size + 1 < r; omega)).trans a3, hb⟩)
  have HB0 := Lib.hid hb0
  have HR := Lib.hid hr
  have HY := Lib.hid hY
  have rl : r ≤ w1.heap.size := Nat.le_of_lt hY.lt
  have HM_s := Lib.hid (HN_s.out.up hb0)
  have HM_t := Lib.hid (HN_t.out.up hb0)
  have HC1 := Lib.hid (show ∀ (W : World) F1 f1 F2 f2, Ns W F1 f1 F2 f2 (t) → Calls Try.prog 30 #[nv F1 t.1.length f1 F2 t.2.length f2] W (GivesN (nt t) W) from fun W F1 f1 F2 f2 h => rnot_any F1 F2 f1 f2 (t) W h (HK_t.out.le (by omega)))
  have HC2 := Lib.hid (show ∀ (W : World) F1 f1 F2 f2 G1 g1 G2 g2, Ns W F1 f1 F2 f2 (s) → Ns W G1 g1 G2 g2 (nt t) → Calls Try.prog 26 #[nv F1 s.1.length f1 F2 s.2.length f2, nv G1 (nt t).1.length g1 G2 (nt t).2.length g2] W (GivesN (andd s (nt t)) W) from fun W F1 f1 F2 f2 G1 g1 G2 g2 h k => rand_any F1 F2 G1 G2 f1 f2 g1 g2 (s) (nt t) W h k (HK_s.out.le (by omega)) ((nt_ok HK_t.out).le (by omega)))
  go_enter Try.func32, Try.ntmps32
  go_wp2_with fail
  rw [← hw1, ← hr]
  clear hb0 hY hr hw1 a0 a1 a2 a3
  have b0 : Below w1.heap.size w1 w1.drew := drewB w1
  go_region_held3 (fun w' => w'.cell? ⟨w.heap.size, 0, none⟩ = some (.slice A1 s.1.length c1) ∧ w'.cell? ⟨w.heap.size, 1, none⟩ = some (.slice A2 s.2.length c2) ∧ w'.cell? ⟨w.heap.size + 1, 0, none⟩ = some (.slice B1 t.1.length d1) ∧ w'.cell? ⟨w.heap.size + 1, 1, none⟩ = some (.slice B2 t.2.length d2) ∧ Below r w1 w')
    (first | assumption | exact KP.out _ (Below.refl _ _) | exact KP.out _ (b2.mono rl) | exact KP.out _ (b1.mono rl) | exact KP.out _ (b0.mono rl) | exact KP.out _ (((b2.mono rl).setCell (p := ⟨r, 0, none⟩) (Nat.le_refl _) _).setCell (p := ⟨r, 1, none⟩) (Nat.le_refl _) _))
    (first
      | (go_at_call 26; (with_reducible refine (HC2.out _ _ _ _ _ _ _ _ _ (HM_s.out.up b1) nP).mono ?_); rintro e v2 ⟨Q1, q1x, Q2, q2x, rfl, ⟨nQ, hQ1, hQ2⟩, hb2⟩; have b2 : Below w1.heap.size w1 v2 := b1.trans (hb2.mono b1.size); obtain ⟨y0, y1, f0, f1, yl⟩ := HY.out.up b2)
      | (go_at_call 30; (with_reducible refine (HC1.out _ _ _ _ _ (HM_t.out.up b0)).mono ?_); rintro e v1 ⟨P1, p1, P2, p2, rfl, ⟨nP, hP1, hP2⟩, hb1⟩; have b1 : Below w1.heap.size w1 v1 := b0.trans (hb1.mono b0.size)))
  all_goals
    obtain ⟨q0, q1, hup⟩ := st_cell y0 y1 Q1 (andd s (nt t)).1.length q1x Q2 (andd s (nt t)).2.length q2x
    have HE := Lib.hid (show GivesN (andd s (nt t)) w (.returned (nv Q1 (andd s (nt t)).1.length q1x Q2 (andd s (nt t)).2.length q2x)) (stW v2 r Q1 (andd s (nt t)).1.length q1x Q2 (andd s (nt t)).2.length q2x) from by
      have hns := hup (nQ)
      have hbE : Below w.heap.size w (stW v2 r Q1 (andd s (nt t)).1.length q1x Q2 (andd s (nt t)).2.length q2x) := (((HB0.out.trans (b2.mono HB0.out.size)).setCell (p := ⟨r, 0, none⟩) (by have := HR.out; show w.heap.size ≤ r; omega) _).setCell (p := ⟨r, 1, none⟩) (by have := HR.out; show w.heap.size ≤ r; omega) _)
      
      exact ⟨Q1, q1x, Q2, q2x, rfl, ⟨hns, hQ1.le (Nat.le_trans HB0.out.size b1.size), hQ2.le (Nat.le_trans HB0.out.size b1.size)⟩, hbE⟩)
    unfold stW at q0 q1 HE
    clear hup y0 y1 f0 f1
    generalize (v2.setCell ⟨r, 0, none⟩ (.slice Q1 (andd s (nt t)).1.length q1x)).setCell ⟨r, 1, none⟩ (.slice Q2 (andd s (nt t)).2.length q2x) = Wf at *
    go_wp2_with fail
    refine bodyPost_ret (v := nv Q1 (andd s (nt t)).1.length q1x Q2 (andd s (nt t)).2.length q2x) (by simp [results, Try.results32, go_sem, q0, q1]) rfl HE.out
theorem rminus_any (A1 B1 A2 B2 : Option Addr) (c1 d1 c2 d2 : Nat) (s t : NS) (w : World) (h : Ns w A1 c1 B1 d1 s) (k : Ns w A2 c2 B2 d2 t) (hk : okN 10000 s) (hj : okN 10000 t) :
    Calls Try.prog 32 #[nv A1 s.1.length c1 B1 s.2.length d1, nv A2 t.1.length c2 B2 t.2.length d2] w (GivesN (minus s t) w) := by
  rw [minus_and]; exact rminus_any0 A1 B1 A2 B2 c1 d1 c2 d2 s t w h hk k hj
set_option maxRecDepth 100000 in
set_option maxHeartbeats 1000000 in
theorem rempty_any (A1 A2 : Option Addr) (c1 c2 : Nat) (s : NS) (w : World) (hN : Ns w A1 c1 A2 c2 s) (hk : okN 100000 s) :
    Calls Try.prog 66 #[nv A1 s.1.length c1 A2 s.2.length c2] w (EqIs (empB (mk s)) w) := by
  have hb0 := bal w (.cells #[.slice A1 s.1.length c1, .slice A2 s.2.length c2] 24)
  have HB0 := Lib.hid hb0
  have HN := Lib.hid (hN.up hb0)
  have HM := Lib.hid (fun W h => rmake_any A1 A2 c1 c2 s W h hk)
  have e1 : (mk s).1.isEmpty = (((mk s).1.length : Int) == 0) := by
    rw [Bool.eq_iff_iff]; simp [List.isEmpty_iff]
  have e2 : (mk s).2.isEmpty = (((mk s).2.length : Int) == 0) := by
    rw [Bool.eq_iff_iff]; simp [List.isEmpty_iff]
  have HE := Lib.hid (show empB (mk s) = ((((mk s).1.length : Int) == 0) && (((mk s).2.length : Int) == 0)) by unfold empB; rw [e1, e2])
  clear e1 e2 hb0 hN hk
  go_enter Try.func66, Try.ntmps66
  go_wp2_with fail
  refine (HM.out _ HN.out).mono ?_
  rintro e w2 ⟨E1, e1, E2, e2, rfl, ⟨_, _, _⟩, hb2⟩
  have HB2 := Lib.hid (HB0.out.trans (hb2.mono HB0.out.size))
  have HB3 := Lib.hid (HB2.out.trans ((bal w2 (.cells #[.slice E1 (mk s).1.length e1, .slice E2 (mk s).2.length e2] 24)).mono HB2.out.size))
  clear hb2
  cases h1 : (((mk s).1.length : Int) == 0)
  · have HQ := Lib.hid (show empB (mk s) = false from by rw [HE.out, h1]; rfl)
    go_wp2_with fail
    go_ret
    exact ⟨ret_bool HQ.out.symm, HB3.out⟩
  · cases h2 : (((mk s).2.length : Int) == 0)
    · have HQ := Lib.hid (show empB (mk s) = false from by rw [HE.out, h1, h2]; rfl)
      go_wp2_with fail
      go_ret
      exact ⟨ret_bool HQ.out.symm, HB3.out⟩
    · have HQ := Lib.hid (show empB (mk s) = true from by rw [HE.out, h1, h2]; rfl)
      go_wp2_with fail
      go_ret
      exact ⟨ret_bool HQ.out.symm, HB3.out⟩
set_option maxRecDepth 100000 in
set_option maxHeartbeats 1000000 in
theorem rsubset_any (A1 B1 A2 B2 : Option Addr) (c1 d1 c2 d2 : Nat) (s t : NS) (w : World) (h : Ns w A1 c1 B1 d1 s) (k : Ns w A2 c2 B2 d2 t) (hk : okN 10000 s) (hj : okN 10000 t) :
    Calls Try.prog 34 #[nv A1 s.1.length c1 B1 s.2.length d1, nv A2 t.1.length c2 B2 t.2.length d2] w (EqIs (subB s t) w) := by
  have hb0 : Below w.heap.size w ((w.alloc (.cells #[.slice A1 s.1.length c1, .slice B1 s.2.length d1] 24)).alloc (.cells #[.slice A2 t.1.length c2, .slice B2 t.2.length d2] 24)) := ((Below.refl _ _).alloc (Nat.le_refl _) _).alloc (by simp) _
  have H1 := Lib.hid (rminus_any A1 B1 A2 B2 c1 d1 c2 d2 s t _ (h.up hb0) (k.up hb0) hk hj)
  have H2 := Lib.hid (show ∀ (W : World) F1 f1 F2 f2, Ns W F1 f1 F2 f2 (minus s t) → Calls Try.prog 66 #[nv F1 (minus s t).1.length f1 F2 (minus s t).2.length f2] W (EqIs (subB s t) W) from fun W F1 f1 F2 f2 h => by
    have h := rempty_any F1 F2 f1 f2 (minus s t) W h ((minus_ok hk hj).le (by omega))
    rw [mk_of_can (can_minus s t)] at h; exact h)
  have HB0 := Lib.hid hb0
  clear hb0 h k hk hj
  go_enter Try.func34, Try.ntmps34
  go_wp2_with fail
  refine H1.out.mono ?_
  rintro e w2 ⟨E1, e1, E2, e2, rfl, ⟨hns, _, _⟩, hb2⟩
  have HB2 := Lib.hid (HB0.out.trans (hb2.mono HB0.out.size))
  have HNs := Lib.hid hns
  clear hb2 hns
  go_wp2_with fail
  refine (H2.out _ _ _ _ _ HNs.out).mono ?_
  rintro e w3 ⟨rfl, hb3⟩
  have HB3 := Lib.hid (HB2.out.trans (hb3.mono HB2.out.size))
  clear hb3
  go_wp2_with fail
  go_ret
  exact ⟨rfl, HB3.out⟩
end Go.Proofs.Yteekccjfokoglaa
namespace Go.Proofs.Yteekccjfokoglaa
open Go.RowKit Go.Sort Go.Lib Go.Proofs
set_option linter.unusedSimpArgs false
set_option linter.unnecessarySimpa false
set_option linter.unusedVariables false
set_option maxRecDepth 100000 in
set_option maxHeartbeats 2000000 in
theorem rcount_any (A1 A2 : Option Addr) (c1 c2 : Nat) (s : NS) (w : World) (hN : Ns w A1 c1 A2 c2 s) (hk : okN 1000 s) :
    Calls Try.prog 44 #[nv A1 s.1.length c1 A2 s.2.length c2] w (NumIs (countS s) w) := by
  obtain ⟨w1, hw1⟩ : ∃ w1, w1 = w.alloc (.cells #[.slice A1 s.1.length c1, .slice A2 s.2.length c2] 24) := ⟨_, rfl⟩
  have hb0 : Below w.heap.size w w1 := by rw [hw1]; exact bal w _
  have a0 : w1.cell? ⟨w.heap.size, 0, none⟩ = some (.slice A1 s.1.length c1) := by rw [hw1]; simp
  have a1 : w1.cell? ⟨w.heap.size, 1, none⟩ = some (.slice A2 s.2.length c2) := by rw [hw1]; simp
  have l0 : w.heap.size < w1.heap.size := by rw [hw1]; simp
  have HKC := Lib.hid (And.intro l0 (And.intro a0 a1))
  have HM := Lib.hid (hN.up hb0)
  have HB0 := Lib.hid hb0
  obtain ⟨LI, hLI⟩ : ∃ LI, LI = rn (s.1.map clipI) := ⟨_, rfl⟩
  obtain ⟨LF, hLF⟩ : ∃ LF, LF = rn (fr s.2) := ⟨_, rfl⟩
  have HC1 := Lib.hid (show ∀ W : World, Ns W A1 c1 A2 c2 s → Calls Try.prog 55 #[nv A1 s.1.length c1 A2 s.2.length c2] W (Gives LI W) from fun W h => by
    rw [hLI]; exact (rints_any A1 A2 c1 c2 s W h (hk.le (by omega))).mono fun e w' h => rn_gives h)
  have HC2 := Lib.hid (show ∀ W : World, Ns W A1 c1 A2 c2 s → Calls Try.prog 56 #[nv A1 s.1.length c1 A2 s.2.length c2] W (Gives LF W) from fun W h => by
    rw [hLF]; exact (rfracs_any A1 A2 c1 c2 s W h (hk.le (by omega))).mono fun e w' h => rn_gives h)
  have HBd1 := Lib.hid (show ∀ x ∈ LI, -1000000000000000 ≤ x.1 ∧ x.1 ≤ x.2 ∧ x.2 ≤ 1000000000000000 from fun x hx => by
    rw [hLI] at hx; have h := rnI_line s.1 x hx; have h2 := (rnI_spec s.1).1.1 x hx; omega)
  have HBd2 := Lib.hid (show ∀ x ∈ LF, -1000000000000000 ≤ x.1 ∧ x.1 ≤ x.2 ∧ x.2 ≤ 1000000000000000 from fun x hx => by
    rw [hLF] at hx; have h := rnF_line s.2 x hx; have h2 := (rnF_spec s.2).1.1 x hx; omega)
  have hLen1 : LI.length ≤ 1000 := by have := (rnI_spec s.1).2; have := hk.1; rw [hLI]; omega
  have hLen2 : LF.length ≤ 1000 := by have := (rnF_spec s.2).2.1; have := hk.2.1; rw [hLF]; omega
  have HB1s := Lib.hid (show 0 ≤ psum LI ∧ psum LI ≤ 2000000000000001000 by have h := psum_bd LI HBd1.out _ (Nat.le_refl _); rw [List.take_length] at h; omega)
  have HE := Lib.hid (show countS s = psum LI + psum LF by rw [count_rn, hLI, hLF])
  clear a0 a1 hb0 hN hk hLI hLF
  go_enter Try.func44, Try.ntmps44
  go_wp2_with fail
  rw [← hw1]
  clear hw1
  refine (HC1.out _ HM.out).mono ?_
  rintro e w2 ⟨P, p, rfl, hr1, ⟨_, _⟩, hb2⟩
  have HRe1 := Lib.hid hr1
  have HB2 := Lib.hid hb2
  clear hr1 hb2
  go_wp2_with fail
  go_loopw [3, 11] (fun s3 s11 wr => ∃ k : Nat, s11 = .int .i64 (k : Int) ∧ s3 = .int .i64 (0 + psum (LI.take k)) ∧ k ≤ LI.length ∧ Hid (Below w2.heap.size w2 wr)) (fun _ s11 _ => (LI.length - intOf s11).toNat)
  case atStart => exact ⟨0, rfl, by simp [psum], by omega, Lib.hid (Below.refl _ _)⟩
  case round =>
    obtain ⟨k, rfl, rfl, hk, HB⟩ := hrel
    by_cases hlt : k < LI.length
    · obtain ⟨b, o, hA, hbl, d0, d1⟩ := HRe1.out.at_ k hlt
      subst hA
      rw [← HB.out.cell (p := ⟨b, o + k * 2, none⟩) hbl] at d0
      rw [← HB.out.cell (p := ⟨b, o + k * 2 + 1, none⟩) hbl] at d1
      have hx0 := HBd1.out LI[k] (List.getElem_mem hlt)
      have hps := psum_bd LI HBd1.out k hk
      have HT := Lib.hid (show psum (LI.take (k + 1)) = psum (LI.take k) + (LI[k].2 - LI[k].1 + 1) by rw [← List.take_append_getElem hlt, psum_snoc])
      obtain ⟨x, hx⟩ : ∃ x, x = LI[k] := ⟨_, rfl⟩
      rw [← hx] at d0 d1 hx0 HT
      obtain ⟨P, hP⟩ : ∃ P, P = psum (LI.take k) := ⟨_, rfl⟩
      rw [← hP] at hps HT ⊢
      have hkl : (k : Int) < (LI.length : Int) := by omega
      have hwr : w2.heap.size ≤ wr.heap.size := HB.out.size
      have hl := hLen1
      have HB2 := Lib.hid (HB.out.alloc hwr (.cells #[.int .i64 x.1, .int .i64 x.2] 46))
      
      have hQ0 : True := trivial
      
      have a1 : IntKind.i64.wrap (0 + P + x.2) = 0 + P + x.2 := IntWalk.i64_in _ (by omega)
      have a2 : IntKind.i64.wrap (0 + P + x.2 - x.1) = 0 + P + x.2 - x.1 := IntWalk.i64_in _ (by omega)
      have a3 : IntKind.i64.wrap (0 + P + x.2 - x.1 + 1) = 0 + P + x.2 - x.1 + 1 := IntWalk.i64_in _ (by omega)
      have HS := Lib.hid (show Value.int .i64 (0 + P + x.2 - x.1 + 1) = .int .i64 (0 + psum (LI.take (k + 1))) by rw [HT.out]; congr 1; omega)
      clear hx hP HB HT 
      go_wp2_with fail
      go_roundw
      case rel => exact ⟨k + 1, by go_num, by first | exact HS.out | simpa using HS.out, by omega, HB2⟩
      case measure => simp [intOf]; omega
    · obtain rfl : k = LI.length := by omega
      rw [List.take_length]
      have HBb := Lib.hid (HB2.out.trans (HB.out.mono HB2.out.size))
      obtain ⟨z0, z1, z2⟩ := HKC.out
      have k0 : wr.cell? ⟨w.heap.size, 0, none⟩ = some (.slice A1 s.1.length c1) := by rw [HBb.out.cell (p := ⟨w.heap.size, 0, none⟩) z0]; exact z1
      have k1 : wr.cell? ⟨w.heap.size, 1, none⟩ = some (.slice A2 s.2.length c2) := by rw [HBb.out.cell (p := ⟨w.heap.size, 1, none⟩) z0]; exact z2
      rw [show (0 : Int) + psum LI = psum LI by omega]
      clear z1 z2 HB
      go_wp2_with fail
      refine (HC2.out _ (HM.out.up HBb.out)).mono ?_
      rintro e w4 ⟨Q, q, rfl, hr2, ⟨_, _⟩, hb4⟩
      have HRe2 := Lib.hid hr2
      have HB4 := Lib.hid (HBb.out.trans (hb4.mono HBb.out.size))
      clear hr2 hb4 k0 k1
      go_wp2_with fail
      go_loopw [3, 27] (fun s3 s27 wr => ∃ k : Nat, s27 = .int .i64 (k : Int) ∧ s3 = .int .i64 (psum LI + psum (LF.take k)) ∧ k ≤ LF.length ∧ Hid (Below w4.heap.size w4 wr)) (fun _ s27 _ => (LF.length - intOf s27).toNat)
      case atStart => exact ⟨0, rfl, by simp [psum], by omega, Lib.hid (Below.refl _ _)⟩
      case round =>
        obtain ⟨k, rfl, rfl, hk, HB⟩ := hrel
        by_cases hlt : k < LF.length
        · obtain ⟨b, o, hA, hbl, d0, d1⟩ := HRe2.out.at_ k hlt
          subst hA
          rw [← HB.out.cell (p := ⟨b, o + k * 2, none⟩) hbl] at d0
          rw [← HB.out.cell (p := ⟨b, o + k * 2 + 1, none⟩) hbl] at d1
          have hx0 := HBd2.out LF[k] (List.getElem_mem hlt)
          have hps := psum_bd LF HBd2.out k hk
          have HT := Lib.hid (show psum (LF.take (k + 1)) = psum (LF.take k) + (LF[k].2 - LF[k].1 + 1) by rw [← List.take_append_getElem hlt, psum_snoc])
          obtain ⟨x, hx⟩ : ∃ x, x = LF[k] := ⟨_, rfl⟩
          rw [← hx] at d0 d1 hx0 HT
          obtain ⟨P, hP⟩ : ∃ P, P = psum (LF.take k) := ⟨_, rfl⟩
          rw [← hP] at hps HT ⊢
          have hkl : (k : Int) < (LF.length : Int) := by omega
          have hwr : w4.heap.size ≤ wr.heap.size := HB.out.size
          have hl := hLen2
          have HB2 := Lib.hid (HB.out.alloc hwr (.cells #[.int .i64 x.1, .int .i64 x.2] 46))
          have hbase := HB1s.out
          obtain ⟨Q, hQ⟩ : ∃ Q, Q = psum LI := ⟨_, rfl⟩
          rw [← hQ] at hbase ⊢
          have a1 : IntKind.i64.wrap (Q + P + x.2) = Q + P + x.2 := IntWalk.i64_in _ (by omega)
          have a2 : IntKind.i64.wrap (Q + P + x.2 - x.1) = Q + P + x.2 - x.1 := IntWalk.i64_in _ (by omega)
          have a3 : IntKind.i64.wrap (Q + P + x.2 - x.1 + 1) = Q + P + x.2 - x.1 + 1 := IntWalk.i64_in _ (by omega)
          have HS := Lib.hid (show Value.int .i64 (Q + P + x.2 - x.1 + 1) = .int .i64 (Q + psum (LF.take (k + 1))) by rw [HT.out]; congr 1; omega)
          clear hx hP HB HT hQ
          go_wp2_with fail
          go_roundw
          case rel => exact ⟨k + 1, by go_num, HS.out, by omega, HB2⟩
          case measure => simp [intOf]; omega
        · obtain rfl : k = LF.length := by omega
          rw [List.take_length]
          rw [← HE.out]
          go_wp2_with fail
          go_ret
          exact ⟨rfl, HB0.out.trans ((HB4.out.trans (HB.out.mono HB4.out.size)).mono HB0.out.size)⟩
end Go.Proofs.Yteekccjfokoglaa
namespace Go.Proofs.Yteekccjfokoglaa
open Go.RowKit Go.Sort Go.Lib Go.Proofs
set_option linter.unusedSimpArgs false
set_option linter.unnecessarySimpa false
set_option linter.unusedVariables false
def flatI (l : List Int) : List Value := l.map (.int .i64)
theorem flatI_append (l m : List Int) : flatI (l ++ m) = flatI l ++ flatI m := by simp [flatI]
theorem flatI_len (l : List Int) : (flatI l).length = l.length := by simp [flatI]
theorem info2 : (Try.prog.info? 2).map (fun i => (i.zero, i.size, i.bytes)) = some (some (.int .i64 0), 1, 8) := by kernel_rfl
theorem under63 : Try.prog.underlying 63 = some (.slice 2) := by kernel_rfl
theorem ownG_up {w w' : World} {B n e z : Nat} {v : Value} {xs : List Value} (h : w.ownsRow B e z v n xs) (hb : Below w.heap.size w w') : w'.ownsRow B e z v n xs := by
  refine ⟨h.1, ?_⟩
  rcases h.2 with hn | ⟨g, cap, cur, hv, hb1, hg, rest⟩
  · exact .inl hn
  · refine .inr ⟨g, cap, cur, hv, hb1, ?_, rest⟩
    rw [hb.block g (Array.getElem?_eq_some_iff.1 hg).1]; exact hg
theorem one_int (l : List Int) : ∀ u ∈ flatI l, u.oneCell' = true := by
  intro u hu; obtain ⟨x, _, rfl⟩ := List.mem_map.1 hu; rfl
theorem newI (W : World) (t : TypeId) (l : List Int) : ∀ j u, (flatI l)[j]? = some u → (W.alloc (.cells (flatI l).toArray t)).cell? ((⟨W.heap.size, 0, none⟩ : Addr).add j) = some u := by
  intro j u hj
  rw [Go.WideShapes.add_plain, Nat.zero_add]
  have : (W.alloc (.cells (flatI l).toArray t)).heap[W.heap.size]? = some (.cells (flatI l).toArray t (0, 0)) := (MapKept.heap_alloc W (.cells (flatI l).toArray t)).1
  rw [Lib.cell_of_heap this]
  simpa using hj
/-- a list of numbers, read through a slice -/
theorem rowI_read {w : World} {B : Nat} {v : Value} {l : List Int} (h : w.ownsRow B 2 1 v l.length (flatI l)) : ∃ A c, v = .slice A l.length c ∧ ∀ k (hk : k < l.length), ∃ b, A = some ⟨b, 0, none⟩ ∧ b < w.heap.size ∧ w.cell? ⟨b, k, none⟩ = some (.int .i64 l[k]) := by
  rcases h.2 with ⟨h1, h2⟩ | ⟨g, cap, cur, hv, hb1, hg, hn, hc, hsz, ht⟩
  · exact ⟨none, 0, by rw [h1, h2], fun k hk => by omega⟩
  · refine ⟨some ⟨g, 0, none⟩, cap, hv, fun k hk => ⟨g, rfl, (Array.getElem?_eq_some_iff.1 hg).1, ?_⟩⟩
    rw [Lib.cell_of_heap hg]
    have h3 : (cur.toList.take (l.length * 1))[k]? = some (.int .i64 l[k]) := by rw [ht]; simp [flatI, hk]
    rw [List.getElem?_take] at h3
    split at h3
    · simpa using h3
    · cases h3
end Go.Proofs.Yteekccjfokoglaa
namespace Go.Proofs.Yteekccjfokoglaa
open Go.RowKit Go.Sort Go.Lib Go.Proofs
set_option linter.unusedSimpArgs false
set_option linter.unnecessarySimpa false
set_option linter.unusedVariables false
theorem rzI_snoc (l : List Sp) (x : Sp) : rzI (l ++ [x]) = (rzI l || (decide (x.1 ≤ 0) && decide (0 ≤ x.2))) := by simp [rzI]
theorem rcI_len (l : List Sp) : (rcI l).length = l.length * 2 := by
  induction l with
  | nil => rfl
  | cons x l ih => unfold rcI at *; rw [List.flatMap_cons, List.length_append, ih]; simp; omega
theorem rcF_len (l : List Sp) : (rcF l).length ≤ l.length * 3 := by
  induction l with
  | nil => simp [rcF]
  | cons x l ih =>
    unfold rcF at *; rw [List.flatMap_cons, List.length_append]
    have : (rcF1 x).length ≤ 3 := by unfold rcF1; split <;> simp
    rw [List.length_cons]; omega
theorem lstep_snoc (L : List Int) (k : Nat) (h : k < L.length) : (L.take (k + 1)).foldl lstep none = lstep ((L.take k).foldl lstep none) L[k] := by
  rw [← List.take_append_getElem h, List.foldl_append]; rfl
theorem lstep_mem (L : List Int) (b : Int) (h : L.foldl lstep none = some b) : b ∈ L := by
  rcases lfold_none L with ⟨_, e⟩ | ⟨m, e, hm, _⟩
  · rw [e] at h; cases h
  · rw [e] at h; cases h; exact hm
theorem rc_bd {m : NS} (h1 : ∀ x ∈ m.1, -100000000000 ≤ x.1 ∧ x.1 ≤ 100000000000 ∧ -100000000000 ≤ x.2 ∧ x.2 ≤ 100000000000) (h2 : ∀ x ∈ m.2, bd15 x) : ∀ u ∈ rcI m.1 ++ rcF m.2, bd62 u := by
  intro u hu
  rcases List.mem_append.1 hu with hu | hu
  · obtain ⟨p, hp, h⟩ := List.mem_flatMap.1 hu
    have := h1 p hp
    simp only [List.mem_cons, List.not_mem_nil, or_false] at h
    unfold bd62
    rcases h with rfl | rfl <;> omega
  · obtain ⟨p, hp, h⟩ := List.mem_flatMap.1 hu
    have := h2 p hp
    unfold bd15 at this
    unfold rcF1 at h
    unfold bd62
    split at h <;> simp only [List.mem_cons, List.not_mem_nil, or_false] at h
    · rcases h with rfl | rfl | rfl <;> omega
    · rcases h with rfl | rfl <;> omega
set_option maxRecDepth 100000 in
set_option maxHeartbeats 4000000 in
theorem rleast_any (A1 A2 : Option Addr) (c1 c2 : Nat) (s : NS) (w : World) (hN : Ns w A1 c1 A2 c2 s) (hk : okN 1000 s) :
    Calls Try.prog 40 #[nv A1 s.1.length c1 A2 s.2.length c2] w (LeastIs s w) := by
  have hb0 := bal w (.cells #[.slice A1 s.1.length c1, .slice A2 s.2.length c2] 24)
  have HM := Lib.hid (rmake_any A1 A2 c1 c2 s _ (hN.up hb0) (hk.le (by omega)))
  have HB0 := Lib.hid hb0
  obtain ⟨m, hm⟩ : ∃ m, m = mk s := ⟨_, rfl⟩
  have hRes := rleast_eq s
  have hcan := can_mk s
  have hok := mk_ok hk
  rw [← hm] at HM hRes hcan hok
  obtain ⟨M1, M2⟩ := m
  (try simp only at HM)
  (try simp only at hRes)
  (try simp only at hok)
  have HBd1 := Lib.hid (show ∀ x ∈ M1, -100000000000 ≤ x.1 ∧ x.1 ≤ 100000000000 ∧ -100000000000 ≤ x.2 ∧ x.2 ≤ 100000000000 from fun x hx => by
    obtain ⟨h0, h1, h2⟩ := hcan.1.1 x hx; have := h1.1; have := h1.2.1; have := h2.1; have := h2.2.1; simp only [lim] at *; omega)
  have HBd2 := Lib.hid (show ∀ x ∈ M2, bd15 x from fun x hx => by
    obtain ⟨h0, h1, h2⟩ := hcan.2.1 x hx; have := h1.1; have := h1.2.1; have := h2.1; have := h2.2.1; simp only [lim, bd15] at *; omega)
  have hl1 : M1.length ≤ 1000 := hok.1
  have hl2 : M2.length ≤ 1000 := hok.2.1
  have HRes := Lib.hid (show rleastO (M1, M2) = leastO s from hRes)
  clear hb0 hN hk hm hRes hcan hok
  go_enter Try.func40, Try.ntmps40
  go_wp2_with fail
  refine HM.out.mono ?_
  rintro e w2 ⟨E1, e1, E2, e2, rfl, ⟨hns, _, _⟩, hb2⟩
  have hb3 := bal w2 (.cells #[.slice E1 M1.length e1, .slice E2 M2.length e2] 24)
  have HRe1 := Lib.hid (hns.r1.up hb3)
  have HRe2 := Lib.hid (hns.r2.up hb3)
  have HBE := Lib.hid (HB0.out.trans ((hb2.trans (hb3.mono hb2.size)).mono HB0.out.size))
  obtain ⟨w3, hw3⟩ : ∃ w3, w3 = w2.alloc (.cells #[.slice E1 M1.length e1, .slice E2 M2.length e2] 24) := ⟨_, rfl⟩
  obtain ⟨bm, hbm⟩ : ∃ bm, bm = w2.heap.size := ⟨_, rfl⟩
  have k0 : w3.cell? ⟨bm, 0, none⟩ = some (.slice E1 M1.length e1) := by rw [hw3, hbm]; simp
  have k1 : w3.cell? ⟨bm, 1, none⟩ = some (.slice E2 M2.length e2) := by rw [hw3, hbm]; simp
  have lm : bm < w3.heap.size := by rw [hw3, hbm]; simp
  rw [← hw3] at HRe1 HRe2 HBE
  have HK1 := Lib.hid k1
  clear hns hb2 hb3 HM HB0
  go_upto_region 3 with fail
  rw [← hw3, ← hbm]
  clear hw3 hbm
  go_wp2_with fail
  go_loopw [5, 19] (fun s5 s19 wr => ∃ (k : Nat) (v : Value), s19 = .int .i64 (k : Int) ∧ s5 = v ∧ k ≤ M1.length ∧ Hid (rzI (M1.take k) = false) ∧ Hid (wr.ownsRow w3.heap.size 2 1 v (rcI (M1.take k)).length (flatI (rcI (M1.take k)))) ∧ Hid (Below w3.heap.size w3 wr)) (fun _ s19 _ => (M1.length - intOf s19).toNat)
  case atStart => exact ⟨0, _, rfl, rfl, by omega, Lib.hid rfl, Lib.hid (World.ownsRow_nil _ _ _ _), Lib.hid (Below.refl _ _)⟩
  case round =>
    obtain ⟨i0, hi, hz0, hz1, hz2⟩ := info_parts info2
    obtain ⟨k, v, rfl, rfl, hk, HZ, HO, HB⟩ := hrel
    clear k0
    by_cases hlt : k < M1.length
    · obtain ⟨b, o, hA, hbl, d0, d1⟩ := HRe1.out.at_ k hlt
      subst hA
      rw [← HB.out.cell (p := ⟨b, o + k * 2, none⟩) hbl] at d0
      rw [← HB.out.cell (p := ⟨b, o + k * 2 + 1, none⟩) hbl] at d1
      have hbx := HBd1.out M1[k] (List.getElem_mem hlt)
      have hkl : (k : Int) < (M1.length : Int) := by omega
      have hwr : w3.heap.size ≤ wr.heap.size := HB.out.size
      have HT := Lib.hid (show rcI (M1.take (k + 1)) = rcI (M1.take k) ++ [M1[k].1 * 10000, M1[k].2 * 10000] by rw [← List.take_append_getElem hlt, rcI_snoc])
      have HZs := Lib.hid (show rzI (M1.take (k + 1)) = (decide (M1[k].1 ≤ 0) && decide (0 ≤ M1[k].2)) by rw [← List.take_append_getElem hlt, rzI_snoc, HZ.out]; rfl)
      have HZy := Lib.hid (fun (h : M1[k].1 ≤ 0 ∧ 0 ≤ M1[k].2) => (show leastO s = some 0 by
        rw [← HRes.out]; unfold rleastO; rw [if_pos]
        exact List.any_eq_true.2 ⟨M1[k], List.getElem_mem hlt, by simp [h.1, h.2]⟩))
      have hal : (rcI (M1.take k)).length ≤ 100000 := by rw [rcI_len]; simp; omega
      obtain ⟨acc, hacc⟩ : ∃ acc, acc = rcI (M1.take k) := ⟨_, rfl⟩
      obtain ⟨x, hx⟩ : ∃ x, x = M1[k] := ⟨_, rfl⟩
      rw [← hx] at d0 d1 hbx HT HZs HZy
      rw [← hacc] at HT hal HO
      have xw1 : IntKind.i64.wrap (x.1 * 10000) = x.1 * 10000 := IntWalk.i64_in _ (by omega)
      have xw2 : IntKind.i64.wrap (x.2 * 10000) = x.2 * 10000 := IntWalk.i64_in _ (by omega)
      clear hacc HZ
      obtain ⟨W, hW⟩ : ∃ W, W = wr.alloc (.cells #[.int .i64 x.1, .int .i64 x.2] 46) := ⟨_, rfl⟩
      obtain ⟨b9, hb9⟩ : ∃ b9, b9 = wr.heap.size := ⟨_, rfl⟩
      have HO1 := Lib.hid (show W.ownsRow w3.heap.size 2 1 u5 acc.length (flatI acc) by rw [hW]; exact HO.out.alloc _)
      have HOW := Lib.hid (show ∀ j, u5.ownBlock = some j → j < b9 from fun j hj => by rw [hb9]; exact (HO.out.lt j hj).2)
      have HB1 := Lib.hid (show Below w3.heap.size w3 W by rw [hW]; exact HB.out.alloc hwr _)
      have e0 : W.cell? ⟨b9, 0, none⟩ = some (.int .i64 x.1) := by rw [hW, hb9]; simp
      have e1' : W.cell? ⟨b9, 1, none⟩ = some (.int .i64 x.2) := by rw [hW, hb9]; simp
      have l9 : b9 < W.heap.size := by rw [hW, hb9]; simp
      have hW3 : w3.heap.size ≤ W.heap.size := HB1.out.size
      clear hx
      go_upto_region 6 with fail
      rw [← hW, ← hb9]
      clear hW hb9 d0 d1 HO HB
      have hown := HO1.out
      by_cases hq1 : x.1 ≤ 0
      · by_cases hq2 : 0 ≤ x.2
        · have HQ := Lib.hid (HZy.out ⟨hq1, hq2⟩)
          have g1 : decide (x.1 ≤ 0) = true := decide_eq_true hq1
          have g2 : decide (0 ≤ x.2) = true := decide_eq_true hq2
          clear hq1 hq2 HZy HZs HT
          go_wp2_with fail
          go_ret2
          exact ⟨by rw [HQ.out]; rfl, HBE.out.trans (HB1.out.mono HBE.out.size)⟩
        · have HZ2 := Lib.hid (show rzI (M1.take (k + 1)) = false by rw [HZs.out]; simp [hq1, hq2]; try omega)
          have g1 : decide (x.1 ≤ 0) = true := decide_eq_true hq1
          have g2 : decide (0 ≤ x.2) = false := decide_eq_false hq2
          clear hq1 hq2 HZy HZs
          go_wp2_with (at_builtin; refine wpList_append_own _ rfl _ _ 63 rfl w3.heap.size 2 i0 (.int .i64 0) 1 8 under63 hi hz0 hz1 hz2 rfl (by decide) _ _ _ rfl (hown.alloc _) ⟨W.heap.size, 0, none⟩ 2 2 (flatI [x.1 * 10000, x.2 * 10000]) rfl rfl ?c1 ?c2 ?c3 ?c4 ?c5 ?_)
          case c1 => exact newI _ _ _
          case c2 => exact one_int _
          case c3 => unfold maxLen; omega
          case c4 => omega
          case c5 => simp; omega
          intro v8 w8 hown8 hgrow _
          have HO8 := Lib.hid (show w8.ownsRow w3.heap.size 2 1 v8 (rcI (M1.take (k + 1))).length (flatI (rcI (M1.take (k + 1)))) by rw [HT.out, flatI_append, List.length_append]; exact hown8)
          have HB8 := Lib.hid ((HB1.out.alloc hW3 _).grown hgrow (by simp; omega) (fun j hj => (hown.lt j hj).1))
          clear hown8 hgrow hown HO1 HB1 e0 e1' HT
          go_wp2_with fail
          go_roundw
          case rel => exact ⟨k + 1, _, by go_num, rfl, by omega, HZ2, HO8, HB8⟩
          case measure => simp [intOf]; omega
      · have HZ2 := Lib.hid (show rzI (M1.take (k + 1)) = false by rw [HZs.out]; simp [hq1]; try omega)
        have g1 : decide (x.1 ≤ 0) = false := decide_eq_false hq1
        clear hq1 HZy HZs
        go_wp2_with (at_builtin; refine wpList_append_own _ rfl _ _ 63 rfl w3.heap.size 2 i0 (.int .i64 0) 1 8 under63 hi hz0 hz1 hz2 rfl (by decide) _ _ _ rfl (hown.alloc _) ⟨W.heap.size, 0, none⟩ 2 2 (flatI [x.1 * 10000, x.2 * 10000]) rfl rfl ?c1 ?c2 ?c3 ?c4 ?c5 ?_)
        case c1 => exact newI _ _ _
        case c2 => exact one_int _
        case c3 => unfold maxLen; omega
        case c4 => omega
        case c5 => simp; omega
        intro v8 w8 hown8 hgrow _
        have HO8 := Lib.hid (show w8.ownsRow w3.heap.size 2 1 v8 (rcI (M1.take (k + 1))).length (flatI (rcI (M1.take (k + 1)))) by rw [HT.out, flatI_append, List.length_append]; exact hown8)
        have HB8 := Lib.hid ((HB1.out.alloc hW3 _).grown hgrow (by simp; omega) (fun j hj => (hown.lt j hj).1))
        clear hown8 hgrow hown HO1 HB1 e0 e1' HT
        go_wp2_with fail
        go_roundw
        case rel => exact ⟨k + 1, _, by go_num, rfl, by omega, HZ2, HO8, HB8⟩
        case measure => simp [intOf]; omega
    · obtain rfl : k = M1.length := by omega
      rw [List.take_length] at HZ HO
      have HLe := Lib.hid (show (rcI M1 ++ rcF M2).foldl lstep none = leastO s by
        rw [← HRes.out]; unfold rleastO; rw [if_neg (by rw [HZ.out]; simp)])
      have k1' : wr.cell? ⟨bm, 1, none⟩ = some (.slice E2 M2.length e2) := by rw [HB.out.cell (p := ⟨bm, 1, none⟩) lm]; exact HK1.out
      have HO2 := Lib.hid (show wr.ownsRow w3.heap.size 2 1 u5 (rcI M1 ++ rcF (M2.take 0)).length (flatI (rcI M1 ++ rcF (M2.take 0))) by rw [List.take_zero]; simpa [rcF] using HO.out)
      clear HZ HO hk
      obtain ⟨wl, rfl⟩ : ∃ wl, wl = wr := ⟨wr, rfl⟩
      have HBl := HB
      clear HB
      go_wp2_with fail
      clear k1'
      go_loopw [5, 44] (fun s5 s44 wr => ∃ (k : Nat) (v : Value), s44 = .int .i64 (k : Int) ∧ s5 = v ∧ k ≤ M2.length ∧ Hid (wr.ownsRow w3.heap.size 2 1 v (rcI M1 ++ rcF (M2.take k)).length (flatI (rcI M1 ++ rcF (M2.take k)))) ∧ Hid (Below w3.heap.size w3 wr)) (fun _ s44 _ => (M2.length - intOf s44).toNat)
      case atStart => exact ⟨0, _, rfl, rfl, by omega, HO2, HBl⟩
      case round =>
        obtain ⟨k, v, rfl, rfl, hk, HO, HB⟩ := hrel
        clear HO2
        by_cases hlt : k < M2.length
        · obtain ⟨b, o, hA, hbl, d0, d1⟩ := HRe2.out.at_ k hlt
          subst hA
          rw [← HB.out.cell (p := ⟨b, o + k * 2, none⟩) hbl] at d0
          rw [← HB.out.cell (p := ⟨b, o + k * 2 + 1, none⟩) hbl] at d1
          have hbx := HBd2.out M2[k] (List.getElem_mem hlt)
          have hkl : (k : Int) < (M2.length : Int) := by omega
          have hwr : w3.heap.size ≤ wr.heap.size := HB.out.size
          have HT := Lib.hid (show rcI M1 ++ rcF (M2.take (k + 1)) = (rcI M1 ++ rcF (M2.take k)) ++ rcF1 M2[k] by rw [← List.take_append_getElem hlt, rcF_snoc, List.append_assoc])
          have hal : (rcI M1 ++ rcF (M2.take k)).length ≤ 100000 := by rw [List.length_append, rcI_len]; have := rcF_len (M2.take k); simp at this; omega
          obtain ⟨acc, hacc⟩ : ∃ acc, acc = rcI M1 ++ rcF (M2.take k) := ⟨_, rfl⟩
          obtain ⟨x, hx⟩ : ∃ x, x = M2[k] := ⟨_, rfl⟩
          rw [← hx] at d0 d1 hbx HT
          rw [← hacc] at HT hal HO
          clear hacc hbx
          obtain ⟨W, hW⟩ : ∃ W, W = wr.alloc (.cells #[.int .i64 x.1, .int .i64 x.2] 46) := ⟨_, rfl⟩
          obtain ⟨b9, hb9⟩ : ∃ b9, b9 = wr.heap.size := ⟨_, rfl⟩
          have HO1 := Lib.hid (show W.ownsRow w3.heap.size 2 1 u5 acc.length (flatI acc) by rw [hW]; exact HO.out.alloc _)
          have HOW := Lib.hid (show ∀ j, u5.ownBlock = some j → j < b9 from fun j hj => by rw [hb9]; exact (HO.out.lt j hj).2)
          have HB1 := Lib.hid (show Below w3.heap.size w3 W by rw [hW]; exact HB.out.alloc hwr _)
          have e0 : W.cell? ⟨b9, 0, none⟩ = some (.int .i64 x.1) := by rw [hW, hb9]; simp
          have e1' : W.cell? ⟨b9, 1, none⟩ = some (.int .i64 x.2) := by rw [hW, hb9]; simp
          have l9 : b9 < W.heap.size := by rw [hW, hb9]; simp
          have hW3 : w3.heap.size ≤ W.heap.size := HB1.out.size
          clear hx
          go_upto_region 13 with fail
          rw [← hW, ← hb9]
          clear hW hb9 d0 d1 HO HB
          have hown := HO1.out
          go_wp2_with (at_builtin; refine wpList_append_own _ rfl _ _ 63 rfl w3.heap.size 2 i0 (.int .i64 0) 1 8 under63 hi hz0 hz1 hz2 rfl (by decide) _ _ _ rfl (hown.alloc _) ⟨W.heap.size, 0, none⟩ 2 2 (flatI [x.1, x.2]) rfl rfl ?c1 ?c2 ?c3 ?c4 ?c5 ?_)
          case c1 => exact newI _ _ _
          case c2 => exact one_int _
          case c3 => unfold maxLen; omega
          case c4 => omega
          case c5 => simp; omega
          intro v8 w8 hown8 hgrow _
          have HB8 := Lib.hid ((HB1.out.alloc hW3 _).grown hgrow (by simp; omega) (fun j hj => (hown.lt j hj).1))
          have n0 : w8.cell? ⟨b9, 0, none⟩ = some (.int .i64 x.1) := hgrow.cell (by rw [World.cell?_alloc_lt _ _ _ l9]; exact e0) (fun e => Nat.lt_irrefl b9 (HOW.out b9 e.symm))
          have n1 : w8.cell? ⟨b9, 1, none⟩ = some (.int .i64 x.2) := hgrow.cell (by rw [World.cell?_alloc_lt _ _ _ l9]; exact e1') (fun e => Nat.lt_irrefl b9 (HOW.out b9 e.symm))
          have l98 : b9 < w8.heap.size := Nat.lt_of_lt_of_le l9 (Nat.le_trans (by simp) hgrow.size)
          have HO8 := Lib.hid (show w8.ownsRow w3.heap.size 2 1 v8 (acc ++ [x.1, x.2]).length (flatI (acc ++ [x.1, x.2])) by rw [flatI_append, List.length_append]; exact hown8)
          have hW8 : w3.heap.size ≤ w8.heap.size := HB8.out.size
          clear hown8 hgrow hown HO1 HB1 e0 e1'
          by_cases hq1 : x.1 < 0
          · by_cases hq2 : 0 < x.2
            · have HQS := Lib.hid (And.intro hq1 hq2)
              have g1 : decide (x.1 < 0) = true := decide_eq_true hq1
              have g2 : decide (0 < x.2) = true := decide_eq_true hq2
              clear hq1 hq2
              have hown := HO8.out
              have hal2 : (acc ++ [x.1, x.2]).length ≤ 100002 := by simp; omega
              go_wp2_with (at_builtin; refine wpList_append_own _ rfl _ _ 63 rfl w3.heap.size 2 i0 (.int .i64 0) 1 8 under63 hi hz0 hz1 hz2 rfl (by decide) _ _ _ rfl (hown.alloc _) ⟨w8.heap.size, 0, none⟩ 1 1 (flatI [1]) rfl rfl ?c1 ?c2 ?c3 ?c4 ?c5 ?_)
              case c1 => exact newI _ _ _
              case c2 => exact one_int _
              case c3 => unfold maxLen; omega
              case c4 => omega
              case c5 => simp; omega
              intro v9 w9 hown9 hgrow _
              have HB9 := Lib.hid ((HB8.out.alloc hW8 _).grown hgrow (by simp; omega) (fun j hj => (hown.lt j hj).1))
              have HO9 := Lib.hid (show w9.ownsRow w3.heap.size 2 1 v9 (rcI M1 ++ rcF (M2.take (k + 1))).length (flatI (rcI M1 ++ rcF (M2.take (k + 1)))) by
                rw [HT.out, show rcF1 x = [x.1, x.2] ++ [1] by unfold rcF1; rw [if_pos HQS.out]; rfl, ← List.append_assoc, flatI_append (acc ++ [x.1, x.2]), show ((acc ++ [x.1, x.2]) ++ [(1 : Int)]).length = acc.length + 2 + 1 by simp]; exact hown9)
              clear hown9 hgrow hown HO8 HB8 HT n0 n1
              go_wp2_with fail
              go_roundw
              case rel => exact ⟨k + 1, _, by go_num, rfl, by omega, HO9, HB9⟩
              case measure => simp [intOf]; omega
            · have g1 : decide (x.1 < 0) = true := decide_eq_true hq1
              have g2 : decide (0 < x.2) = false := decide_eq_false hq2
              have HQS := Lib.hid hq2
              have HO9 := Lib.hid (show w8.ownsRow w3.heap.size 2 1 v8 (rcI M1 ++ rcF (M2.take (k + 1))).length (flatI (rcI M1 ++ rcF (M2.take (k + 1)))) by rw [HT.out]; unfold rcF1; rw [if_neg (by omega)]; exact HO8.out)
              clear HT HO8 HQS
              go_wp2_with fail
              go_roundw
              case rel => exact ⟨k + 1, _, by go_num, rfl, by omega, HO9, HB8⟩
              case measure => simp [intOf]; omega
          · have g1 : decide (x.1 < 0) = false := decide_eq_false hq1
            have HQS := Lib.hid hq1
            have HO9 := Lib.hid (show w8.ownsRow w3.heap.size 2 1 v8 (rcI M1 ++ rcF (M2.take (k + 1))).length (flatI (rcI M1 ++ rcF (M2.take (k + 1)))) by rw [HT.out]; unfold rcF1; rw [if_neg (by omega)]; exact HO8.out)
            clear HT HO8 HQS
            go_wp2_with fail
            go_roundw
            case rel => exact ⟨k + 1, _, by go_num, rfl, by omega, HO9, HB8⟩
            case measure => simp [intOf]; omega
        · obtain rfl : k = M2.length := by omega
          rw [List.take_length] at HO
          have hLn : (rcI M1 ++ rcF M2).length ≤ 100000 := by rw [List.length_append, rcI_len]; have := rcF_len M2; omega
          have HLb := Lib.hid (rc_bd (m := (M1, M2)) HBd1.out HBd2.out)
          (try simp only at HLb)
          obtain ⟨L, hL⟩ : ∃ L, L = rcI M1 ++ rcF M2 := ⟨_, rfl⟩
          rw [← hL] at HO HLe HLb hLn
          obtain ⟨A3, c3, rfl, hrd⟩ := rowI_read HO.out
          have HRd := Lib.hid hrd
          have HBx := Lib.hid (HBE.out.trans (HB.out.mono HBE.out.size))
          clear hrd hL hk HO HB
          obtain ⟨wx, rfl⟩ : ∃ wx, wx = wr := ⟨wr, rfl⟩
          go_wp2_with fail
          go_loopw [10, 11, 69] (fun s10 s11 s69 wr => ∃ (k : Nat) (o : Option Int) (bv : Int) (fb : Bool), s69 = .int .i64 (k : Int) ∧ s10 = .int .i64 bv ∧ s11 = .bool fb ∧ k ≤ L.length ∧ lv o = bv ∧ o.isSome = fb ∧ Hid ((L.take k).foldl lstep none = o) ∧ Hid (Below wx.heap.size wx wr)) (fun _ _ s69 _ => (L.length - intOf s69).toNat)
          case atStart => exact ⟨0, none, _, _, rfl, rfl, rfl, by omega, rfl, rfl, Lib.hid rfl, Lib.hid (Below.refl _ _)⟩
          case round =>
            obtain ⟨k, o, bv, fb, rfl, rfl, rfl, hk, hov, hof, HF, HB⟩ := hrel
            by_cases hlt : k < L.length
            · obtain ⟨b, hA, hbl, d0⟩ := HRd.out k hlt
              subst hA
              rw [← HB.out.cell (p := ⟨b, k, none⟩) hbl] at d0
              have HT := Lib.hid (lstep_snoc L k hlt)
              have hub := HLb.out L[k] (List.getElem_mem hlt)
              have HOb := Lib.hid (fun (b : Int) (h : (L.take k).foldl lstep none = some b) => HLb.out b (List.mem_of_mem_take (lstep_mem _ b h)))
              obtain ⟨u, hu⟩ : ∃ u, u = L[k] := ⟨_, rfl⟩
              rw [← hu] at d0 HT hub
              have hkl : (k : Int) < (L.length : Int) := by omega
              clear hu
              cases o with
              | none =>
                subst hov hof
                have HT2 := Lib.hid (show (L.take (k + 1)).foldl lstep none = some u by rw [HT.out, HF.out, lstep])
                clear HT HF HOb hub
                go_wp2_with fail
                go_roundw
                case rel => exact ⟨k + 1, some u, _, _, by go_num, rfl, rfl, by omega, rfl, rfl, HT2, HB⟩
                case measure => simp [intOf]; omega
              | some b' =>
                have hbb := HOb.out b' HF.out
                have HNr := Lib.hid (fun W => Nearer_any u b' W hub hbb)
                obtain rfl : b' = bv := hov
                obtain rfl : true = fb := hof
                cases hq : nearB u b'
                · have HT2 := Lib.hid (show (L.take (k + 1)).foldl lstep none = some b' from HT.out.trans (by rw [HF.out, lstep, if_neg (by rw [hq]; simp)]))
                  rw [hq] at HNr
                  clear HT HF HOb hub hbb hq
                  go_wp2_with fail
                  refine (HNr.out _).mono ?_
                  rintro e w' ⟨rfl, rfl⟩
                  go_wp2_with fail
                  go_roundw
                  case rel => exact ⟨k + 1, some b', _, _, by go_num, rfl, rfl, by omega, rfl, rfl, HT2, HB⟩
                  case measure => simp [intOf]; omega
                · have HT2 := Lib.hid (show (L.take (k + 1)).foldl lstep none = some u from HT.out.trans (by rw [HF.out, lstep, if_pos hq]))
                  rw [hq] at HNr
                  clear HT HF HOb hub hbb hq
                  go_wp2_with fail
                  refine (HNr.out _).mono ?_
                  rintro e w' ⟨rfl, rfl⟩
                  go_wp2_with fail
                  go_roundw
                  case rel => exact ⟨k + 1, some u, _, _, by go_num, rfl, rfl, by omega, rfl, rfl, HT2, HB⟩
                  case measure => simp [intOf]; omega
            · obtain rfl : k = L.length := by omega
              rw [List.take_length] at HF
              have HR := Lib.hid (show (.returned (.tuple #[.int .i64 bv, .bool fb]) : Ending) = .returned (.tuple #[.int .i64 (lv (leastO s)), .bool (leastO s).isSome]) by rw [← HLe.out, HF.out, hov, hof])
              clear hov hof HF
              go_wp2_with fail
              go_ret2
              exact ⟨HR.out, HBx.out.trans (HB.out.mono HBx.out.size)⟩
end Go.Proofs.Yteekccjfokoglaa
namespace Go.Proofs.Yteekccjfokoglaa
open Go.RowKit Go.Sort Go.Lib Go.Proofs
set_option linter.unusedSimpArgs false
set_option linter.unnecessarySimpa false
set_option linter.unusedVariables false
set_option maxRecDepth 100000 in
set_option maxHeartbeats 1000000 in
theorem rsingle_any (A1 A2 : Option Addr) (c1 c2 : Nat) (s : NS) (w : World) (hN : Ns w A1 c1 A2 c2 s) (hk : okN 1000 s) :
    Calls Try.prog 42 #[nv A1 s.1.length c1 A2 s.2.length c2] w (SingleIs s w) := by
  have hb0 := bal w (.cells #[.slice A1 s.1.length c1, .slice A2 s.2.length c2] 24)
  have HB := Lib.hid hb0
  have HN := Lib.hid hN
  have HK := Lib.hid hk
  have H1 := Lib.hid (rcount_any A1 A2 c1 c2 s _ (hN.up hb0) hk)
  clear hb0 hN hk
  by_cases h1 : countS s = 1
  · have e1 : singV s = lv (leastO s) := by simp [singV, h1]
    have e2 : singB s = (leastO s).isSome := by simp [singB, h1]
    have HE := Lib.hid (And.intro e1 e2)
    rw [h1] at H1
    clear e1 e2 h1
    have t1 : ((1 : Int) != 1) = false := by decide
    go_enter Try.func42, Try.ntmps42
    go_wp2_with fail
    refine H1.out.mono ?_
    rintro e w2 ⟨rfl, hb2⟩
    have a0 : w2.cell? ⟨w.heap.size, 0, none⟩ = some (.slice A1 s.1.length c1) := by rw [hb2.cell (p := ⟨w.heap.size, 0, none⟩) (by show w.heap.size < _; simp)]; simp
    have a1 : w2.cell? ⟨w.heap.size, 1, none⟩ = some (.slice A2 s.2.length c2) := by rw [hb2.cell (p := ⟨w.heap.size, 1, none⟩) (by show w.heap.size < _; simp)]; simp
    have HB2 := Lib.hid (HB.out.trans (hb2.mono HB.out.size))
    clear hb2
    go_wp2_with fail
    refine (rleast_any A1 A2 c1 c2 s w2 (HN.out.up HB2.out) HK.out).mono ?_
    rintro e w3 ⟨rfl, hb3⟩
    have HB3 := Lib.hid (HB2.out.trans (hb3.mono HB2.out.size))
    clear hb3 a0 a1
    go_wp2_with fail
    refine bodyPost_ret (results_tmp2 rfl _ _ _) rfl ⟨?_, HB3.out⟩
    rw [HE.out.1, HE.out.2]; rfl
  · have e1 : singV s = 0 := by simp [singV, h1]
    have e2 : singB s = false := by simp [singB, h1]
    have HE := Lib.hid (And.intro e1 e2)
    have t1 : (countS s != 1) = true := by simp [h1]
    generalize countS s = n at *
    clear e1 e2 h1
    go_enter Try.func42, Try.ntmps42
    go_wp2_with fail
    refine H1.out.mono ?_
    rintro e w2 ⟨rfl, hb2⟩
    have HB2 := Lib.hid (HB.out.trans (hb2.mono HB.out.size))
    clear hb2
    go_wp2_with fail
    refine bodyPost_ret (results_tmp2 rfl _ _ _) rfl ⟨?_, HB2.out⟩
    rw [HE.out.1, HE.out.2]; rfl
set_option maxRecDepth 100000 in
set_option maxHeartbeats 2000000 in
theorem rcompare_any (A1 A2 B1 B2 : Option Addr) (c1 c2 d1 d2 : Nat) (s t : NS) (w : World) (hN : Ns w A1 c1 A2 c2 s) (hM : Ns w B1 d1 B2 d2 t) (hk : okN 100 s) (hj : okN 100 t) :
    Calls Try.prog 46 #[nv A1 s.1.length c1 A2 s.2.length c2, nv B1 t.1.length d1 B2 t.2.length d2] w (NumIs (cmpS s t) w) := by
  obtain ⟨w1, hw1⟩ : ∃ w1, w1 = (w.alloc (.cells #[.slice A1 s.1.length c1, .slice A2 s.2.length c2] 24)).alloc (.cells #[.slice B1 t.1.length d1, .slice B2 t.2.length d2] 24) := ⟨_, rfl⟩
  have hb0 : Below w.heap.size w w1 := by rw [hw1]; exact ((Below.refl _ _).alloc (Nat.le_refl _) _).alloc (by simp) _
  have a0 : w1.cell? ⟨w.heap.size, 0, none⟩ = some (.slice A1 s.1.length c1) := by rw [hw1]; simp
  have a1 : w1.cell? ⟨w.heap.size, 1, none⟩ = some (.slice A2 s.2.length c2) := by rw [hw1]; simp
  have a2 : w1.cell? ⟨w.heap.size + 1, 0, none⟩ = some (.slice B1 t.1.length d1) := by rw [hw1]; simp
  have a3 : w1.cell? ⟨w.heap.size + 1, 1, none⟩ = some (.slice B2 t.2.length d2) := by rw [hw1]; simp
  have l0 : w.heap.size + 1 < w1.heap.size := by rw [hw1]; simp
  have KP := Lib.hid (show ∀ W : World, Below w1.heap.size w1 W → W.cell? ⟨w.heap.size, 0, none⟩ = some (.slice A1 s.1.length c1) ∧ W.cell? ⟨w.heap.size, 1, none⟩ = some (.slice A2 s.2.length c2) ∧ W.cell? ⟨w.heap.size + 1, 0, none⟩ = some (.slice B1 t.1.length d1) ∧ W.cell? ⟨w.heap.size + 1, 1, none⟩ = some (.slice B2 t.2.length d2) ∧ Below w1.heap.size w1 W from fun W hb => ⟨(hb.cell (p := ⟨w.heap.size, 0, none⟩) (by show w.heap.size < _; omega)).trans a0, (hb.cell (p := ⟨w.heap.size, 1, none⟩) (by show w.heap.size < _; omega)).trans a1, (hb.cell (p := ⟨w.heap.size + 1, 0, none⟩) l0).trans a2, (hb.cell (p := ⟨w.heap.size + 1, 1, none⟩) l0).trans a3, hb⟩)
  have HMs := Lib.hid (hN.up hb0)
  have HMt := Lib.hid (hM.up hb0)
  have HB0 := Lib.hid hb0
  have HC1 := Lib.hid (show ∀ W : World, Ns W A1 c1 A2 c2 s → Ns W B1 d1 B2 d2 t → Calls Try.prog 32 #[nv A1 s.1.length c1 A2 s.2.length c2, nv B1 t.1.length d1 B2 t.2.length d2] W (GivesN (minus s t) W) from fun W h k => rminus_any A1 A2 B1 B2 c1 c2 d1 d2 s t W h k (hk.le (by omega)) (hj.le (by omega)))
  have HC2 := Lib.hid (show ∀ W : World, Ns W B1 d1 B2 d2 t → Ns W A1 c1 A2 c2 s → Calls Try.prog 32 #[nv B1 t.1.length d1 B2 t.2.length d2, nv A1 s.1.length c1 A2 s.2.length c2] W (GivesN (minus t s) W) from fun W h k => rminus_any B1 B2 A1 A2 d1 d2 c1 c2 t s W h k (hj.le (by omega)) (hk.le (by omega)))
  have HC3 := Lib.hid (show ∀ (W : World) F1 f1 F2 f2 G1 g1 G2 g2, Ns W F1 f1 F2 f2 (minus s t) → Ns W G1 g1 G2 g2 (minus t s) → Calls Try.prog 28 #[nv F1 (minus s t).1.length f1 F2 (minus s t).2.length f2, nv G1 (minus t s).1.length g1 G2 (minus t s).2.length g2] W (GivesN (orr (minus s t) (minus t s)) W) from fun W F1 f1 F2 f2 G1 g1 G2 g2 h k => ror_any F1 F2 G1 G2 f1 f2 g1 g2 (minus s t) (minus t s) W h k ((minus_ok hk hj).le (by omega)) ((minus_ok hj hk).le (by omega)))
  clear a0 a1 a2 a3 l0 hb0 hN hM
  rcases cmp_least s t with ⟨hle, hcm⟩ | ⟨u, hle, hv, ⟨hh, hcm⟩ | ⟨hh, hcm⟩⟩
  · have HE := Lib.hid hcm
    have HC4 := Lib.hid (show ∀ (W : World) F1 f1 F2 f2, Ns W F1 f1 F2 f2 (orr (minus s t) (minus t s)) → Calls Try.prog 40 #[nv F1 (orr (minus s t) (minus t s)).1.length f1 F2 (orr (minus s t) (minus t s)).2.length f2] W (fun e w' => e = .returned (.tuple #[.int .i64 0, .bool false]) ∧ Below W.heap.size W w') from fun W F1 f1 F2 f2 h => by
      have h := rleast_any F1 F2 f1 f2 (orr (minus s t) (minus t s)) W h ((or_ok (minus_ok hk hj) (minus_ok hj hk)).le (by omega)); unfold LeastIs at h; rw [hle] at h; exact h)
    clear hle hcm hk hj
    go_enter Try.func46, Try.ntmps46
    go_wp2_with fail
    rw [← hw1]
    clear hw1
    have b0 : Below w1.heap.size w1 w1.drew := drewB w1
    go_region_held3 (fun w' => w'.cell? ⟨w.heap.size, 0, none⟩ = some (.slice A1 s.1.length c1) ∧ w'.cell? ⟨w.heap.size, 1, none⟩ = some (.slice A2 s.2.length c2) ∧ w'.cell? ⟨w.heap.size + 1, 0, none⟩ = some (.slice B1 t.1.length d1) ∧ w'.cell? ⟨w.heap.size + 1, 1, none⟩ = some (.slice B2 t.2.length d2) ∧ Below w1.heap.size w1 w')
      (first | assumption | exact KP.out _ (Below.refl _ _) | exact KP.out _ b4 | exact KP.out _ b3 | exact KP.out _ b2 | exact KP.out _ b1 | exact KP.out _ b0)
      (first
        | (go_at_call 40; (with_reducible refine (HC4.out _ _ _ _ _ nU).mono ?_); rintro e v4 ⟨rfl, hb4⟩; have b4 : Below w1.heap.size w1 v4 := b3.trans (hb4.mono b3.size))
        | (go_at_call 28; (with_reducible refine (HC3.out _ _ _ _ _ _ _ _ _ (nP.up hb2) nQ).mono ?_); rintro e v3 ⟨U1, u1, U2, u2, rfl, ⟨nU, _, _⟩, hb3⟩; have b3 : Below w1.heap.size w1 v3 := b2.trans (hb3.mono b2.size))
        | (go_at_call 32; (with_reducible refine (HC2.out _ (HMt.out.up b1) (HMs.out.up b1)).mono ?_); rintro e v2 ⟨Q1, q1, Q2, q2, rfl, ⟨nQ, _, _⟩, hb2⟩; have b2 : Below w1.heap.size w1 v2 := b1.trans (hb2.mono b1.size))
        | (go_at_call 32; (with_reducible refine (HC1.out _ (HMs.out.up b0) (HMt.out.up b0)).mono ?_); rintro e v1 ⟨P1, p1, P2, p2, rfl, ⟨nP, _, _⟩, hb1⟩; have b1 : Below w1.heap.size w1 v1 := b0.trans (hb1.mono b0.size)))
    all_goals
      obtain ⟨k0, k1, _, _, _⟩ := KP.out _ b4
      have HB4 := Lib.hid b4
      clear b0 b1 b2 b3 b4 hb1 hb2 hb3 hb4
      go_wp2_with fail
      go_ret
      exact ⟨ret_int HE.out.symm, HB0.out.trans (HB4.out.mono HB0.out.size)⟩
  · have HE := Lib.hid hcm
    have HHs := Lib.hid (show ∀ W : World, Ns W A1 c1 A2 c2 s → Calls Try.prog 20 #[nv A1 s.1.length c1 A2 s.2.length c2, .int .i64 u] W (EqIs true W) from fun W h => by
      have h := rhas_any A1 A2 c1 c2 s u W h (hk.le (by omega)) (by have := (vld_iff u).1 hv; unfold i64ok; omega); rw [hh] at h; exact h)
    have HC4 := Lib.hid (show ∀ (W : World) F1 f1 F2 f2, Ns W F1 f1 F2 f2 (orr (minus s t) (minus t s)) → Calls Try.prog 40 #[nv F1 (orr (minus s t) (minus t s)).1.length f1 F2 (orr (minus s t) (minus t s)).2.length f2] W (fun e w' => e = .returned (.tuple #[.int .i64 u, .bool true]) ∧ Below W.heap.size W w') from fun W F1 f1 F2 f2 h => by
      have h := rleast_any F1 F2 f1 f2 (orr (minus s t) (minus t s)) W h ((or_ok (minus_ok hk hj) (minus_ok hj hk)).le (by omega)); unfold LeastIs at h; rw [hle] at h; exact h)
    clear hle hcm hk hj hv hh
    go_enter Try.func46, Try.ntmps46
    go_wp2_with fail
    rw [← hw1]
    clear hw1
    have b0 : Below w1.heap.size w1 w1.drew := drewB w1
    go_region_held3 (fun w' => w'.cell? ⟨w.heap.size, 0, none⟩ = some (.slice A1 s.1.length c1) ∧ w'.cell? ⟨w.heap.size, 1, none⟩ = some (.slice A2 s.2.length c2) ∧ w'.cell? ⟨w.heap.size + 1, 0, none⟩ = some (.slice B1 t.1.length d1) ∧ w'.cell? ⟨w.heap.size + 1, 1, none⟩ = some (.slice B2 t.2.length d2) ∧ Below w1.heap.size w1 w')
      (first | assumption | exact KP.out _ (Below.refl _ _) | exact KP.out _ b4 | exact KP.out _ b3 | exact KP.out _ b2 | exact KP.out _ b1 | exact KP.out _ b0)
      (first
        | (go_at_call 40; (with_reducible refine (HC4.out _ _ _ _ _ nU).mono ?_); rintro e v4 ⟨rfl, hb4⟩; have b4 : Below w1.heap.size w1 v4 := b3.trans (hb4.mono b3.size))
        | (go_at_call 28; (with_reducible refine (HC3.out _ _ _ _ _ _ _ _ _ (nP.up hb2) nQ).mono ?_); rintro e v3 ⟨U1, u1, U2, u2, rfl, ⟨nU, _, _⟩, hb3⟩; have b3 : Below w1.heap.size w1 v3 := b2.trans (hb3.mono b2.size))
        | (go_at_call 32; (with_reducible refine (HC2.out _ (HMt.out.up b1) (HMs.out.up b1)).mono ?_); rintro e v2 ⟨Q1, q1, Q2, q2, rfl, ⟨nQ, _, _⟩, hb2⟩; have b2 : Below w1.heap.size w1 v2 := b1.trans (hb2.mono b1.size))
        | (go_at_call 32; (with_reducible refine (HC1.out _ (HMs.out.up b0) (HMt.out.up b0)).mono ?_); rintro e v1 ⟨P1, p1, P2, p2, rfl, ⟨nP, _, _⟩, hb1⟩; have b1 : Below w1.heap.size w1 v1 := b0.trans (hb1.mono b0.size)))
    all_goals
      obtain ⟨k0, k1, _, _, _⟩ := KP.out _ b4
      have HB4 := Lib.hid b4
      clear b0 b1 b2 b3 b4 hb1 hb2 hb3 hb4
      go_wp2_with fail
      refine (HHs.out _ (HMs.out.up HB4.out)).mono ?_
      rintro e v5 ⟨rfl, hb5⟩
      have HB5 := Lib.hid (HB4.out.trans (hb5.mono HB4.out.size))
      clear hb5
      go_wp2_with fail
      go_ret
      exact ⟨ret_int HE.out.symm, HB0.out.trans (HB5.out.mono HB0.out.size)⟩
  · have HE := Lib.hid hcm
    have HHs := Lib.hid (show ∀ W : World, Ns W A1 c1 A2 c2 s → Calls Try.prog 20 #[nv A1 s.1.length c1 A2 s.2.length c2, .int .i64 u] W (EqIs false W) from fun W h => by
      have h := rhas_any A1 A2 c1 c2 s u W h (hk.le (by omega)) (by have := (vld_iff u).1 hv; unfold i64ok; omega); rw [hh] at h; exact h)
    have HC4 := Lib.hid (show ∀ (W : World) F1 f1 F2 f2, Ns W F1 f1 F2 f2 (orr (minus s t) (minus t s)) → Calls Try.prog 40 #[nv F1 (orr (minus s t) (minus t s)).1.length f1 F2 (orr (minus s t) (minus t s)).2.length f2] W (fun e w' => e = .returned (.tuple #[.int .i64 u, .bool true]) ∧ Below W.heap.size W w') from fun W F1 f1 F2 f2 h => by
      have h := rleast_any F1 F2 f1 f2 (orr (minus s t) (minus t s)) W h ((or_ok (minus_ok hk hj) (minus_ok hj hk)).le (by omega)); unfold LeastIs at h; rw [hle] at h; exact h)
    clear hle hcm hk hj hv hh
    go_enter Try.func46, Try.ntmps46
    go_wp2_with fail
    rw [← hw1]
    clear hw1
    have b0 : Below w1.heap.size w1 w1.drew := drewB w1
    go_region_held3 (fun w' => w'.cell? ⟨w.heap.size, 0, none⟩ = some (.slice A1 s.1.length c1) ∧ w'.cell? ⟨w.heap.size, 1, none⟩ = some (.slice A2 s.2.length c2) ∧ w'.cell? ⟨w.heap.size + 1, 0, none⟩ = some (.slice B1 t.1.length d1) ∧ w'.cell? ⟨w.heap.size + 1, 1, none⟩ = some (.slice B2 t.2.length d2) ∧ Below w1.heap.size w1 w')
      (first | assumption | exact KP.out _ (Below.refl _ _) | exact KP.out _ b4 | exact KP.out _ b3 | exact KP.out _ b2 | exact KP.out _ b1 | exact KP.out _ b0)
      (first
        | (go_at_call 40; (with_reducible refine (HC4.out _ _ _ _ _ nU).mono ?_); rintro e v4 ⟨rfl, hb4⟩; have b4 : Below w1.heap.size w1 v4 := b3.trans (hb4.mono b3.size))
        | (go_at_call 28; (with_reducible refine (HC3.out _ _ _ _ _ _ _ _ _ (nP.up hb2) nQ).mono ?_); rintro e v3 ⟨U1, u1, U2, u2, rfl, ⟨nU, _, _⟩, hb3⟩; have b3 : Below w1.heap.size w1 v3 := b2.trans (hb3.mono b2.size))
        | (go_at_call 32; (with_reducible refine (HC2.out _ (HMt.out.up b1) (HMs.out.up b1)).mono ?_); rintro e v2 ⟨Q1, q1, Q2, q2, rfl, ⟨nQ, _, _⟩, hb2⟩; have b2 : Below w1.heap.size w1 v2 := b1.trans (hb2.mono b1.size))
        | (go_at_call 32; (with_reducible refine (HC1.out _ (HMs.out.up b0) (HMt.out.up b0)).mono ?_); rintro e v1 ⟨P1, p1, P2, p2, rfl, ⟨nP, _, _⟩, hb1⟩; have b1 : Below w1.heap.size w1 v1 := b0.trans (hb1.mono b0.size)))
    all_goals
      obtain ⟨k0, k1, _, _, _⟩ := KP.out _ b4
      have HB4 := Lib.hid b4
      clear b0 b1 b2 b3 b4 hb1 hb2 hb3 hb4
      go_wp2_with fail
      refine (HHs.out _ (HMs.out.up HB4.out)).mono ?_
      rintro e v5 ⟨rfl, hb5⟩
      have HB5 := Lib.hid (HB4.out.trans (hb5.mono HB4.out.size))
      clear hb5
      go_wp2_with fail
      go_ret
      exact ⟨ret_int HE.out.symm, HB0.out.trans (HB5.out.mono HB0.out.size)⟩
end Go.Proofs.Yteekccjfokoglaa
