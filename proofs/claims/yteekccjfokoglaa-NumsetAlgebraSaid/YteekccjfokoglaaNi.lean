/-
  The specification's gaps. Condition: at most 100000 spans, all ends between -10^15 and 10^15.
-/
import Derived.Test.YteekccjfokoglaaNm
namespace Go.Proofs.Yteekccjfokoglaa
open Go.RowKit Go.Sort Go.Lib Go.Proofs
set_option linter.unusedSimpArgs false
set_option linter.unnecessarySimpa false
set_option linter.unusedVariables false
theorem rg_at {hi lo : Int} {l : List Sp} {k : Nat} (h : k < l.length) : rg hi lo (l.drop k) = if lo < l[k].1 then (lo, l[k].1 - 1) :: rg hi (l[k].2 + 1) (l.drop (k + 1)) else rg hi (l[k].2 + 1) (l.drop (k + 1)) := by
  rw [List.drop_eq_getElem_cons h, rg]
set_option maxRecDepth 100000 in
set_option maxHeartbeats 2000000 in
theorem rgaps_any (A : Option Addr) (c : Nat) (l : List Sp) (lo0 hi : Int) (w : World) (hR : Re w w.heap.size A l) (hl : l.length ≤ 100000) (hb : ∀ x ∈ l, bd15 x) (h1 : -1000000000000001 ≤ lo0) (h2 : lo0 ≤ 1000000000000001) (h3 : -1000000000000001 ≤ hi) (h4 : hi ≤ 1000000000000001) :
    Calls Try.prog 64 #[.slice A l.length c, .int .i64 lo0, .int .i64 hi] w (Gives (rg hi lo0 l) w) := by
  have HR := Lib.hid hR
  have HL := Lib.hid hb
  have HS := Lib.hid (show ([] : List Sp) ++ rg hi lo0 (l.drop 0) = rg hi lo0 l by simp)
  clear hR hb
  go_enter Try.func64, Try.ntmps64
  go_wp2_with fail
  go_loopw [1, 7, 12] (fun s1 s7 s12 wr => ∃ (k : Nat) (lo : Int) (acc : List Sp) (v : Value), s12 = .int .i64 (k : Int) ∧ s1 = .int .i64 lo ∧ s7 = v ∧ k ≤ l.length ∧ acc.length ≤ k ∧ -1000000000000001 ≤ lo ∧ lo ≤ 1000000000000001 ∧ Hid (acc ++ rg hi lo (l.drop k) = rg hi lo0 l) ∧ Hid (wr.ownsRow w.heap.size 46 2 v acc.length (flat acc)) ∧ Hid (Below w.heap.size w wr)) (fun _ _ s12 _ => (l.length - intOf s12).toNat)
  case atStart => exact ⟨0, lo0, [], _, rfl, rfl, rfl, by omega, by simp, h1, h2, HS, Lib.hid (World.ownsRow_nil _ _ _ _), Lib.hid (Below.refl _ _)⟩
  case round =>
    obtain ⟨i0, hi0, hz0, hz1, hz2⟩ := info_parts info46
    obtain ⟨k, lo, acc, v, rfl, rfl, rfl, hk, hacl, b1, b2, HE, HO, HB⟩ := hrel
    clear HS
    by_cases hlt : k < l.length
    · obtain ⟨b, o, hA, hbl, d0, d1⟩ := HR.out.at_ k hlt
      subst hA
      rw [← HB.out.cell (p := ⟨b, o + k * 2, none⟩) hbl] at d0
      rw [← HB.out.cell (p := ⟨b, o + k * 2 + 1, none⟩) hbl] at d1
      have HT := Lib.hid (rg_at (hi := hi) (lo := lo) hlt)
      have hbx := HL.out l[k] (List.getElem_mem hlt)
      obtain ⟨x, hx⟩ : ∃ x, x = l[k] := ⟨_, rfl⟩
      rw [← hx] at d0 d1 HT hbx
      unfold bd15 at hbx
      have hkl : (k : Int) < (l.length : Int) := by omega
      have hwr : w.heap.size ≤ wr.heap.size := HB.out.size
      obtain ⟨W, hW⟩ : ∃ W, W = wr.alloc (.cells #[.int .i64 x.1, .int .i64 x.2] 46) := ⟨_, rfl⟩
      obtain ⟨b9, hb9⟩ : ∃ b9, b9 = wr.heap.size := ⟨_, rfl⟩
      have HO1 := Lib.hid (show W.ownsRow w.heap.size 46 2 u7 acc.length (flat acc) by rw [hW]; exact HO.out.alloc _)
      have HOW := Lib.hid (show ∀ j, u7.ownBlock = some j → j < b9 from fun j hj => by rw [hb9]; exact (HO.out.lt j hj).2)
      have HB1 := Lib.hid (show Below w.heap.size w W by rw [hW]; exact HB.out.alloc hwr _)
      have e0 : W.cell? ⟨b9, 0, none⟩ = some (.int .i64 x.1) := by rw [hW, hb9]; simp
      have e1 : W.cell? ⟨b9, 1, none⟩ = some (.int .i64 x.2) := by rw [hW, hb9]; simp
      have l9 : b9 < W.heap.size := by rw [hW, hb9]; simp
      have hW3 : w.heap.size ≤ W.heap.size := HB1.out.size
      have xw1 : IntKind.i64.wrap (x.1 - 1) = x.1 - 1 := IntWalk.i64_in _ (by omega)
      have xw2 : IntKind.i64.wrap (x.2 + 1) = x.2 + 1 := IntWalk.i64_in _ (by omega)
      clear hx
      go_upto_region 5 with fail
      rw [← hW, ← hb9]
      clear hW hb9 d0 d1 HO HB
      by_cases hlo : lo < x.1
      · have g1 : decide (lo < x.1) = true := decide_eq_true hlo
        have HE2 := Lib.hid (show (acc ++ [(lo, x.1 - 1)]) ++ rg hi (x.2 + 1) (l.drop (k + 1)) = rg hi lo0 l by
          rw [← HE.out, HT.out, if_pos hlo]; simp)
        have hown := HO1.out
        clear HE HT hlo
        go_wp2_with (at_builtin; refine wpList_append_own _ rfl _ _ 22 rfl w.heap.size 46 i0 (.agg #[.int .i64 0, .int .i64 0]) 2 16 Try.underlying22 hi0 hz0 hz1 hz2 rfl (by decide) _ _ _ rfl (hown.alloc _) ⟨W.heap.size, 0, none⟩ 1 1 [.int .i64 lo, .int .i64 (x.1 - 1)] rfl rfl ?c1 ?c2 ?c3 ?c4 ?c5 ?_)
        case c1 => exact new2 _ _ _ _
        case c2 => exact one2 _ _
        case c3 => unfold maxLen; omega
        case c4 => omega
        case c5 => simp; omega
        intro v8 w8 hown8 hgrow _
        have HO8 := Lib.hid (show w8.ownsRow w.heap.size 46 2 v8 (acc ++ [(lo, x.1 - 1)]).length (flat (acc ++ [(lo, x.1 - 1)])) by rw [flat_append, List.length_append]; exact hown8)
        have HB8 := Lib.hid ((HB1.out.alloc hW3 _).grown hgrow (by simp; omega) (fun j hj => (hown.lt j hj).1))
        have n1 : w8.cell? ⟨b9, 1, none⟩ = some (.int .i64 x.2) := hgrow.cell (by rw [World.cell?_alloc_lt _ _ _ l9]; exact e1) (fun e => Nat.lt_irrefl b9 (HOW.out b9 e.symm))
        have hal2 : (acc ++ [(lo, x.1 - 1)]).length ≤ k + 1 := by simp; omega
        clear hown8 hgrow hown HO1 HB1 e0 e1
        go_wp2_with fail
        go_roundw
        case rel => exact ⟨k + 1, x.2 + 1, _, _, by go_num, rfl, rfl, by omega, hal2, by omega, by omega, HE2, HO8, HB8⟩
        case measure => simp [intOf]; omega
      · have g1 : decide (lo < x.1) = false := decide_eq_false hlo
        have HE2 := Lib.hid (show acc ++ rg hi (x.2 + 1) (l.drop (k + 1)) = rg hi lo0 l by
          rw [← HE.out, HT.out, if_neg hlo])
        clear HE HT hlo
        go_wp2_with fail
        go_roundw
        case rel => exact ⟨k + 1, x.2 + 1, _, _, by go_num, rfl, rfl, by omega, by omega, by omega, by omega, HE2, HO1, HB1⟩
        case measure => simp [intOf]; omega
    · obtain rfl : k = l.length := by omega
      rw [List.drop_length, rg] at HE
      have hown := HO.out
      have hwr : w.heap.size ≤ wr.heap.size := HB.out.size
      by_cases hlo : lo ≤ hi
      · have g1 : decide (lo ≤ hi) = true := decide_eq_true hlo
        rw [if_pos hlo] at HE
        clear hlo
        go_wp2_with (at_builtin; refine wpList_append_own _ rfl _ _ 22 rfl w.heap.size 46 i0 (.agg #[.int .i64 0, .int .i64 0]) 2 16 Try.underlying22 hi0 hz0 hz1 hz2 rfl (by decide) _ _ _ rfl (hown.alloc _) ⟨wr.heap.size, 0, none⟩ 1 1 [.int .i64 lo, .int .i64 hi] rfl rfl ?c1 ?c2 ?c3 ?c4 ?c5 ?_)
        case c1 => exact new2 _ _ _ _
        case c2 => exact one2 _ _
        case c3 => unfold maxLen; omega
        case c4 => omega
        case c5 => simp; omega
        intro v8 w8 hown8 hgrow _
        have HO8 := Lib.hid (show w8.ownsRow w.heap.size 46 2 v8 (rg hi lo0 l).length (flat (rg hi lo0 l)) by rw [← HE.out, flat_append, List.length_append]; exact hown8)
        have HB8 := Lib.hid ((HB.out.alloc hwr _).grown hgrow (by simp; omega) (fun j hj => (hown.lt j hj).1))
        clear hown8 hgrow hown HO HB HE
        go_wp2_with fail
        go_ret
        exact rn_gives ⟨_, rfl, HO8.out, HB8.out⟩
      · have g1 : decide (lo ≤ hi) = false := decide_eq_false hlo
        rw [if_neg hlo, List.append_nil] at HE
        have HO8 := Lib.hid (show wr.ownsRow w.heap.size 46 2 u7 (rg hi lo0 l).length (flat (rg hi lo0 l)) by rw [← HE.out]; exact hown)
        clear hlo hown HE
        go_wp2_with fail
        go_ret
        exact rn_gives ⟨_, rfl, HO8.out, HB.out⟩
end Go.Proofs.Yteekccjfokoglaa
