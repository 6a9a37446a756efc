import Derived.Test.YtmkmbpiaolmncaaDoorRef2
import Derived.Test.YtmkmbpiaolmncaaDoorRngM
import Derived.Lib.SmallJoins
namespace Go.Proofs.YtmkmbpiaolmncaaDoor
open Go.RowKit

theorem hasb_at (s : BS) (k : Nat) (hk : k < 256) (v : Bool) (h : s.getLsbD k = v) (w : World) :
    Calls Tryd.prog 15 #[st s, .int .u8 (k : Int)] w fun e w' => e = .returned (.bool v) ∧ Below w.heap.size w w' :=
  (has_any s k (by omega) (by omega) w).mono fun _ _ ⟨he, hb⟩ => ⟨by rw [he, Int.toNat_natCast, h], hb⟩

theorem Tryd.info43 : (Tryd.prog.info? 43).map (fun i => (i.zero, i.size, i.bytes)) = some (some (.agg #[.int .u8 0, .int .u8 0]), 2, 2) := by kernel_rfl

theorem own_below {B : Nat} {e : TypeId} {k : Nat} {v : Value} {n : Nat} {xs : List Value} {w w' : World} (h : w.ownsRow B e k v n xs) (hb : Below w.heap.size w w') : w'.ownsRow B e k v n xs := by
  refine ⟨h.1, ?_⟩
  rcases h.2 with h' | ⟨g, cap, cur, hv, hbg, hg, r⟩
  · exact .inl h'
  · have hlt : g < w.heap.size := by
      rcases Nat.lt_or_ge g w.heap.size with h1 | h1
      · exact h1
      · rw [Array.getElem?_eq_none h1] at hg; cases hg
    exact .inr ⟨g, cap, cur, hv, hbg, by rw [hb.block g hlt]; exact hg, r⟩

theorem cells_new2 (w : World) (x y : Value) (T : TypeId) : ∀ j u, [x, y][j]? = some u → (w.alloc (.cells #[x, y] T)).cell? ((⟨w.heap.size, 0, none⟩ : Addr).add j) = some u := by
  intro j u h
  rw [show (⟨w.heap.size, 0, none⟩ : Addr).add j = ⟨w.heap.size, j, none⟩ by simp [Addr.add]; exact fun e => e.symm, World.cell?_alloc_new]
  simpa using h

set_option maxRecDepth 100000 in
set_option maxHeartbeats 2000000 in
theorem ranges_any (s : BS) (w : World) :
    Calls Tryd.prog 26 #[st s] w fun e w' => ∃ v, e = .returned v ∧ w'.ownsRow (w.heap.size + 1) 43 2 v (rr s 256).length (flat (rr s 256)) ∧ Below w.heap.size w w' := by
  obtain ⟨i0, hi, hz0, hz1, hz2⟩ := info_parts Tryd.info43
  unfold st
  go_enter Tryd.func26, Tryd.ntmps26
  go_wp2
  go_loopw [3, 4, 8] (fun v ins i wr => ∃ k : Nat, i = .int .i64 (k : Int) ∧ k ≤ 256 ∧ ins = .bool (inb s k) ∧ wr.ownsRow (w.heap.size + 1) 43 2 v (rr s k).length (flat (rr s k)) ∧ Below w.heap.size w wr ∧ Row4 wr w.heap.size s) (fun _ _ i _ => (256 - intOf i).toNat)
  case atStart =>
    refine ⟨0, rfl, by omega, rfl, World.ownsRow_nil _ _ _ _, (Below.refl _ _).alloc (Nat.le_refl _) _, ?_⟩
    refine ⟨by simp <;> omega, ?_, ?_, ?_, ?_, ?_, ?_, ?_, ?_⟩ <;> first | (go_simp; done)
  case round =>
    obtain ⟨k, rfl, hk, rfl, hown, hb, ra⟩ := hrel
    obtain ⟨za, a0, a1, a2, a3, fa0, fa1, fa2, fa3⟩ := id ra
    by_cases hlt : k < 256
    · cases hh : s.getLsbD k
      · have Hh := Lib.hid hh
        clear hh
        go_wp2_with fail
        refine (hasb_at s k hlt false Hh.out _).mono ?_
        rintro e w1 ⟨rfl, hb1⟩
        have hown1 := own_below hown hb1
        replace ra := ra.below hb1 ra.size
        replace hb := hb.trans (hb1.mono hb.size)
        go_wp2_with fail
        go_roundw
        case rel => exact ⟨k + 1, by go_num, by omega, by simp [inb, Hh.out], by simp only [rr, Hh.out]; exact hown1, hb, ra⟩
        case measure => simp [intOf]; omega
      · have Hh := Lib.hid hh
        clear hh
        cases hin : inb s k
        · have Hin := Lib.hid hin
          clear hin
          go_wp2_with fail
          refine (hasb_at s k hlt true Hh.out _).mono ?_
          rintro e w1 ⟨rfl, hb1⟩
          have hown1 := own_below hown hb1
          replace ra := ra.below hb1 ra.size
          replace hb := hb.trans (hb1.mono hb.size)
          have hsz : w.heap.size + 1 ≤ w1.heap.size := by have := ra.size; omega
          have hln := rr_len s k
          clear hown hb1 za a0 a1 a2 a3 fa0 fa1 fa2 fa3
          go_wp2_with (at_builtin; refine wpList_append_own _ rfl _ _ 39 rfl (w.heap.size + 1) 43 i0 (.agg #[.int .u8 0, .int .u8 0]) 2 2 Tryd.underlying39 hi hz0 hz1 hz2 rfl (by decide) _ _ _ rfl (hown1.alloc _) ⟨w1.heap.size, 0, none⟩ 1 1 [.int .u8 (k : Int), .int .u8 (k : Int)] rfl rfl ?c1 ?c2 ?c3 ?c4 ?c5 ?_)
          case c1 => exact cells_new2 _ _ _ _
          case c2 => intro u hu; simp at hu; subst hu; rfl
          case c3 => unfold maxLen; omega
          case c4 => omega
          case c5 => simp; omega
          intro v' w2 hown2 hgrow _
          have hrow := fun j hj => (hown1.lt j hj).1
          have hB2 : Below w.heap.size w w2 := (hb.alloc (by omega) _).grown hgrow (by simp; omega) (fun j hj => by have := hrow j hj; omega)
          have ra2 : Row4 w2 w.heap.size s := ra.below (N := w.heap.size + 1) (((Below.refl _ _).alloc hsz _).grown hgrow (by simp; omega) hrow) (by omega)
          clear hgrow hown1 hrow
          go_wp2_with fail
          go_roundw
          case rel => exact ⟨k + 1, by go_num, by omega, by simp [inb, Hh.out], by simp only [rr, Hh.out, Hin.out, if_true, Bool.false_eq_true, if_false]; rw [flat_cons]; exact hown2, hB2, ra2⟩
          case measure => simp [intOf]; omega
        · have Hin := Lib.hid hin
          clear hin
          obtain ⟨p, t, ept⟩ := rr_ne Hin.out
          have Hpt := Lib.hid ept
          rw [ept] at hown
          have htl : t.length + 1 ≤ 256 := by have := rr_len s k; rw [ept] at this; simp at this; omega
          obtain ⟨g, cap, hv⟩ := Joins.ownsRow_form hown (by simp)
          subst hv
          clear ept
          go_wp2_with fail
          refine (hasb_at s k hlt true Hh.out _).mono ?_
          rintro e w1 ⟨rfl, hb1⟩
          have hown1 := own_below hown hb1
          replace ra := ra.below hb1 ra.size
          replace hb := hb.trans (hb1.mono hb.size)
          have hg := (hown1.lt g rfl).1
          have hc1 : w1.cell? ⟨g, t.length * 2 + 1, none⟩ = some (.int .u8 (p.2 : Int)) := by
            rw [hown1.cellAt _ (by simp; omega), flat_cons, List.getElem?_append_right (by rw [flat_length]; omega), flat_length]
            simp [pv]
          have hf1 := hown1.frozenAt (t.length * 2 + 1)
          obtain ⟨hown2, hgr⟩ := hown1.stored (t.length * 2 + 1) (.int .u8 (k : Int))
          rw [flat_upd] at hown2
          have Hown2 := Lib.hid hown2
          have Hgr := Lib.hid hgr
          clear hown hb1 za a0 a1 a2 a3 fa0 fa1 fa2 fa3 hown1 hown2 hgr
          go_wp2_with fail
          go_roundw
          case rel =>
            refine ⟨k + 1, by go_num, by omega, by simp [inb, Hh.out], ?_, hb.setCell (by simp; omega) _, ra.below (N := w.heap.size + 1) ((Below.refl _ _).setCell (by simpa using hg) _) (by omega)⟩
            simp only [rr, Hh.out, Hin.out, if_true, Hpt.out]
            simpa [upd] using Hown2.out
          case measure => simp [intOf]; omega
    · go_wp2_with fail
      obtain rfl : k = 256 := by omega
      go_ret
      exact ⟨_, rfl, hown, hb⟩
end Go.Proofs.YtmkmbpiaolmncaaDoor
