/-
  What the specification's Ranges returns, for any set of bytes: a fresh row of the maximal ranges. No condition on the world.
-/
import Derived.Test.YtcdogfaiaddkcaaDoorRng
import Derived.Test.YtcdogfaiaddkcaaDoorRngS
namespace Go.Proofs.YtcdogfaiaddkcaaDoor
open Go.RowKit
set_option linter.unusedSimpArgs false
set_option linter.unusedVariables false
/-- the reference's membership at k - 1 -/
theorem rhas_before (s : BS) (k : Nat) (hk : k ≤ 256) (v : Bool) (h : inb s k = v) (w : World) :
    Calls Tryd.prog 33 #[st s, .int .i64 ((k : Int) - 1)] w fun e w' => e = .returned (.bool v) ∧ Below w.heap.size w w' := by
  cases k with
  | zero => subst h; exact rhas_out s _ (.inl (by omega)) w
  | succ k =>
    have e : ((k + 1 : Nat) : Int) - 1 = (k : Int) := by omega
    rw [e]
    exact rhas_at s k (by omega) v (by rw [← h]; simp [inb]) w
/-- the reference's membership at y + 1 -/
theorem rhas_next (s : BS) (y : Nat) (hy : y < 256) (v : Bool) (h : s.getLsbD (y + 1) = v) (w : World) :
    Calls Tryd.prog 33 #[st s, .int .i64 ((y : Int) + 1)] w fun e w' => e = .returned (.bool v) ∧ Below w.heap.size w w' := by
  rw [show (y : Int) + 1 = ((y + 1 : Nat) : Int) by omega]
  rcases Nat.lt_or_ge (y + 1) 256 with h1 | h1
  · exact rhas_at s (y + 1) h1 v h w
  · rw [BitVec.getLsbD_of_ge _ _ h1] at h
    subst h
    exact rhas_out s _ (.inr (by omega)) w
theorem Tryd.info44 : (Tryd.prog.info? 44).map (fun i => (i.zero, i.size, i.bytes)) = some (some (.agg #[.int .i64 0, .int .i64 0]), 2, 16) := by kernel_rfl

set_option maxRecDepth 100000 in
set_option maxHeartbeats 2000000 in
theorem rranges_any (s : BS) (w : World) :
    Calls Tryd.prog 27 #[st s] w fun e w' => ∃ v, e = .returned v ∧ w'.ownsRow (w.heap.size + 1) 44 2 v (rs s 256).length (flatI (rs s 256)) ∧ Below w.heap.size w w' := by
  obtain ⟨i0, hi, hz0, hz1, hz2⟩ := info_parts Tryd.info44
  unfold st
  go_enter Tryd.func27, Tryd.ntmps27
  go_wp2
  go_loopw [3, 4] (fun v i wr => ∃ k : Nat, i = .int .i64 (k : Int) ∧ k ≤ 256 ∧ wr.ownsRow (w.heap.size + 1) 44 2 v (rs s k).length (flatI (rs s k)) ∧ Below w.heap.size w wr ∧ Row4 wr w.heap.size s) (fun _ i _ => (256 - intOf i).toNat)
  case atStart =>
    refine ⟨0, rfl, by omega, World.ownsRow_nil _ _ _ _, (Below.refl _ _).alloc (Nat.le_refl _) _, ?_⟩
    refine ⟨by simp <;> omega, ?_, ?_, ?_, ?_, ?_, ?_, ?_, ?_⟩ <;> first | (go_simp; done)
  case round =>
    obtain ⟨k, rfl, hk, hown, hb, ra⟩ := hrel
    obtain ⟨za, a0, a1, a2, a3, fa0, fa1, fa2, fa3⟩ := id ra
    by_cases hlt : k < 256
    · cases hh : s.getLsbD k
      · have Hh := Lib.hid hh
        clear hh
        go_wp2_with fail
        refine (rhas_at s k hlt false Hh.out _).mono ?_
        rintro e w1 ⟨rfl, hb1⟩
        replace hown := own_below hown hb1
        replace ra := ra.below hb1 ra.size
        replace hb := hb.trans (hb1.mono hb.size)
        clear hb1
        clear za a0 a1 a2 a3 fa0 fa1 fa2 fa3
        obtain ⟨za, a0, a1, a2, a3, fa0, fa1, fa2, fa3⟩ := id ra
        go_wp2_with fail
        go_roundw
        case rel => exact ⟨k + 1, by go_num, by omega, by simp only [rs, Hh.out]; exact hown, hb, ra⟩
        case measure => simp [intOf]; omega
      · have Hh := Lib.hid hh
        clear hh
        cases hin : inb s k
        · have Hin := Lib.hid hin
          clear hin
          go_wp2_with fail
          refine (rhas_at s k hlt true Hh.out _).mono ?_
          rintro e w1 ⟨rfl, hb1⟩
          replace hown := own_below hown hb1
          replace ra := ra.below hb1 ra.size
          replace hb := hb.trans (hb1.mono hb.size)
          clear hb1
          clear za a0 a1 a2 a3 fa0 fa1 fa2 fa3
          obtain ⟨za, a0, a1, a2, a3, fa0, fa1, fa2, fa3⟩ := id ra
          go_wp2_with fail
          refine (rhas_before s k (by omega) false Hin.out _).mono ?_
          rintro e w2 ⟨rfl, hb2⟩
          replace hown := own_below hown hb2
          replace ra := ra.below hb2 ra.size
          replace hb := hb.trans (hb2.mono hb.size)
          clear hb2
          clear za a0 a1 a2 a3 fa0 fa1 fa2 fa3
          obtain ⟨za, a0, a1, a2, a3, fa0, fa1, fa2, fa3⟩ := id ra
          go_wp2_with fail
          clear za a0 a1 a2 a3 fa0 fa1 fa2 fa3
          go_loopw [5] (fun y wr => ∃ m : Nat, y = .int .i64 (m : Int) ∧ m < 256 ∧ en s m = en s k ∧ wr.ownsRow (w.heap.size + 1) 44 2 u3 (rs s k).length (flatI (rs s k)) ∧ Below w.heap.size w wr ∧ Row4 wr w.heap.size s) (fun y _ => (256 - intOf y).toNat)
          case atStart => exact ⟨k, rfl, hlt, rfl, hown, hb, ra⟩
          case round =>
            clear hown ra hb
            obtain ⟨m, rfl, hm, he, hown, hb, ra⟩ := hrel
            obtain ⟨za, a0, a1, a2, a3, fa0, fa1, fa2, fa3⟩ := id ra
            have He := Lib.hid he
            clear he
            cases hy : s.getLsbD (m + 1)
            · have Hy := Lib.hid hy
              clear hy
              go_wp2_with fail
              refine (rhas_next s m hm false Hy.out _).mono ?_
              rintro e w3 ⟨rfl, hb3⟩
              replace hown := own_below hown hb3
              replace ra := ra.below hb3 ra.size
              replace hb := hb.trans (hb3.mono hb.size)
              have hsz : w.heap.size + 1 ≤ w3.heap.size := by have := ra.size; omega
              have hln := rs_len s k
              clear hb3 za a0 a1 a2 a3 fa0 fa1 fa2 fa3
              go_wp2_with (at_builtin; refine wpList_append_own _ rfl _ _ 41 rfl (w.heap.size + 1) 44 i0 (.agg #[.int .i64 0, .int .i64 0]) 2 16 Tryd.underlying41 hi hz0 hz1 hz2 rfl (by decide) _ _ _ rfl (hown.alloc _) ⟨w3.heap.size, 0, none⟩ 1 1 [.int .i64 (k : Int), .int .i64 (m : Int)] rfl rfl ?c1 ?c2 ?c3 ?c4 ?c5 ?_)
              case c1 => exact cells_new2 _ _ _ _
              case c2 => intro u hu; simp at hu; rcases hu with rfl | rfl <;> rfl
              case c3 => unfold maxLen; omega
              case c4 => omega
              case c5 => simp; omega
              intro v' w4 hown4 hgrow _
              have hrow := fun j hj => (hown.lt j hj).1
              have hB4 : Below w.heap.size w w4 := (hb.alloc (by omega) _).grown hgrow (by simp; omega) (fun j hj => by have := hrow j hj; omega)
              have ra4 : Row4 w4 w.heap.size s := ra.below (N := w.heap.size + 1) (((Below.refl _ _).alloc hsz _).grown hgrow (by simp; omega) hrow) (by omega)
              have hm' : m = en s k := by rw [← He.out, en_stop Hy.out]
              have Hm := Lib.hid hm'
              clear hgrow hown hrow hm'
              go_wp2_with fail
              go_roundw
              case rel => exact ⟨k + 1, by go_num, by omega, by simp only [rs, Hh.out, Hin.out, if_true, Bool.false_eq_true, if_false]; rw [flatI_cons, ← Hm.out]; exact hown4, hB4, ra4⟩
              case measure => simp [intOf]; omega
            · have Hy := Lib.hid hy
              have hlt' := bit_lt hy
              clear hy
              go_wp2_with fail
              refine (rhas_next s m hm true Hy.out _).mono ?_
              rintro e w3 ⟨rfl, hb3⟩
              replace hown := own_below hown hb3
              replace ra := ra.below hb3 ra.size
              replace hb := hb.trans (hb3.mono hb.size)
              clear hb3 za a0 a1 a2 a3 fa0 fa1 fa2 fa3
              go_wp2_with fail
              go_roundw
              case rel => exact ⟨m + 1, by go_num, hlt', (en_step Hy.out).symm.trans He.out, hown, hb, ra⟩
              case measure => simp [intOf]; omega
        · have Hin := Lib.hid hin
          clear hin
          go_wp2_with fail
          refine (rhas_at s k hlt true Hh.out _).mono ?_
          rintro e w1 ⟨rfl, hb1⟩
          replace hown := own_below hown hb1
          replace ra := ra.below hb1 ra.size
          replace hb := hb.trans (hb1.mono hb.size)
          clear hb1
          clear za a0 a1 a2 a3 fa0 fa1 fa2 fa3
          obtain ⟨za, a0, a1, a2, a3, fa0, fa1, fa2, fa3⟩ := id ra
          go_wp2_with fail
          refine (rhas_before s k (by omega) true Hin.out _).mono ?_
          rintro e w2 ⟨rfl, hb2⟩
          replace hown := own_below hown hb2
          replace ra := ra.below hb2 ra.size
          replace hb := hb.trans (hb2.mono hb.size)
          clear hb2
          clear za a0 a1 a2 a3 fa0 fa1 fa2 fa3
          obtain ⟨za, a0, a1, a2, a3, fa0, fa1, fa2, fa3⟩ := id ra
          go_wp2_with fail
          go_roundw
          case rel => exact ⟨k + 1, by go_num, by omega, by simp only [rs, Hh.out, Hin.out, if_true]; exact hown, hb, ra⟩
          case measure => simp [intOf]; omega
    · go_wp2_with fail
      obtain rfl : k = 256 := by omega
      go_ret
      exact ⟨_, rfl, hown, hb⟩
end Go.Proofs.YtcdogfaiaddkcaaDoor
