import Derived.Test.YtmkmbpiaolmncaaDoorLeaf2
import Derived.Lib.Hide
namespace Go.Proofs.YtmkmbpiaolmncaaDoor
open Go.RowKit

/-- a block of four cells that holds the words of a set and may be written -/
structure Row4 (w : World) (b : Nat) (s : BS) : Prop where
  size : b < w.heap.size
  c0 : w.cell? ⟨b, 0, none⟩ = some (.int .u64 (wd 0 s))
  c1 : w.cell? ⟨b, 1, none⟩ = some (.int .u64 (wd 1 s))
  c2 : w.cell? ⟨b, 2, none⟩ = some (.int .u64 (wd 2 s))
  c3 : w.cell? ⟨b, 3, none⟩ = some (.int .u64 (wd 3 s))
  f0 : w.frozen? ⟨b, 0, none⟩ = false
  f1 : w.frozen? ⟨b, 1, none⟩ = false
  f2 : w.frozen? ⟨b, 2, none⟩ = false
  f3 : w.frozen? ⟨b, 3, none⟩ = false

theorem Row4.below {w w' : World} {b N : Nat} {s : BS} (h : Row4 w b s) (hb : Below N w w') (hn : b < N) : Row4 w' b s :=
  ⟨Nat.lt_of_lt_of_le h.size hb.size, by rw [hb.cell hn]; exact h.c0, by rw [hb.cell hn]; exact h.c1, by rw [hb.cell hn]; exact h.c2, by rw [hb.cell hn]; exact h.c3,
    by rw [hb.frozen hn]; exact h.f0, by rw [hb.frozen hn]; exact h.f1, by rw [hb.frozen hn]; exact h.f2, by rw [hb.frozen hn]; exact h.f3⟩

theorem cso {w : World} {a b : Addr} (v : Value) (h : a ≠ b) : (w.setCell a v).cell? b = w.cell? b := by
  apply World.cell?_setCell_other; exact h

theorem size_setCell (w : World) (a : Addr) (v : Value) : (w.setCell a v).heap.size = w.heap.size := by simp

/-- the block behind the store of a whole set -/
def put4 (w : World) (b : Nat) (s : BS) : World :=
  (((w.setCell ⟨b, 0, none⟩ (.int .u64 (wd 0 s))).setCell ⟨b, 1, none⟩ (.int .u64 (wd 1 s))).setCell ⟨b, 2, none⟩ (.int .u64 (wd 2 s))).setCell ⟨b, 3, none⟩ (.int .u64 (wd 3 s))

theorem Row4.put {w : World} {b : Nat} {s : BS} (h : Row4 w b s) (t : BS) : Row4 (put4 w b t) b t := by
  obtain ⟨z, c0, c1, c2, c3, f0, f1, f2, f3⟩ := h
  unfold put4
  refine ⟨by simpa using z, ?_, ?_, ?_, ?_, ?_, ?_, ?_, ?_⟩ <;> go_simp

theorem Row4.put_other {w : World} {b c : Nat} {s : BS} (h : Row4 w b s) (t : BS) (hbc : c ≠ b) : Row4 (put4 w c t) b s := by
  obtain ⟨z, c0, c1, c2, c3, f0, f1, f2, f3⟩ := h
  have e : ∀ i j, (⟨c, i, none⟩ : Addr) ≠ ⟨b, j, none⟩ := fun i j g => hbc (by injection g)
  unfold put4
  refine ⟨by simpa using z, ?_, ?_, ?_, ?_, ?_, ?_, ?_, ?_⟩
  all_goals simp only [cso _ (e _ _), World.frozen?_setCell]; assumption

theorem below_put4 {B : Nat} {a w : World} (h : Below B a w) {b : Nat} (hb : B ≤ b) (s : BS) : Below B a (put4 w b s) :=
  (((h.setCell hb _).setCell hb _).setCell hb _).setCell hb _

/-- the set that holds nothing, as four written words -/
theorem wd_zero (i : Nat) : wd i 0#256 = 0 := by unfold wd; simp

set_option maxHeartbeats 2000000 in
theorem rof_any (lo hi : Int) (l0 : 0 ≤ lo) (l1 : lo ≤ 255) (u0 : 0 ≤ hi) (u1 : hi ≤ 255) (w : World) :
    Calls Tryd.prog 13 #[.int .i64 lo, .int .i64 hi] w fun e w' => e = .returned (st (rgo lo.toNat hi.toNat)) ∧ Below w.heap.size w w' := by
  go_enter Tryd.func13, Tryd.ntmps13
  go_wp2
  go_loopw [6] (fun i wr => ∃ (k : Nat) (x : BS), i = .int .i64 (k : Int) ∧ lo ≤ k ∧ ((k : Int) ≤ lo ∨ (k : Int) ≤ hi + 1) ∧ (∀ j, j < 256 → x.getLsbD j = (decide (lo ≤ (j : Int)) && decide (j < k))) ∧ Below w.heap.size w wr ∧ Row4 wr w.heap.size 0#256 ∧ Row4 wr (w.heap.size + 1) x) (fun i _ => (256 - intOf i).toNat)
  case atStart =>
    obtain ⟨n, rfl⟩ := Int.eq_ofNat_of_zero_le l0
    refine ⟨n, 0#256, rfl, Int.le_refl _, .inl (Int.le_refl _), ?_, ?_, ?_, ?_⟩
    · intro j hj; simp
    · exact ((Below.refl _ _).alloc (Nat.le_refl _) _).alloc (by simp) _
    · refine ⟨by simp; omega, ?_, ?_, ?_, ?_, ?_, ?_, ?_, ?_⟩ <;> first | (simp only [wd_zero]; go_simp; done) | (go_simp; done)
    · refine ⟨by simp, ?_, ?_, ?_, ?_, ?_, ?_, ?_, ?_⟩ <;> first | (simp only [wd_zero]; go_simp; done) | (go_simp; done)
  case round =>
    obtain ⟨k, x, rfl, hk1, hk2, hx, hb, hr, ho⟩ := hrel
    have Hx := Lib.hid hx
    clear hx
    have ho' := ho
    obtain ⟨z, c0, c1, c2, c3, f0, f1, f2, f3⟩ := ho'
    by_cases hlt : (k : Int) ≤ hi
    · go_wp2_with fail
      refine (with_any x _ (by omega) (by omega) _).mono ?_
      rintro e w1 ⟨rfl, hb1⟩
      have ho1 := ho.below hb1 ho.size
      have hr1 := hr.below hb1 hr.size
      have B1 : Below w.heap.size w w1 := hb.trans (hb1.mono hb.size)
      rw [Int.toNat_natCast]
      clear hb1 hb ho hr z c0 c1 c2 c3 f0 f1 f2 f3
      have ho' := ho1
      obtain ⟨z, c0, c1, c2, c3, f0, f1, f2, f3⟩ := ho'
      go_wp2_with fail
      go_roundw
      case rel =>
        refine ⟨k + 1, wth x k, by go_num, by omega, .inr (by omega), ?_, below_put4 B1 (by omega) _, hr1.put_other _ (by omega), ho1.put _⟩
        intro j hj
        rw [mem_wth x k j hj, Hx.out j hj]
        grind
      case measure => simp [intOf]; omega
    · have e : x = rgo lo.toNat hi.toNat := by
        apply BitVec.eq_of_getLsbD_eq
        intro j hj
        rw [Hx.out j hj, mem_rgo _ _ _ hj, Bool.eq_iff_iff]
        simp
        omega
      subst e
      obtain ⟨y, d0, d1, d2, d3, g0, g1, g2, g3⟩ := hr
      go_wp2_with fail
      refine bodyPost_ret (v := _) (by simp [results, Tryd.results13, go_sem, d0, d1, d2, d3, y]) rfl ⟨rfl, ?_⟩
      exact (((hb.setCell (by simp) _).setCell (by simp) _).setCell (by simp) _).setCell (by simp) _
end Go.Proofs.YtmkmbpiaolmncaaDoor
