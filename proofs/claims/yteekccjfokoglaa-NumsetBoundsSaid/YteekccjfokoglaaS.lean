/-
  Equality of lists of spans and of sets; few; empty. No condition.
-/
import Derived.Test.YteekccjfokoglaaR
namespace Go.Proofs.Yteekccjfokoglaa
open Go.RowKit Go.Sort Go.Lib Go.Proofs
set_option linter.unusedSimpArgs false
set_option linter.unnecessarySimpa false
set_option linter.unusedVariables false
theorem eq46 (x y : Sp) (w : World) : (Op.equalIn 10000 46 (.agg #[.int .i64 x.1, .int .i64 x.2]) (.agg #[.int .i64 y.1, .int .i64 y.2])).run Try.prog w = .ok (decide (x = y)) w := by
  have h : ∀ a b w, (Op.equalIn 9999 2 (.int .i64 a) (.int .i64 b)).run Try.prog w = .ok (a == b) w := fun a b w => run_equalIn_int w 9998 2 .i64 .i64 a b Try.underlying2
  have p0 : ∀ (x y : Value) w, (part 2 #[x, y] 0).run Try.prog w = .ok x w := fun _ _ _ => by kernel_rfl
  have p1 : ∀ (x y : Value) w, (part 2 #[x, y] 1).run Try.prog w = .ok y w := fun _ _ _ => by kernel_rfl
  have e : decide (x = y) = (x.1 == y.1 && x.2 == y.2) := by
    rw [Bool.eq_iff_iff]; simp [Prod.ext_iff]
  rw [e]
  unfold Op.equalIn
  simp [run_underlying Try.underlying46]
  try rw [show List.range' 0 2 = [0, 1] from rfl]
  cases h0 : x.1 == y.1 <;> cases h1 : x.2 == y.2 <;> simp [h, p0, p1, h0, h1]
def eqL (l m : List Sp) : Bool := decide (l = m)
def EqIs (b : Bool) (w : World) (e : Ending) (w' : World) : Prop := e = .returned (.bool b) ∧ Below w.heap.size w w'
theorem eqL_ne {l m : List Sp} {k : Nat} (h1 : k < l.length) (h2 : k < m.length) (h : l[k] ≠ m[k]) : eqL l m = false := by
  unfold eqL; rw [decide_eq_false]; rintro rfl; exact h rfl
theorem eqL_all {l m : List Sp} (hl : l.length = m.length) (h : ∀ j (h1 : j < l.length) (h2 : j < m.length), l[j] = m[j]) : eqL l m = true := by
  unfold eqL; rw [decide_eq_true]; exact List.ext_getElem hl h
set_option maxRecDepth 100000 in
set_option maxHeartbeats 1000000 in
theorem spans_57 (A B : Option Addr) (c d : Nat) (l m : List Sp) (w : World) (hA : Re w w.heap.size A l) (hB : Re w w.heap.size B m) (hl : l.length ≤ 1000000) (hm : m.length ≤ 1000000) :
    Calls Try.prog 57 #[.slice A l.length c, .slice B m.length d] w (EqIs (eqL l m) w) := by
  have HA := Lib.hid hA
  have HB := Lib.hid hB
  clear hA hB
  by_cases hln : l.length = m.length
  · have h1 : ((l.length : Int) == (m.length : Int)) = true := by rw [hln]; simp
    have h2 : ((l.length : Int) != (m.length : Int)) = false := by rw [hln]; simp
    have HLN := Lib.hid hln
    clear hln
    go_enter Try.func57, Try.ntmps57
    go_wp2_with fail
    clear h1 h2
    go_loopw [5, 6, 14] (fun _ _ sI wr => ∃ k : Nat, sI = .int .i64 (k : Int) ∧ k ≤ l.length ∧ Hid (∀ j (h1 : j < l.length) (h2 : j < m.length), j < k → l[j] = m[j]) ∧ Hid (Below w.heap.size w wr)) (fun _ _ sI _ => (l.length - intOf sI).toNat)
    case atStart => exact ⟨0, rfl, by omega, Lib.hid fun j _ _ h => absurd h (Nat.not_lt_zero _), Lib.hid (Below.refl _ _)⟩
    case round =>
      obtain ⟨k, rfl, hk, HE, HBw⟩ := hrel
      by_cases hlt : k < l.length
      · have hlt2 : k < m.length := by have := HLN.out; omega
        obtain ⟨b1, o1, hA1, hb1, x0, x1⟩ := HA.out.at_ k hlt
        obtain ⟨b2, o2, hA2, hb2, y0, y1⟩ := HB.out.at_ k hlt2
        subst hA1 hA2
        rw [← HBw.out.cell (p := ⟨b1, o1 + k * 2, none⟩) hb1] at x0
        rw [← HBw.out.cell (p := ⟨b1, o1 + k * 2 + 1, none⟩) hb1] at x1
        rw [← HBw.out.cell (p := ⟨b2, o2 + k * 2, none⟩) hb2] at y0
        rw [← HBw.out.cell (p := ⟨b2, o2 + k * 2 + 1, none⟩) hb2] at y1
        have hwr := HBw.out.size
        have hb1' : b1 < wr.heap.size := by omega
        have hb2' : b2 < wr.heap.size := by omega
        have HQ := Lib.hid (fun h => eqL_ne hlt hlt2 h)
        have HS := Lib.hid (show ∀ h : l[k] = m[k], ∀ j (h1 : j < l.length) (h2 : j < m.length), j < k + 1 → l[j] = m[j] from fun h j h1 h2 h3 => by
          by_cases e : j = k
          · subst e; exact h
          · exact HE.out j h1 h2 (by omega))
        obtain ⟨x, hx⟩ : ∃ x, x = l[k] := ⟨_, rfl⟩
        obtain ⟨y, hy⟩ : ∃ y, y = m[k] := ⟨_, rfl⟩
        rw [← hx] at x0 x1
        rw [← hy] at y0 y1
        rw [← hx, ← hy] at HQ HS
        have i1 : (0 : Int) ≤ (k : Int) := by omega
        have i2 : (k : Int) < (l.length : Int) := by omega
        have i3 : (k : Int) < (m.length : Int) := by omega
        clear hx hy
        have q := fun w => eq46 x y w
        cases hxy : decide (x = y)
        · rw [hxy] at q
          have HF := Lib.hid (HQ.out (by simpa using hxy))
          clear hxy
          go_wp2_with fail
          go_quiet (fail)
          go_wp2_with fail
          go_ret
          exact ⟨ret_bool HF.out.symm, bdrewN (HBw.out.alloc hwr _) _⟩
        · rw [hxy] at q
          have HF := Lib.hid (HS.out (by simpa using hxy))
          clear hxy
          go_wp2_with fail
          go_quiet (fail)
          go_wp2_with fail
          go_roundw
          case rel => exact ⟨k + 1, by go_num, by omega, HF, Lib.hid (bdrewN (HBw.out.alloc hwr _) _)⟩
          case measure => simp [intOf]; omega
      · obtain rfl : k = l.length := by omega
        go_wp2_with fail
        go_ret
        exact ⟨ret_bool (eqL_all HLN.out fun j h1 h2 => HE.out j h1 h2 h1).symm, HBw.out⟩
  · have h1 : ((l.length : Int) == (m.length : Int)) = false := beq_eq_false_iff_ne.2 (by omega)
    have h2 : ((l.length : Int) != (m.length : Int)) = true := by rw [bne, h1]; rfl
    have HF := Lib.hid (show eqL l m = false by unfold eqL; rw [decide_eq_false]; rintro rfl; exact hln rfl)
    clear hln
    go_enter Try.func57, Try.ntmps57
    go_wp2_with fail
    go_ret
    exact ⟨ret_bool HF.out.symm, Below.refl _ _⟩
set_option maxRecDepth 100000 in
set_option maxHeartbeats 1000000 in
theorem spans_50 (A B : Option Addr) (c d : Nat) (l m : List Sp) (w : World) (hA : Re w w.heap.size A l) (hB : Re w w.heap.size B m) (hl : l.length ≤ 1000000) (hm : m.length ≤ 1000000) :
    Calls Try.prog 50 #[.slice A l.length c, .slice B m.length d] w (EqIs (eqL l m) w) := by
  have HA := Lib.hid hA
  have HB := Lib.hid hB
  clear hA hB
  by_cases hln : l.length = m.length
  · have h1 : ((l.length : Int) == (m.length : Int)) = true := by rw [hln]; simp
    have h2 : ((l.length : Int) != (m.length : Int)) = false := by rw [hln]; simp
    have HLN := Lib.hid hln
    clear hln
    go_enter Try.func50, Try.ntmps50
    go_wp2_with fail
    clear h1 h2
    go_loopw [5, 13] (fun _ sI wr => ∃ k : Nat, sI = .int .i64 (k : Int) ∧ k ≤ l.length ∧ Hid (∀ j (h1 : j < l.length) (h2 : j < m.length), j < k → l[j] = m[j]) ∧ Hid (Below w.heap.size w wr)) (fun _ sI _ => (l.length - intOf sI).toNat)
    case atStart => exact ⟨0, rfl, by omega, Lib.hid fun j _ _ h => absurd h (Nat.not_lt_zero _), Lib.hid (Below.refl _ _)⟩
    case round =>
      obtain ⟨k, rfl, hk, HE, HBw⟩ := hrel
      by_cases hlt : k < l.length
      · have hlt2 : k < m.length := by have := HLN.out; omega
        obtain ⟨b1, o1, hA1, hb1, x0, x1⟩ := HA.out.at_ k hlt
        obtain ⟨b2, o2, hA2, hb2, y0, y1⟩ := HB.out.at_ k hlt2
        subst hA1 hA2
        rw [← HBw.out.cell (p := ⟨b1, o1 + k * 2, none⟩) hb1] at x0
        rw [← HBw.out.cell (p := ⟨b1, o1 + k * 2 + 1, none⟩) hb1] at x1
        rw [← HBw.out.cell (p := ⟨b2, o2 + k * 2, none⟩) hb2] at y0
        rw [← HBw.out.cell (p := ⟨b2, o2 + k * 2 + 1, none⟩) hb2] at y1
        have hwr := HBw.out.size
        have hb1' : b1 < wr.heap.size := by omega
        have hb2' : b2 < wr.heap.size := by omega
        have HQ := Lib.hid (fun h => eqL_ne hlt hlt2 h)
        have HS := Lib.hid (show ∀ h : l[k] = m[k], ∀ j (h1 : j < l.length) (h2 : j < m.length), j < k + 1 → l[j] = m[j] from fun h j h1 h2 h3 => by
          by_cases e : j = k
          · subst e; exact h
          · exact HE.out j h1 h2 (by omega))
        obtain ⟨x, hx⟩ : ∃ x, x = l[k] := ⟨_, rfl⟩
        obtain ⟨y, hy⟩ : ∃ y, y = m[k] := ⟨_, rfl⟩
        rw [← hx] at x0 x1
        rw [← hy] at y0 y1
        rw [← hx, ← hy] at HQ HS
        have i1 : (0 : Int) ≤ (k : Int) := by omega
        have i2 : (k : Int) < (l.length : Int) := by omega
        have i3 : (k : Int) < (m.length : Int) := by omega
        clear hx hy
        have q := fun w => eq46 x y w
        cases hxy : decide (x = y)
        · rw [hxy] at q
          have HF := Lib.hid (HQ.out (by simpa using hxy))
          clear hxy
          go_wp2_with fail
          go_quiet (fail)
          go_wp2_with fail
          go_ret
          exact ⟨ret_bool HF.out.symm, bdrewN HBw.out _⟩
        · rw [hxy] at q
          have HF := Lib.hid (HS.out (by simpa using hxy))
          clear hxy
          go_wp2_with fail
          go_quiet (fail)
          go_wp2_with fail
          go_roundw
          case rel => exact ⟨k + 1, by go_num, by omega, HF, Lib.hid (bdrewN HBw.out _)⟩
          case measure => simp [intOf]; omega
      · obtain rfl : k = l.length := by omega
        go_wp2_with fail
        go_ret
        exact ⟨ret_bool (eqL_all HLN.out fun j h1 h2 => HE.out j h1 h2 h1).symm, HBw.out⟩
  · have h1 : ((l.length : Int) == (m.length : Int)) = false := beq_eq_false_iff_ne.2 (by omega)
    have h2 : ((l.length : Int) != (m.length : Int)) = true := by rw [bne, h1]; rfl
    have HF := Lib.hid (show eqL l m = false by unfold eqL; rw [decide_eq_false]; rintro rfl; exact hln rfl)
    clear hln
    go_enter Try.func50, Try.ntmps50
    go_wp2_with fail
    go_ret
    exact ⟨ret_bool HF.out.symm, Below.refl _ _⟩
end Go.Proofs.Yteekccjfokoglaa
