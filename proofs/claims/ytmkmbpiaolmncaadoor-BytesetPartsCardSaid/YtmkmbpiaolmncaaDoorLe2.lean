/-
  Least to the block, and the comparison that Partition sorts by. Condition: the table deBruijn64tab.
-/
import Derived.Test.YtmkmbpiaolmncaaDoorSp
import Derived.Test.YtmkmbpiaolmncaaDoorLeast
import Derived.Test.YtmkmbpiaolmncaaDoorSoL
namespace Go.Proofs.YtmkmbpiaolmncaaDoor
open Go.RowKit
set_option linter.unusedSimpArgs false
set_option linter.unnecessarySimpa false
set_option linter.unusedVariables false
def LeastX (s : BS) (w : World) (e : Ending) (w' : World) : Prop :=
  (s = 0#256 ∧ e = .returned (.tuple #[.int .u8 0, .bool false]) ∨ ∃ b : Nat, b < 256 ∧ isLeast s b ∧ e = .returned (.tuple #[.int .u8 (b : Int), .bool true])) ∧ w' = w.alloc (.cells #[.int .u64 (wd 0 s), .int .u64 (wd 1 s), .int .u64 (wd 2 s), .int .u64 (wd 3 s)] 24)
set_option maxRecDepth 100000 in
set_option maxHeartbeats 2000000 in
theorem least_x0 (s : BS) (w : World) (hT : Tab w) : Calls Tryd.prog 24 #[st s] w (LeastX s w) := by
  have i0 : ∀ w : World, (Instr.index 24 (.agg #[.int .u64 (wd 0 s), .int .u64 (wd 1 s), .int .u64 (wd 2 s), .int .u64 (wd 3 s)]) (.int .i64 0)).run Tryd.prog w = .ok (.int .u64 (wd 0 s)) w := fun _ => by kernel_rfl
  have i1 : ∀ w : World, (Instr.index 24 (.agg #[.int .u64 (wd 0 s), .int .u64 (wd 1 s), .int .u64 (wd 2 s), .int .u64 (wd 3 s)]) (.int .i64 1)).run Tryd.prog w = .ok (.int .u64 (wd 1 s)) w := fun _ => by kernel_rfl
  have i2 : ∀ w : World, (Instr.index 24 (.agg #[.int .u64 (wd 0 s), .int .u64 (wd 1 s), .int .u64 (wd 2 s), .int .u64 (wd 3 s)]) (.int .i64 2)).run Tryd.prog w = .ok (.int .u64 (wd 2 s)) w := fun _ => by kernel_rfl
  have i3 : ∀ w : World, (Instr.index 24 (.agg #[.int .u64 (wd 0 s), .int .u64 (wd 1 s), .int .u64 (wd 2 s), .int .u64 (wd 3 s)]) (.int .i64 3)).run Tryd.prog w = .ok (.int .u64 (wd 3 s)) w := fun _ => by kernel_rfl
  have hT1 : Tab (w.alloc (.cells #[.int .u64 (wd 0 s), .int .u64 (wd 1 s), .int .u64 (wd 2 s), .int .u64 (wd 3 s)] 24)) := hT.below ((Below.refl w.heap.size _).alloc (Nat.le_refl _) _) hT.1
  have HT := Lib.hid hT1
  clear hT hT1
  have l0 := wd_lo 0 s
  have l1 := wd_lo 1 s
  have l2 := wd_lo 2 s
  have l3 := wd_lo 3 s
  have u0 := wd_hi 0 s
  have u1 := wd_hi 1 s
  have u2 := wd_hi 2 s
  have u3 := wd_hi 3 s
  unfold st
  by_cases n0 : wd 0 s = 0
  · have d0 : (wd 0 s != 0) = false := by simp [n0]
    have d0' : (wd 0 s == 0) = true := by simp [n0]
    by_cases n1 : wd 1 s = 0
    · have d1 : (wd 1 s != 0) = false := by simp [n1]
      have d1' : (wd 1 s == 0) = true := by simp [n1]
      by_cases n2 : wd 2 s = 0
      · have d2 : (wd 2 s != 0) = false := by simp [n2]
        have d2' : (wd 2 s == 0) = true := by simp [n2]
        by_cases n3 : wd 3 s = 0
        · have d3 : (wd 3 s != 0) = false := by simp [n3]
          have d3' : (wd 3 s == 0) = true := by simp [n3]
          have Hs : Hid (s = 0#256) := wd_inj (by rw [n0, wd_zero]) (by rw [n1, wd_zero]) (by rw [n2, wd_zero]) (by rw [n3, wd_zero])
          clear n0 n1 n2 n3
          go_enter Tryd.func24, Tryd.ntmps24
          go_wp2_with fail
          refine wp_loop_rounds 5 ?_
          rw [rounds_succ]; go_wp2_with fail
          rw [rounds_succ]; go_wp2_with fail
          rw [rounds_succ]; go_wp2_with fail
          rw [rounds_succ]; go_wp2_with fail
          rw [rounds_succ]; go_wp2_with fail
          go_ret2
          exact ⟨.inl ⟨Hs.out, rfl⟩, rfl⟩
        · have d3 : (wd 3 s != 0) = true := by rw [bne_iff_ne]; exact n3
          have d3' : (wd 3 s == 0) = false := by simp [n3]
          have HL := Lib.hid (least_of 3 s (z3 n0 n1 n2) n3)
          have hlt := HL.out.1
          have hp : 0 < wd 3 s := by omega
          clear n0 n1 n2 n3
          go_enter Tryd.func24, Tryd.ntmps24
          go_wp2_with fail
          refine wp_loop_rounds 4 ?_
          rw [rounds_succ]; go_wp2_with fail
          rw [rounds_succ]; go_wp2_with fail
          rw [rounds_succ]; go_wp2_with fail
          rw [rounds_succ]; go_wp2_with fail
          refine (tz_any _ hp (by omega) _ HT.out).mono ?_
          rintro e w1 ⟨rfl, rfl⟩
          go_wp2_with fail
          go_ret2
          exact ⟨.inr ⟨192 + Lib.ctz 64 (wd 3 s).toNat, by omega, HL.out.2, by simp⟩, rfl⟩
      · have d2 : (wd 2 s != 0) = true := by rw [bne_iff_ne]; exact n2
        have d2' : (wd 2 s == 0) = false := by simp [n2]
        have HL := Lib.hid (least_of 2 s (z2 n0 n1) n2)
        have hlt := HL.out.1
        have hp : 0 < wd 2 s := by omega
        clear n0 n1 n2
        go_enter Tryd.func24, Tryd.ntmps24
        go_wp2_with fail
        refine wp_loop_rounds 3 ?_
        rw [rounds_succ]; go_wp2_with fail
        rw [rounds_succ]; go_wp2_with fail
        rw [rounds_succ]; go_wp2_with fail
        refine (tz_any _ hp (by omega) _ HT.out).mono ?_
        rintro e w1 ⟨rfl, rfl⟩
        go_wp2_with fail
        go_ret2
        exact ⟨.inr ⟨128 + Lib.ctz 64 (wd 2 s).toNat, by omega, HL.out.2, by simp⟩, rfl⟩
    · have d1 : (wd 1 s != 0) = true := by rw [bne_iff_ne]; exact n1
      have d1' : (wd 1 s == 0) = false := by simp [n1]
      have HL := Lib.hid (least_of 1 s (z1 n0) n1)
      have hlt := HL.out.1
      have hp : 0 < wd 1 s := by omega
      clear n0 n1
      go_enter Tryd.func24, Tryd.ntmps24
      go_wp2_with fail
      refine wp_loop_rounds 2 ?_
      rw [rounds_succ]; go_wp2_with fail
      rw [rounds_succ]; go_wp2_with fail
      refine (tz_any _ hp (by omega) _ HT.out).mono ?_
      rintro e w1 ⟨rfl, rfl⟩
      go_wp2_with fail
      go_ret2
      exact ⟨.inr ⟨64 + Lib.ctz 64 (wd 1 s).toNat, by omega, HL.out.2, by simp⟩, rfl⟩
  · have d0 : (wd 0 s != 0) = true := by rw [bne_iff_ne]; exact n0
    have d0' : (wd 0 s == 0) = false := by simp [n0]
    have HL := Lib.hid (least_of 0 s (fun q hq => by omega) n0)
    have hlt := HL.out.1
    have hp : 0 < wd 0 s := by omega
    clear n0
    go_enter Tryd.func24, Tryd.ntmps24
    go_wp2_with fail
    refine wp_loop_rounds 1 ?_
    rw [rounds_succ]; go_wp2_with fail
    refine (tz_any _ hp (by omega) _ HT.out).mono ?_
    rintro e w1 ⟨rfl, rfl⟩
    go_wp2_with fail
    go_ret2
    exact ⟨.inr ⟨0 + Lib.ctz 64 (wd 0 s).toNat, by omega, by simpa using HL.out.2, by simp⟩, rfl⟩


/-- the least byte, 0 of the empty set -/
def lst (s : BS) : Nat := ((List.range 256).find? (fun j => s.getLsbD j)).getD 0
theorem lst_zero : lst 0#256 = 0 := by decide +kernel
theorem lst_of {s : BS} {b : Nat} (hb : b < 256) (h : isLeast s b) : lst s = b := by
  have : (List.range 256).find? (fun j => s.getLsbD j) = some b := by
    rw [List.find?_range_eq_some]
    exact ⟨h.1, by simpa using hb, fun j hj => by rw [h.2 j hj]; rfl⟩
  unfold lst; rw [this]; rfl
theorem lst_lt (s : BS) : lst s < 256 := by
  unfold lst
  cases h : (List.range 256).find? (fun j => s.getLsbD j) with
  | none => simp
  | some b => have := List.mem_of_find?_eq_some h; simpa using this
theorem least_x (s : BS) (w : World) (hT : Tab w) : Calls Tryd.prog 24 #[st s] w fun e w' => (∃ ok, e = .returned (.tuple #[.int .u8 (lst s : Int), .bool ok])) ∧ w' = w.alloc (.cells #[.int .u64 (wd 0 s), .int .u64 (wd 1 s), .int .u64 (wd 2 s), .int .u64 (wd 3 s)] 24) := by
  refine (least_x0 s w hT).mono ?_
  rintro e w' ⟨h | ⟨b, hb, hl, rfl⟩, rfl⟩
  · obtain ⟨rfl, rfl⟩ := h
    exact ⟨⟨false, by rw [lst_zero]; rfl⟩, rfl⟩
  · exact ⟨⟨true, by rw [lst_of hb hl]⟩, rfl⟩
def cmpN (a b : Nat) : Int := if a < b then -1 else if b < a then 1 else 0
set_option maxRecDepth 100000 in
theorem cmpb_any (a b : Nat) (w : World) : Calls Tryd.prog 39 #[.int .u8 (a : Int), .int .u8 (b : Int)] w fun e w' => e = .returned (.int .i64 (cmpN a b)) ∧ w' = w := by
  unfold cmpN
  rcases Nat.lt_trichotomy a b with h | h | h
  · have h1 : (a : Int) < (b : Int) := by omega
    rw [if_pos h]
    clear h
    go_enter Tryd.func39, Tryd.ntmps39
    go_wp2
    go_ret
    exact ⟨rfl, rfl⟩
  · subst h
    rw [if_neg (Nat.lt_irrefl _), if_neg (Nat.lt_irrefl _)]
    go_enter Tryd.func39, Tryd.ntmps39
    go_wp2
    go_ret
    exact ⟨rfl, rfl⟩
  · have h1 : (b : Int) < (a : Int) := by omega
    have h2 : ¬ (a : Int) < (b : Int) := by omega
    rw [if_neg (by omega), if_pos h]
    clear h
    go_enter Tryd.func39, Tryd.ntmps39
    go_wp2
    go_ret
    exact ⟨rfl, rfl⟩
end Go.Proofs.YtmkmbpiaolmncaaDoor
