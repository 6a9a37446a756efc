import Derived.Test.YtmkmbpiaolmncaaDoorRng
import Derived.Lib.TrailingZeros
namespace Go.Proofs.YtmkmbpiaolmncaaDoor
open Go.RowKit
set_option maxRecDepth 100000 in
set_option maxHeartbeats 1000000 in
theorem ins1 (x f : Value) (w : World) :
    Calls Tryd.prog 44 #[x, .int .i64 0, .int .i64 1, f] w fun e w' => e = .returned (.tuple #[]) ∧ w = w' := by
  go_enter Tryd.func44, Tryd.ntmps44
  go_wp2
  refine wp_loop_rounds 1 ?_
  rw [rounds_succ]
  go_wp2
  go_end0
  exact ⟨rfl, rfl⟩
set_option maxRecDepth 100000 in
set_option maxHeartbeats 1000000 in
theorem pdq1 (x l f : Value) (w : World) :
    Calls Tryd.prog 41 #[x, .int .i64 0, .int .i64 1, l, f] w fun e w' => e = .returned (.tuple #[]) ∧ w = w' := by
  go_enter Tryd.func41, Tryd.ntmps41
  go_wp2
  refine wp_loop_rounds 1 ?_
  rw [rounds_succ]
  go_wp2_with (go_at_call 44; refine (ins1 _ _ _).mono ?_; rintro e w1 ⟨rfl, rfl⟩)
  exact bodyPost_ret (v := .tuple #[]) (by simp [results, Tryd.results41, go_sem]) rfl ⟨rfl, rfl⟩
set_option maxRecDepth 100000 in
set_option maxHeartbeats 1000000 in
theorem len1 (w : World) :
    Calls Tryd.prog 42 #[.int .u64 1] w fun e w' => e = .returned (.int .i64 1) ∧ w = w' := by
  go_enter Tryd.func42, Tryd.ntmps42
  go_wp2
  go_ret
  exact ⟨ret_int (by decide +kernel), rfl⟩
set_option maxRecDepth 100000 in
set_option maxHeartbeats 1000000 in
theorem sort1 (g : Nat) (f : Value) (w : World) :
    Calls Tryd.prog 37 #[.slice (some ⟨g, 0, none⟩) 1 1, f] w fun e w' => e = .returned (.tuple #[]) ∧ w = w' := by
  go_enter Tryd.func37, Tryd.ntmps37
  go_wp2_with fail
  refine (len1 _).mono ?_
  rintro e w1 ⟨rfl, rfl⟩
  go_wp2_with fail
  refine (pdq1 _ _ _ _).mono ?_
  rintro e w1 ⟨rfl, rfl⟩
  go_wp2_with fail
  go_end0
  exact ⟨rfl, rfl⟩

set_option maxRecDepth 100000 in
set_option maxHeartbeats 1000000 in
theorem ones_full (w : World) :
    Calls Tryd.prog 35 #[.int .u64 18446744073709551615] w fun e w' => e = .returned (.int .i64 64) ∧ w = w' := by
  go_enter Tryd.func35, Tryd.ntmps35
  go_wp2
  go_ret
  exact ⟨ret_int (by decide +kernel), rfl⟩

/-- the bytes 0 to 255 -/
def fullS : BS := rgo 0 255
theorem full_wd : wd 0 fullS = 18446744073709551615 ∧ wd 1 fullS = 18446744073709551615 ∧ wd 2 fullS = 18446744073709551615 ∧ wd 3 fullS = 18446744073709551615 := by decide +kernel
theorem full_not : ~~~(0#256) = fullS := by decide +kernel

set_option maxRecDepth 100000 in
set_option maxHeartbeats 1000000 in
theorem len_full (w : World) :
    Calls Tryd.prog 25 #[st fullS] w fun e w' => e = .returned (.int .i64 256) ∧ Below w.heap.size w w' := by
  obtain ⟨e0, e1, e2, e3⟩ := full_wd
  unfold st
  rw [e0, e1, e2, e3]
  clear e0 e1 e2 e3
  have i0 : ∀ w : World, (Instr.index 24 (.agg #[.int .u64 18446744073709551615, .int .u64 18446744073709551615, .int .u64 18446744073709551615, .int .u64 18446744073709551615]) (.int .i64 0)).run Tryd.prog w = .ok (.int .u64 18446744073709551615) w := fun _ => by kernel_rfl
  have i1 : ∀ w : World, (Instr.index 24 (.agg #[.int .u64 18446744073709551615, .int .u64 18446744073709551615, .int .u64 18446744073709551615, .int .u64 18446744073709551615]) (.int .i64 1)).run Tryd.prog w = .ok (.int .u64 18446744073709551615) w := fun _ => by kernel_rfl
  have i2 : ∀ w : World, (Instr.index 24 (.agg #[.int .u64 18446744073709551615, .int .u64 18446744073709551615, .int .u64 18446744073709551615, .int .u64 18446744073709551615]) (.int .i64 2)).run Tryd.prog w = .ok (.int .u64 18446744073709551615) w := fun _ => by kernel_rfl
  have i3 : ∀ w : World, (Instr.index 24 (.agg #[.int .u64 18446744073709551615, .int .u64 18446744073709551615, .int .u64 18446744073709551615, .int .u64 18446744073709551615]) (.int .i64 3)).run Tryd.prog w = .ok (.int .u64 18446744073709551615) w := fun _ => by kernel_rfl
  go_enter Tryd.func25, Tryd.ntmps25
  go_wp2
  refine wp_loop_rounds 5 ?_
  rw [rounds_succ]; go_wp2_with (go_at_call 35; refine (ones_full _).mono ?_; rintro e w1 ⟨rfl, rfl⟩)
  rw [rounds_succ]; go_wp2_with (go_at_call 35; refine (ones_full _).mono ?_; rintro e w1 ⟨rfl, rfl⟩)
  rw [rounds_succ]; go_wp2_with (go_at_call 35; refine (ones_full _).mono ?_; rintro e w1 ⟨rfl, rfl⟩)
  rw [rounds_succ]; go_wp2_with (go_at_call 35; refine (ones_full _).mono ?_; rintro e w1 ⟨rfl, rfl⟩)
  rw [rounds_succ]; go_wp2_with fail
  go_ret
  exact ⟨rfl, (Below.refl _ _).alloc (Nat.le_refl _) _⟩

theorem Tryd.info24 : (Tryd.prog.info? 24).map (fun i => (i.zero, i.size, i.bytes)) = some (some (.agg #[.int .u64 0, .int .u64 0, .int .u64 0, .int .u64 0]), 4, 32) := by kernel_rfl

theorem Row4.new (w : World) (s : BS) : Row4 (w.alloc (.cells #[.int .u64 (wd 0 s), .int .u64 (wd 1 s), .int .u64 (wd 2 s), .int .u64 (wd 3 s)] 24)) w.heap.size s := by
  refine ⟨by simp, ?_, ?_, ?_, ?_, ?_, ?_, ?_, ?_⟩ <;> (go_simp; done)

/-- the partition by no sets: one part, all bytes, in new memory -/
def OnePart (w : World) (e : Ending) (w' : World) : Prop :=
  ∃ g, e = .returned (.slice (some ⟨g, 0, none⟩) 1 1) ∧ w.heap.size ≤ g ∧ Row4 w' g fullS ∧ Below w.heap.size w w'

set_option maxRecDepth 100000 in
set_option maxHeartbeats 1000000 in
theorem part_nil (w : World) :
    Calls Tryd.prog 29 #[.slice none 0 0] w (OnePart w) := by
  go_enter Tryd.func29, Tryd.ntmps29
  go_wp2_with fail
  refine (of_any 0 255 (by omega) (by omega) (by omega) (by omega) _).mono ?_
  rintro e w1 ⟨rfl, hb1⟩
  go_wp2_with fail
  refine wp_loop_rounds 1 ?_
  rw [rounds_succ]
  go_wp2_with fail
  refine (sort1 _ _ _).mono ?_
  rintro e w2 ⟨rfl, rfl⟩
  go_wp2_with fail
  have z1 := hb1.size
  go_ret
  refine ⟨w1.heap.size, rfl, z1, ?_, hb1.alloc z1 _⟩
  exact Row4.new _ _
end Go.Proofs.YtmkmbpiaolmncaaDoor
