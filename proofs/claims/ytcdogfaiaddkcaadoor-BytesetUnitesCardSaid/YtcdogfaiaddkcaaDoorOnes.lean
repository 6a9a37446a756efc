/-
  The number of elements of a set of bytes, and the specification's list of its elements. No condition.
-/
import Derived.Test.YtcdogfaiaddkcaaDoorPopS
import Derived.Test.YtcdogfaiaddkcaaDoorLeast
import Derived.Laws.Bits64b
import Derived.Lib.Hide
import Derived.WalkKit
import Derived.WalkSpells
import Derived.WalkLawsBesides
namespace Go.Proofs.YtcdogfaiaddkcaaDoor
open Go.RowKit
set_option linter.unusedSimpArgs false
set_option linter.unusedVariables false
theorem and_nat (x y : Nat) (hx : x < 18446744073709551616) (hy : y < 18446744073709551616) : bits .and .u64 (x : Int) (y : Int) = ((x &&& y : Nat) : Int) := u64_and_nat x y hx hy
theorem and_lt (x y : Nat) (hy : y < 18446744073709551616) : x &&& y < 18446744073709551616 := Nat.lt_of_le_of_lt Nat.and_le_right hy
theorem k_mask (n y d : Nat) (M : Nat) (hM : M ≤ 9223372036854775807) (hn : n < 18446744073709551616) (e : y = ((n / d) &&& M) + (n &&& M)) :
    IntKind.u64.wrap (bits .and .u64 ((n : Int) / (d : Int)) (M : Int) + bits .and .u64 (n : Int) (M : Int)) = (y : Int) := by
  have h1 : n / d ≤ n := Nat.div_le_self _ _
  have a1 := Nat.and_le_right (n := n / d) (m := M)
  have a2 := Nat.and_le_right (n := n) (m := M)
  rw [← Int.natCast_ediv, and_nat _ _ (by omega) (by omega), and_nat _ _ hn (by omega), IntKind.wrap_u64, e]
  omega
theorem fin7 (z m : Nat) (h : z % 128 = m) : bits .and .i64 (wrap64 (z : Int)) 127 = (m : Int) := by
  rw [i64_and127]; simp [wrap64]; omega
set_option maxHeartbeats 1000000 in
theorem ones_any (n : Nat) (hn : n < 18446744073709551616) (w : World) :
    Calls Tryd.prog 35 #[.int .u64 n] w fun e w' => e = .returned (.int .i64 (ones 64 n)) ∧ w = w' := by
  obtain ⟨y1, e1⟩ : ∃ y, y = ((n >>> 1) &&& 6148914691236517205) + (n &&& 6148914691236517205) := ⟨_, rfl⟩
  obtain ⟨y2, e2⟩ : ∃ y, y = ((y1 >>> 2) &&& 3689348814741910323) + (y1 &&& 3689348814741910323) := ⟨_, rfl⟩
  obtain ⟨y3, e3⟩ : ∃ y, y = ((y2 >>> 4) + y2) &&& 1085102592571150095 := ⟨_, rfl⟩
  obtain ⟨z1, g1⟩ : ∃ y, y = y3 + y3 / 256 := ⟨_, rfl⟩
  obtain ⟨z2, g2⟩ : ∃ y, y = z1 + z1 / 65536 := ⟨_, rfl⟩
  obtain ⟨z3, g3⟩ : ∃ y, y = z2 + z2 / 4294967296 := ⟨_, rfl⟩
  obtain ⟨b1, b2, b3, b4⟩ := pop_all n y1 y2 y3 z1 z2 z3 e1 e2 e3 g1 g2 g3
  have c1 : y1 < 18446744073709551616 := by
    have a1 := Nat.and_le_right (n := n >>> 1) (m := 6148914691236517205); have a2 := Nat.and_le_right (n := n) (m := 6148914691236517205); omega
  have a1 := Nat.and_le_right (n := y1 >>> 2) (m := 3689348814741910323)
  have a2 := Nat.and_le_right (n := y1) (m := 3689348814741910323)
  have c2 : y2 ≤ 7378697629483820646 := by omega
  have c3 : y2 >>> 4 ≤ 461168601842738790 := by rw [Nat.shiftRight_eq_div_pow]; omega
  clear a1 a2
  have k1 := k_mask n y1 2 6148914691236517205 (by omega) hn (by rw [e1, Nat.shiftRight_eq_div_pow])
  have k2 := k_mask y1 y2 4 3689348814741910323 (by omega) c1 (by rw [e2, Nat.shiftRight_eq_div_pow])
  have k3 : bits .and .u64 (IntKind.u64.wrap ((y2 : Int) / 16 + (y2 : Int))) 1085102592571150095 = (y3 : Int) := by
    have e : IntKind.u64.wrap ((y2 : Int) / 16 + (y2 : Int)) = (((y2 >>> 4) + y2 : Nat) : Int) := by
      rw [IntKind.wrap_u64, Nat.shiftRight_eq_div_pow]; omega
    rw [e, e3]
    exact and_nat _ 1085102592571150095 (by omega) (by omega)
  have k4 : IntKind.u64.wrap ((y3 : Int) + (y3 : Int) / 256) = (z1 : Int) := by rw [IntKind.wrap_u64]; omega
  have k5 : IntKind.u64.wrap ((z1 : Int) + (z1 : Int) / 65536) = (z2 : Int) := by rw [IntKind.wrap_u64]; omega
  have k6 : IntKind.u64.wrap ((z2 : Int) + (z2 : Int) / 4294967296) = (z3 : Int) := by rw [IntKind.wrap_u64]; omega
  have K1 := Lib.hid k1; have K2 := Lib.hid k2; have K3 := Lib.hid k3; have K4 := Lib.hid k4; have K5 := Lib.hid k5; have K6 := Lib.hid k6
  clear k1 k2 k3 k4 k5 k6 e1 e2 e3 g1 g2 g3 c1 c2 c3
  generalize ones 64 n = m at *
  go_enter Tryd.func35, Tryd.ntmps35
  go_wp2
  have k1 := K1.out; have k2 := K2.out
  simp only [Int.cast_ofNat_Int] at k1 k2
  rw [k1, k2, K3.out, K4.out, K5.out, K6.out]
  go_ret
  exact ⟨ret_int (fin7 z3 m b4), rfl⟩
theorem ones_wd (i : Nat) (s : BS) (w : World) :
    Calls Tryd.prog 35 #[.int .u64 (wd i s)] w fun e w' => e = .returned (.int .i64 (ones 64 (wd i s).toNat)) ∧ w = w' := by
  have l := wd_lo i s
  have u := wd_hi i s
  obtain ⟨n, hn⟩ := Int.eq_ofNat_of_zero_le l
  rw [hn, Int.toNat_natCast]
  exact ones_any n (by omega) w

set_option maxRecDepth 100000 in
set_option maxHeartbeats 1000000 in
theorem len_any (s : BS) (w : World) :
    Calls Tryd.prog 25 #[st s] w fun e w' => e = .returned (.int .i64 ((els s 256).length : Nat)) ∧ Below w.heap.size w w' := by
  have i0 : ∀ w : World, (Instr.index 24 (.agg #[.int .u64 (wd 0 s), .int .u64 (wd 1 s), .int .u64 (wd 2 s), .int .u64 (wd 3 s)]) (.int .i64 0)).run Tryd.prog w = .ok (.int .u64 (wd 0 s)) w := fun _ => by kernel_rfl
  have i1 : ∀ w : World, (Instr.index 24 (.agg #[.int .u64 (wd 0 s), .int .u64 (wd 1 s), .int .u64 (wd 2 s), .int .u64 (wd 3 s)]) (.int .i64 1)).run Tryd.prog w = .ok (.int .u64 (wd 1 s)) w := fun _ => by kernel_rfl
  have i2 : ∀ w : World, (Instr.index 24 (.agg #[.int .u64 (wd 0 s), .int .u64 (wd 1 s), .int .u64 (wd 2 s), .int .u64 (wd 3 s)]) (.int .i64 2)).run Tryd.prog w = .ok (.int .u64 (wd 2 s)) w := fun _ => by kernel_rfl
  have i3 : ∀ w : World, (Instr.index 24 (.agg #[.int .u64 (wd 0 s), .int .u64 (wd 1 s), .int .u64 (wd 2 s), .int .u64 (wd 3 s)]) (.int .i64 3)).run Tryd.prog w = .ok (.int .u64 (wd 3 s)) w := fun _ => by kernel_rfl
  have HE := Lib.hid (els_256 s)
  have o0 := ones_le 64 (wd 0 s).toNat
  have o1 := ones_le 64 (wd 1 s).toNat
  have o2 := ones_le 64 (wd 2 s).toNat
  have o3 := ones_le 64 (wd 3 s).toNat
  have c0 := ones_wd 0 s
  have c1 := ones_wd 1 s
  have c2 := ones_wd 2 s
  have c3 := ones_wd 3 s
  generalize ones 64 (wd 0 s).toNat = p0 at *
  generalize ones 64 (wd 1 s).toNat = p1 at *
  generalize ones 64 (wd 2 s).toNat = p2 at *
  generalize ones 64 (wd 3 s).toNat = p3 at *
  have C0 := Lib.hid c0; have C1 := Lib.hid c1; have C2 := Lib.hid c2; have C3 := Lib.hid c3
  clear c0 c1 c2 c3
  unfold st
  go_enter Tryd.func25, Tryd.ntmps25
  go_wp2
  refine wp_loop_rounds 5 ?_
  rw [rounds_succ]; go_wp2_with (go_at_call 35; refine (C0.out _).mono ?_; rintro e w1 ⟨rfl, rfl⟩)
  rw [rounds_succ]; go_wp2_with (go_at_call 35; refine (C1.out _).mono ?_; rintro e w1 ⟨rfl, rfl⟩)
  rw [rounds_succ]; go_wp2_with (go_at_call 35; refine (C2.out _).mono ?_; rintro e w1 ⟨rfl, rfl⟩)
  rw [rounds_succ]; go_wp2_with (go_at_call 35; refine (C3.out _).mono ?_; rintro e w1 ⟨rfl, rfl⟩)
  rw [rounds_succ]; go_wp2_with fail
  go_ret
  exact ⟨ret_int (by rw [HE.out]; omega), (Below.refl _ _).alloc (Nat.le_refl _) _⟩

theorem Tryd.info3 : (Tryd.prog.info? 3).map (fun i => (i.zero, i.size, i.bytes)) = some (some (.int .i64 0), 1, 8) := by kernel_rfl
def vals (l : List Nat) : List Value := l.map fun (k : Nat) => Value.int .i64 (k : Int)
theorem cells_new1 (w : World) (x : Value) (T : TypeId) : ∀ j u, [x][j]? = some u → (w.alloc (.cells #[x] T)).cell? ((⟨w.heap.size, 0, none⟩ : Addr).add j) = some u := by
  intro j u h
  rw [show (⟨w.heap.size, 0, none⟩ : Addr).add j = ⟨w.heap.size, j, none⟩ by simp [Addr.add]; exact fun e => e.symm, World.cell?_alloc_new]
  simpa using h

set_option maxRecDepth 100000 in
set_option maxHeartbeats 2000000 in
theorem rlist_any (s : BS) (w : World) :
    Calls Tryd.prog 23 #[st s] w fun e w' => ∃ v, e = .returned v ∧ w'.ownsRow (w.heap.size + 1) 3 1 v (els s 256).length (vals (els s 256)) ∧ Below w.heap.size w w' := by
  obtain ⟨i0, hi, hz0, hz1, hz2⟩ := info_parts Tryd.info3
  unfold st
  go_enter Tryd.func23, Tryd.ntmps23
  go_wp2
  go_loopw [3, 4] (fun v i wr => ∃ k : Nat, i = .int .i64 (k : Int) ∧ k ≤ 256 ∧ wr.ownsRow (w.heap.size + 1) 3 1 v (els s k).length (vals (els s k)) ∧ Below w.heap.size w wr ∧ Row4 wr w.heap.size s) (fun _ i _ => (256 - intOf i).toNat)
  case atStart =>
    refine ⟨0, rfl, by omega, World.ownsRow_nil _ _ _ _, (Below.refl _ _).alloc (Nat.le_refl _) _, ?_⟩
    refine ⟨by simp <;> omega, ?_, ?_, ?_, ?_, ?_, ?_, ?_, ?_⟩ <;> first | (go_simp; done)
  case round =>
    obtain ⟨k, rfl, hk, hown, hb, ra⟩ := hrel
    obtain ⟨za, a0, a1, a2, a3, fa0, fa1, fa2, fa3⟩ := id ra
    by_cases hlt : k < 256
    · cases hh : s.getLsbD k
      · have Hh := Lib.hid hh
        clear hh
        go_wp2_with fail
        refine (rhas_at s k hlt false Hh.out _).mono ?_
        rintro e w1 ⟨rfl, hb1⟩
        replace hown := own_below hown hb1
        replace ra := ra.below hb1 ra.size
        replace hb := hb.trans (hb1.mono hb.size)
        clear hb1
        clear za a0 a1 a2 a3 fa0 fa1 fa2 fa3
        go_wp2_with fail
        go_roundw
        case rel => exact ⟨k + 1, by go_num, by omega, by simp only [els, Hh.out]; exact hown, hb, ra⟩
        case measure => simp [intOf]; omega
      · have Hh := Lib.hid hh
        clear hh
        go_wp2_with fail
        refine (rhas_at s k hlt true Hh.out _).mono ?_
        rintro e w1 ⟨rfl, hb1⟩
        replace hown := own_below hown hb1
        replace ra := ra.below hb1 ra.size
        replace hb := hb.trans (hb1.mono hb.size)
        have hsz : w.heap.size + 1 ≤ w1.heap.size := by have := ra.size; omega
        have hln := els_len_le s k
        clear hb1 za a0 a1 a2 a3 fa0 fa1 fa2 fa3
        go_wp2_with (at_builtin; refine wpList_append_own _ rfl _ _ 33 rfl (w.heap.size + 1) 3 i0 (.int .i64 0) 1 8 Tryd.underlying33 hi hz0 hz1 hz2 rfl (by decide) _ _ _ rfl (hown.alloc _) ⟨w1.heap.size, 0, none⟩ 1 1 [.int .i64 (k : Int)] rfl rfl ?c1 ?c2 ?c3 ?c4 ?c5 ?_)
        case c1 => exact cells_new1 _ _ _
        case c2 => intro u hu; simp at hu; subst hu; rfl
        case c3 => unfold maxLen; omega
        case c4 => omega
        case c5 => simp; omega
        intro v' w4 hown4 hgrow _
        have hrow := fun j hj => (hown.lt j hj).1
        have hB4 : Below w.heap.size w w4 := (hb.alloc (by omega) _).grown hgrow (by simp; omega) (fun j hj => by have := hrow j hj; omega)
        have ra4 : Row4 w4 w.heap.size s := ra.below (N := w.heap.size + 1) (((Below.refl _ _).alloc hsz _).grown hgrow (by simp; omega) hrow) (by omega)
        clear hgrow hown hrow
        go_wp2_with fail
        go_roundw
        case rel => exact ⟨k + 1, by go_num, by omega, by simp only [els, Hh.out, if_true, vals, List.map_append, List.length_append, List.map_cons, List.map_nil, List.length_cons, List.length_nil]; exact hown4, hB4, ra4⟩
        case measure => simp [intOf]; omega
    · go_wp2_with fail
      obtain rfl : k = 256 := by omega
      go_ret
      exact ⟨_, rfl, hown, hb⟩
end Go.Proofs.YtcdogfaiaddkcaaDoor
