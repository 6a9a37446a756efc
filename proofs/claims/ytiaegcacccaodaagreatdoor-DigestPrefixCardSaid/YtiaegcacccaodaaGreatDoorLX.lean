/-
  The law DigestPrefix, out of a contract for alive that the premise gives.
-/
import Derived.Test.YtiaegcacccaodaaGreatDoorD5
import Derived.Test.YtiaegcacccaodaaGreatDoorD6
import Derived.Test.YtiaegcacccaodaaGreatDoorAB
import Derived.Deep.RegionHeld3
namespace Go.Proofs.YtiaegcacccaodaaGreatDoor.Dg
open Go.RowKit
set_option linter.unusedSimpArgs false
set_option linter.unnecessarySimpa false
set_option linter.unusedVariables false
/-- the sum of a text, to the block -/
theorem sumX (s : ByteArray) (hs : s.size ≤ 1000000) (w : World) :
    Calls Tryz.prog 12 #[.string s] w fun e w' => e = .returned (.int .u64 (hsum 14695981039346656037 s.data.toList : Nat)) ∧ w' = w.alloc (.cells #[.string s] 9) := by
  have C := Lib.hid (sum_any [s] w.heap.size 1 (w.alloc (.cells #[.string s] 9)) (fun i x hx => by
    rw [World.cell?_alloc_new]
    match i, hx with
    | 0, hx => simpa using hx
    | i + 1, hx => simp at hx) (by simp) (fun x hx => by simp at hx; subst hx; exact hs))
  obtain ⟨z, hz⟩ : ∃ z, z = hsum 14695981039346656037 s.data.toList := ⟨_, rfl⟩
  have hz2 : hsum 14695981039346656037 ([s].flatMap fun s => s.data.toList) = z := by rw [hz]; simp
  rw [hz2] at C
  rw [← hz]
  clear hz hz2
  go_enter Tryz.func12, Tryz.ntmps12
  go_wp2_with fail
  refine C.out.mono ?_
  rintro e w1 ⟨rfl, rfl⟩
  go_wp2_with fail
  go_ret
  exact ⟨rfl, rfl⟩
theorem endQ {w w1 W : World} {p : Nat} {u v : Value} {a b : Value} (HP : Hid (w1.cell? ⟨p, 0, none⟩ = some u ∧ w1.cell? ⟨p, 1, none⟩ = some v)) (HB : Hid (Below w.heap.size w w1)) (h : Below w1.heap.size w1 W) :
    a = a ∧ b = b ∧ Hid (W.cell? ⟨p, 0, none⟩ = some u) ∧ Hid (W.cell? ⟨p, 1, none⟩ = some v) ∧ Hid (Below w.heap.size w W) :=
  ⟨rfl, rfl, Lib.hid (cell_keep HP.out.1 h), Lib.hid (cell_keep HP.out.2 h), Lib.hid (HB.out.trans (h.mono HB.out.size))⟩
theorem conv1 (W : World) (b : Nat) (c : UInt8) (h : W.cell? ⟨b, 0, none⟩ = some (.int .u8 (c.toNat : Int))) : (convert 52 9 (.slice (some ⟨b, 0, none⟩) 1 1)).run Tryz.prog W = .ok (.string ⟨#[c]⟩) W :=
  Go.run_convert_bytes_back W 52 9 5 ⟨b, 0, none⟩ 1 [c] Tryz.underlying52 Tryz.underlying5 Tryz.underlying9 (fun j hj => by
    obtain rfl : j = 0 := by simpa using hj
    exact h)
set_option maxRecDepth 100000 in
set_option maxHeartbeats 4000000 in
theorem law_prefix (s t : ByteArray) (c0 c1 : UInt8) (w : World) (HA : Alive w) :
    Calls Tryz.prog 9 #[.string s, .string t, .agg #[.int .u8 (c0.toNat : Int), .int .u8 (c1.toNat : Int)]] w fun e w' => e = .returned (.bool true) ∧ Below w.heap.size w w' := by
  have HAL := Lib.hid HA
  clear HA
  have hb0 : Below w.heap.size w (w.alloc (.cells #[.int .u8 (c0.toNat : Int), .int .u8 (c1.toNat : Int)] 51)) := (Below.refl _ _).alloc (Nat.le_refl _) _
  have HB0 := Lib.hid hb0
  clear hb0
  by_cases hs : s.size ≤ 500
  · have h1 : ¬ (500 : Int) < (s.size : Int) := by omega
    by_cases ht : t.size ≤ 500
    · have h2 : ¬ (500 : Int) < (t.size : Int) := by omega
      go_enter Tryz.func9, Tryz.ntmps9
      go_wp2_with fail
      obtain ⟨h0, hh0⟩ : ∃ n, n = hsum 14695981039346656037 s.data.toList := ⟨_, rfl⟩
      have K1 := sumX s (by omega) (w.alloc (.cells #[.int .u8 (c0.toNat : Int), .int .u8 (c1.toNat : Int)] 51))
      rw [← hh0] at K1
      have hlt0 : h0 < 18446744073709551616 := by rw [hh0]; exact hsum_lt _ _ (by decide)
      have HH0 := Lib.hid hh0
      clear hh0
      refine K1.mono ?_
      rintro e w1 ⟨rfl, hw1⟩
      have HB1 : Hid (Below w.heap.size w w1) := Lib.hid (by rw [hw1]; exact HB0.out.alloc HB0.out.size _)
      have HC0 : Hid (w1.cell? ⟨w.heap.size, 0, none⟩ = some (.int .u8 (c0.toNat : Int))) := Lib.hid (by rw [hw1]; simp)
      have HC1 : Hid (w1.cell? ⟨w.heap.size, 1, none⟩ = some (.int .u8 (c1.toNat : Int))) := Lib.hid (by rw [hw1]; simp)
      clear hw1 K1 HB0
      go_wp2_with fail
      go_loop [7, 8] (fun h i => ∃ k : Nat, i = .int .i64 (k : Int) ∧ k ≤ t.size ∧ h = .int .u64 ((hsum h0 (t.data.toList.take k) : Nat) : Int)) (fun _ i => (t.size - intOf i).toNat)
      case atStart => exact ⟨0, rfl, by omega, by rw [List.take_zero, hsum_nil]⟩
      case round =>
        obtain ⟨k, rfl, hk, rfl⟩ := hrel
        by_cases hlt : k < t.size
        · have hki : (k : Int) < (t.size : Int) := by omega
          have wk : IntKind.i64.wrap ((k : Int) + 1) = (k : Int) + 1 := by simp [IntKind.wrap, IntKind.bits, IntKind.signed]; omega
          have hb := hsum_lt (t.data.toList.take k) h0 hlt0
          have hc : (t[k]).toNat < 256 := (t[k]).toNat_lt
          have hx := xor_nat _ _ hb hc
          have hm := mul_nat (hsum h0 (t.data.toList.take k) ^^^ (t[k]).toNat)
          have wc : IntKind.u64.wrap (((t[k]).toNat : Nat) : Int) = (((t[k]).toNat : Nat) : Int) := by simp [IntKind.wrap, IntKind.bits, IntKind.signed]; omega
          have hnx : hsum h0 (t.data.toList.take (k + 1)) = (hsum h0 (t.data.toList.take k) ^^^ (t[k]).toNat) * 1099511628211 % 18446744073709551616 := by rw [take_next t k hlt, hsum_snoc, hstep]
          generalize hsum h0 (t.data.toList.take k) = h at *
          obtain ⟨z, hz⟩ : ∃ z : Nat, z = (h ^^^ (t[k]).toNat) * 1099511628211 % 18446744073709551616 := ⟨_, rfl⟩
          rw [← hz] at hm hnx
          have HNX := Lib.hid hnx
          clear hnx hz
          go_wp2_with fail
          go_round
          case rel => exact ⟨k + 1, by go_num, by omega, by rw [HNX.out]⟩
          case measure => simp [intOf]; omega
        · obtain rfl : k = t.size := by omega
          have htk : t.data.toList.take t.size = t.data.toList := List.take_of_length_le (by simp)
          rw [htk]
          clear htk
          obtain ⟨g, hg⟩ : ∃ g : Nat, g = hsum h0 t.data.toList := ⟨_, rfl⟩
          rw [← hg]
          have HG := Lib.hid hg
          clear hg
          have hC0 := HC0.out
          have hC1 := HC1.out
          go_upto_region 8 with (fail)
          have HX := Lib.hid (fun w => sumX (s ++ ⟨#[c0]⟩ ++ t) (by rw [ByteArray.size_append, ByteArray.size_append]; show s.size + 1 + t.size ≤ _; omega) w)
          have HY := Lib.hid (fun w => sumX (s ++ ⟨#[c1]⟩ ++ t) (by rw [ByteArray.size_append, ByteArray.size_append]; show s.size + 1 + t.size ≤ _; omega) w)
          obtain ⟨x, hx⟩ : ∃ n, n = hsum 14695981039346656037 (s ++ ⟨#[c0]⟩ ++ t).data.toList := ⟨_, rfl⟩
          obtain ⟨y, hy⟩ : ∃ n, n = hsum 14695981039346656037 (s ++ ⟨#[c1]⟩ ++ t).data.toList := ⟨_, rfl⟩
          rw [← hx] at HX
          rw [← hy] at HY
          have HXY := Lib.hid (And.intro hx hy)
          clear hx hy
          have HP := Lib.hid (And.intro HC0.out HC1.out)
          go_cut [9, 10] (fun s9 s10 wx => s9 = .int .u64 (x : Int) ∧ s10 = .int .u64 (y : Int) ∧ Hid (wx.cell? ⟨w.heap.size, 0, none⟩ = some (.int .u8 (c0.toNat : Int))) ∧ Hid (wx.cell? ⟨w.heap.size, 1, none⟩ = some (.int .u8 (c1.toNat : Int))) ∧ Hid (Below w.heap.size w wx))
          case first =>
            have hv0 := fun (W : World) (b : Nat) => conv1 W b c0
            have hv1 := fun (W : World) (b : Nat) => conv1 W b c1
            have hz0 : ¬ (9223372036854775807 < s.size + 1) := by omega
            have hz1 : ¬ (9223372036854775807 < s.size + 1 + t.size) := by omega
            have hl1 : w1.heap.size < w1.heap.size + 1 + 1 := by omega
            have hl2 : w1.heap.size < w1.heap.size + 1 + 1 + 1 := by omega
            have hl3 : w1.heap.size + 1 < w1.heap.size + 1 + 1 + 1 := by omega
            have hl4 : w1.heap.size < w1.heap.size + 2 := by omega
            have hl5 : w1.heap.size < w1.heap.size + 3 := by omega
            have hl6 : w1.heap.size + 1 < w1.heap.size + 3 := by omega
            have hs1 : (⟨#[c0]⟩ : ByteArray).size = 1 := rfl
            have hs2 : (⟨#[c1]⟩ : ByteArray).size = 1 := rfl
            refine wp_region_held_drew (S := fun w' => Below w1.heap.size w1 w') (by kernel_rfl) ((Below.refl w1.heap.size w1).drew) (fun hHeld => ?_)
            generalize w1.drew = W0 at *
            refine wpAnyH_take (i := 0) (oi := { dst := some 35, op := Op.move (Operand.tmp 0), type := 9, pos := "law.go:136", after := #[], guard := none }) (v := ?v0_1) rfl (by kernel_rfl) (by kernel_rfl) (by kernel_rfl) (fun _ _ _ h => h) (Or.inl ⟨by rfl, ?y0_1⟩) hHeld ?r0_1
            case y0_1 => (intro W hSw; (try dsimp only at hSw); go_simp; (try with_reducible rfl))
            try simp only [Act.put, List.setIfInBounds_toArray, List.set_cons_zero, List.set_cons_succ]
            refine wpAnyH_take (i := 1) (oi := { dst := some 36, op := Op.indexAddr 51 (Operand.tmp 5) (Operand.const (Value.int IntKind.i64 0)), type := 0, pos := "law.go:136", after := #[], guard := none }) (v := ?v1_2) rfl (by kernel_rfl) (by kernel_rfl) (by kernel_rfl) (fun _ _ _ h => h) (Or.inl ⟨by rfl, ?y1_2⟩) hHeld ?r1_2
            case y1_2 => (intro W hSw; (try dsimp only at hSw); go_simp; (try with_reducible rfl))
            try simp only [Act.put, List.setIfInBounds_toArray, List.set_cons_zero, List.set_cons_succ]
            refine wpAnyH_take (i := 2) (oi := { dst := some 37, op := Op.load 5 (Operand.tmp 36), type := 5, pos := "law.go:136", after := #[{ on := 1, ground := Ground.data }], guard := none }) (v := ?v2_3) rfl (by kernel_rfl) (by kernel_rfl) (by kernel_rfl) (fun _ _ _ h => h) (Or.inl ⟨by rfl, ?y2_3⟩) hHeld ?r2_3
            case y2_3 => (intro W hSw; (try dsimp only at hSw); have hc := cell_keep HP.out.1 hSw; go_simp; (try with_reducible rfl))
            try simp only [Act.put, List.setIfInBounds_toArray, List.set_cons_zero, List.set_cons_succ]
            refine wpAnyH_take (i := 6) (oi := { dst := some 41, op := Op.move (Operand.tmp 1), type := 9, pos := "law.go:136", after := #[], guard := none }) (v := ?v6_4) rfl (by kernel_rfl) (by kernel_rfl) (by kernel_rfl) (fun _ _ _ h => h) (Or.inl ⟨by rfl, ?y6_4⟩) hHeld ?r6_4
            case y6_4 => (intro W hSw; (try dsimp only at hSw); go_simp; (try with_reducible rfl))
            try simp only [Act.put, List.setIfInBounds_toArray, List.set_cons_zero, List.set_cons_succ]
            refine wpAnyH_take (i := 9) (oi := { dst := some 44, op := Op.move (Operand.tmp 0), type := 9, pos := "law.go:136", after := #[], guard := none }) (v := ?v9_5) rfl (by kernel_rfl) (by kernel_rfl) (by kernel_rfl) (fun _ _ _ h => h) (Or.inl ⟨by rfl, ?y9_5⟩) hHeld ?r9_5
            case y9_5 => (intro W hSw; (try dsimp only at hSw); go_simp; (try with_reducible rfl))
            try simp only [Act.put, List.setIfInBounds_toArray, List.set_cons_zero, List.set_cons_succ]
            refine wpAnyH_take (i := 10) (oi := { dst := some 45, op := Op.indexAddr 51 (Operand.tmp 5) (Operand.const (Value.int IntKind.i64 1)), type := 0, pos := "law.go:136", after := #[], guard := none }) (v := ?v10_6) rfl (by kernel_rfl) (by kernel_rfl) (by kernel_rfl) (fun _ _ _ h => h) (Or.inl ⟨by rfl, ?y10_6⟩) hHeld ?r10_6
            case y10_6 => (intro W hSw; (try dsimp only at hSw); go_simp; (try with_reducible rfl))
            try simp only [Act.put, List.setIfInBounds_toArray, List.set_cons_zero, List.set_cons_succ]
            refine wpAnyH_take (i := 11) (oi := { dst := some 46, op := Op.load 5 (Operand.tmp 45), type := 5, pos := "law.go:136", after := #[{ on := 10, ground := Ground.data }], guard := none }) (v := ?v11_7) rfl (by kernel_rfl) (by kernel_rfl) (by kernel_rfl) (fun _ _ _ h => h) (Or.inl ⟨by rfl, ?y11_7⟩) hHeld ?r11_7
            case y11_7 => (intro W hSw; (try dsimp only at hSw); have hc := cell_keep HP.out.2 hSw; go_simp; (try with_reducible rfl))
            try simp only [Act.put, List.setIfInBounds_toArray, List.set_cons_zero, List.set_cons_succ]
            refine wpAnyH_take (i := 15) (oi := { dst := some 50, op := Op.move (Operand.tmp 1), type := 9, pos := "law.go:136", after := #[], guard := none }) (v := ?v15_8) rfl (by kernel_rfl) (by kernel_rfl) (by kernel_rfl) (fun _ _ _ h => h) (Or.inl ⟨by rfl, ?y15_8⟩) hHeld ?r15_8
            case y15_8 => (intro W hSw; (try dsimp only at hSw); go_simp; (try with_reducible rfl))
            try simp only [Act.put, List.setIfInBounds_toArray, List.set_cons_zero, List.set_cons_succ]
            refine wpAnyH_ready (rs := [3, 12]) (by kernel_rfl) (by simp) ?_
            refine AllReadyH.cons (o := { dst := some 38, op := Op.buildSlice 52 1 #[(0, Operand.tmp 37)], type := 52, pos := "law.go:136", after := #[{ on := 2, ground := Ground.data }], guard := none }) rfl (fun K hK => ?c3_9) (AllReadyH.cons (o := { dst := some 47, op := Op.buildSlice 52 1 #[(0, Operand.tmp 46)], type := 52, pos := "law.go:136", after := #[{ on := 11, ground := Ground.data }], guard := none }) rfl (fun K hK => ?c12_9) AllReadyH.nil)
            case c3_9 =>
              go_simp
              have hH2 := hHeld.alloc hHeld.size (.cells #[.int .u8 (c0.toNat : Int)] 5)
              have FA := Lib.hid (show (W0.alloc (.cells #[.int .u8 (c0.toNat : Int)] 5)).cell? ⟨W0.heap.size, 0, none⟩ = some (.int .u8 (c0.toNat : Int)) by simp)
              refine hK.out _ _ hH2 (fun hX => ?_)
              clear hHeld hH2 hK K
              have hHeld := hX
              clear hX
              generalize W0.alloc (.cells #[.int .u8 (c0.toNat : Int)] 5) = W1 at *
              generalize W0.heap.size = bA at *
              try simp only [Act.put, List.setIfInBounds_toArray, List.set_cons_zero, List.set_cons_succ]
              refine wpAnyH_ready (rs := [4, 12]) (by kernel_rfl) (by simp) ?_
              refine AllReadyH.cons (o := { dst := some 39, op := Op.convert 52 9 (Operand.tmp 38), type := 9, pos := "law.go:136", after := #[{ on := 3, ground := Ground.data }], guard := none }) rfl (fun K hK => ?c4_10) (AllReadyH.cons (o := { dst := some 47, op := Op.buildSlice 52 1 #[(0, Operand.tmp 46)], type := 52, pos := "law.go:136", after := #[{ on := 11, ground := Ground.data }], guard := none }) rfl (fun K hK => ?c12_10) AllReadyH.nil)
              case c4_10 =>
                have hv := conv1 W1 bA c0 FA.out
                go_simp
                clear hv FA
                refine hK.out _ _ hHeld (fun hX => ?_)
                clear hK K hX
                try simp only [Act.put, List.setIfInBounds_toArray, List.set_cons_zero, List.set_cons_succ]
                refine wpAnyH_take (i := 5) (oi := { dst := some 40, op := Op.binOp BinOp.add 9 (Operand.tmp 35) (Operand.tmp 39) 9, type := 9, pos := "law.go:136", after := #[{ on := 0, ground := Ground.data }, { on := 4, ground := Ground.data }], guard := none }) (v := ?v5_11) rfl (by kernel_rfl) (by kernel_rfl) (by kernel_rfl) (fun _ _ _ h => h) (Or.inl ⟨by rfl, ?y5_11⟩) hHeld ?r5_11
                case y5_11 => (intro W hSw; (try dsimp only at hSw); go_simp; (try with_reducible rfl))
                try simp only [Act.put, List.setIfInBounds_toArray, List.set_cons_zero, List.set_cons_succ]
                refine wpAnyH_take (i := 7) (oi := { dst := some 42, op := Op.binOp BinOp.add 9 (Operand.tmp 40) (Operand.tmp 41) 9, type := 9, pos := "law.go:136", after := #[{ on := 5, ground := Ground.data }, { on := 6, ground := Ground.data }], guard := none }) (v := ?v7_12) rfl (by kernel_rfl) (by kernel_rfl) (by kernel_rfl) (fun _ _ _ h => h) (Or.inl ⟨by rfl, ?y7_12⟩) hHeld ?r7_12
                case y7_12 => (intro W hSw; (try dsimp only at hSw); go_simp; (try with_reducible rfl))
                try simp only [Act.put, List.setIfInBounds_toArray, List.set_cons_zero, List.set_cons_succ]
                refine wpAnyH_ready (rs := [8, 12]) (by kernel_rfl) (by simp) ?_
                refine AllReadyH.cons (o := { dst := some 43, op := Op.call { callee := Callee.value (Operand.func 12), args := #[Operand.tmp 42], argTypes := #[9] }, type := 23, pos := "law.go:136", after := #[{ on := 7, ground := Ground.data }], guard := none }) rfl (fun K hK => ?c8_13) (AllReadyH.cons (o := { dst := some 47, op := Op.buildSlice 52 1 #[(0, Operand.tmp 46)], type := 52, pos := "law.go:136", after := #[{ on := 11, ground := Ground.data }], guard := none }) rfl (fun K hK => ?c12_13) AllReadyH.nil)
                case c8_13 =>
                  go_simp
                  refine (HX.out _).mono ?_
                  rintro e u ⟨rfl, rfl⟩
                  try dsimp only
                  have hH2 := hHeld.alloc hHeld.size (.cells #[.string (s ++ ⟨#[c0]⟩ ++ t)] 9)
                  refine hK.out _ _ hH2 (fun hX => ?_)
                  clear hHeld hH2 hK K
                  have hHeld := hX
                  clear hX
                  generalize W1.alloc (.cells #[.string (s ++ ⟨#[c0]⟩ ++ t)] 9) = W3 at *
                  try simp only [Act.put, List.setIfInBounds_toArray, List.set_cons_zero, List.set_cons_succ]
                  refine wpAnyH_ready (rs := [12]) (by kernel_rfl) (by simp) ?_
                  refine AllReadyH.cons (o := { dst := some 47, op := Op.buildSlice 52 1 #[(0, Operand.tmp 46)], type := 52, pos := "law.go:136", after := #[{ on := 11, ground := Ground.data }], guard := none }) rfl (fun K hK => ?c12_14) AllReadyH.nil
                  case c12_14 =>
                    go_simp
                    have hH2 := hHeld.alloc hHeld.size (.cells #[.int .u8 (c1.toNat : Int)] 5)
                    have FB := Lib.hid (show (W3.alloc (.cells #[.int .u8 (c1.toNat : Int)] 5)).cell? ⟨W3.heap.size, 0, none⟩ = some (.int .u8 (c1.toNat : Int)) by simp)
                    refine hK.out _ _ hH2 (fun hX => ?_)
                    clear hHeld hH2 hK K
                    have hHeld := hX
                    clear hX
                    generalize W3.alloc (.cells #[.int .u8 (c1.toNat : Int)] 5) = W4 at *
                    generalize W3.heap.size = bB at *
                    try simp only [Act.put, List.setIfInBounds_toArray, List.set_cons_zero, List.set_cons_succ]
                    refine wpAnyH_ready (rs := [13]) (by kernel_rfl) (by simp) ?_
                    refine AllReadyH.cons (o := { dst := some 48, op := Op.convert 52 9 (Operand.tmp 47), type := 9, pos := "law.go:136", after := #[{ on := 12, ground := Ground.data }], guard := none }) rfl (fun K hK => ?c13_15) AllReadyH.nil
                    case c13_15 =>
                      have hv := conv1 W4 bB c1 FB.out
                      go_simp
                      clear hv FB
                      refine hK.out _ _ hHeld (fun hX => ?_)
                      clear hK K hX
                      try simp only [Act.put, List.setIfInBounds_toArray, List.set_cons_zero, List.set_cons_succ]
                      refine wpAnyH_take (i := 14) (oi := { dst := some 49, op := Op.binOp BinOp.add 9 (Operand.tmp 44) (Operand.tmp 48) 9, type := 9, pos := "law.go:136", after := #[{ on := 9, ground := Ground.data }, { on := 13, ground := Ground.data }], guard := none }) (v := ?v14_16) rfl (by kernel_rfl) (by kernel_rfl) (by kernel_rfl) (fun _ _ _ h => h) (Or.inl ⟨by rfl, ?y14_16⟩) hHeld ?r14_16
                      case y14_16 => (intro W hSw; (try dsimp only at hSw); go_simp; (try with_reducible rfl))
                      try simp only [Act.put, List.setIfInBounds_toArray, List.set_cons_zero, List.set_cons_succ]
                      refine wpAnyH_take (i := 16) (oi := { dst := some 51, op := Op.binOp BinOp.add 9 (Operand.tmp 49) (Operand.tmp 50) 9, type := 9, pos := "law.go:136", after := #[{ on := 14, ground := Ground.data }, { on := 15, ground := Ground.data }], guard := none }) (v := ?v16_17) rfl (by kernel_rfl) (by kernel_rfl) (by kernel_rfl) (fun _ _ _ h => h) (Or.inl ⟨by rfl, ?y16_17⟩) hHeld ?r16_17
                      case y16_17 => (intro W hSw; (try dsimp only at hSw); go_simp; (try with_reducible rfl))
                      try simp only [Act.put, List.setIfInBounds_toArray, List.set_cons_zero, List.set_cons_succ]
                      refine wpAnyH_ready (rs := [17]) (by kernel_rfl) (by simp) ?_
                      refine AllReadyH.cons (o := { dst := some 52, op := Op.call { callee := Callee.value (Operand.func 12), args := #[Operand.tmp 51], argTypes := #[9] }, type := 23, pos := "law.go:136", after := #[{ on := 16, ground := Ground.data }, { on := 8, ground := Ground.chain }], guard := none }) rfl (fun K hK => ?_) AllReadyH.nil
                      go_simp
                      refine (HY.out _).mono ?_
                      rintro e u ⟨rfl, rfl⟩
                      try dsimp only
                      have hH2 := hHeld.alloc hHeld.size (.cells #[.string (s ++ ⟨#[c1]⟩ ++ t)] 9)
                      refine hK.out _ _ hH2 (fun hX => ?_)
                      clear hHeld hH2 hK K
                      have hHeld := hX
                      clear hX
                      generalize W4.alloc (.cells #[.string (s ++ ⟨#[c1]⟩ ++ t)] 9) = W6 at *
                      try simp only [Act.put, List.setIfInBounds_toArray, List.set_cons_zero, List.set_cons_succ]
                      refine wpAnyH_take (i := 18) (oi := { dst := some 9, op := Op.assign (Operand.tmp 43), type := 23, pos := "law.go:136", after := #[{ on := 8, ground := Ground.data }, { on := 17, ground := Ground.chain }, { on := 0, ground := Ground.phase }, { on := 1, ground := Ground.phase }, { on := 2, ground := Ground.phase }, { on := 3, ground := Ground.phase }, { on := 4, ground := Ground.phase }, { on := 5, ground := Ground.phase }, { on := 6, ground := Ground.phase }, { on := 7, ground := Ground.phase }, { on := 8, ground := Ground.phase }, { on := 9, ground := Ground.textOnly Departure.lateStores }, { on := 10, ground := Ground.textOnly Departure.lateStores }, { on := 11, ground := Ground.textOnly Departure.lateStores }, { on := 12, ground := Ground.textOnly Departure.lateStores }, { on := 13, ground := Ground.textOnly Departure.lateStores }, { on := 14, ground := Ground.textOnly Departure.lateStores }, { on := 15, ground := Ground.textOnly Departure.lateStores }, { on := 16, ground := Ground.textOnly Departure.lateStores }, { on := 17, ground := Ground.textOnly Departure.lateStoresUnsure }], guard := none }) (v := ?v18_18) rfl (by kernel_rfl) (by kernel_rfl) (by kernel_rfl) (fun _ _ _ h => h) (Or.inl ⟨by rfl, ?y18_18⟩) hHeld ?r18_18
                      case y18_18 => (intro W hSw; (try dsimp only at hSw); go_simp; (try with_reducible rfl))
                      try simp only [Act.put, List.setIfInBounds_toArray, List.set_cons_zero, List.set_cons_succ]
                      refine wpAnyH_take (i := 19) (oi := { dst := some 10, op := Op.assign (Operand.tmp 52), type := 23, pos := "law.go:136", after := #[{ on := 17, ground := Ground.data }, { on := 18, ground := Ground.chain }, { on := 0, ground := Ground.phase }, { on := 1, ground := Ground.phase }, { on := 2, ground := Ground.phase }, { on := 3, ground := Ground.phase }, { on := 4, ground := Ground.phase }, { on := 5, ground := Ground.phase }, { on := 6, ground := Ground.phase }, { on := 7, ground := Ground.phase }, { on := 8, ground := Ground.phase }, { on := 9, ground := Ground.phase }, { on := 10, ground := Ground.phase }, { on := 11, ground := Ground.phase }, { on := 12, ground := Ground.phase }, { on := 13, ground := Ground.phase }, { on := 14, ground := Ground.phase }, { on := 15, ground := Ground.phase }, { on := 16, ground := Ground.phase }, { on := 17, ground := Ground.phase }, { on := 18, ground := Ground.phase }], guard := none }) (v := ?v19_19) rfl (by kernel_rfl) (by kernel_rfl) (by kernel_rfl) (fun _ _ _ h => h) (Or.inl ⟨by rfl, ?y19_19⟩) hHeld ?r19_19
                      case y19_19 => (intro W hSw; (try dsimp only at hSw); go_simp; (try with_reducible rfl))
                      try simp only [Act.put, List.setIfInBounds_toArray, List.set_cons_zero, List.set_cons_succ]
                      refine wpAnyH_done (by kernel_rfl) ?_ _
                      go_wp2_with fail
                      go_meet
                      exact endQ HP HB1 hHeld
                case c12_13 =>
                  go_simp
                  have hH2 := hHeld.alloc hHeld.size (.cells #[.int .u8 (c1.toNat : Int)] 5)
                  have FB := Lib.hid (show (W1.alloc (.cells #[.int .u8 (c1.toNat : Int)] 5)).cell? ⟨W1.heap.size, 0, none⟩ = some (.int .u8 (c1.toNat : Int)) by simp)
                  refine hK.out _ _ hH2 (fun hX => ?_)
                  clear hHeld hH2 hK K
                  have hHeld := hX
                  clear hX
                  generalize W1.alloc (.cells #[.int .u8 (c1.toNat : Int)] 5) = W3 at *
                  generalize W1.heap.size = bB at *
                  try simp only [Act.put, List.setIfInBounds_toArray, List.set_cons_zero, List.set_cons_succ]
                  refine wpAnyH_ready (rs := [8, 13]) (by kernel_rfl) (by simp) ?_
                  refine AllReadyH.cons (o := { dst := some 43, op := Op.call { callee := Callee.value (Operand.func 12), args := #[Operand.tmp 42], argTypes := #[9] }, type := 23, pos := "law.go:136", after := #[{ on := 7, ground := Ground.data }], guard := none }) rfl (fun K hK => ?c8_20) (AllReadyH.cons (o := { dst := some 48, op := Op.convert 52 9 (Operand.tmp 47), type := 9, pos := "law.go:136", after := #[{ on := 12, ground := Ground.data }], guard := none }) rfl (fun K hK => ?c13_20) AllReadyH.nil)
                  case c8_20 =>
                    go_simp
                    refine (HX.out _).mono ?_
                    rintro e u ⟨rfl, rfl⟩
                    try dsimp only
                    have hH2 := hHeld.alloc hHeld.size (.cells #[.string (s ++ ⟨#[c0]⟩ ++ t)] 9)
                    replace FB := Lib.hid (cell_keep FB.out ((Below.refl W3.heap.size W3).alloc (Nat.le_refl _) (.cells #[.string (s ++ ⟨#[c0]⟩ ++ t)] 9)))
                    refine hK.out _ _ hH2 (fun hX => ?_)
                    clear hHeld hH2 hK K
                    have hHeld := hX
                    clear hX
                    generalize W3.alloc (.cells #[.string (s ++ ⟨#[c0]⟩ ++ t)] 9) = W4 at *
                    try simp only [Act.put, List.setIfInBounds_toArray, List.set_cons_zero, List.set_cons_succ]
                    refine wpAnyH_ready (rs := [13]) (by kernel_rfl) (by simp) ?_
                    refine AllReadyH.cons (o := { dst := some 48, op := Op.convert 52 9 (Operand.tmp 47), type := 9, pos := "law.go:136", after := #[{ on := 12, ground := Ground.data }], guard := none }) rfl (fun K hK => ?c13_21) AllReadyH.nil
                    case c13_21 =>
                      have hv := conv1 W4 bB c1 FB.out
                      go_simp
                      clear hv FB
                      refine hK.out _ _ hHeld (fun hX => ?_)
                      clear hK K hX
                      try simp only [Act.put, List.setIfInBounds_toArray, List.set_cons_zero, List.set_cons_succ]
                      refine wpAnyH_take (i := 14) (oi := { dst := some 49, op := Op.binOp BinOp.add 9 (Operand.tmp 44) (Operand.tmp 48) 9, type := 9, pos := "law.go:136", after := #[{ on := 9, ground := Ground.data }, { on := 13, ground := Ground.data }], guard := none }) (v := ?v14_22) rfl (by kernel_rfl) (by kernel_rfl) (by kernel_rfl) (fun _ _ _ h => h) (Or.inl ⟨by rfl, ?y14_22⟩) hHeld ?r14_22
                      case y14_22 => (intro W hSw; (try dsimp only at hSw); go_simp; (try with_reducible rfl))
                      try simp only [Act.put, List.setIfInBounds_toArray, List.set_cons_zero, List.set_cons_succ]
                      refine wpAnyH_take (i := 16) (oi := { dst := some 51, op := Op.binOp BinOp.add 9 (Operand.tmp 49) (Operand.tmp 50) 9, type := 9, pos := "law.go:136", after := #[{ on := 14, ground := Ground.data }, { on := 15, ground := Ground.data }], guard := none }) (v := ?v16_23) rfl (by kernel_rfl) (by kernel_rfl) (by kernel_rfl) (fun _ _ _ h => h) (Or.inl ⟨by rfl, ?y16_23⟩) hHeld ?r16_23
                      case y16_23 => (intro W hSw; (try dsimp only at hSw); go_simp; (try with_reducible rfl))
                      try simp only [Act.put, List.setIfInBounds_toArray, List.set_cons_zero, List.set_cons_succ]
                      refine wpAnyH_ready (rs := [17]) (by kernel_rfl) (by simp) ?_
                      refine AllReadyH.cons (o := { dst := some 52, op := Op.call { callee := Callee.value (Operand.func 12), args := #[Operand.tmp 51], argTypes := #[9] }, type := 23, pos := "law.go:136", after := #[{ on := 16, ground := Ground.data }, { on := 8, ground := Ground.chain }], guard := none }) rfl (fun K hK => ?_) AllReadyH.nil
                      go_simp
                      refine (HY.out _).mono ?_
                      rintro e u ⟨rfl, rfl⟩
                      try dsimp only
                      have hH2 := hHeld.alloc hHeld.size (.cells #[.string (s ++ ⟨#[c1]⟩ ++ t)] 9)
                      refine hK.out _ _ hH2 (fun hX => ?_)
                      clear hHeld hH2 hK K
                      have hHeld := hX
                      clear hX
                      generalize W4.alloc (.cells #[.string (s ++ ⟨#[c1]⟩ ++ t)] 9) = W6 at *
                      try simp only [Act.put, List.setIfInBounds_toArray, List.set_cons_zero, List.set_cons_succ]
                      refine wpAnyH_take (i := 18) (oi := { dst := some 9, op := Op.assign (Operand.tmp 43), type := 23, pos := "law.go:136", after := #[{ on := 8, ground := Ground.data }, { on := 17, ground := Ground.chain }, { on := 0, ground := Ground.phase }, { on := 1, ground := Ground.phase }, { on := 2, ground := Ground.phase }, { on := 3, ground := Ground.phase }, { on := 4, ground := Ground.phase }, { on := 5, ground := Ground.phase }, { on := 6, ground := Ground.phase }, { on := 7, ground := Ground.phase }, { on := 8, ground := Ground.phase }, { on := 9, ground := Ground.textOnly Departure.lateStores }, { on := 10, ground := Ground.textOnly Departure.lateStores }, { on := 11, ground := Ground.textOnly Departure.lateStores }, { on := 12, ground := Ground.textOnly Departure.lateStores }, { on := 13, ground := Ground.textOnly Departure.lateStores }, { on := 14, ground := Ground.textOnly Departure.lateStores }, { on := 15, ground := Ground.textOnly Departure.lateStores }, { on := 16, ground := Ground.textOnly Departure.lateStores }, { on := 17, ground := Ground.textOnly Departure.lateStoresUnsure }], guard := none }) (v := ?v18_24) rfl (by kernel_rfl) (by kernel_rfl) (by kernel_rfl) (fun _ _ _ h => h) (Or.inl ⟨by rfl, ?y18_24⟩) hHeld ?r18_24
                      case y18_24 => (intro W hSw; (try dsimp only at hSw); go_simp; (try with_reducible rfl))
                      try simp only [Act.put, List.setIfInBounds_toArray, List.set_cons_zero, List.set_cons_succ]
                      refine wpAnyH_take (i := 19) (oi := { dst := some 10, op := Op.assign (Operand.tmp 52), type := 23, pos := "law.go:136", after := #[{ on := 17, ground := Ground.data }, { on := 18, ground := Ground.chain }, { on := 0, ground := Ground.phase }, { on := 1, ground := Ground.phase }, { on := 2, ground := Ground.phase }, { on := 3, ground := Ground.phase }, { on := 4, ground := Ground.phase }, { on := 5, ground := Ground.phase }, { on := 6, ground := Ground.phase }, { on := 7, ground := Ground.phase }, { on := 8, ground := Ground.phase }, { on := 9, ground := Ground.phase }, { on := 10, ground := Ground.phase }, { on := 11, ground := Ground.phase }, { on := 12, ground := Ground.phase }, { on := 13, ground := Ground.phase }, { on := 14, ground := Ground.phase }, { on := 15, ground := Ground.phase }, { on := 16, ground := Ground.phase }, { on := 17, ground := Ground.phase }, { on := 18, ground := Ground.phase }], guard := none }) (v := ?v19_25) rfl (by kernel_rfl) (by kernel_rfl) (by kernel_rfl) (fun _ _ _ h => h) (Or.inl ⟨by rfl, ?y19_25⟩) hHeld ?r19_25
                      case y19_25 => (intro W hSw; (try dsimp only at hSw); go_simp; (try with_reducible rfl))
                      try simp only [Act.put, List.setIfInBounds_toArray, List.set_cons_zero, List.set_cons_succ]
                      refine wpAnyH_done (by kernel_rfl) ?_ _
                      go_wp2_with fail
                      go_meet
                      exact endQ HP HB1 hHeld
                  case c13_20 =>
                    have hv := conv1 W3 bB c1 FB.out
                    go_simp
                    clear hv FB
                    refine hK.out _ _ hHeld (fun hX => ?_)
                    clear hK K hX
                    try simp only [Act.put, List.setIfInBounds_toArray, List.set_cons_zero, List.set_cons_succ]
                    refine wpAnyH_take (i := 14) (oi := { dst := some 49, op := Op.binOp BinOp.add 9 (Operand.tmp 44) (Operand.tmp 48) 9, type := 9, pos := "law.go:136", after := #[{ on := 9, ground := Ground.data }, { on := 13, ground := Ground.data }], guard := none }) (v := ?v14_26) rfl (by kernel_rfl) (by kernel_rfl) (by kernel_rfl) (fun _ _ _ h => h) (Or.inl ⟨by rfl, ?y14_26⟩) hHeld ?r14_26
                    case y14_26 => (intro W hSw; (try dsimp only at hSw); go_simp; (try with_reducible rfl))
                    try simp only [Act.put, List.setIfInBounds_toArray, List.set_cons_zero, List.set_cons_succ]
                    refine wpAnyH_take (i := 16) (oi := { dst := some 51, op := Op.binOp BinOp.add 9 (Operand.tmp 49) (Operand.tmp 50) 9, type := 9, pos := "law.go:136", after := #[{ on := 14, ground := Ground.data }, { on := 15, ground := Ground.data }], guard := none }) (v := ?v16_27) rfl (by kernel_rfl) (by kernel_rfl) (by kernel_rfl) (fun _ _ _ h => h) (Or.inl ⟨by rfl, ?y16_27⟩) hHeld ?r16_27
                    case y16_27 => (intro W hSw; (try dsimp only at hSw); go_simp; (try with_reducible rfl))
                    try simp only [Act.put, List.setIfInBounds_toArray, List.set_cons_zero, List.set_cons_succ]
                    refine wpAnyH_ready (rs := [8]) (by kernel_rfl) (by simp) ?_
                    refine AllReadyH.cons (o := { dst := some 43, op := Op.call { callee := Callee.value (Operand.func 12), args := #[Operand.tmp 42], argTypes := #[9] }, type := 23, pos := "law.go:136", after := #[{ on := 7, ground := Ground.data }], guard := none }) rfl (fun K hK => ?c8_28) AllReadyH.nil
                    case c8_28 =>
                      go_simp
                      refine (HX.out _).mono ?_
                      rintro e u ⟨rfl, rfl⟩
                      try dsimp only
                      have hH2 := hHeld.alloc hHeld.size (.cells #[.string (s ++ ⟨#[c0]⟩ ++ t)] 9)
                      refine hK.out _ _ hH2 (fun hX => ?_)
                      clear hHeld hH2 hK K
                      have hHeld := hX
                      clear hX
                      generalize W3.alloc (.cells #[.string (s ++ ⟨#[c0]⟩ ++ t)] 9) = W5 at *
                      try simp only [Act.put, List.setIfInBounds_toArray, List.set_cons_zero, List.set_cons_succ]
                      refine wpAnyH_ready (rs := [17]) (by kernel_rfl) (by simp) ?_
                      refine AllReadyH.cons (o := { dst := some 52, op := Op.call { callee := Callee.value (Operand.func 12), args := #[Operand.tmp 51], argTypes := #[9] }, type := 23, pos := "law.go:136", after := #[{ on := 16, ground := Ground.data }, { on := 8, ground := Ground.chain }], guard := none }) rfl (fun K hK => ?_) AllReadyH.nil
                      go_simp
                      refine (HY.out _).mono ?_
                      rintro e u ⟨rfl, rfl⟩
                      try dsimp only
                      have hH2 := hHeld.alloc hHeld.size (.cells #[.string (s ++ ⟨#[c1]⟩ ++ t)] 9)
                      refine hK.out _ _ hH2 (fun hX => ?_)
                      clear hHeld hH2 hK K
                      have hHeld := hX
                      clear hX
                      generalize W5.alloc (.cells #[.string (s ++ ⟨#[c1]⟩ ++ t)] 9) = W6 at *
                      try simp only [Act.put, List.setIfInBounds_toArray, List.set_cons_zero, List.set_cons_succ]
                      refine wpAnyH_take (i := 18) (oi := { dst := some 9, op := Op.assign (Operand.tmp 43), type := 23, pos := "law.go:136", after := #[{ on := 8, ground := Ground.data }, { on := 17, ground := Ground.chain }, { on := 0, ground := Ground.phase }, { on := 1, ground := Ground.phase }, { on := 2, ground := Ground.phase }, { on := 3, ground := Ground.phase }, { on := 4, ground := Ground.phase }, { on := 5, ground := Ground.phase }, { on := 6, ground := Ground.phase }, { on := 7, ground := Ground.phase }, { on := 8, ground := Ground.phase }, { on := 9, ground := Ground.textOnly Departure.lateStores }, { on := 10, ground := Ground.textOnly Departure.lateStores }, { on := 11, ground := Ground.textOnly Departure.lateStores }, { on := 12, ground := Ground.textOnly Departure.lateStores }, { on := 13, ground := Ground.textOnly Departure.lateStores }, { on := 14, ground := Ground.textOnly Departure.lateStores }, { on := 15, ground := Ground.textOnly Departure.lateStores }, { on := 16, ground := Ground.textOnly Departure.lateStores }, { on := 17, ground := Ground.textOnly Departure.lateStoresUnsure }], guard := none }) (v := ?v18_29) rfl (by kernel_rfl) (by kernel_rfl) (by kernel_rfl) (fun _ _ _ h => h) (Or.inl ⟨by rfl, ?y18_29⟩) hHeld ?r18_29
                      case y18_29 => (intro W hSw; (try dsimp only at hSw); go_simp; (try with_reducible rfl))
                      try simp only [Act.put, List.setIfInBounds_toArray, List.set_cons_zero, List.set_cons_succ]
                      refine wpAnyH_take (i := 19) (oi := { dst := some 10, op := Op.assign (Operand.tmp 52), type := 23, pos := "law.go:136", after := #[{ on := 17, ground := Ground.data }, { on := 18, ground := Ground.chain }, { on := 0, ground := Ground.phase }, { on := 1, ground := Ground.phase }, { on := 2, ground := Ground.phase }, { on := 3, ground := Ground.phase }, { on := 4, ground := Ground.phase }, { on := 5, ground := Ground.phase }, { on := 6, ground := Ground.phase }, { on := 7, ground := Ground.phase }, { on := 8, ground := Ground.phase }, { on := 9, ground := Ground.phase }, { on := 10, ground := Ground.phase }, { on := 11, ground := Ground.phase }, { on := 12, ground := Ground.phase }, { on := 13, ground := Ground.phase }, { on := 14, ground := Ground.phase }, { on := 15, ground := Ground.phase }, { on := 16, ground := Ground.phase }, { on := 17, ground := Ground.phase }, { on := 18, ground := Ground.phase }], guard := none }) (v := ?v19_30) rfl (by kernel_rfl) (by kernel_rfl) (by kernel_rfl) (fun _ _ _ h => h) (Or.inl ⟨by rfl, ?y19_30⟩) hHeld ?r19_30
                      case y19_30 => (intro W hSw; (try dsimp only at hSw); go_simp; (try with_reducible rfl))
                      try simp only [Act.put, List.setIfInBounds_toArray, List.set_cons_zero, List.set_cons_succ]
                      refine wpAnyH_done (by kernel_rfl) ?_ _
                      go_wp2_with fail
                      go_meet
                      exact endQ HP HB1 hHeld
              case c12_10 =>
                go_simp
                have hH2 := hHeld.alloc hHeld.size (.cells #[.int .u8 (c1.toNat : Int)] 5)
                have FB := Lib.hid (show (W1.alloc (.cells #[.int .u8 (c1.toNat : Int)] 5)).cell? ⟨W1.heap.size, 0, none⟩ = some (.int .u8 (c1.toNat : Int)) by simp)
                replace FA := Lib.hid (cell_keep FA.out ((Below.refl W1.heap.size W1).alloc (Nat.le_refl _) (.cells #[.int .u8 (c1.toNat : Int)] 5)))
                refine hK.out _ _ hH2 (fun hX => ?_)
                clear hHeld hH2 hK K
                have hHeld := hX
                clear hX
                generalize W1.alloc (.cells #[.int .u8 (c1.toNat : Int)] 5) = W2 at *
                generalize W1.heap.size = bB at *
                try simp only [Act.put, List.setIfInBounds_toArray, List.set_cons_zero, List.set_cons_succ]
                refine wpAnyH_ready (rs := [4, 13]) (by kernel_rfl) (by simp) ?_
                refine AllReadyH.cons (o := { dst := some 39, op := Op.convert 52 9 (Operand.tmp 38), type := 9, pos := "law.go:136", after := #[{ on := 3, ground := Ground.data }], guard := none }) rfl (fun K hK => ?c4_31) (AllReadyH.cons (o := { dst := some 48, op := Op.convert 52 9 (Operand.tmp 47), type := 9, pos := "law.go:136", after := #[{ on := 12, ground := Ground.data }], guard := none }) rfl (fun K hK => ?c13_31) AllReadyH.nil)
                case c4_31 =>
                  have hv := conv1 W2 bA c0 FA.out
                  go_simp
                  clear hv FA
                  refine hK.out _ _ hHeld (fun hX => ?_)
                  clear hK K hX
                  try simp only [Act.put, List.setIfInBounds_toArray, List.set_cons_zero, List.set_cons_succ]
                  refine wpAnyH_take (i := 5) (oi := { dst := some 40, op := Op.binOp BinOp.add 9 (Operand.tmp 35) (Operand.tmp 39) 9, type := 9, pos := "law.go:136", after := #[{ on := 0, ground := Ground.data }, { on := 4, ground := Ground.data }], guard := none }) (v := ?v5_32) rfl (by kernel_rfl) (by kernel_rfl) (by kernel_rfl) (fun _ _ _ h => h) (Or.inl ⟨by rfl, ?y5_32⟩) hHeld ?r5_32
                  case y5_32 => (intro W hSw; (try dsimp only at hSw); go_simp; (try with_reducible rfl))
                  try simp only [Act.put, List.setIfInBounds_toArray, List.set_cons_zero, List.set_cons_succ]
                  refine wpAnyH_take (i := 7) (oi := { dst := some 42, op := Op.binOp BinOp.add 9 (Operand.tmp 40) (Operand.tmp 41) 9, type := 9, pos := "law.go:136", after := #[{ on := 5, ground := Ground.data }, { on := 6, ground := Ground.data }], guard := none }) (v := ?v7_33) rfl (by kernel_rfl) (by kernel_rfl) (by kernel_rfl) (fun _ _ _ h => h) (Or.inl ⟨by rfl, ?y7_33⟩) hHeld ?r7_33
                  case y7_33 => (intro W hSw; (try dsimp only at hSw); go_simp; (try with_reducible rfl))
                  try simp only [Act.put, List.setIfInBounds_toArray, List.set_cons_zero, List.set_cons_succ]
                  refine wpAnyH_ready (rs := [8, 13]) (by kernel_rfl) (by simp) ?_
                  refine AllReadyH.cons (o := { dst := some 43, op := Op.call { callee := Callee.value (Operand.func 12), args := #[Operand.tmp 42], argTypes := #[9] }, type := 23, pos := "law.go:136", after := #[{ on := 7, ground := Ground.data }], guard := none }) rfl (fun K hK => ?c8_34) (AllReadyH.cons (o := { dst := some 48, op := Op.convert 52 9 (Operand.tmp 47), type := 9, pos := "law.go:136", after := #[{ on := 12, ground := Ground.data }], guard := none }) rfl (fun K hK => ?c13_34) AllReadyH.nil)
                  case c8_34 =>
                    go_simp
                    refine (HX.out _).mono ?_
                    rintro e u ⟨rfl, rfl⟩
                    try dsimp only
                    have hH2 := hHeld.alloc hHeld.size (.cells #[.string (s ++ ⟨#[c0]⟩ ++ t)] 9)
                    replace FB := Lib.hid (cell_keep FB.out ((Below.refl W2.heap.size W2).alloc (Nat.le_refl _) (.cells #[.string (s ++ ⟨#[c0]⟩ ++ t)] 9)))
                    refine hK.out _ _ hH2 (fun hX => ?_)
                    clear hHeld hH2 hK K
                    have hHeld := hX
                    clear hX
                    generalize W2.alloc (.cells #[.string (s ++ ⟨#[c0]⟩ ++ t)] 9) = W4 at *
                    try simp only [Act.put, List.setIfInBounds_toArray, List.set_cons_zero, List.set_cons_succ]
                    refine wpAnyH_ready (rs := [13]) (by kernel_rfl) (by simp) ?_
                    refine AllReadyH.cons (o := { dst := some 48, op := Op.convert 52 9 (Operand.tmp 47), type := 9, pos := "law.go:136", after := #[{ on := 12, ground := Ground.data }], guard := none }) rfl (fun K hK => ?c13_35) AllReadyH.nil
                    case c13_35 =>
                      have hv := conv1 W4 bB c1 FB.out
                      go_simp
                      clear hv FB
                      refine hK.out _ _ hHeld (fun hX => ?_)
                      clear hK K hX
                      try simp only [Act.put, List.setIfInBounds_toArray, List.set_cons_zero, List.set_cons_succ]
                      refine wpAnyH_take (i := 14) (oi := { dst := some 49, op := Op.binOp BinOp.add 9 (Operand.tmp 44) (Operand.tmp 48) 9, type := 9, pos := "law.go:136", after := #[{ on := 9, ground := Ground.data }, { on := 13, ground := Ground.data }], guard := none }) (v := ?v14_36) rfl (by kernel_rfl) (by kernel_rfl) (by kernel_rfl) (fun _ _ _ h => h) (Or.inl ⟨by rfl, ?y14_36⟩) hHeld ?r14_36
                      case y14_36 => (intro W hSw; (try dsimp only at hSw); go_simp; (try with_reducible rfl))
                      try simp only [Act.put, List.setIfInBounds_toArray, List.set_cons_zero, List.set_cons_succ]
                      refine wpAnyH_take (i := 16) (oi := { dst := some 51, op := Op.binOp BinOp.add 9 (Operand.tmp 49) (Operand.tmp 50) 9, type := 9, pos := "law.go:136", after := #[{ on := 14, ground := Ground.data }, { on := 15, ground := Ground.data }], guard := none }) (v := ?v16_37) rfl (by kernel_rfl) (by kernel_rfl) (by kernel_rfl) (fun _ _ _ h => h) (Or.inl ⟨by rfl, ?y16_37⟩) hHeld ?r16_37
                      case y16_37 => (intro W hSw; (try dsimp only at hSw); go_simp; (try with_reducible rfl))
                      try simp only [Act.put, List.setIfInBounds_toArray, List.set_cons_zero, List.set_cons_succ]
                      refine wpAnyH_ready (rs := [17]) (by kernel_rfl) (by simp) ?_
                      refine AllReadyH.cons (o := { dst := some 52, op := Op.call { callee := Callee.value (Operand.func 12), args := #[Operand.tmp 51], argTypes := #[9] }, type := 23, pos := "law.go:136", after := #[{ on := 16, ground := Ground.data }, { on := 8, ground := Ground.chain }], guard := none }) rfl (fun K hK => ?_) AllReadyH.nil
                      go_simp
                      refine (HY.out _).mono ?_
                      rintro e u ⟨rfl, rfl⟩
                      try dsimp only
                      have hH2 := hHeld.alloc hHeld.size (.cells #[.string (s ++ ⟨#[c1]⟩ ++ t)] 9)
                      refine hK.out _ _ hH2 (fun hX => ?_)
                      clear hHeld hH2 hK K
                      have hHeld := hX
                      clear hX
                      generalize W4.alloc (.cells #[.string (s ++ ⟨#[c1]⟩ ++ t)] 9) = W6 at *
                      try simp only [Act.put, List.setIfInBounds_toArray, List.set_cons_zero, List.set_cons_succ]
                      refine wpAnyH_take (i := 18) (oi := { dst := some 9, op := Op.assign (Operand.tmp 43), type := 23, pos := "law.go:136", after := #[{ on := 8, ground := Ground.data }, { on := 17, ground := Ground.chain }, { on := 0, ground := Ground.phase }, { on := 1, ground := Ground.phase }, { on := 2, ground := Ground.phase }, { on := 3, ground := Ground.phase }, { on := 4, ground := Ground.phase }, { on := 5, ground := Ground.phase }, { on := 6, ground := Ground.phase }, { on := 7, ground := Ground.phase }, { on := 8, ground := Ground.phase }, { on := 9, ground := Ground.textOnly Departure.lateStores }, { on := 10, ground := Ground.textOnly Departure.lateStores }, { on := 11, ground := Ground.textOnly Departure.lateStores }, { on := 12, ground := Ground.textOnly Departure.lateStores }, { on := 13, ground := Ground.textOnly Departure.lateStores }, { on := 14, ground := Ground.textOnly Departure.lateStores }, { on := 15, ground := Ground.textOnly Departure.lateStores }, { on := 16, ground := Ground.textOnly Departure.lateStores }, { on := 17, ground := Ground.textOnly Departure.lateStoresUnsure }], guard := none }) (v := ?v18_38) rfl (by kernel_rfl) (by kernel_rfl) (by kernel_rfl) (fun _ _ _ h => h) (Or.inl ⟨by rfl, ?y18_38⟩) hHeld ?r18_38
                      case y18_38 => (intro W hSw; (try dsimp only at hSw); go_simp; (try with_reducible rfl))
                      try simp only [Act.put, List.setIfInBounds_toArray, List.set_cons_zero, List.set_cons_succ]
                      refine wpAnyH_take (i := 19) (oi := { dst := some 10, op := Op.assign (Operand.tmp 52), type := 23, pos := "law.go:136", after := #[{ on := 17, ground := Ground.data }, { on := 18, ground := Ground.chain }, { on := 0, ground := Ground.phase }, { on := 1, ground := Ground.phase }, { on := 2, ground := Ground.phase }, { on := 3, ground := Ground.phase }, { on := 4, ground := Ground.phase }, { on := 5, ground := Ground.phase }, { on := 6, ground := Ground.phase }, { on := 7, ground := Ground.phase }, { on := 8, ground := Ground.phase }, { on := 9, ground := Ground.phase }, { on := 10, ground := Ground.phase }, { on := 11, ground := Ground.phase }, { on := 12, ground := Ground.phase }, { on := 13, ground := Ground.phase }, { on := 14, ground := Ground.phase }, { on := 15, ground := Ground.phase }, { on := 16, ground := Ground.phase }, { on := 17, ground := Ground.phase }, { on := 18, ground := Ground.phase }], guard := none }) (v := ?v19_39) rfl (by kernel_rfl) (by kernel_rfl) (by kernel_rfl) (fun _ _ _ h => h) (Or.inl ⟨by rfl, ?y19_39⟩) hHeld ?r19_39
                      case y19_39 => (intro W hSw; (try dsimp only at hSw); go_simp; (try with_reducible rfl))
                      try simp only [Act.put, List.setIfInBounds_toArray, List.set_cons_zero, List.set_cons_succ]
                      refine wpAnyH_done (by kernel_rfl) ?_ _
                      go_wp2_with fail
                      go_meet
                      exact endQ HP HB1 hHeld
                  case c13_34 =>
                    have hv := conv1 W2 bB c1 FB.out
                    go_simp
                    clear hv FB
                    refine hK.out _ _ hHeld (fun hX => ?_)
                    clear hK K hX
                    try simp only [Act.put, List.setIfInBounds_toArray, List.set_cons_zero, List.set_cons_succ]
                    refine wpAnyH_take (i := 14) (oi := { dst := some 49, op := Op.binOp BinOp.add 9 (Operand.tmp 44) (Operand.tmp 48) 9, type := 9, pos := "law.go:136", after := #[{ on := 9, ground := Ground.data }, { on := 13, ground := Ground.data }], guard := none }) (v := ?v14_40) rfl (by kernel_rfl) (by kernel_rfl) (by kernel_rfl) (fun _ _ _ h => h) (Or.inl ⟨by rfl, ?y14_40⟩) hHeld ?r14_40
                    case y14_40 => (intro W hSw; (try dsimp only at hSw); go_simp; (try with_reducible rfl))
                    try simp only [Act.put, List.setIfInBounds_toArray, List.set_cons_zero, List.set_cons_succ]
                    refine wpAnyH_take (i := 16) (oi := { dst := some 51, op := Op.binOp BinOp.add 9 (Operand.tmp 49) (Operand.tmp 50) 9, type := 9, pos := "law.go:136", after := #[{ on := 14, ground := Ground.data }, { on := 15, ground := Ground.data }], guard := none }) (v := ?v16_41) rfl (by kernel_rfl) (by kernel_rfl) (by kernel_rfl) (fun _ _ _ h => h) (Or.inl ⟨by rfl, ?y16_41⟩) hHeld ?r16_41
                    case y16_41 => (intro W hSw; (try dsimp only at hSw); go_simp; (try with_reducible rfl))
                    try simp only [Act.put, List.setIfInBounds_toArray, List.set_cons_zero, List.set_cons_succ]
                    refine wpAnyH_ready (rs := [8]) (by kernel_rfl) (by simp) ?_
                    refine AllReadyH.cons (o := { dst := some 43, op := Op.call { callee := Callee.value (Operand.func 12), args := #[Operand.tmp 42], argTypes := #[9] }, type := 23, pos := "law.go:136", after := #[{ on := 7, ground := Ground.data }], guard := none }) rfl (fun K hK => ?c8_42) AllReadyH.nil
                    case c8_42 =>
                      go_simp
                      refine (HX.out _).mono ?_
                      rintro e u ⟨rfl, rfl⟩
                      try dsimp only
                      have hH2 := hHeld.alloc hHeld.size (.cells #[.string (s ++ ⟨#[c0]⟩ ++ t)] 9)
                      refine hK.out _ _ hH2 (fun hX => ?_)
                      clear hHeld hH2 hK K
                      have hHeld := hX
                      clear hX
                      generalize W2.alloc (.cells #[.string (s ++ ⟨#[c0]⟩ ++ t)] 9) = W5 at *
                      try simp only [Act.put, List.setIfInBounds_toArray, List.set_cons_zero, List.set_cons_succ]
                      refine wpAnyH_ready (rs := [17]) (by kernel_rfl) (by simp) ?_
                      refine AllReadyH.cons (o := { dst := some 52, op := Op.call { callee := Callee.value (Operand.func 12), args := #[Operand.tmp 51], argTypes := #[9] }, type := 23, pos := "law.go:136", after := #[{ on := 16, ground := Ground.data }, { on := 8, ground := Ground.chain }], guard := none }) rfl (fun K hK => ?_) AllReadyH.nil
                      go_simp
                      refine (HY.out _).mono ?_
                      rintro e u ⟨rfl, rfl⟩
                      try dsimp only
                      have hH2 := hHeld.alloc hHeld.size (.cells #[.string (s ++ ⟨#[c1]⟩ ++ t)] 9)
                      refine hK.out _ _ hH2 (fun hX => ?_)
                      clear hHeld hH2 hK K
                      have hHeld := hX
                      clear hX
                      generalize W5.alloc (.cells #[.string (s ++ ⟨#[c1]⟩ ++ t)] 9) = W6 at *
                      try simp only [Act.put, List.setIfInBounds_toArray, List.set_cons_zero, List.set_cons_succ]
                      refine wpAnyH_take (i := 18) (oi := { dst := some 9, op := Op.assign (Operand.tmp 43), type := 23, pos := "law.go:136", after := #[{ on := 8, ground := Ground.data }, { on := 17, ground := Ground.chain }, { on := 0, ground := Ground.phase }, { on := 1, ground := Ground.phase }, { on := 2, ground := Ground.phase }, { on := 3, ground := Ground.phase }, { on := 4, ground := Ground.phase }, { on := 5, ground := Ground.phase }, { on := 6, ground := Ground.phase }, { on := 7, ground := Ground.phase }, { on := 8, ground := Ground.phase }, { on := 9, ground := Ground.textOnly Departure.lateStores }, { on := 10, ground := Ground.textOnly Departure.lateStores }, { on := 11, ground := Ground.textOnly Departure.lateStores }, { on := 12, ground := Ground.textOnly Departure.lateStores }, { on := 13, ground := Ground.textOnly Departure.lateStores }, { on := 14, ground := Ground.textOnly Departure.lateStores }, { on := 15, ground := Ground.textOnly Departure.lateStores }, { on := 16, ground := Ground.textOnly Departure.lateStores }, { on := 17, ground := Ground.textOnly Departure.lateStoresUnsure }], guard := none }) (v := ?v18_43) rfl (by kernel_rfl) (by kernel_rfl) (by kernel_rfl) (fun _ _ _ h => h) (Or.inl ⟨by rfl, ?y18_43⟩) hHeld ?r18_43
                      case y18_43 => (intro W hSw; (try dsimp only at hSw); go_simp; (try with_reducible rfl))
                      try simp only [Act.put, List.setIfInBounds_toArray, List.set_cons_zero, List.set_cons_succ]
                      refine wpAnyH_take (i := 19) (oi := { dst := some 10, op := Op.assign (Operand.tmp 52), type := 23, pos := "law.go:136", after := #[{ on := 17, ground := Ground.data }, { on := 18, ground := Ground.chain }, { on := 0, ground := Ground.phase }, { on := 1, ground := Ground.phase }, { on := 2, ground := Ground.phase }, { on := 3, ground := Ground.phase }, { on := 4, ground := Ground.phase }, { on := 5, ground := Ground.phase }, { on := 6, ground := Ground.phase }, { on := 7, ground := Ground.phase }, { on := 8, ground := Ground.phase }, { on := 9, ground := Ground.phase }, { on := 10, ground := Ground.phase }, { on := 11, ground := Ground.phase }, { on := 12, ground := Ground.phase }, { on := 13, ground := Ground.phase }, { on := 14, ground := Ground.phase }, { on := 15, ground := Ground.phase }, { on := 16, ground := Ground.phase }, { on := 17, ground := Ground.phase }, { on := 18, ground := Ground.phase }], guard := none }) (v := ?v19_44) rfl (by kernel_rfl) (by kernel_rfl) (by kernel_rfl) (fun _ _ _ h => h) (Or.inl ⟨by rfl, ?y19_44⟩) hHeld ?r19_44
                      case y19_44 => (intro W hSw; (try dsimp only at hSw); go_simp; (try with_reducible rfl))
                      try simp only [Act.put, List.setIfInBounds_toArray, List.set_cons_zero, List.set_cons_succ]
                      refine wpAnyH_done (by kernel_rfl) ?_ _
                      go_wp2_with fail
                      go_meet
                      exact endQ HP HB1 hHeld
                case c13_31 =>
                  have hv := conv1 W2 bB c1 FB.out
                  go_simp
                  clear hv FB
                  refine hK.out _ _ hHeld (fun hX => ?_)
                  clear hK K hX
                  try simp only [Act.put, List.setIfInBounds_toArray, List.set_cons_zero, List.set_cons_succ]
                  refine wpAnyH_take (i := 14) (oi := { dst := some 49, op := Op.binOp BinOp.add 9 (Operand.tmp 44) (Operand.tmp 48) 9, type := 9, pos := "law.go:136", after := #[{ on := 9, ground := Ground.data }, { on := 13, ground := Ground.data }], guard := none }) (v := ?v14_45) rfl (by kernel_rfl) (by kernel_rfl) (by kernel_rfl) (fun _ _ _ h => h) (Or.inl ⟨by rfl, ?y14_45⟩) hHeld ?r14_45
                  case y14_45 => (intro W hSw; (try dsimp only at hSw); go_simp; (try with_reducible rfl))
                  try simp only [Act.put, List.setIfInBounds_toArray, List.set_cons_zero, List.set_cons_succ]
                  refine wpAnyH_take (i := 16) (oi := { dst := some 51, op := Op.binOp BinOp.add 9 (Operand.tmp 49) (Operand.tmp 50) 9, type := 9, pos := "law.go:136", after := #[{ on := 14, ground := Ground.data }, { on := 15, ground := Ground.data }], guard := none }) (v := ?v16_46) rfl (by kernel_rfl) (by kernel_rfl) (by kernel_rfl) (fun _ _ _ h => h) (Or.inl ⟨by rfl, ?y16_46⟩) hHeld ?r16_46
                  case y16_46 => (intro W hSw; (try dsimp only at hSw); go_simp; (try with_reducible rfl))
                  try simp only [Act.put, List.setIfInBounds_toArray, List.set_cons_zero, List.set_cons_succ]
                  refine wpAnyH_ready (rs := [4]) (by kernel_rfl) (by simp) ?_
                  refine AllReadyH.cons (o := { dst := some 39, op := Op.convert 52 9 (Operand.tmp 38), type := 9, pos := "law.go:136", after := #[{ on := 3, ground := Ground.data }], guard := none }) rfl (fun K hK => ?c4_47) AllReadyH.nil
                  case c4_47 =>
                    have hv := conv1 W2 bA c0 FA.out
                    go_simp
                    clear hv FA
                    refine hK.out _ _ hHeld (fun hX => ?_)
                    clear hK K hX
                    try simp only [Act.put, List.setIfInBounds_toArray, List.set_cons_zero, List.set_cons_succ]
                    refine wpAnyH_take (i := 5) (oi := { dst := some 40, op := Op.binOp BinOp.add 9 (Operand.tmp 35) (Operand.tmp 39) 9, type := 9, pos := "law.go:136", after := #[{ on := 0, ground := Ground.data }, { on := 4, ground := Ground.data }], guard := none }) (v := ?v5_48) rfl (by kernel_rfl) (by kernel_rfl) (by kernel_rfl) (fun _ _ _ h => h) (Or.inl ⟨by rfl, ?y5_48⟩) hHeld ?r5_48
                    case y5_48 => (intro W hSw; (try dsimp only at hSw); go_simp; (try with_reducible rfl))
                    try simp only [Act.put, List.setIfInBounds_toArray, List.set_cons_zero, List.set_cons_succ]
                    refine wpAnyH_take (i := 7) (oi := { dst := some 42, op := Op.binOp BinOp.add 9 (Operand.tmp 40) (Operand.tmp 41) 9, type := 9, pos := "law.go:136", after := #[{ on := 5, ground := Ground.data }, { on := 6, ground := Ground.data }], guard := none }) (v := ?v7_49) rfl (by kernel_rfl) (by kernel_rfl) (by kernel_rfl) (fun _ _ _ h => h) (Or.inl ⟨by rfl, ?y7_49⟩) hHeld ?r7_49
                    case y7_49 => (intro W hSw; (try dsimp only at hSw); go_simp; (try with_reducible rfl))
                    try simp only [Act.put, List.setIfInBounds_toArray, List.set_cons_zero, List.set_cons_succ]
                    refine wpAnyH_ready (rs := [8]) (by kernel_rfl) (by simp) ?_
                    refine AllReadyH.cons (o := { dst := some 43, op := Op.call { callee := Callee.value (Operand.func 12), args := #[Operand.tmp 42], argTypes := #[9] }, type := 23, pos := "law.go:136", after := #[{ on := 7, ground := Ground.data }], guard := none }) rfl (fun K hK => ?c8_50) AllReadyH.nil
                    case c8_50 =>
                      go_simp
                      refine (HX.out _).mono ?_
                      rintro e u ⟨rfl, rfl⟩
                      try dsimp only
                      have hH2 := hHeld.alloc hHeld.size (.cells #[.string (s ++ ⟨#[c0]⟩ ++ t)] 9)
                      refine hK.out _ _ hH2 (fun hX => ?_)
                      clear hHeld hH2 hK K
                      have hHeld := hX
                      clear hX
                      generalize W2.alloc (.cells #[.string (s ++ ⟨#[c0]⟩ ++ t)] 9) = W5 at *
                      try simp only [Act.put, List.setIfInBounds_toArray, List.set_cons_zero, List.set_cons_succ]
                      refine wpAnyH_ready (rs := [17]) (by kernel_rfl) (by simp) ?_
                      refine AllReadyH.cons (o := { dst := some 52, op := Op.call { callee := Callee.value (Operand.func 12), args := #[Operand.tmp 51], argTypes := #[9] }, type := 23, pos := "law.go:136", after := #[{ on := 16, ground := Ground.data }, { on := 8, ground := Ground.chain }], guard := none }) rfl (fun K hK => ?_) AllReadyH.nil
                      go_simp
                      refine (HY.out _).mono ?_
                      rintro e u ⟨rfl, rfl⟩
                      try dsimp only
                      have hH2 := hHeld.alloc hHeld.size (.cells #[.string (s ++ ⟨#[c1]⟩ ++ t)] 9)
                      refine hK.out _ _ hH2 (fun hX => ?_)
                      clear hHeld hH2 hK K
                      have hHeld := hX
                      clear hX
                      generalize W5.alloc (.cells #[.string (s ++ ⟨#[c1]⟩ ++ t)] 9) = W6 at *
                      try simp only [Act.put, List.setIfInBounds_toArray, List.set_cons_zero, List.set_cons_succ]
                      refine wpAnyH_take (i := 18) (oi := { dst := some 9, op := Op.assign (Operand.tmp 43), type := 23, pos := "law.go:136", after := #[{ on := 8, ground := Ground.data }, { on := 17, ground := Ground.chain }, { on := 0, ground := Ground.phase }, { on := 1, ground := Ground.phase }, { on := 2, ground := Ground.phase }, { on := 3, ground := Ground.phase }, { on := 4, ground := Ground.phase }, { on := 5, ground := Ground.phase }, { on := 6, ground := Ground.phase }, { on := 7, ground := Ground.phase }, { on := 8, ground := Ground.phase }, { on := 9, ground := Ground.textOnly Departure.lateStores }, { on := 10, ground := Ground.textOnly Departure.lateStores }, { on := 11, ground := Ground.textOnly Departure.lateStores }, { on := 12, ground := Ground.textOnly Departure.lateStores }, { on := 13, ground := Ground.textOnly Departure.lateStores }, { on := 14, ground := Ground.textOnly Departure.lateStores }, { on := 15, ground := Ground.textOnly Departure.lateStores }, { on := 16, ground := Ground.textOnly Departure.lateStores }, { on := 17, ground := Ground.textOnly Departure.lateStoresUnsure }], guard := none }) (v := ?v18_51) rfl (by kernel_rfl) (by kernel_rfl) (by kernel_rfl) (fun _ _ _ h => h) (Or.inl ⟨by rfl, ?y18_51⟩) hHeld ?r18_51
                      case y18_51 => (intro W hSw; (try dsimp only at hSw); go_simp; (try with_reducible rfl))
                      try simp only [Act.put, List.setIfInBounds_toArray, List.set_cons_zero, List.set_cons_succ]
                      refine wpAnyH_take (i := 19) (oi := { dst := some 10, op := Op.assign (Operand.tmp 52), type := 23, pos := "law.go:136", after := #[{ on := 17, ground := Ground.data }, { on := 18, ground := Ground.chain }, { on := 0, ground := Ground.phase }, { on := 1, ground := Ground.phase }, { on := 2, ground := Ground.phase }, { on := 3, ground := Ground.phase }, { on := 4, ground := Ground.phase }, { on := 5, ground := Ground.phase }, { on := 6, ground := Ground.phase }, { on := 7, ground := Ground.phase }, { on := 8, ground := Ground.phase }, { on := 9, ground := Ground.phase }, { on := 10, ground := Ground.phase }, { on := 11, ground := Ground.phase }, { on := 12, ground := Ground.phase }, { on := 13, ground := Ground.phase }, { on := 14, ground := Ground.phase }, { on := 15, ground := Ground.phase }, { on := 16, ground := Ground.phase }, { on := 17, ground := Ground.phase }, { on := 18, ground := Ground.phase }], guard := none }) (v := ?v19_52) rfl (by kernel_rfl) (by kernel_rfl) (by kernel_rfl) (fun _ _ _ h => h) (Or.inl ⟨by rfl, ?y19_52⟩) hHeld ?r19_52
                      case y19_52 => (intro W hSw; (try dsimp only at hSw); go_simp; (try with_reducible rfl))
                      try simp only [Act.put, List.setIfInBounds_toArray, List.set_cons_zero, List.set_cons_succ]
                      refine wpAnyH_done (by kernel_rfl) ?_ _
                      go_wp2_with fail
                      go_meet
                      exact endQ HP HB1 hHeld
            case c12_9 =>
              go_simp
              have hH2 := hHeld.alloc hHeld.size (.cells #[.int .u8 (c1.toNat : Int)] 5)
              have FB := Lib.hid (show (W0.alloc (.cells #[.int .u8 (c1.toNat : Int)] 5)).cell? ⟨W0.heap.size, 0, none⟩ = some (.int .u8 (c1.toNat : Int)) by simp)
              refine hK.out _ _ hH2 (fun hX => ?_)
              clear hHeld hH2 hK K
              have hHeld := hX
              clear hX
              generalize W0.alloc (.cells #[.int .u8 (c1.toNat : Int)] 5) = W1 at *
              generalize W0.heap.size = bB at *
              try simp only [Act.put, List.setIfInBounds_toArray, List.set_cons_zero, List.set_cons_succ]
              refine wpAnyH_ready (rs := [3, 13]) (by kernel_rfl) (by simp) ?_
              refine AllReadyH.cons (o := { dst := some 38, op := Op.buildSlice 52 1 #[(0, Operand.tmp 37)], type := 52, pos := "law.go:136", after := #[{ on := 2, ground := Ground.data }], guard := none }) rfl (fun K hK => ?c3_53) (AllReadyH.cons (o := { dst := some 48, op := Op.convert 52 9 (Operand.tmp 47), type := 9, pos := "law.go:136", after := #[{ on := 12, ground := Ground.data }], guard := none }) rfl (fun K hK => ?c13_53) AllReadyH.nil)
              case c3_53 =>
                go_simp
                have hH2 := hHeld.alloc hHeld.size (.cells #[.int .u8 (c0.toNat : Int)] 5)
                have FA := Lib.hid (show (W1.alloc (.cells #[.int .u8 (c0.toNat : Int)] 5)).cell? ⟨W1.heap.size, 0, none⟩ = some (.int .u8 (c0.toNat : Int)) by simp)
                replace FB := Lib.hid (cell_keep FB.out ((Below.refl W1.heap.size W1).alloc (Nat.le_refl _) (.cells #[.int .u8 (c0.toNat : Int)] 5)))
                refine hK.out _ _ hH2 (fun hX => ?_)
                clear hHeld hH2 hK K
                have hHeld := hX
                clear hX
                generalize W1.alloc (.cells #[.int .u8 (c0.toNat : Int)] 5) = W2 at *
                generalize W1.heap.size = bA at *
                try simp only [Act.put, List.setIfInBounds_toArray, List.set_cons_zero, List.set_cons_succ]
                refine wpAnyH_ready (rs := [4, 13]) (by kernel_rfl) (by simp) ?_
                refine AllReadyH.cons (o := { dst := some 39, op := Op.convert 52 9 (Operand.tmp 38), type := 9, pos := "law.go:136", after := #[{ on := 3, ground := Ground.data }], guard := none }) rfl (fun K hK => ?c4_54) (AllReadyH.cons (o := { dst := some 48, op := Op.convert 52 9 (Operand.tmp 47), type := 9, pos := "law.go:136", after := #[{ on := 12, ground := Ground.data }], guard := none }) rfl (fun K hK => ?c13_54) AllReadyH.nil)
                case c4_54 =>
                  have hv := conv1 W2 bA c0 FA.out
                  go_simp
                  clear hv FA
                  refine hK.out _ _ hHeld (fun hX => ?_)
                  clear hK K hX
                  try simp only [Act.put, List.setIfInBounds_toArray, List.set_cons_zero, List.set_cons_succ]
                  refine wpAnyH_take (i := 5) (oi := { dst := some 40, op := Op.binOp BinOp.add 9 (Operand.tmp 35) (Operand.tmp 39) 9, type := 9, pos := "law.go:136", after := #[{ on := 0, ground := Ground.data }, { on := 4, ground := Ground.data }], guard := none }) (v := ?v5_55) rfl (by kernel_rfl) (by kernel_rfl) (by kernel_rfl) (fun _ _ _ h => h) (Or.inl ⟨by rfl, ?y5_55⟩) hHeld ?r5_55
                  case y5_55 => (intro W hSw; (try dsimp only at hSw); go_simp; (try with_reducible rfl))
                  try simp only [Act.put, List.setIfInBounds_toArray, List.set_cons_zero, List.set_cons_succ]
                  refine wpAnyH_take (i := 7) (oi := { dst := some 42, op := Op.binOp BinOp.add 9 (Operand.tmp 40) (Operand.tmp 41) 9, type := 9, pos := "law.go:136", after := #[{ on := 5, ground := Ground.data }, { on := 6, ground := Ground.data }], guard := none }) (v := ?v7_56) rfl (by kernel_rfl) (by kernel_rfl) (by kernel_rfl) (fun _ _ _ h => h) (Or.inl ⟨by rfl, ?y7_56⟩) hHeld ?r7_56
                  case y7_56 => (intro W hSw; (try dsimp only at hSw); go_simp; (try with_reducible rfl))
                  try simp only [Act.put, List.setIfInBounds_toArray, List.set_cons_zero, List.set_cons_succ]
                  refine wpAnyH_ready (rs := [8, 13]) (by kernel_rfl) (by simp) ?_
                  refine AllReadyH.cons (o := { dst := some 43, op := Op.call { callee := Callee.value (Operand.func 12), args := #[Operand.tmp 42], argTypes := #[9] }, type := 23, pos := "law.go:136", after := #[{ on := 7, ground := Ground.data }], guard := none }) rfl (fun K hK => ?c8_57) (AllReadyH.cons (o := { dst := some 48, op := Op.convert 52 9 (Operand.tmp 47), type := 9, pos := "law.go:136", after := #[{ on := 12, ground := Ground.data }], guard := none }) rfl (fun K hK => ?c13_57) AllReadyH.nil)
                  case c8_57 =>
                    go_simp
                    refine (HX.out _).mono ?_
                    rintro e u ⟨rfl, rfl⟩
                    try dsimp only
                    have hH2 := hHeld.alloc hHeld.size (.cells #[.string (s ++ ⟨#[c0]⟩ ++ t)] 9)
                    replace FB := Lib.hid (cell_keep FB.out ((Below.refl W2.heap.size W2).alloc (Nat.le_refl _) (.cells #[.string (s ++ ⟨#[c0]⟩ ++ t)] 9)))
                    refine hK.out _ _ hH2 (fun hX => ?_)
                    clear hHeld hH2 hK K
                    have hHeld := hX
                    clear hX
                    generalize W2.alloc (.cells #[.string (s ++ ⟨#[c0]⟩ ++ t)] 9) = W4 at *
                    try simp only [Act.put, List.setIfInBounds_toArray, List.set_cons_zero, List.set_cons_succ]
                    refine wpAnyH_ready (rs := [13]) (by kernel_rfl) (by simp) ?_
                    refine AllReadyH.cons (o := { dst := some 48, op := Op.convert 52 9 (Operand.tmp 47), type := 9, pos := "law.go:136", after := #[{ on := 12, ground := Ground.data }], guard := none }) rfl (fun K hK => ?c13_58) AllReadyH.nil
                    case c13_58 =>
                      have hv := conv1 W4 bB c1 FB.out
                      go_simp
                      clear hv FB
                      refine hK.out _ _ hHeld (fun hX => ?_)
                      clear hK K hX
                      try simp only [Act.put, List.setIfInBounds_toArray, List.set_cons_zero, List.set_cons_succ]
                      refine wpAnyH_take (i := 14) (oi := { dst := some 49, op := Op.binOp BinOp.add 9 (Operand.tmp 44) (Operand.tmp 48) 9, type := 9, pos := "law.go:136", after := #[{ on := 9, ground := Ground.data }, { on := 13, ground := Ground.data }], guard := none }) (v := ?v14_59) rfl (by kernel_rfl) (by kernel_rfl) (by kernel_rfl) (fun _ _ _ h => h) (Or.inl ⟨by rfl, ?y14_59⟩) hHeld ?r14_59
                      case y14_59 => (intro W hSw; (try dsimp only at hSw); go_simp; (try with_reducible rfl))
                      try simp only [Act.put, List.setIfInBounds_toArray, List.set_cons_zero, List.set_cons_succ]
                      refine wpAnyH_take (i := 16) (oi := { dst := some 51, op := Op.binOp BinOp.add 9 (Operand.tmp 49) (Operand.tmp 50) 9, type := 9, pos := "law.go:136", after := #[{ on := 14, ground := Ground.data }, { on := 15, ground := Ground.data }], guard := none }) (v := ?v16_60) rfl (by kernel_rfl) (by kernel_rfl) (by kernel_rfl) (fun _ _ _ h => h) (Or.inl ⟨by rfl, ?y16_60⟩) hHeld ?r16_60
                      case y16_60 => (intro W hSw; (try dsimp only at hSw); go_simp; (try with_reducible rfl))
                      try simp only [Act.put, List.setIfInBounds_toArray, List.set_cons_zero, List.set_cons_succ]
                      refine wpAnyH_ready (rs := [17]) (by kernel_rfl) (by simp) ?_
                      refine AllReadyH.cons (o := { dst := some 52, op := Op.call { callee := Callee.value (Operand.func 12), args := #[Operand.tmp 51], argTypes := #[9] }, type := 23, pos := "law.go:136", after := #[{ on := 16, ground := Ground.data }, { on := 8, ground := Ground.chain }], guard := none }) rfl (fun K hK => ?_) AllReadyH.nil
                      go_simp
                      refine (HY.out _).mono ?_
                      rintro e u ⟨rfl, rfl⟩
                      try dsimp only
                      have hH2 := hHeld.alloc hHeld.size (.cells #[.string (s ++ ⟨#[c1]⟩ ++ t)] 9)
                      refine hK.out _ _ hH2 (fun hX => ?_)
                      clear hHeld hH2 hK K
                      have hHeld := hX
                      clear hX
                      generalize W4.alloc (.cells #[.string (s ++ ⟨#[c1]⟩ ++ t)] 9) = W6 at *
                      try simp only [Act.put, List.setIfInBounds_toArray, List.set_cons_zero, List.set_cons_succ]
                      refine wpAnyH_take (i := 18) (oi := { dst := some 9, op := Op.assign (Operand.tmp 43), type := 23, pos := "law.go:136", after := #[{ on := 8, ground := Ground.data }, { on := 17, ground := Ground.chain }, { on := 0, ground := Ground.phase }, { on := 1, ground := Ground.phase }, { on := 2, ground := Ground.phase }, { on := 3, ground := Ground.phase }, { on := 4, ground := Ground.phase }, { on := 5, ground := Ground.phase }, { on := 6, ground := Ground.phase }, { on := 7, ground := Ground.phase }, { on := 8, ground := Ground.phase }, { on := 9, ground := Ground.textOnly Departure.lateStores }, { on := 10, ground := Ground.textOnly Departure.lateStores }, { on := 11, ground := Ground.textOnly Departure.lateStores }, { on := 12, ground := Ground.textOnly Departure.lateStores }, { on := 13, ground := Ground.textOnly Departure.lateStores }, { on := 14, ground := Ground.textOnly Departure.lateStores }, { on := 15, ground := Ground.textOnly Departure.lateStores }, { on := 16, ground := Ground.textOnly Departure.lateStores }, { on := 17, ground := Ground.textOnly Departure.lateStoresUnsure }], guard := none }) (v := ?v18_61) rfl (by kernel_rfl) (by kernel_rfl) (by kernel_rfl) (fun _ _ _ h => h) (Or.inl ⟨by rfl, ?y18_61⟩) hHeld ?r18_61
                      case y18_61 => (intro W hSw; (try dsimp only at hSw); go_simp; (try with_reducible rfl))
                      try simp only [Act.put, List.setIfInBounds_toArray, List.set_cons_zero, List.set_cons_succ]
                      refine wpAnyH_take (i := 19) (oi := { dst := some 10, op := Op.assign (Operand.tmp 52), type := 23, pos := "law.go:136", after := #[{ on := 17, ground := Ground.data }, { on := 18, ground := Ground.chain }, { on := 0, ground := Ground.phase }, { on := 1, ground := Ground.phase }, { on := 2, ground := Ground.phase }, { on := 3, ground := Ground.phase }, { on := 4, ground := Ground.phase }, { on := 5, ground := Ground.phase }, { on := 6, ground := Ground.phase }, { on := 7, ground := Ground.phase }, { on := 8, ground := Ground.phase }, { on := 9, ground := Ground.phase }, { on := 10, ground := Ground.phase }, { on := 11, ground := Ground.phase }, { on := 12, ground := Ground.phase }, { on := 13, ground := Ground.phase }, { on := 14, ground := Ground.phase }, { on := 15, ground := Ground.phase }, { on := 16, ground := Ground.phase }, { on := 17, ground := Ground.phase }, { on := 18, ground := Ground.phase }], guard := none }) (v := ?v19_62) rfl (by kernel_rfl) (by kernel_rfl) (by kernel_rfl) (fun _ _ _ h => h) (Or.inl ⟨by rfl, ?y19_62⟩) hHeld ?r19_62
                      case y19_62 => (intro W hSw; (try dsimp only at hSw); go_simp; (try with_reducible rfl))
                      try simp only [Act.put, List.setIfInBounds_toArray, List.set_cons_zero, List.set_cons_succ]
                      refine wpAnyH_done (by kernel_rfl) ?_ _
                      go_wp2_with fail
                      go_meet
                      exact endQ HP HB1 hHeld
                  case c13_57 =>
                    have hv := conv1 W2 bB c1 FB.out
                    go_simp
                    clear hv FB
                    refine hK.out _ _ hHeld (fun hX => ?_)
                    clear hK K hX
                    try simp only [Act.put, List.setIfInBounds_toArray, List.set_cons_zero, List.set_cons_succ]
                    refine wpAnyH_take (i := 14) (oi := { dst := some 49, op := Op.binOp BinOp.add 9 (Operand.tmp 44) (Operand.tmp 48) 9, type := 9, pos := "law.go:136", after := #[{ on := 9, ground := Ground.data }, { on := 13, ground := Ground.data }], guard := none }) (v := ?v14_63) rfl (by kernel_rfl) (by kernel_rfl) (by kernel_rfl) (fun _ _ _ h => h) (Or.inl ⟨by rfl, ?y14_63⟩) hHeld ?r14_63
                    case y14_63 => (intro W hSw; (try dsimp only at hSw); go_simp; (try with_reducible rfl))
                    try simp only [Act.put, List.setIfInBounds_toArray, List.set_cons_zero, List.set_cons_succ]
                    refine wpAnyH_take (i := 16) (oi := { dst := some 51, op := Op.binOp BinOp.add 9 (Operand.tmp 49) (Operand.tmp 50) 9, type := 9, pos := "law.go:136", after := #[{ on := 14, ground := Ground.data }, { on := 15, ground := Ground.data }], guard := none }) (v := ?v16_64) rfl (by kernel_rfl) (by kernel_rfl) (by kernel_rfl) (fun _ _ _ h => h) (Or.inl ⟨by rfl, ?y16_64⟩) hHeld ?r16_64
                    case y16_64 => (intro W hSw; (try dsimp only at hSw); go_simp; (try with_reducible rfl))
                    try simp only [Act.put, List.setIfInBounds_toArray, List.set_cons_zero, List.set_cons_succ]
                    refine wpAnyH_ready (rs := [8]) (by kernel_rfl) (by simp) ?_
                    refine AllReadyH.cons (o := { dst := some 43, op := Op.call { callee := Callee.value (Operand.func 12), args := #[Operand.tmp 42], argTypes := #[9] }, type := 23, pos := "law.go:136", after := #[{ on := 7, ground := Ground.data }], guard := none }) rfl (fun K hK => ?c8_65) AllReadyH.nil
                    case c8_65 =>
                      go_simp
                      refine (HX.out _).mono ?_
                      rintro e u ⟨rfl, rfl⟩
                      try dsimp only
                      have hH2 := hHeld.alloc hHeld.size (.cells #[.string (s ++ ⟨#[c0]⟩ ++ t)] 9)
                      refine hK.out _ _ hH2 (fun hX => ?_)
                      clear hHeld hH2 hK K
                      have hHeld := hX
                      clear hX
                      generalize W2.alloc (.cells #[.string (s ++ ⟨#[c0]⟩ ++ t)] 9) = W5 at *
                      try simp only [Act.put, List.setIfInBounds_toArray, List.set_cons_zero, List.set_cons_succ]
                      refine wpAnyH_ready (rs := [17]) (by kernel_rfl) (by simp) ?_
                      refine AllReadyH.cons (o := { dst := some 52, op := Op.call { callee := Callee.value (Operand.func 12), args := #[Operand.tmp 51], argTypes := #[9] }, type := 23, pos := "law.go:136", after := #[{ on := 16, ground := Ground.data }, { on := 8, ground := Ground.chain }], guard := none }) rfl (fun K hK => ?_) AllReadyH.nil
                      go_simp
                      refine (HY.out _).mono ?_
                      rintro e u ⟨rfl, rfl⟩
                      try dsimp only
                      have hH2 := hHeld.alloc hHeld.size (.cells #[.string (s ++ ⟨#[c1]⟩ ++ t)] 9)
                      refine hK.out _ _ hH2 (fun hX => ?_)
                      clear hHeld hH2 hK K
                      have hHeld := hX
                      clear hX
                      generalize W5.alloc (.cells #[.string (s ++ ⟨#[c1]⟩ ++ t)] 9) = W6 at *
                      try simp only [Act.put, List.setIfInBounds_toArray, List.set_cons_zero, List.set_cons_succ]
                      refine wpAnyH_take (i := 18) (oi := { dst := some 9, op := Op.assign (Operand.tmp 43), type := 23, pos := "law.go:136", after := #[{ on := 8, ground := Ground.data }, { on := 17, ground := Ground.chain }, { on := 0, ground := Ground.phase }, { on := 1, ground := Ground.phase }, { on := 2, ground := Ground.phase }, { on := 3, ground := Ground.phase }, { on := 4, ground := Ground.phase }, { on := 5, ground := Ground.phase }, { on := 6, ground := Ground.phase }, { on := 7, ground := Ground.phase }, { on := 8, ground := Ground.phase }, { on := 9, ground := Ground.textOnly Departure.lateStores }, { on := 10, ground := Ground.textOnly Departure.lateStores }, { on := 11, ground := Ground.textOnly Departure.lateStores }, { on := 12, ground := Ground.textOnly Departure.lateStores }, { on := 13, ground := Ground.textOnly Departure.lateStores }, { on := 14, ground := Ground.textOnly Departure.lateStores }, { on := 15, ground := Ground.textOnly Departure.lateStores }, { on := 16, ground := Ground.textOnly Departure.lateStores }, { on := 17, ground := Ground.textOnly Departure.lateStoresUnsure }], guard := none }) (v := ?v18_66) rfl (by kernel_rfl) (by kernel_rfl) (by kernel_rfl) (fun _ _ _ h => h) (Or.inl ⟨by rfl, ?y18_66⟩) hHeld ?r18_66
                      case y18_66 => (intro W hSw; (try dsimp only at hSw); go_simp; (try with_reducible rfl))
                      try simp only [Act.put, List.setIfInBounds_toArray, List.set_cons_zero, List.set_cons_succ]
                      refine wpAnyH_take (i := 19) (oi := { dst := some 10, op := Op.assign (Operand.tmp 52), type := 23, pos := "law.go:136", after := #[{ on := 17, ground := Ground.data }, { on := 18, ground := Ground.chain }, { on := 0, ground := Ground.phase }, { on := 1, ground := Ground.phase }, { on := 2, ground := Ground.phase }, { on := 3, ground := Ground.phase }, { on := 4, ground := Ground.phase }, { on := 5, ground := Ground.phase }, { on := 6, ground := Ground.phase }, { on := 7, ground := Ground.phase }, { on := 8, ground := Ground.phase }, { on := 9, ground := Ground.phase }, { on := 10, ground := Ground.phase }, { on := 11, ground := Ground.phase }, { on := 12, ground := Ground.phase }, { on := 13, ground := Ground.phase }, { on := 14, ground := Ground.phase }, { on := 15, ground := Ground.phase }, { on := 16, ground := Ground.phase }, { on := 17, ground := Ground.phase }, { on := 18, ground := Ground.phase }], guard := none }) (v := ?v19_67) rfl (by kernel_rfl) (by kernel_rfl) (by kernel_rfl) (fun _ _ _ h => h) (Or.inl ⟨by rfl, ?y19_67⟩) hHeld ?r19_67
                      case y19_67 => (intro W hSw; (try dsimp only at hSw); go_simp; (try with_reducible rfl))
                      try simp only [Act.put, List.setIfInBounds_toArray, List.set_cons_zero, List.set_cons_succ]
                      refine wpAnyH_done (by kernel_rfl) ?_ _
                      go_wp2_with fail
                      go_meet
                      exact endQ HP HB1 hHeld
                case c13_54 =>
                  have hv := conv1 W2 bB c1 FB.out
                  go_simp
                  clear hv FB
                  refine hK.out _ _ hHeld (fun hX => ?_)
                  clear hK K hX
                  try simp only [Act.put, List.setIfInBounds_toArray, List.set_cons_zero, List.set_cons_succ]
                  refine wpAnyH_take (i := 14) (oi := { dst := some 49, op := Op.binOp BinOp.add 9 (Operand.tmp 44) (Operand.tmp 48) 9, type := 9, pos := "law.go:136", after := #[{ on := 9, ground := Ground.data }, { on := 13, ground := Ground.data }], guard := none }) (v := ?v14_68) rfl (by kernel_rfl) (by kernel_rfl) (by kernel_rfl) (fun _ _ _ h => h) (Or.inl ⟨by rfl, ?y14_68⟩) hHeld ?r14_68
                  case y14_68 => (intro W hSw; (try dsimp only at hSw); go_simp; (try with_reducible rfl))
                  try simp only [Act.put, List.setIfInBounds_toArray, List.set_cons_zero, List.set_cons_succ]
                  refine wpAnyH_take (i := 16) (oi := { dst := some 51, op := Op.binOp BinOp.add 9 (Operand.tmp 49) (Operand.tmp 50) 9, type := 9, pos := "law.go:136", after := #[{ on := 14, ground := Ground.data }, { on := 15, ground := Ground.data }], guard := none }) (v := ?v16_69) rfl (by kernel_rfl) (by kernel_rfl) (by kernel_rfl) (fun _ _ _ h => h) (Or.inl ⟨by rfl, ?y16_69⟩) hHeld ?r16_69
                  case y16_69 => (intro W hSw; (try dsimp only at hSw); go_simp; (try with_reducible rfl))
                  try simp only [Act.put, List.setIfInBounds_toArray, List.set_cons_zero, List.set_cons_succ]
                  refine wpAnyH_ready (rs := [4]) (by kernel_rfl) (by simp) ?_
                  refine AllReadyH.cons (o := { dst := some 39, op := Op.convert 52 9 (Operand.tmp 38), type := 9, pos := "law.go:136", after := #[{ on := 3, ground := Ground.data }], guard := none }) rfl (fun K hK => ?c4_70) AllReadyH.nil
                  case c4_70 =>
                    have hv := conv1 W2 bA c0 FA.out
                    go_simp
                    clear hv FA
                    refine hK.out _ _ hHeld (fun hX => ?_)
                    clear hK K hX
                    try simp only [Act.put, List.setIfInBounds_toArray, List.set_cons_zero, List.set_cons_succ]
                    refine wpAnyH_take (i := 5) (oi := { dst := some 40, op := Op.binOp BinOp.add 9 (Operand.tmp 35) (Operand.tmp 39) 9, type := 9, pos := "law.go:136", after := #[{ on := 0, ground := Ground.data }, { on := 4, ground := Ground.data }], guard := none }) (v := ?v5_71) rfl (by kernel_rfl) (by kernel_rfl) (by kernel_rfl) (fun _ _ _ h => h) (Or.inl ⟨by rfl, ?y5_71⟩) hHeld ?r5_71
                    case y5_71 => (intro W hSw; (try dsimp only at hSw); go_simp; (try with_reducible rfl))
                    try simp only [Act.put, List.setIfInBounds_toArray, List.set_cons_zero, List.set_cons_succ]
                    refine wpAnyH_take (i := 7) (oi := { dst := some 42, op := Op.binOp BinOp.add 9 (Operand.tmp 40) (Operand.tmp 41) 9, type := 9, pos := "law.go:136", after := #[{ on := 5, ground := Ground.data }, { on := 6, ground := Ground.data }], guard := none }) (v := ?v7_72) rfl (by kernel_rfl) (by kernel_rfl) (by kernel_rfl) (fun _ _ _ h => h) (Or.inl ⟨by rfl, ?y7_72⟩) hHeld ?r7_72
                    case y7_72 => (intro W hSw; (try dsimp only at hSw); go_simp; (try with_reducible rfl))
                    try simp only [Act.put, List.setIfInBounds_toArray, List.set_cons_zero, List.set_cons_succ]
                    refine wpAnyH_ready (rs := [8]) (by kernel_rfl) (by simp) ?_
                    refine AllReadyH.cons (o := { dst := some 43, op := Op.call { callee := Callee.value (Operand.func 12), args := #[Operand.tmp 42], argTypes := #[9] }, type := 23, pos := "law.go:136", after := #[{ on := 7, ground := Ground.data }], guard := none }) rfl (fun K hK => ?c8_73) AllReadyH.nil
                    case c8_73 =>
                      go_simp
                      refine (HX.out _).mono ?_
                      rintro e u ⟨rfl, rfl⟩
                      try dsimp only
                      have hH2 := hHeld.alloc hHeld.size (.cells #[.string (s ++ ⟨#[c0]⟩ ++ t)] 9)
                      refine hK.out _ _ hH2 (fun hX => ?_)
                      clear hHeld hH2 hK K
                      have hHeld := hX
                      clear hX
                      generalize W2.alloc (.cells #[.string (s ++ ⟨#[c0]⟩ ++ t)] 9) = W5 at *
                      try simp only [Act.put, List.setIfInBounds_toArray, List.set_cons_zero, List.set_cons_succ]
                      refine wpAnyH_ready (rs := [17]) (by kernel_rfl) (by simp) ?_
                      refine AllReadyH.cons (o := { dst := some 52, op := Op.call { callee := Callee.value (Operand.func 12), args := #[Operand.tmp 51], argTypes := #[9] }, type := 23, pos := "law.go:136", after := #[{ on := 16, ground := Ground.data }, { on := 8, ground := Ground.chain }], guard := none }) rfl (fun K hK => ?_) AllReadyH.nil
                      go_simp
                      refine (HY.out _).mono ?_
                      rintro e u ⟨rfl, rfl⟩
                      try dsimp only
                      have hH2 := hHeld.alloc hHeld.size (.cells #[.string (s ++ ⟨#[c1]⟩ ++ t)] 9)
                      refine hK.out _ _ hH2 (fun hX => ?_)
                      clear hHeld hH2 hK K
                      have hHeld := hX
                      clear hX
                      generalize W5.alloc (.cells #[.string (s ++ ⟨#[c1]⟩ ++ t)] 9) = W6 at *
                      try simp only [Act.put, List.setIfInBounds_toArray, List.set_cons_zero, List.set_cons_succ]
                      refine wpAnyH_take (i := 18) (oi := { dst := some 9, op := Op.assign (Operand.tmp 43), type := 23, pos := "law.go:136", after := #[{ on := 8, ground := Ground.data }, { on := 17, ground := Ground.chain }, { on := 0, ground := Ground.phase }, { on := 1, ground := Ground.phase }, { on := 2, ground := Ground.phase }, { on := 3, ground := Ground.phase }, { on := 4, ground := Ground.phase }, { on := 5, ground := Ground.phase }, { on := 6, ground := Ground.phase }, { on := 7, ground := Ground.phase }, { on := 8, ground := Ground.phase }, { on := 9, ground := Ground.textOnly Departure.lateStores }, { on := 10, ground := Ground.textOnly Departure.lateStores }, { on := 11, ground := Ground.textOnly Departure.lateStores }, { on := 12, ground := Ground.textOnly Departure.lateStores }, { on := 13, ground := Ground.textOnly Departure.lateStores }, { on := 14, ground := Ground.textOnly Departure.lateStores }, { on := 15, ground := Ground.textOnly Departure.lateStores }, { on := 16, ground := Ground.textOnly Departure.lateStores }, { on := 17, ground := Ground.textOnly Departure.lateStoresUnsure }], guard := none }) (v := ?v18_74) rfl (by kernel_rfl) (by kernel_rfl) (by kernel_rfl) (fun _ _ _ h => h) (Or.inl ⟨by rfl, ?y18_74⟩) hHeld ?r18_74
                      case y18_74 => (intro W hSw; (try dsimp only at hSw); go_simp; (try with_reducible rfl))
                      try simp only [Act.put, List.setIfInBounds_toArray, List.set_cons_zero, List.set_cons_succ]
                      refine wpAnyH_take (i := 19) (oi := { dst := some 10, op := Op.assign (Operand.tmp 52), type := 23, pos := "law.go:136", after := #[{ on := 17, ground := Ground.data }, { on := 18, ground := Ground.chain }, { on := 0, ground := Ground.phase }, { on := 1, ground := Ground.phase }, { on := 2, ground := Ground.phase }, { on := 3, ground := Ground.phase }, { on := 4, ground := Ground.phase }, { on := 5, ground := Ground.phase }, { on := 6, ground := Ground.phase }, { on := 7, ground := Ground.phase }, { on := 8, ground := Ground.phase }, { on := 9, ground := Ground.phase }, { on := 10, ground := Ground.phase }, { on := 11, ground := Ground.phase }, { on := 12, ground := Ground.phase }, { on := 13, ground := Ground.phase }, { on := 14, ground := Ground.phase }, { on := 15, ground := Ground.phase }, { on := 16, ground := Ground.phase }, { on := 17, ground := Ground.phase }, { on := 18, ground := Ground.phase }], guard := none }) (v := ?v19_75) rfl (by kernel_rfl) (by kernel_rfl) (by kernel_rfl) (fun _ _ _ h => h) (Or.inl ⟨by rfl, ?y19_75⟩) hHeld ?r19_75
                      case y19_75 => (intro W hSw; (try dsimp only at hSw); go_simp; (try with_reducible rfl))
                      try simp only [Act.put, List.setIfInBounds_toArray, List.set_cons_zero, List.set_cons_succ]
                      refine wpAnyH_done (by kernel_rfl) ?_ _
                      go_wp2_with fail
                      go_meet
                      exact endQ HP HB1 hHeld
              case c13_53 =>
                have hv := conv1 W1 bB c1 FB.out
                go_simp
                clear hv FB
                refine hK.out _ _ hHeld (fun hX => ?_)
                clear hK K hX
                try simp only [Act.put, List.setIfInBounds_toArray, List.set_cons_zero, List.set_cons_succ]
                refine wpAnyH_take (i := 14) (oi := { dst := some 49, op := Op.binOp BinOp.add 9 (Operand.tmp 44) (Operand.tmp 48) 9, type := 9, pos := "law.go:136", after := #[{ on := 9, ground := Ground.data }, { on := 13, ground := Ground.data }], guard := none }) (v := ?v14_76) rfl (by kernel_rfl) (by kernel_rfl) (by kernel_rfl) (fun _ _ _ h => h) (Or.inl ⟨by rfl, ?y14_76⟩) hHeld ?r14_76
                case y14_76 => (intro W hSw; (try dsimp only at hSw); go_simp; (try with_reducible rfl))
                try simp only [Act.put, List.setIfInBounds_toArray, List.set_cons_zero, List.set_cons_succ]
                refine wpAnyH_take (i := 16) (oi := { dst := some 51, op := Op.binOp BinOp.add 9 (Operand.tmp 49) (Operand.tmp 50) 9, type := 9, pos := "law.go:136", after := #[{ on := 14, ground := Ground.data }, { on := 15, ground := Ground.data }], guard := none }) (v := ?v16_77) rfl (by kernel_rfl) (by kernel_rfl) (by kernel_rfl) (fun _ _ _ h => h) (Or.inl ⟨by rfl, ?y16_77⟩) hHeld ?r16_77
                case y16_77 => (intro W hSw; (try dsimp only at hSw); go_simp; (try with_reducible rfl))
                try simp only [Act.put, List.setIfInBounds_toArray, List.set_cons_zero, List.set_cons_succ]
                refine wpAnyH_ready (rs := [3]) (by kernel_rfl) (by simp) ?_
                refine AllReadyH.cons (o := { dst := some 38, op := Op.buildSlice 52 1 #[(0, Operand.tmp 37)], type := 52, pos := "law.go:136", after := #[{ on := 2, ground := Ground.data }], guard := none }) rfl (fun K hK => ?c3_78) AllReadyH.nil
                case c3_78 =>
                  go_simp
                  have hH2 := hHeld.alloc hHeld.size (.cells #[.int .u8 (c0.toNat : Int)] 5)
                  have FA := Lib.hid (show (W1.alloc (.cells #[.int .u8 (c0.toNat : Int)] 5)).cell? ⟨W1.heap.size, 0, none⟩ = some (.int .u8 (c0.toNat : Int)) by simp)
                  refine hK.out _ _ hH2 (fun hX => ?_)
                  clear hHeld hH2 hK K
                  have hHeld := hX
                  clear hX
                  generalize W1.alloc (.cells #[.int .u8 (c0.toNat : Int)] 5) = W3 at *
                  generalize W1.heap.size = bA at *
                  try simp only [Act.put, List.setIfInBounds_toArray, List.set_cons_zero, List.set_cons_succ]
                  refine wpAnyH_ready (rs := [4]) (by kernel_rfl) (by simp) ?_
                  refine AllReadyH.cons (o := { dst := some 39, op := Op.convert 52 9 (Operand.tmp 38), type := 9, pos := "law.go:136", after := #[{ on := 3, ground := Ground.data }], guard := none }) rfl (fun K hK => ?c4_79) AllReadyH.nil
                  case c4_79 =>
                    have hv := conv1 W3 bA c0 FA.out
                    go_simp
                    clear hv FA
                    refine hK.out _ _ hHeld (fun hX => ?_)
                    clear hK K hX
                    try simp only [Act.put, List.setIfInBounds_toArray, List.set_cons_zero, List.set_cons_succ]
                    refine wpAnyH_take (i := 5) (oi := { dst := some 40, op := Op.binOp BinOp.add 9 (Operand.tmp 35) (Operand.tmp 39) 9, type := 9, pos := "law.go:136", after := #[{ on := 0, ground := Ground.data }, { on := 4, ground := Ground.data }], guard := none }) (v := ?v5_80) rfl (by kernel_rfl) (by kernel_rfl) (by kernel_rfl) (fun _ _ _ h => h) (Or.inl ⟨by rfl, ?y5_80⟩) hHeld ?r5_80
                    case y5_80 => (intro W hSw; (try dsimp only at hSw); go_simp; (try with_reducible rfl))
                    try simp only [Act.put, List.setIfInBounds_toArray, List.set_cons_zero, List.set_cons_succ]
                    refine wpAnyH_take (i := 7) (oi := { dst := some 42, op := Op.binOp BinOp.add 9 (Operand.tmp 40) (Operand.tmp 41) 9, type := 9, pos := "law.go:136", after := #[{ on := 5, ground := Ground.data }, { on := 6, ground := Ground.data }], guard := none }) (v := ?v7_81) rfl (by kernel_rfl) (by kernel_rfl) (by kernel_rfl) (fun _ _ _ h => h) (Or.inl ⟨by rfl, ?y7_81⟩) hHeld ?r7_81
                    case y7_81 => (intro W hSw; (try dsimp only at hSw); go_simp; (try with_reducible rfl))
                    try simp only [Act.put, List.setIfInBounds_toArray, List.set_cons_zero, List.set_cons_succ]
                    refine wpAnyH_ready (rs := [8]) (by kernel_rfl) (by simp) ?_
                    refine AllReadyH.cons (o := { dst := some 43, op := Op.call { callee := Callee.value (Operand.func 12), args := #[Operand.tmp 42], argTypes := #[9] }, type := 23, pos := "law.go:136", after := #[{ on := 7, ground := Ground.data }], guard := none }) rfl (fun K hK => ?c8_82) AllReadyH.nil
                    case c8_82 =>
                      go_simp
                      refine (HX.out _).mono ?_
                      rintro e u ⟨rfl, rfl⟩
                      try dsimp only
                      have hH2 := hHeld.alloc hHeld.size (.cells #[.string (s ++ ⟨#[c0]⟩ ++ t)] 9)
                      refine hK.out _ _ hH2 (fun hX => ?_)
                      clear hHeld hH2 hK K
                      have hHeld := hX
                      clear hX
                      generalize W3.alloc (.cells #[.string (s ++ ⟨#[c0]⟩ ++ t)] 9) = W5 at *
                      try simp only [Act.put, List.setIfInBounds_toArray, List.set_cons_zero, List.set_cons_succ]
                      refine wpAnyH_ready (rs := [17]) (by kernel_rfl) (by simp) ?_
                      refine AllReadyH.cons (o := { dst := some 52, op := Op.call { callee := Callee.value (Operand.func 12), args := #[Operand.tmp 51], argTypes := #[9] }, type := 23, pos := "law.go:136", after := #[{ on := 16, ground := Ground.data }, { on := 8, ground := Ground.chain }], guard := none }) rfl (fun K hK => ?_) AllReadyH.nil
                      go_simp
                      refine (HY.out _).mono ?_
                      rintro e u ⟨rfl, rfl⟩
                      try dsimp only
                      have hH2 := hHeld.alloc hHeld.size (.cells #[.string (s ++ ⟨#[c1]⟩ ++ t)] 9)
                      refine hK.out _ _ hH2 (fun hX => ?_)
                      clear hHeld hH2 hK K
                      have hHeld := hX
                      clear hX
                      generalize W5.alloc (.cells #[.string (s ++ ⟨#[c1]⟩ ++ t)] 9) = W6 at *
                      try simp only [Act.put, List.setIfInBounds_toArray, List.set_cons_zero, List.set_cons_succ]
                      refine wpAnyH_take (i := 18) (oi := { dst := some 9, op := Op.assign (Operand.tmp 43), type := 23, pos := "law.go:136", after := #[{ on := 8, ground := Ground.data }, { on := 17, ground := Ground.chain }, { on := 0, ground := Ground.phase }, { on := 1, ground := Ground.phase }, { on := 2, ground := Ground.phase }, { on := 3, ground := Ground.phase }, { on := 4, ground := Ground.phase }, { on := 5, ground := Ground.phase }, { on := 6, ground := Ground.phase }, { on := 7, ground := Ground.phase }, { on := 8, ground := Ground.phase }, { on := 9, ground := Ground.textOnly Departure.lateStores }, { on := 10, ground := Ground.textOnly Departure.lateStores }, { on := 11, ground := Ground.textOnly Departure.lateStores }, { on := 12, ground := Ground.textOnly Departure.lateStores }, { on := 13, ground := Ground.textOnly Departure.lateStores }, { on := 14, ground := Ground.textOnly Departure.lateStores }, { on := 15, ground := Ground.textOnly Departure.lateStores }, { on := 16, ground := Ground.textOnly Departure.lateStores }, { on := 17, ground := Ground.textOnly Departure.lateStoresUnsure }], guard := none }) (v := ?v18_83) rfl (by kernel_rfl) (by kernel_rfl) (by kernel_rfl) (fun _ _ _ h => h) (Or.inl ⟨by rfl, ?y18_83⟩) hHeld ?r18_83
                      case y18_83 => (intro W hSw; (try dsimp only at hSw); go_simp; (try with_reducible rfl))
                      try simp only [Act.put, List.setIfInBounds_toArray, List.set_cons_zero, List.set_cons_succ]
                      refine wpAnyH_take (i := 19) (oi := { dst := some 10, op := Op.assign (Operand.tmp 52), type := 23, pos := "law.go:136", after := #[{ on := 17, ground := Ground.data }, { on := 18, ground := Ground.chain }, { on := 0, ground := Ground.phase }, { on := 1, ground := Ground.phase }, { on := 2, ground := Ground.phase }, { on := 3, ground := Ground.phase }, { on := 4, ground := Ground.phase }, { on := 5, ground := Ground.phase }, { on := 6, ground := Ground.phase }, { on := 7, ground := Ground.phase }, { on := 8, ground := Ground.phase }, { on := 9, ground := Ground.phase }, { on := 10, ground := Ground.phase }, { on := 11, ground := Ground.phase }, { on := 12, ground := Ground.phase }, { on := 13, ground := Ground.phase }, { on := 14, ground := Ground.phase }, { on := 15, ground := Ground.phase }, { on := 16, ground := Ground.phase }, { on := 17, ground := Ground.phase }, { on := 18, ground := Ground.phase }], guard := none }) (v := ?v19_84) rfl (by kernel_rfl) (by kernel_rfl) (by kernel_rfl) (fun _ _ _ h => h) (Or.inl ⟨by rfl, ?y19_84⟩) hHeld ?r19_84
                      case y19_84 => (intro W hSw; (try dsimp only at hSw); go_simp; (try with_reducible rfl))
                      try simp only [Act.put, List.setIfInBounds_toArray, List.set_cons_zero, List.set_cons_succ]
                      refine wpAnyH_done (by kernel_rfl) ?_ _
                      go_wp2_with fail
                      go_meet
                      exact endQ HP HB1 hHeld
          case rest =>
            obtain ⟨rfl, rfl, D0, D1, HBC⟩ := hcut
            have hx := HXY.out.1
            have hy := HXY.out.2
            simp only [ByteArray.data_append, Array.toList_append, List.append_assoc] at hx hy
            have hiff : x = y ↔ c0 = c1 := by
              rw [hx, hy]
              exact one_byte 14695981039346656037 (by decide) s.data.toList t.data.toList c0 c1
            have KS := sumX (s ++ t) (by rw [ByteArray.size_append]; omega) wc
            rw [show hsum 14695981039346656037 (s ++ t).data.toList = g by rw [HG.out, HH0.out, ← hsum_append]; simp] at KS
            have HKS := Lib.hid KS
            have HBD : Hid (Below w.heap.size w (wc.alloc (.cells #[.string (s ++ t)] 9))) := Lib.hid (HBC.out.alloc HBC.out.size _)
            have d0 := cell_keep D0.out ((Below.refl wc.heap.size wc).alloc (Nat.le_refl _) (.cells #[.string (s ++ t)] 9))
            have d1 := cell_keep D1.out ((Below.refl wc.heap.size wc).alloc (Nat.le_refl _) (.cells #[.string (s ++ t)] 9))
            have hz2 : ¬ (9223372036854775807 < s.size + t.size) := by omega
            clear KS hx hy hC0 hC1 hlt hk HXY HX HY HP
            by_cases hcc : c0 = c1
            · subst hcc
              obtain rfl : x = y := hiff.2 rfl
              clear hiff
              go_wp2_with fail
              refine HKS.out.mono ?_
              rintro e w7 ⟨rfl, rfl⟩
              go_wp2_with fail
              refine (HAL.out _ HBD.out).mono ?_
              rintro e w8 ⟨rfl, hb8⟩
              have HBE := Lib.hid (HBD.out.trans (hb8.mono HBD.out.size))
              clear hb8
              go_wp2_with fail
              go_ret
              exact ⟨rfl, HBE.out⟩
            · have hxy : ¬ x = y := fun e => hcc (hiff.1 e)
              have hxi : ¬ (x : Int) = (y : Int) := by omega
              have hcn : ¬ c0.toNat = c1.toNat := fun e => hcc (UInt8.toNat_inj.1 e)
              have hci : ¬ (c0.toNat : Int) = (c1.toNat : Int) := by omega
              clear hiff
              have hq : ((x : Int) == (y : Int)) = ((c0.toNat : Int) == (c1.toNat : Int)) := by rw [beq_eq_false_iff_ne.2 hxi, beq_eq_false_iff_ne.2 hci]
              go_wp2_with fail
              refine HKS.out.mono ?_
              rintro e w7 ⟨rfl, rfl⟩
              go_wp2_with fail
              refine (HAL.out _ HBD.out).mono ?_
              rintro e w8 ⟨rfl, hb8⟩
              have HBE := Lib.hid (HBD.out.trans (hb8.mono HBD.out.size))
              clear hb8
              go_wp2_with fail
              go_ret
              exact ⟨rfl, HBE.out⟩
    · have h2 : (500 : Int) < (t.size : Int) := by omega
      clear ht
      go_enter Tryz.func9, Tryz.ntmps9
      go_wp2_with fail
      refine (HAL.out _ HB0.out).mono ?_
      rintro e w6 ⟨rfl, hb6⟩
      have B6 := Lib.hid (HB0.out.trans (hb6.mono HB0.out.size))
      clear hb6
      go_wp2_with fail
      go_ret
      exact ⟨rfl, B6.out⟩
  · have h1 : (500 : Int) < (s.size : Int) := by omega
    clear hs
    go_enter Tryz.func9, Tryz.ntmps9
    go_wp2_with fail
    refine (HAL.out _ HB0.out).mono ?_
    rintro e w6 ⟨rfl, hb6⟩
    have B6 := Lib.hid (HB0.out.trans (hb6.mono HB0.out.size))
    clear hb6
    go_wp2_with fail
    go_ret
    exact ⟨rfl, B6.out⟩
end Go.Proofs.YtiaegcacccaodaaGreatDoor.Dg
