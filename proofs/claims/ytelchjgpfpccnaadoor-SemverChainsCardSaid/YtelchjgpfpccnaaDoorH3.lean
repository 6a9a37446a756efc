/-
  Compatible is reflexive for valid versions, transitive, and only upwards: the law SemverChains. Condition: internal/bytealg.MaxLen holds some number.
-/
import Derived.Test.YtelchjgpfpccnaaDoorK
namespace Go.Proofs.YtelchjgpfpccnaaDoor
open Go.RowKit
set_option linter.unusedSimpArgs false
set_option linter.unusedVariables false
set_option maxRecDepth 100000 in
set_option maxHeartbeats 4000000 in
theorem chains_tft (a0 a1 a2 b0 b1 b2 c0 c1 c2 : Int) (v : Bool) (w : World) (hM : Mx w) (hv : okV a0 a1 a2 = v) (h1 : compB a0 a1 a2 a0 a1 a2 = v) (h2 : compB a0 a1 a2 b0 b1 b2 = true) (h3 : compB b0 b1 b2 c0 c1 c2 = false) (h5 : compB b0 b1 b2 a0 a1 a2 = true) (he : a0 = b0 ∧ a1 = b1 ∧ a2 = b2) :
    Calls Tryd.prog 10 #[vv a0 a1 a2, vv b0 b1 b2, vv c0 c1 c2] w fun e w' => e = .returned (.bool true) ∧ Below w.heap.size w w' := by
  have q : ∀ w, (Op.equalIn 10000 23 (vv a0 a1 a2) (vv b0 b1 b2)).run Tryd.prog w = .ok true w := fun w => by rw [eqV, he.1, he.2.1, he.2.2]; simp
  have HV := Lib.hid hv
  have H1 := Lib.hid h1
  have H2 := Lib.hid h2
  have H3 := Lib.hid h3
  have H5 := Lib.hid h5
  obtain ⟨w0, hw0⟩ : ∃ w0, w0 = ((w.alloc (vblk a0 a1 a2)).alloc (vblk b0 b1 b2)).alloc (vblk c0 c1 c2) := ⟨_, rfl⟩
  have hS : I3 w0 w.heap.size (w.heap.size + 1) (w.heap.size + 1 + 1) a0 a1 a2 b0 b1 b2 c0 c1 c2 w0 := by
    subst hw0
    exact ⟨Below.refl _ _, (((Row3.new w a0 a1 a2 23 _ rfl).alloc _).alloc _).c3, ((Row3.new (w.alloc (vblk a0 a1 a2)) b0 b1 b2 23 _ (by simp)).alloc _).c3, (Row3.new ((w.alloc (vblk a0 a1 a2)).alloc (vblk b0 b1 b2)) c0 c1 c2 23 _ (by simp)).c3⟩
  have hB : Below w.heap.size w w0 := by
    subst hw0; exact (((Below.refl w.heap.size w).alloc (Nat.le_refl _) (vblk a0 a1 a2)).alloc (by simp) (vblk b0 b1 b2)).alloc (by simp; omega) (vblk c0 c1 c2)
  have HM := Lib.hid (hM.keep hB hM.1)
  have HB := Lib.hid hB
  unfold vblk at hw0
  have Hw := Lib.hid hw0
  clear hv h1 h2 h3 h5 he hM hB hw0
  unfold vv at q ⊢
  go_enter Tryd.func10, Tryd.ntmps10
  go_wp2_with fail
  rw [← Hw.out]
  clear Hw
  refine wp_region_held_drew (S := fun w' => I3 w0 w.heap.size (w.heap.size + 1) (w.heap.size + 1 + 1) a0 a1 a2 b0 b1 b2 c0 c1 c2 w') (by kernel_rfl) (I3.keep hS ((Below.refl _ _).drew)) (fun hHeld => ?_)
  refine wpAnyH_take (i := 0) (oi := { dst := some 7, op := Op.load 23 (Operand.tmp 3), type := 23, pos := "law.go:91", after := #[], guard := none }) (v := ?v0) rfl (by kernel_rfl) (by kernel_rfl) (by kernel_rfl) (fun _ _ _ h => h) (Or.inl ⟨by rfl, ?y0⟩) hHeld ?r0
  case y0 => (intro w hSw; (try dsimp only at hSw); go_simp; (try with_reducible rfl))
  try simp only [Act.put, List.setIfInBounds_toArray, List.set_cons_zero, List.set_cons_succ]
  refine wpAnyH_take (i := 1) (oi := { dst := some 8, op := Op.load 23 (Operand.tmp 3), type := 23, pos := "law.go:91", after := #[], guard := none }) (v := ?v1) rfl (by kernel_rfl) (by kernel_rfl) (by kernel_rfl) (fun _ _ _ h => h) (Or.inl ⟨by rfl, ?y1⟩) hHeld ?r1
  case y1 => (intro w hSw; (try dsimp only at hSw); go_simp; (try with_reducible rfl))
  try simp only [Act.put, List.setIfInBounds_toArray, List.set_cons_zero, List.set_cons_succ]
  refine wpAnyH_take (i := 3) (oi := { dst := some 10, op := Op.load 23 (Operand.tmp 3), type := 23, pos := "law.go:91", after := #[], guard := none }) (v := ?v3) rfl (by kernel_rfl) (by kernel_rfl) (by kernel_rfl) (fun _ _ _ h => h) (Or.inl ⟨by rfl, ?y3⟩) hHeld ?r3
  case y3 => (intro w hSw; (try dsimp only at hSw); go_simp; (try with_reducible rfl))
  try simp only [Act.put, List.setIfInBounds_toArray, List.set_cons_zero, List.set_cons_succ]
  refine wpAnyH_ready (rs := [2]) (by kernel_rfl) (by simp) ?_
  refine AllReadyH.cons (o := { dst := some 9, op := Op.call { callee := Callee.value (Operand.func 20), args := #[Operand.tmp 7, Operand.tmp 8], argTypes := #[23, 23] }, type := 4, pos := "law.go:91", after := #[{ on := 0, ground := Ground.data }, { on := 1, ground := Ground.data }], guard := none }) rfl (fun K hK => ?_) AllReadyH.nil
  go_simp
  refine (compat_at _ H1.out _).mono ?_
  rintro e w1 ⟨rfl, hbN⟩
  try dsimp only
  refine hK.out _ _ (I3.keep hHeld hbN) (fun hHeld1 => ?_)
  clear hK K hHeld hbN
  have hHeld := hHeld1
  clear hHeld1
  try simp only [Act.put, List.setIfInBounds_toArray, List.set_cons_zero, List.set_cons_succ]
  refine wpAnyH_ready (rs := [4]) (by kernel_rfl) (by simp) ?_
  refine AllReadyH.cons (o := { dst := some 11, op := Op.call { callee := Callee.value (Operand.func 11), args := #[Operand.tmp 10], argTypes := #[23] }, type := 4, pos := "law.go:91", after := #[{ on := 3, ground := Ground.data }, { on := 2, ground := Ground.chain }], guard := none }) rfl (fun K hK => ?_) AllReadyH.nil
  go_simp
  refine (valid_at _ _ _ v HV.out _).mono ?_
  rintro e w2 ⟨rfl, hbN⟩
  try dsimp only
  refine hK.out _ _ (I3.keep hHeld hbN) (fun hHeld2 => ?_)
  clear hK K hHeld hbN
  have hHeld := hHeld2
  clear hHeld2
  try simp only [Act.put, List.setIfInBounds_toArray, List.set_cons_zero, List.set_cons_succ]
  refine wpAnyH_take (i := 5) (oi := { dst := some 12, op := Op.binOp BinOp.neq 4 (Operand.tmp 9) (Operand.tmp 11) 4, type := 4, pos := "law.go:91", after := #[{ on := 2, ground := Ground.data }, { on := 4, ground := Ground.data }], guard := none }) (v := ?v5) rfl (by kernel_rfl) (by kernel_rfl) (by kernel_rfl) (fun _ _ _ h => h) (Or.inl ⟨by rfl, ?y5⟩) hHeld ?r5
  case y5 => (intro w hSw; (try dsimp only at hSw); go_simp; (try with_reducible rfl))
  try simp only [Act.put, List.setIfInBounds_toArray, List.set_cons_zero, List.set_cons_succ]
  refine wpAnyH_take (i := 6) (oi := { dst := some 13, op := Op.move (Operand.tmp 12), type := 4, pos := "law.go:91", after := #[{ on := 5, ground := Ground.data }, { on := 4, ground := Ground.chain }], guard := none }) (v := ?v6) rfl (by kernel_rfl) (by kernel_rfl) (by kernel_rfl) (fun _ _ _ h => h) (Or.inl ⟨by rfl, ?y6⟩) hHeld ?r6
  case y6 => (intro w hSw; (try dsimp only at hSw); go_simp; (try with_reducible rfl))
  try simp only [Act.put, List.setIfInBounds_toArray, List.set_cons_zero, List.set_cons_succ]
  refine wpAnyH_take (i := 7) (oi := { dst := some 14, op := Op.load 23 (Operand.tmp 3), type := 23, pos := "law.go:91", after := #[{ on := 6, ground := Ground.guard }], guard := some (6, false) }) (v := ?v7) rfl (by kernel_rfl) (by kernel_rfl) (by kernel_rfl) (fun _ _ _ h => h) (Or.inl ⟨by rfl, ?y7⟩) hHeld ?r7
  case y7 => (intro w hSw; (try dsimp only at hSw); go_simp; (try with_reducible rfl))
  try simp only [Act.put, List.setIfInBounds_toArray, List.set_cons_zero, List.set_cons_succ]
  refine wpAnyH_take (i := 8) (oi := { dst := some 15, op := Op.load 23 (Operand.tmp 4), type := 23, pos := "law.go:91", after := #[{ on := 6, ground := Ground.guard }], guard := some (6, false) }) (v := ?v8) rfl (by kernel_rfl) (by kernel_rfl) (by kernel_rfl) (fun _ _ _ h => h) (Or.inl ⟨by rfl, ?y8⟩) hHeld ?r8
  case y8 => (intro w hSw; (try dsimp only at hSw); go_simp; (try with_reducible rfl))
  try simp only [Act.put, List.setIfInBounds_toArray, List.set_cons_zero, List.set_cons_succ]
  refine wpAnyH_ready (rs := [9]) (by kernel_rfl) (by simp) ?_
  refine AllReadyH.cons (o := { dst := some 16, op := Op.call { callee := Callee.value (Operand.func 20), args := #[Operand.tmp 14, Operand.tmp 15], argTypes := #[23, 23] }, type := 4, pos := "law.go:91", after := #[{ on := 7, ground := Ground.data }, { on := 8, ground := Ground.data }, { on := 6, ground := Ground.chain }, { on := 6, ground := Ground.guard }], guard := some (6, false) }) rfl (fun K hK => ?_) AllReadyH.nil
  go_simp
  refine (compat_at _ H2.out _).mono ?_
  rintro e w3 ⟨rfl, hbN⟩
  try dsimp only
  refine hK.out _ _ (I3.keep hHeld hbN) (fun hHeld3 => ?_)
  clear hK K hHeld hbN
  have hHeld := hHeld3
  clear hHeld3
  try simp only [Act.put, List.setIfInBounds_toArray, List.set_cons_zero, List.set_cons_succ]
  refine wpAnyH_take (i := 10) (oi := { dst := some 17, op := Op.move (Operand.tmp 16), type := 4, pos := "law.go:91", after := #[{ on := 9, ground := Ground.data }, { on := 9, ground := Ground.chain }, { on := 6, ground := Ground.guard }], guard := some (6, false) }) (v := ?v10) rfl (by kernel_rfl) (by kernel_rfl) (by kernel_rfl) (fun _ _ _ h => h) (Or.inl ⟨by rfl, ?y10⟩) hHeld ?r10
  case y10 => (intro w hSw; (try dsimp only at hSw); go_simp; (try with_reducible rfl))
  try simp only [Act.put, List.setIfInBounds_toArray, List.set_cons_zero, List.set_cons_succ]
  refine wpAnyH_take (i := 11) (oi := { dst := some 18, op := Op.load 23 (Operand.tmp 4), type := 23, pos := "law.go:91", after := #[{ on := 10, ground := Ground.guard }], guard := some (10, true) }) (v := ?v11) rfl (by kernel_rfl) (by kernel_rfl) (by kernel_rfl) (fun _ _ _ h => h) (Or.inl ⟨by rfl, ?y11⟩) hHeld ?r11
  case y11 => (intro w hSw; (try dsimp only at hSw); go_simp; (try with_reducible rfl))
  try simp only [Act.put, List.setIfInBounds_toArray, List.set_cons_zero, List.set_cons_succ]
  refine wpAnyH_take (i := 12) (oi := { dst := some 19, op := Op.load 23 (Operand.tmp 5), type := 23, pos := "law.go:91", after := #[{ on := 10, ground := Ground.guard }], guard := some (10, true) }) (v := ?v12) rfl (by kernel_rfl) (by kernel_rfl) (by kernel_rfl) (fun _ _ _ h => h) (Or.inl ⟨by rfl, ?y12⟩) hHeld ?r12
  case y12 => (intro w hSw; (try dsimp only at hSw); go_simp; (try with_reducible rfl))
  try simp only [Act.put, List.setIfInBounds_toArray, List.set_cons_zero, List.set_cons_succ]
  refine wpAnyH_ready (rs := [13]) (by kernel_rfl) (by simp) ?_
  refine AllReadyH.cons (o := { dst := some 20, op := Op.call { callee := Callee.value (Operand.func 20), args := #[Operand.tmp 18, Operand.tmp 19], argTypes := #[23, 23] }, type := 4, pos := "law.go:91", after := #[{ on := 11, ground := Ground.data }, { on := 12, ground := Ground.data }, { on := 10, ground := Ground.chain }, { on := 10, ground := Ground.guard }], guard := some (10, true) }) rfl (fun K hK => ?_) AllReadyH.nil
  go_simp
  refine (compat_at _ H3.out _).mono ?_
  rintro e w4 ⟨rfl, hbN⟩
  try dsimp only
  refine hK.out _ _ (I3.keep hHeld hbN) (fun hHeld4 => ?_)
  clear hK K hHeld hbN
  have hHeld := hHeld4
  clear hHeld4
  try simp only [Act.put, List.setIfInBounds_toArray, List.set_cons_zero, List.set_cons_succ]
  refine wpAnyH_take (i := 14) (oi := { dst := some 21, op := Op.pick (Operand.tmp 17) (Operand.tmp 20) (Operand.const (Value.bool false)), type := 4, pos := "law.go:91", after := #[{ on := 10, ground := Ground.data }, { on := 13, ground := Ground.data }, { on := 6, ground := Ground.guard }], guard := some (6, false) }) (v := ?v14) rfl (by kernel_rfl) (by kernel_rfl) (by kernel_rfl) (fun _ _ _ h => h) (Or.inl ⟨by rfl, ?y14⟩) hHeld ?r14
  case y14 => (intro w hSw; (try dsimp only at hSw); go_simp; (try with_reducible rfl))
  try simp only [Act.put, List.setIfInBounds_toArray, List.set_cons_zero, List.set_cons_succ]
  refine wpAnyH_take (i := 15) (oi := { dst := some 22, op := Op.move (Operand.tmp 21), type := 4, pos := "law.go:91", after := #[{ on := 14, ground := Ground.data }, { on := 13, ground := Ground.chain }, { on := 6, ground := Ground.guard }], guard := some (6, false) }) (v := ?v15) rfl (by kernel_rfl) (by kernel_rfl) (by kernel_rfl) (fun _ _ _ h => h) (Or.inl ⟨by rfl, ?y15⟩) hHeld ?r15
  case y15 => (intro w hSw; (try dsimp only at hSw); go_simp; (try with_reducible rfl))
  try simp only [Act.put, List.setIfInBounds_toArray, List.set_cons_zero, List.set_cons_succ]
  refine wpAnyH_take (i := 16) (oi := { dst := some 23, op := Op.load 23 (Operand.tmp 3), type := 23, pos := "law.go:91", after := #[{ on := 15, ground := Ground.guard }], guard := some (15, true) }) (v := undef) rfl (by kernel_rfl) (by kernel_rfl) (by kernel_rfl) (fun _ _ _ h => h) (Or.inr ⟨by kernel_rfl, rfl⟩) hHeld ?r16
  try simp only [Act.put, List.setIfInBounds_toArray, List.set_cons_zero, List.set_cons_succ]
  refine wpAnyH_take (i := 17) (oi := { dst := some 24, op := Op.load 23 (Operand.tmp 5), type := 23, pos := "law.go:91", after := #[{ on := 15, ground := Ground.guard }], guard := some (15, true) }) (v := undef) rfl (by kernel_rfl) (by kernel_rfl) (by kernel_rfl) (fun _ _ _ h => h) (Or.inr ⟨by kernel_rfl, rfl⟩) hHeld ?r17
  try simp only [Act.put, List.setIfInBounds_toArray, List.set_cons_zero, List.set_cons_succ]
  refine wpAnyH_take (i := 18) (oi := { dst := some 25, op := Op.call { callee := Callee.value (Operand.func 20), args := #[Operand.tmp 23, Operand.tmp 24], argTypes := #[23, 23] }, type := 4, pos := "law.go:91", after := #[{ on := 16, ground := Ground.data }, { on := 17, ground := Ground.data }, { on := 15, ground := Ground.chain }, { on := 15, ground := Ground.guard }], guard := some (15, true) }) (v := undef) rfl (by kernel_rfl) (by kernel_rfl) (by kernel_rfl) (fun _ _ _ h => h) (Or.inr ⟨by kernel_rfl, rfl⟩) hHeld ?r18
  try simp only [Act.put, List.setIfInBounds_toArray, List.set_cons_zero, List.set_cons_succ]
  refine wpAnyH_take (i := 19) (oi := { dst := some 26, op := Op.unOp UnOp.not 4 (Operand.tmp 25), type := 4, pos := "law.go:91", after := #[{ on := 18, ground := Ground.data }, { on := 15, ground := Ground.guard }], guard := some (15, true) }) (v := undef) rfl (by kernel_rfl) (by kernel_rfl) (by kernel_rfl) (fun _ _ _ h => h) (Or.inr ⟨by kernel_rfl, rfl⟩) hHeld ?r19
  try simp only [Act.put, List.setIfInBounds_toArray, List.set_cons_zero, List.set_cons_succ]
  refine wpAnyH_take (i := 20) (oi := { dst := some 27, op := Op.pick (Operand.tmp 22) (Operand.tmp 26) (Operand.const (Value.bool false)), type := 4, pos := "law.go:91", after := #[{ on := 15, ground := Ground.data }, { on := 19, ground := Ground.data }, { on := 6, ground := Ground.guard }], guard := some (6, false) }) (v := ?v20) rfl (by kernel_rfl) (by kernel_rfl) (by kernel_rfl) (fun _ _ _ h => h) (Or.inl ⟨by rfl, ?y20⟩) hHeld ?r20
  case y20 => (intro w hSw; (try dsimp only at hSw); go_simp; (try with_reducible rfl))
  try simp only [Act.put, List.setIfInBounds_toArray, List.set_cons_zero, List.set_cons_succ]
  refine wpAnyH_take (i := 21) (oi := { dst := some 28, op := Op.pick (Operand.tmp 13) (Operand.const (Value.bool true)) (Operand.tmp 27), type := 4, pos := "law.go:91", after := #[{ on := 6, ground := Ground.data }, { on := 20, ground := Ground.data }], guard := none }) (v := ?v21) rfl (by kernel_rfl) (by kernel_rfl) (by kernel_rfl) (fun _ _ _ h => h) (Or.inl ⟨by rfl, ?y21⟩) hHeld ?r21
  case y21 => (intro w hSw; (try dsimp only at hSw); go_simp; (try with_reducible rfl))
  try simp only [Act.put, List.setIfInBounds_toArray, List.set_cons_zero, List.set_cons_succ]
  refine wpAnyH_done (by kernel_rfl) ?_ _
  all_goals (go_wp2_with fail)
  all_goals (refine (compat_at _ H2.out _).mono ?_; rintro e wx ⟨rfl, hbx⟩; have hSx := I3.keep (by assumption) hbx; clear hbx; have h0 := hSx.2.1.1; have h1' := hSx.2.1.2.1; have h2' := hSx.2.1.2.2; have h3' := hSx.2.2.1.1; have h4' := hSx.2.2.1.2.1; have h5' := hSx.2.2.1.2.2; go_wp2_with fail; refine (compat_at _ H5.out _).mono ?_; rintro e wz ⟨rfl, hbz⟩; have hSz := I3.keep hSx hbz; clear hbz h0 h1' h2' h3' h4' h5'; have h0 := hSz.2.1.1; have h1' := hSz.2.1.2.1; have h2' := hSz.2.1.2.2; have h3' := hSz.2.2.1.1; have h4' := hSz.2.2.1.2.1; have h5' := hSz.2.2.1.2.2; go_wp2_with fail; refine (example_any _ (mx3 HM.out hSz)).mono ?_; rintro e wy ⟨rfl, hby⟩; have HSy := Lib.hid (of3 HB.out (I3.keep hSz hby)); clear hby; go_wp2_with fail; go_ret; exact ⟨rfl, HSy.out⟩)

end Go.Proofs.YtelchjgpfpccnaaDoor
