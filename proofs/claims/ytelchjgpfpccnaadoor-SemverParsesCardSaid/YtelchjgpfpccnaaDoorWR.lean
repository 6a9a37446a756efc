/-
  Parse undoes Text, and different versions have different texts: the law SemverRoundTrip. Conditions: the table of powers of ten, and that internal/bytealg.MaxLen holds some number.
-/
import Derived.Test.YtelchjgpfpccnaaDoorU2
namespace Go.Proofs.YtelchjgpfpccnaaDoor
open Go.RowKit
set_option linter.unusedSimpArgs false
set_option linter.unusedVariables false
theorem txtS_inj {a b c a' b' c' : Int} (h : okV a b c = true) (h' : okV a' b' c' = true) (e : txtS a b c = txtS a' b' c') : a = a' ∧ b = b' ∧ c = c' := by
  obtain ⟨⟨a0, a1⟩, ⟨b0, b1⟩, ⟨c0, c1⟩⟩ := okV_parts h
  obtain ⟨⟨x0, x1⟩, ⟨y0, y1⟩, ⟨z0, z1⟩⟩ := okV_parts h'
  have hl : ∀ a b c : Int, 0 ≤ a → 0 ≤ b → 0 ≤ c → (txtS a b c).data.toList = [118] ++ Lib.decDigits a.toNat ++ [46] ++ Lib.decDigits b.toNat ++ [46] ++ Lib.decDigits c.toNat := by
    intro a b c ha hb hc
    simp [txtS, istr_dec ha, istr_dec hb, istr_dec hc]
  have e1 := congrArg (fun x : ByteArray => x.data.toList) e
  simp only [hl a b c a0 b0 c0, hl a' b' c' x0 y0 z0] at e1
  obtain ⟨h1, h2, h3⟩ := ZSemverMath.texts_inj e1
  omega
theorem txtS_q (a b c : Int) : txtS a b c ≠ ⟨#[63]⟩ := by
  intro e
  have := congrArg (fun x : ByteArray => x.data.toList.head?) e
  simp [txtS] at this
/-- the texts are equal exactly where the versions are -/
theorem txt_eq (a b c a' b' c' : Int) (h : okV a b c = true) : ((txtS a b c).toList == (txt a' b' c').toList) = (a == a' && (b == b' && c == c')) := by
  have hiff : txtS a b c = txt a' b' c' ↔ a = a' ∧ b = b' ∧ c = c' := by
    unfold txt
    cases h' : okV a' b' c' with
    | true =>
      rw [if_pos rfl]
      exact ⟨txtS_inj h h', by rintro ⟨rfl, rfl, rfl⟩; rfl⟩
    | false =>
      rw [if_neg (by simp)]
      refine ⟨fun e => absurd e (txtS_q a b c), ?_⟩
      rintro ⟨rfl, rfl, rfl⟩
      rw [h] at h'; cases h'
  rw [Bool.eq_iff_iff]
  simp only [beq_iff_eq, Bool.and_eq_true]
  rw [← hiff, Go.ByteArray.toList_eq, Go.ByteArray.toList_eq]
  exact ⟨fun e => ByteArray.ext (Array.ext' e), fun e => by rw [e]⟩
/-- three versions in blocks, the table, the number -/
abbrev SY (w0 : World) (p q r : Nat) (a b c a' b' c' a'' b'' c'' : Int) (w : World) : Prop :=
  Below w0.heap.size w0 w ∧ P10 w ∧ Mx w ∧ C3 w p a b c ∧ C3 w q a' b' c' ∧ C3 w r a'' b'' c''
theorem SY.keep {w0 w w' : World} {p q r : Nat} {a b c a' b' c' a'' b'' c'' : Int} (h : SY w0 p q r a b c a' b' c' a'' b'' c'' w) (hb : Below w.heap.size w w') : SY w0 p q r a b c a' b' c' a'' b'' c'' w' :=
  ⟨h.1.trans (hb.mono h.1.size), P10.keep h.2.1 hb, h.2.2.1.keep hb h.2.2.1.1, C3.keep h.2.2.2.1 hb, C3.keep h.2.2.2.2.1 hb, C3.keep h.2.2.2.2.2 hb⟩
theorem SY.tab {w0 w : World} {p q r : Nat} {a b c a' b' c' a'' b'' c'' : Int} (h : SY w0 p q r a b c a' b' c' a'' b'' c'' w) : P10 w := h.2.1
theorem SY.mx {w0 w : World} {p q r : Nat} {a b c a' b' c' a'' b'' c'' : Int} (h : SY w0 p q r a b c a' b' c' a'' b'' c'' w) : Mx w := h.2.2.1
theorem SY.below {w0 w : World} {p q r : Nat} {a b c a' b' c' a'' b'' c'' : Int} (h : SY w0 p q r a b c a' b' c' a'' b'' c'' w) : Below w0.heap.size w0 w := h.1
set_option maxRecDepth 100000 in
set_option maxHeartbeats 4000000 in
theorem round_ok (a b c a' b' c' : Int) (ho : okV a b c = true) (w : World) (hT : P10 w) (hM : Mx w) :
    Calls Tryd.prog 7 #[vv a b c, vv a' b' c'] w fun e w' => e = .returned (.bool true) ∧ Below w.heap.size w w' := by
  obtain ⟨v, hv⟩ : ∃ v, v = (a == a' && (b == b' && c == c')) := ⟨_, rfl⟩
  have he := txt_eq a b c a' b' c' ho
  rw [← hv] at he
  have q1 : ∀ w, (Op.equalIn 10000 23 (vv a b c) (vv a b c)).run Tryd.prog w = .ok true w := fun w => by rw [eqV]; simp
  have q2 : ∀ w, (Op.equalIn 10000 23 (vv a b c) (vv a' b' c')).run Tryd.prog w = .ok v w := fun w => by rw [eqV, ← hv]
  obtain ⟨s2, hs2⟩ : ∃ s, txt a' b' c' = s := ⟨_, rfl⟩
  rw [hs2] at he
  have C1 := Lib.hid (fun w hT => text_ok a b c ho w hT)
  have C2 := Lib.hid (fun w hT hM => parse_txt a b c ho w hT hM)
  have C4 := Lib.hid (fun w => valid_at a b c true ho w)
  have C5 := Lib.hid (fun w hT => text_at a' b' c' s2 hs2 w hT)
  have hb0 := ((Below.refl w.heap.size w).alloc (Nat.le_refl _) (vblk a b c)).alloc (by simp) (vblk a' b' c')
  have R0 := (Row3.new w a b c 23 _ rfl).alloc (vblk a' b' c')
  have R1 : Row3 ((w.alloc (vblk a b c)).alloc (vblk a' b' c')) (w.heap.size + 1) a' b' c' := Row3.new (w.alloc (vblk a b c)) a' b' c' 23 _ (by simp)
  have T0 := P10.keep hT hb0
  have M0 := hM.keep hb0 hM.1
  generalize txtS a b c = T at *
  unfold vv vblk at *
  generalize hW : (w.alloc (.cells #[.int .i64 a, .int .i64 b, .int .i64 c] 23)).alloc (.cells #[.int .i64 a', .int .i64 b', .int .i64 c'] 23) = W0 at *
  have HW := Lib.hid hW
  have HT0 := Lib.hid T0
  have HM0 := Lib.hid M0
  have HB0 := Lib.hid hb0
  have HR0 := Lib.hid R0
  have HR1 := Lib.hid R1
  clear hT hM ho hv hs2 hb0 R0 R1 T0 M0 hW
  go_enter Tryd.func7, Tryd.ntmps7
  go_wp2_with fail
  rw [HW.out]
  obtain ⟨z0, u0, u1, u2, _, _, _⟩ := HR0.out
  go_wp2_with fail
  refine (C1.out _ HT0.out).mono ?_
  rintro e w1 ⟨rfl, hb1⟩
  have HT1 := Lib.hid (P10.keep HT0.out hb1)
  have HM1 := Lib.hid (HM0.out.keep hb1 HM0.out.1)
  have HB1 := Lib.hid (HB0.out.trans (hb1.mono HB0.out.size))
  have HQ0 := Lib.hid (HR0.out.keep hb1)
  have HQ1 := Lib.hid (HR1.out.keep hb1)
  clear hb1 z0 u0 u1 u2 HT0 HM0 HB0 HR0 HR1
  go_wp2_with fail
  refine (C2.out _ HT1.out HM1.out).mono ?_
  rintro e w2 ⟨rfl, hb2⟩
  have hb2' := hb2.alloc hb2.size (.cells #[.int .i64 a, .int .i64 b, .int .i64 c] 23)
  have X0 := HQ0.out.keep hb2'
  have X1 := HQ1.out.keep hb2'
  have X2 := Row3.new w2 a b c 23 _ rfl
  have HT2 := Lib.hid (P10.keep HT1.out hb2')
  have HM2 := Lib.hid (HM1.out.keep hb2' HM1.out.1)
  have HB2 := Lib.hid (HB1.out.trans (hb2'.mono HB1.out.size))
  have HX0 := Lib.hid X0; have HX1 := Lib.hid X1; have HX2 := Lib.hid X2
  obtain ⟨z0, u0, u1, u2, _, _, _⟩ := X0
  clear hb2 hb2' X1 X2 HT1 HM1 HB1 HQ0 HQ1
  go_wp2_with fail
  refine (C4.out _).mono ?_
  rintro e w3 ⟨rfl, hb3⟩
  have hS : SY w w.heap.size (w.heap.size + 1) w2.heap.size a b c a' b' c' a b c w3 :=
    ⟨HB2.out.trans (hb3.mono HB2.out.size), P10.keep HT2.out hb3, HM2.out.keep hb3 HM2.out.1, (HX0.out.keep hb3).c3, (HX1.out.keep hb3).c3, (HX2.out.keep hb3).c3⟩
  clear hb3 z0 u0 u1 u2 HT2 HM2 HB2 HX0 HX1 HX2
  go_wp2_with fail
  go_region_held3 (fun w' => SY w w.heap.size (w.heap.size + 1) w2.heap.size a b c a' b' c' a b c w') (first | exact SY.keep hS ((Below.refl _ _).drew) | exact SY.keep (by assumption) (by assumption))
    (first | (go_at_call 13; ((with_reducible refine (C5.out _ (SY.tab (w0 := w) (p := w.heap.size) (q := w.heap.size + 1) (r := w2.heap.size) (a := a) (b := b) (c := c) (a' := a') (b' := b') (c' := c') (a'' := a) (b'' := b) (c'' := c) (by assumption))).mono ?_)); rintro e w' ⟨rfl, hbN⟩) | (go_at_call 15; ((with_reducible refine (example_any _ (SY.mx (w0 := w) (p := w.heap.size) (q := w.heap.size + 1) (r := w2.heap.size) (a := a) (b := b) (c := c) (a' := a') (b' := b') (c' := c') (a'' := a) (b'' := b) (c'' := c) (by assumption))).mono ?_)); rintro e w' ⟨rfl, hbN⟩))
  all_goals (go_wp2_with fail; go_ret; exact ⟨rfl, SY.below (by assumption)⟩)
set_option maxRecDepth 100000 in
set_option maxHeartbeats 4000000 in
theorem round_bad (a b c a' b' c' : Int) (ho : okV a b c = false) (w : World) (hT : P10 w) (hM : Mx w) :
    Calls Tryd.prog 7 #[vv a b c, vv a' b' c'] w fun e w' => e = .returned (.bool true) ∧ Below w.heap.size w w' := by
  have q1 : ∀ w, (Op.equalIn 10000 23 (vv 0 0 0) (vv 0 0 0)).run Tryd.prog w = .ok true w := fun w => by rw [eqV]; simp
  have C1 := Lib.hid (fun w hT => text_at a b c ⟨#[63]⟩ (by unfold txt; rw [ho]; rfl) w hT)
  have C2 := Lib.hid (fun w hM => parse_q w hM)
  have C4 := Lib.hid (fun w => valid_at a b c false ho w)
  have hb0 := ((Below.refl w.heap.size w).alloc (Nat.le_refl _) (vblk a b c)).alloc (by simp) (vblk a' b' c')
  have R0 := (Row3.new w a b c 23 _ rfl).alloc (vblk a' b' c')
  have R1 : Row3 ((w.alloc (vblk a b c)).alloc (vblk a' b' c')) (w.heap.size + 1) a' b' c' := Row3.new (w.alloc (vblk a b c)) a' b' c' 23 _ (by simp)
  have T0 := P10.keep hT hb0
  have M0 := hM.keep hb0 hM.1
  unfold vv vblk at *
  generalize hW : (w.alloc (.cells #[.int .i64 a, .int .i64 b, .int .i64 c] 23)).alloc (.cells #[.int .i64 a', .int .i64 b', .int .i64 c'] 23) = W0 at *
  have HW := Lib.hid hW
  have HT0 := Lib.hid T0
  have HM0 := Lib.hid M0
  have HB0 := Lib.hid hb0
  have HR0 := Lib.hid R0
  have HR1 := Lib.hid R1
  clear hT hM ho hb0 R0 R1 T0 M0 hW
  go_enter Tryd.func7, Tryd.ntmps7
  go_wp2_with fail
  rw [HW.out]
  obtain ⟨z0, u0, u1, u2, _, _, _⟩ := HR0.out
  go_wp2_with fail
  refine (C1.out _ HT0.out).mono ?_
  rintro e w1 ⟨rfl, hb1⟩
  have HT1 := Lib.hid (P10.keep HT0.out hb1)
  have HM1 := Lib.hid (HM0.out.keep hb1 HM0.out.1)
  have HB1 := Lib.hid (HB0.out.trans (hb1.mono HB0.out.size))
  have HQ0 := Lib.hid (HR0.out.keep hb1)
  have HQ1 := Lib.hid (HR1.out.keep hb1)
  clear hb1 z0 u0 u1 u2 HT0 HM0 HB0 HR0 HR1
  go_wp2_with fail
  refine (C2.out _ HM1.out).mono ?_
  rintro e w2 ⟨rfl, hb2⟩
  have hb2' := hb2.alloc hb2.size (.cells #[.int .i64 0, .int .i64 0, .int .i64 0] 23)
  have X0 := HQ0.out.keep hb2'
  have X1 := HQ1.out.keep hb2'
  have X2 := Row3.new w2 0 0 0 23 _ rfl
  have HT2 := Lib.hid (P10.keep HT1.out hb2')
  have HM2 := Lib.hid (HM1.out.keep hb2' HM1.out.1)
  have HB2 := Lib.hid (HB1.out.trans (hb2'.mono HB1.out.size))
  have HX0 := Lib.hid X0; have HX1 := Lib.hid X1; have HX2 := Lib.hid X2
  obtain ⟨z0, u0, u1, u2, _, _, _⟩ := X0
  clear hb2 hb2' X1 X2 HT1 HM1 HB1 HQ0 HQ1
  go_wp2_with fail
  refine (C4.out _).mono ?_
  rintro e w3 ⟨rfl, hb3⟩
  have hS : SY w w.heap.size (w.heap.size + 1) w2.heap.size a b c a' b' c' 0 0 0 w3 :=
    ⟨HB2.out.trans (hb3.mono HB2.out.size), P10.keep HT2.out hb3, HM2.out.keep hb3 HM2.out.1, (HX0.out.keep hb3).c3, (HX1.out.keep hb3).c3, (HX2.out.keep hb3).c3⟩
  clear hb3 z0 u0 u1 u2 HT2 HM2 HB2 HX0 HX1 HX2
  obtain ⟨y0, y1, y2⟩ := hS.2.2.2.2.2
  go_wp2_with fail
  refine (example_any _ (SY.mx hS)).mono ?_
  rintro e w4 ⟨rfl, hb4⟩
  have HB := Lib.hid (SY.below (SY.keep hS hb4))
  clear hb4 hS
  go_wp2_with fail
  go_ret
  exact ⟨rfl, HB.out⟩
theorem law_roundtrip (a b c a' b' c' : Int) (w : World) (hT : P10 w) (hM : Mx w) :
    Calls Tryd.prog 7 #[vv a b c, vv a' b' c'] w fun e w' => e = .returned (.bool true) ∧ Below w.heap.size w w' := by
  cases ho : okV a b c with
  | true => exact round_ok a b c a' b' c' ho w hT hM
  | false => exact round_bad a b c a' b' c' ho w hT hM
end Go.Proofs.YtelchjgpfpccnaaDoor
