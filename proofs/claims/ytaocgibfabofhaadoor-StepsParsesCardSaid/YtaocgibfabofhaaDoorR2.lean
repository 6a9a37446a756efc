/-
  The reader's digits: the two digits of a byte that Quote writes with digits. Condition: they stand behind a backslash and an x.
-/
import Derived.Test.YtaocgibfabofhaaDoorR1
namespace Go.Proofs.YtaocgibfabofhaaDoor
open Go.RowKit
set_option linter.unusedSimpArgs false
set_option linter.unusedVariables false
/-- whether Quote writes a byte with two digits -/
def wrt (n : Nat) : Bool := decide (n < 32 ∧ n ≠ 9 ∧ n ≠ 10 ∧ n ≠ 13 ∨ 126 < n)
def badHi (x : Int) : Bool := decide (x < 0 ∨ (2 ≤ x ∧ x ≤ 6))
/-- digits at p: whether they are read, and where the reader stands then -/
def digS (s : ByteArray) (p : Nat) : Bool × Nat :=
  if badHi (digV (ch s p)) = true then (false, p)
  else if digV (ch s (p + 1)) < 0 then (false, p + 1)
  else if wrt (16 * (digV (ch s p)).toNat + (digV (ch s (p + 1))).toNat) = true then (true, p + 2) else (false, p + 1)
theorem digS_1 {s : ByteArray} {p : Nat} (h : badHi (digV (ch s p)) = true) : digS s p = (false, p) := by unfold digS; rw [if_pos h]
theorem digS_2 {s : ByteArray} {p : Nat} (h : ¬ badHi (digV (ch s p)) = true) (h2 : digV (ch s (p + 1)) < 0) : digS s p = (false, p + 1) := by unfold digS; rw [if_neg h, if_pos h2]
theorem digS_3 {s : ByteArray} {p : Nat} (h : ¬ badHi (digV (ch s p)) = true) (h2 : ¬ digV (ch s (p + 1)) < 0) (h3 : wrt (16 * (digV (ch s p)).toNat + (digV (ch s (p + 1))).toNat) = true) : digS s p = (true, p + 2) := by
  unfold digS; rw [if_neg h, if_neg h2, if_pos h3]
theorem digS_4 {s : ByteArray} {p : Nat} (h : ¬ badHi (digV (ch s p)) = true) (h2 : ¬ digV (ch s (p + 1)) < 0) (h3 : ¬ wrt (16 * (digV (ch s p)).toNat + (digV (ch s (p + 1))).toNat) = true) : digS s p = (false, p + 1) := by
  unfold digS; rw [if_neg h, if_neg h2, if_neg h3]
theorem digV_lo (n : Nat) : -1 ≤ digV n := by unfold digV; (repeat' split) <;> omega
theorem digV_hi (n : Nat) : digV n ≤ 15 := by unfold digV; (repeat' split) <;> omega
theorem digV_in {s : ByteArray} {p : Nat} (h : ¬ digV (ch s p) < 0) : p < s.size := by
  rcases Nat.lt_or_ge p s.size with h' | h'
  · exact h'
  · rw [ch_end s p h'] at h; exact absurd (by decide) h
/-- the text of a digit -/
theorem digV_ch (n : Nat) (hn : n < 256) (x : Nat) (h : digV n = (x : Int)) : hexD x = UInt8.ofNat n := by
  have : ∀ m : Fin 256, digV m.val < 0 ∨ hexD (digV m.val).toNat = UInt8.ofNat m.val := by decide +kernel
  rcases this ⟨n, hn⟩ with h' | h'
  · have h'' : digV n < 0 := h'; rw [h] at h''; omega
  · have h'' : hexD (digV n).toNat = UInt8.ofNat n := h'
    rw [h] at h''; exact h''
theorem wrB_iff : ∀ m : Fin 256, (wrt m.val = true → wrB (UInt8.ofNat m.val) = [92, 120, hexD (m.val / 16), hexD (m.val % 16)]) ∧ (wrt m.val = false → (wrB (UInt8.ofNat m.val)).length < 4) := by decide +kernel
theorem quote_yes (x y : Nat) (hx : x ≤ 15) (hy : y ≤ 15) (h : wrt (16 * x + y) = true) : quoteL [UInt8.ofNat (16 * x + y)] = [34, 92, 120, hexD x, hexD y, 34] := by
  have := (wrB_iff ⟨16 * x + y, by omega⟩).1 h
  have e1 : (16 * x + y) / 16 = x := by omega
  have e2 : (16 * x + y) % 16 = y := by omega
  simp only [e1, e2] at this
  generalize UInt8.ofNat (16 * x + y) = c at *
  unfold quoteL body
  simp [this]
theorem quote_no (x y : Nat) (hx : x ≤ 15) (hy : y ≤ 15) (h : wrt (16 * x + y) = false) (a b c d : UInt8) : quoteL [UInt8.ofNat (16 * x + y)] ≠ [34, a, b, c, d, 34] := by
  have := (wrB_iff ⟨16 * x + y, by omega⟩).2 h
  simp only at this
  generalize UInt8.ofNat (16 * x + y) = c at *
  unfold quoteL body
  intro e
  have := congrArg List.length e
  simp at this
  omega
theorem extract4 (s : ByteArray) (q r : Nat) (hr : r = q + 4) (h : r ≤ s.size) : (s.extract q r).data.toList = [UInt8.ofNat (ch s q), UInt8.ofNat (ch s (q + 1)), UInt8.ofNat (ch s (q + 2)), UInt8.ofNat (ch s (q + 3))] := by
  subst hr
  rw [← ch_at s q (by omega), ← ch_at s (q + 1) (by omega), ← ch_at s (q + 2) (by omega), ← ch_at s (q + 3) (by omega)]
  simp only [UInt8.ofNat_toNat]
  have e : (s.extract q (q + 4)).data.toList = (s.data.toList.drop q).take 4 := by
    simp [ByteArray.data_extract, Array.toList_extract]
  rw [e, drop_at s q (by omega), drop_at s (q + 1) (by omega), drop_at s (q + 2) (by omega), drop_at s (q + 3) (by omega)]
  rfl
theorem ba_list {a b : ByteArray} (h : a.data.toList = b.data.toList) : a = b := ByteArray.ext (Array.ext' h)
theorem cat3 (E : ByteArray) (a b c d : UInt8) (h : E.data.toList = [a, b, c, d]) : (⟨#[34]⟩ ++ E ++ ⟨#[34]⟩ : ByteArray).data.toList = [34, a, b, c, d, 34] := by
  rw [ByteArray.data_append, ByteArray.data_append]
  simp [h]
theorem cmp_yes (x y : Nat) (hx : x ≤ 15) (hy : y ≤ 15) (E : ByteArray) (hE : E.data.toList = [92, 120, hexD x, hexD y]) (h : wrt (16 * x + y) = true) :
    ((⟨(quoteL (⟨#[UInt8.ofNat (16 * x + y)]⟩ : ByteArray).data.toList).toArray⟩ : ByteArray).toList == (⟨#[34]⟩ ++ E ++ ⟨#[34]⟩ : ByteArray).toList) = true := by
  have := quote_yes x y hx hy h
  rw [Go.ByteArray.toList_eq, Go.ByteArray.toList_eq, cat3 E _ _ _ _ hE]
  show (quoteL [UInt8.ofNat (16 * x + y)] == _) = true
  rw [this]
  simp
theorem cmp_no (x y : Nat) (hx : x ≤ 15) (hy : y ≤ 15) (E : ByteArray) (hE : E.data.toList = [92, 120, hexD x, hexD y]) (h : wrt (16 * x + y) = false) :
    ((⟨(quoteL (⟨#[UInt8.ofNat (16 * x + y)]⟩ : ByteArray).data.toList).toArray⟩ : ByteArray).toList == (⟨#[34]⟩ ++ E ++ ⟨#[34]⟩ : ByteArray).toList) = false := by
  have := quote_no x y hx hy h 92 120 (hexD x) (hexD y)
  rw [Go.ByteArray.toList_eq, Go.ByteArray.toList_eq, cat3 E _ _ _ _ hE]
  show (quoteL [UInt8.ofNat (16 * x + y)] == _) = false
  exact beq_eq_false_iff_ne.2 this
theorem conv1 (c : Int) (b : UInt8) (hc : c = (b.toNat : Int)) (W : World) (k : Nat) (hk : k = W.heap.size) : (convert 33 9 (.slice (some ⟨k, 0, none⟩) 1 1)).run Tryd.prog (W.alloc (.cells #[.int .u8 c] 5)) = .ok (.string ⟨#[b]⟩) (W.alloc (.cells #[.int .u8 c] 5)) := by
  subst hk hc
  refine Go.run_convert_bytes_back _ 33 9 5 ⟨W.heap.size, 0, none⟩ 1 [b] Tryd.underlying33 Tryd.underlying5 Tryd.underlying9 (fun j hj => ?_)
  obtain rfl : j = 0 := by simpa using hj
  go_simp
set_option maxRecDepth 100000 in
set_option maxHeartbeats 4000000 in
theorem digits_any (g : Nat) (s : ByteArray) (p : Nat) (w : World) (h : Rdr w g s (p : Nat)) (hp : p ≤ s.size) (hs : s.size ≤ 65536) (h2 : 2 ≤ p) (b1 : ch s (p - 2) = 92) (b2 : ch s (p - 1) = 120) :
    Calls Tryd.prog 93 #[.pointer (some ⟨g, 0, none⟩)] w fun e w' => e = .returned (.bool (digS s p).1) ∧ RdP g s ((digS s p).2 : Nat) w w' := by
  have cx := ch_lt s p
  have cy := ch_lt s (p + 1)
  have C1 := Lib.hid (fun w => peek_any g s p w)
  have C2 := Lib.hid (fun w => peek_any g s (p + 1) w)
  have D1 := Lib.hid (sdigit_any (ch s p) cx)
  have D2 := Lib.hid (sdigit_any (ch s (p + 1)) cy)
  have P := Lib.hid (RdP.start h)
  have HB := Lib.hid (And.intro b1 b2)
  clear h b1 b2
  by_cases hb : badHi (digV (ch s p)) = true
  · rw [digS_1 hb]
    have dlo := digV_lo (ch s p)
    unfold badHi at hb
    have hb' := of_decide_eq_true hb
    clear hb
    generalize digV (ch s p) = x at *
    by_cases hx : x < 0
    · have q : decide (x < 0) = true := decide_eq_true hx
      go_enter Tryd.func93, Tryd.ntmps93
      go_wp2_with fail
      refine (C1.out _ P.out.2 hp hs).mono ?_
      rintro e w1 ⟨rfl, hb1⟩
      have P1 := Lib.hid (P.out.below hb1)
      clear hb1
      go_wp2_with fail
      refine (D1.out _).mono ?_
      rintro e w2 ⟨rfl, rfl⟩
      go_wp2_with fail
      go_ret
      exact ⟨rfl, P1.out⟩
    · have q : decide (x < 0) = false := decide_eq_false hx
      have q2 : decide ((2 : Int) ≤ x) = true := decide_eq_true (by omega)
      have q3 : decide (x ≤ 6) = true := decide_eq_true (by omega)
      go_enter Tryd.func93, Tryd.ntmps93
      go_wp2_with fail
      refine (C1.out _ P.out.2 hp hs).mono ?_
      rintro e w1 ⟨rfl, hb1⟩
      have P1 := Lib.hid (P.out.below hb1)
      clear hb1
      go_wp2_with fail
      refine (D1.out _).mono ?_
      rintro e w2 ⟨rfl, rfl⟩
      go_wp2_with fail
      go_ret
      exact ⟨rfl, P1.out⟩
  · have hx0 : ¬ digV (ch s p) < 0 := fun h => hb (by unfold badHi; exact decide_eq_true (.inl h))
    have hpl := digV_in hx0
    have hxm : ¬ (2 ≤ digV (ch s p) ∧ digV (ch s p) ≤ 6) := fun h => hb (by unfold badHi; exact decide_eq_true (.inr h))
    have dhi := digV_hi (ch s p)
    have HX := Lib.hid (digV_ch (ch s p) cx)
    have q : decide (digV (ch s p) < 0) = false := decide_eq_false hx0
    by_cases hy : digV (ch s (p + 1)) < 0
    · rw [digS_2 hb hy]
      have q1 : decide (digV (ch s (p + 1)) < 0) = true := decide_eq_true hy
      clear hb hy hx0 HX
      generalize digV (ch s p) = x at *
      generalize digV (ch s (p + 1)) = y at *
      by_cases hx2 : 2 ≤ x
      · have q2 : decide ((2 : Int) ≤ x) = true := decide_eq_true (by omega)
        have q3 : decide (x ≤ 6) = false := decide_eq_false (by omega)
        go_enter Tryd.func93, Tryd.ntmps93
        go_wp2_with fail
        refine (C1.out _ P.out.2 hp hs).mono ?_
        rintro e w1 ⟨rfl, hb1⟩
        have P1 := Lib.hid (P.out.below hb1)
        clear hb1
        go_wp2_with fail
        refine (D1.out _).mono ?_
        rintro e w2 ⟨rfl, rfl⟩
        obtain ⟨z, c0, c1, f1⟩ := P1.out.2.facts
        have P2 := Lib.hid P1.out.step
        go_wp2_with fail
        generalize w1.setCell ⟨g, 1, none⟩ (.int .i64 ((p : Int) + 1)) = w2 at *
        clear z c0 c1 f1 P1
        refine (C2.out _ P2.out.2 (by omega) hs).mono ?_
        rintro e w3 ⟨rfl, hb3⟩
        have P3 := Lib.hid (P2.out.below hb3)
        clear hb3 P2
        go_wp2_with fail
        refine (D2.out _).mono ?_
        rintro e w4 ⟨rfl, rfl⟩
        go_wp2_with fail
        go_ret
        exact ⟨rfl, P3.out⟩
      · have q2 : decide ((2 : Int) ≤ x) = false := decide_eq_false (by omega)
        go_enter Tryd.func93, Tryd.ntmps93
        go_wp2_with fail
        refine (C1.out _ P.out.2 hp hs).mono ?_
        rintro e w1 ⟨rfl, hb1⟩
        have P1 := Lib.hid (P.out.below hb1)
        clear hb1
        go_wp2_with fail
        refine (D1.out _).mono ?_
        rintro e w2 ⟨rfl, rfl⟩
        obtain ⟨z, c0, c1, f1⟩ := P1.out.2.facts
        have P2 := Lib.hid P1.out.step
        go_wp2_with fail
        generalize w1.setCell ⟨g, 1, none⟩ (.int .i64 ((p : Int) + 1)) = w2 at *
        clear z c0 c1 f1 P1
        refine (C2.out _ P2.out.2 (by omega) hs).mono ?_
        rintro e w3 ⟨rfl, hb3⟩
        have P3 := Lib.hid (P2.out.below hb3)
        clear hb3 P2
        go_wp2_with fail
        refine (D2.out _).mono ?_
        rintro e w4 ⟨rfl, rfl⟩
        go_wp2_with fail
        go_ret
        exact ⟨rfl, P3.out⟩
    · have hpl1 := digV_in hy
      have dhi1 := digV_hi (ch s (p + 1))
      have q1 : decide (digV (ch s (p + 1)) < 0) = false := decide_eq_false hy
      have HY := Lib.hid (digV_ch (ch s (p + 1)) cy)
      have HD := Lib.hid (digS_3 hb hy)
      have HE := Lib.hid (digS_4 hb hy)
      obtain ⟨x, hx⟩ := Int.eq_ofNat_of_zero_le (show 0 ≤ digV (ch s p) by omega)
      obtain ⟨y, hy'⟩ := Int.eq_ofNat_of_zero_le (show 0 ≤ digV (ch s (p + 1)) by omega)
      have HX1 := Lib.hid (HX.out x hx)
      have HY1 := Lib.hid (HY.out y hy')
      rw [hx, hy'] at HD HE
      rw [hx] at hxm dhi q D1
      rw [hy'] at dhi1 q1 D2
      simp only [Int.toNat_natCast] at HD HE
      clear HX HY hb hx0 hy hx hy'
      have T1 : (s.extract (p - 2) (p + 2)).data.toList = [92, 120, hexD x, hexD y] := by
        rw [extract4 s (p - 2) (p + 2) (by omega) (by omega), HB.out.1, show p - 2 + 1 = p - 1 by omega, HB.out.2, show p - 2 + 2 = p by omega, show p - 2 + 3 = p + 1 by omega, HX1.out, HY1.out]
        rfl
      have g0 : (s.extract (p - 2) (p + 2)).size = 4 := by show (s.extract (p - 2) (p + 2)).data.size = 4; rw [← Array.length_toList, T1]; rfl
      have g1 : ¬ (9223372036854775807 < 1 + (s.extract (p - 2) (p + 2)).size) := by omega
      have g2 : ¬ (9223372036854775807 < 1 + (s.extract (p - 2) (p + 2)).size + 1) := by omega
      have HQ := Lib.hid (quote_any ⟨#[UInt8.ofNat (16 * x + y)]⟩ (by show [UInt8.ofNat (16 * x + y)].length ≤ _; simp))
      have HT := Lib.hid (cmp_yes x y (by omega) (by omega) _ T1)
      have HF := Lib.hid (cmp_no x y (by omega) (by omega) _ T1)
      have VC : Hid (bits BinOp.or IntKind.i64 ((x : Int) * 16) (y : Int) % 256 = ((UInt8.ofNat (16 * x + y)).toNat : Int)) := by
        have := or_i64 x y (by omega) (by omega)
        exact Lib.hid (by rw [this]; simp; omega)
      generalize UInt8.ofNat (16 * x + y) = c at *
      generalize (⟨(quoteL (⟨#[c]⟩ : ByteArray).data.toList).toArray⟩ : ByteArray) = R at *
      have k1 : p + 2 ≤ s.size := by omega
      have W1 : IntKind.i64.wrap ((p : Int) + 1 - 3) = ((p - 2 : Nat) : Int) := by simp [IntKind.wrap, IntKind.bits, IntKind.signed]; omega
      have W2 : IntKind.i64.wrap ((p : Int) + 1 + 1) = ((p + 2 : Nat) : Int) := by simp [IntKind.wrap, IntKind.bits, IntKind.signed]; omega
      clear T1 g0
      by_cases hx2 : 2 ≤ (x : Int)
      · have q2 : decide ((2 : Int) ≤ (x : Int)) = true := decide_eq_true (by omega)
        have q3 : decide ((x : Int) ≤ 6) = false := decide_eq_false (by omega)
        go_enter Tryd.func93, Tryd.ntmps93
        go_wp2_with fail
        refine (C1.out _ P.out.2 hp hs).mono ?_
        rintro e w1 ⟨rfl, hb1⟩
        have P1 := Lib.hid (P.out.below hb1)
        clear hb1
        go_wp2_with fail
        refine (D1.out _).mono ?_
        rintro e w2 ⟨rfl, rfl⟩
        obtain ⟨z, c0, c1, f1⟩ := P1.out.2.facts
        have P2 := Lib.hid P1.out.step
        go_wp2_with fail
        generalize w1.setCell ⟨g, 1, none⟩ (.int .i64 ((p : Int) + 1)) = w2 at *
        clear z c0 c1 f1 P1
        refine (C2.out _ P2.out.2 (by omega) hs).mono ?_
        rintro e w3 ⟨rfl, hb3⟩
        have P3 := Lib.hid (P2.out.below hb3)
        clear hb3 P2
        go_wp2_with fail
        refine (D2.out _).mono ?_
        rintro e w4 ⟨rfl, rfl⟩
        obtain ⟨z, c0, c1, f1⟩ := P3.out.2.facts
        have HC : Hid (∀ n, (convert 33 9 (.slice (some ⟨w3.heap.size, 0, none⟩) 1 1)).run Tryd.prog ((w3.drewN n).alloc (.cells #[.int .u8 (bits BinOp.or IntKind.i64 ((x : Int) * 16) (y : Int) % 256)] 5)) = .ok (.string ⟨#[c]⟩) ((w3.drewN n).alloc (.cells #[.int .u8 (bits BinOp.or IntKind.i64 ((x : Int) * 16) (y : Int) % 256)] 5))) :=
          Lib.hid fun n => conv1 _ _ VC.out _ _ rfl
        go_wp2_with fail
        go_quiet (fail)
        have HC2 := HC.out
        generalize s.extract (p - 2) (p + 2) = E at *
        clear HC
        go_wp2_with fail
        refine (HQ.out _).mono ?_
        rintro e w5 ⟨rfl, hb5⟩
        have P5 := Lib.hid ((P3.out.below (((bdrewN (Below.refl _ _) nq).alloc (by simp) _).trans (hb5.mono (by simp)))))
        clear hb5 z c0 c1 f1 HC2
        obtain ⟨z, c0, c1, f1⟩ := P5.out.2.facts
        by_cases hw : wrt (16 * x + y) = true
        · have e1 : (R.toList == (⟨#[34]⟩ ++ E ++ ⟨#[34]⟩ : ByteArray).toList) = true := HT.out hw
          have HV := Lib.hid (HD.out hw)
          have P6 : Hid (RdP g s ((p + 2 : Nat) : Int) w (w5.setCell ⟨g, 1, none⟩ (.int .i64 ((p : Int) + 2)))) := Lib.hid (P5.out.step' (by omega))
          clear hw
          go_wp2_with fail
          go_ret
          exact ⟨ret_bool (by rw [HV.out]), by rw [HV.out]; exact P6.out⟩
        · have e1 : (R.toList == (⟨#[34]⟩ ++ E ++ ⟨#[34]⟩ : ByteArray).toList) = false := HF.out (by simpa using hw)
          have HV := Lib.hid (HE.out hw)
          clear hw
          go_wp2_with fail
          go_ret
          exact ⟨ret_bool (by rw [HV.out]), by rw [HV.out]; exact P5.out⟩
      · have q2 : decide ((2 : Int) ≤ (x : Int)) = false := decide_eq_false (by omega)
        go_enter Tryd.func93, Tryd.ntmps93
        go_wp2_with fail
        refine (C1.out _ P.out.2 hp hs).mono ?_
        rintro e w1 ⟨rfl, hb1⟩
        have P1 := Lib.hid (P.out.below hb1)
        clear hb1
        go_wp2_with fail
        refine (D1.out _).mono ?_
        rintro e w2 ⟨rfl, rfl⟩
        obtain ⟨z, c0, c1, f1⟩ := P1.out.2.facts
        have P2 := Lib.hid P1.out.step
        go_wp2_with fail
        generalize w1.setCell ⟨g, 1, none⟩ (.int .i64 ((p : Int) + 1)) = w2 at *
        clear z c0 c1 f1 P1
        refine (C2.out _ P2.out.2 (by omega) hs).mono ?_
        rintro e w3 ⟨rfl, hb3⟩
        have P3 := Lib.hid (P2.out.below hb3)
        clear hb3 P2
        go_wp2_with fail
        refine (D2.out _).mono ?_
        rintro e w4 ⟨rfl, rfl⟩
        obtain ⟨z, c0, c1, f1⟩ := P3.out.2.facts
        have HC : Hid (∀ n, (convert 33 9 (.slice (some ⟨w3.heap.size, 0, none⟩) 1 1)).run Tryd.prog ((w3.drewN n).alloc (.cells #[.int .u8 (bits BinOp.or IntKind.i64 ((x : Int) * 16) (y : Int) % 256)] 5)) = .ok (.string ⟨#[c]⟩) ((w3.drewN n).alloc (.cells #[.int .u8 (bits BinOp.or IntKind.i64 ((x : Int) * 16) (y : Int) % 256)] 5))) :=
          Lib.hid fun n => conv1 _ _ VC.out _ _ rfl
        go_wp2_with fail
        go_quiet (fail)
        have HC2 := HC.out
        generalize s.extract (p - 2) (p + 2) = E at *
        clear HC
        go_wp2_with fail
        refine (HQ.out _).mono ?_
        rintro e w5 ⟨rfl, hb5⟩
        have P5 := Lib.hid ((P3.out.below (((bdrewN (Below.refl _ _) nq).alloc (by simp) _).trans (hb5.mono (by simp)))))
        clear hb5 z c0 c1 f1 HC2
        obtain ⟨z, c0, c1, f1⟩ := P5.out.2.facts
        by_cases hw : wrt (16 * x + y) = true
        · have e1 : (R.toList == (⟨#[34]⟩ ++ E ++ ⟨#[34]⟩ : ByteArray).toList) = true := HT.out hw
          have HV := Lib.hid (HD.out hw)
          have P6 : Hid (RdP g s ((p + 2 : Nat) : Int) w (w5.setCell ⟨g, 1, none⟩ (.int .i64 ((p : Int) + 2)))) := Lib.hid (P5.out.step' (by omega))
          clear hw
          go_wp2_with fail
          go_ret
          exact ⟨ret_bool (by rw [HV.out]), by rw [HV.out]; exact P6.out⟩
        · have e1 : (R.toList == (⟨#[34]⟩ ++ E ++ ⟨#[34]⟩ : ByteArray).toList) = false := HF.out (by simpa using hw)
          have HV := Lib.hid (HE.out hw)
          clear hw
          go_wp2_with fail
          go_ret
          exact ⟨ret_bool (by rw [HV.out]), by rw [HV.out]; exact P5.out⟩
end Go.Proofs.YtaocgibfabofhaaDoor
