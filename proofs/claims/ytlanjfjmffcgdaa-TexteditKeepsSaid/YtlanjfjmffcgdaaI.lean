/-
  Lines of the program. No condition but the length.
-/
import Derived.Test.YtlanjfjmffcgdaaH
namespace Go.Proofs.Ytlanjfjmffcgdaa
open Go.RowKit
set_option linter.unusedSimpArgs false
set_option linter.unusedVariables false
theorem gb_iter (w : World) (k : Nat) (s : ByteArray) (p : Nat) : w.grownBy (w.iterAt k s p) (some k) :=
  ⟨rfl, rfl, rfl, by rw [Lib.iterAt_size]; exact Nat.le_refl _, fun i _ hi => Lib.iterAt_other w k i s p (fun e => hi (by rw [e]))⟩
theorem width_pos (s : ByteArray) (pos : Nat) (h : pos < s.size) : 1 ≤ (Utf8.decode s pos).2 := by
  by_cases ha : (s[pos]'h).toNat < 128
  · rw [decode_ascii s pos h ha]
    exact Nat.le_refl _
  · exact (decode_high s pos h (by omega)).2
set_option maxRecDepth 100000 in
set_option maxHeartbeats 8000000 in
theorem lines_any (s : ByteArray) (hs : s.size ≤ 1000000) (w : World) : Calls Try.prog 22 #[.string s] w (LinP w (linL s)) := by
  obtain ⟨i0, hi, hz0, hz1, hz2⟩ := info_parts Try.info9
  have HR : Hid (([] : List ByteArray) ++ linP s 0 0 = linL s) := Lib.hid rfl
  generalize linL s = R at *
  go_enter Try.func22, Try.ntmps22
  go_wp2_with fail
  go_loopw [3, 4] (fun v a wr => ∃ (a' p : Nat) (acc : List ByteArray), a = .int .i64 (a' : Int) ∧ p ≤ s.size ∧ a' ≤ p ∧ acc.length ≤ a' ∧ Hid (wr.heap[w.heap.size]? = some (.stringIter s p)) ∧ Hid (acc ++ linP s a' p = R) ∧ Hid (wr.ownsRow (w.heap.size + 1) 9 1 v acc.length (strs acc)) ∧ Hid (Below w.heap.size w wr)) (fun _ _ wr => s.size - wr.iterPos w.heap.size)
  case atStart => exact ⟨0, 0, [], rfl, by omega, by omega, by simp, Lib.hid (World.iter_heap w s 0), HR, Lib.hid (World.ownsRow_nil _ _ _ _), Lib.hid ((Below.refl _ _).alloc (Nat.le_refl _) _)⟩
  case round =>
    obtain ⟨a, p, acc, rfl, hp, ha, hal, HIt, HS, HO, HB⟩ := hrel
    have hZ : w.heap.size < wr.heap.size := (Array.getElem?_eq_some_iff.1 HIt.out).1
    by_cases hlt : p < s.size
    · have HV := Lib.hid (ch_at s p hlt)
      have HIt2 := Lib.hid (Lib.iterAt_heap wr w.heap.size s p (p + (Utf8.decode s p).2) HIt.out)
      have HB2 := Lib.hid (Lib.below_iterAt HB.out (k := w.heap.size) (Nat.le_refl _) s (p + (Utf8.decode s p).2))
      have HO2 := Lib.hid (own_kept HO.out (gb_iter wr w.heap.size s (p + (Utf8.decode s p).2)) (by omega))
      have hsz2 : w.heap.size < (wr.iterAt w.heap.size s (p + (Utf8.decode s p).2)).heap.size := by rw [Lib.iterAt_size]; omega
      have HM : Hid (wr.iterPos w.heap.size = p) := Lib.hid (by simp only [World.iterPos, HIt.out])
      by_cases h10 : ch s p = 10
      · have HD := Lib.hid (decode_ascii s p hlt (by rw [HV.out]; omega))
        have hnx : ∀ ty, (Instr.next (.pointer (some ⟨w.heap.size, 0, none⟩)) true ty).run Try.prog wr = .ok (.tuple #[.bool true, .int .i64 (p : Int), .int .i32 10]) (wr.iterAt w.heap.size s (p + 1)) := fun ty => by
          rw [Lib.run_next_any_at wr w.heap.size s p ty HIt.out hlt, HD.out, HV.out, h10]; rfl
        rw [HD.out] at HIt2 HB2 HO2 hsz2
        simp only at HIt2 HB2 HO2 hsz2
        have HS2 : Hid ((acc ++ [s.extract a (p + 1)]) ++ linP s (p + 1) (p + 1) = R) := Lib.hid (by rw [← HS.out, linP_1 hlt h10]; simp)
        have q5 : (a : Int) ≤ (p : Int) + 1 := by omega
        have q6 : (p : Int) + 1 ≤ (s.size : Int) := by omega
        have q7 : ((p : Int) + 1).toNat = p + 1 := by omega
        clear HS HV h10 HD HIt HO HB
        generalize wr.iterAt w.heap.size s (p + 1) = w2 at *
        go_wp2_with (at_builtin; refine wpList_append_own _ rfl _ _ 36 rfl (w.heap.size + 1) 9 i0 (.string ⟨#[]⟩) 1 16 Try.underlying36 hi hz0 hz1 hz2 rfl (by decide) _ _ _ rfl (HO2.out.alloc _) ⟨w2.heap.size, 0, none⟩ 1 1 [.string (s.extract a (p + 1))] rfl rfl ?c1 ?c2 ?c3 ?c4 ?c5 ?_)
        case c1 => exact cells_new1 _ _ _
        case c2 => intro u hu; simp at hu; subst hu; rfl
        case c3 => unfold maxLen; omega
        case c4 => omega
        case c5 => simp; omega
        intro v' w1 hown1 hgrow _
        have hrow := fun j hj => (HO2.out.lt j hj).1
        have B1 : Hid (Below w.heap.size w w1) := Lib.hid ((HB2.out.alloc HB2.out.size _).grown hgrow (by simp; omega) (fun j hj => by have := hrow j hj; omega))
        have I1 : Hid (w1.heap[w.heap.size]? = some (.stringIter s (p + 1))) := Lib.hid ((hgrow.block _ (by simp; omega) (fun e => by have := hrow _ e.symm; omega)).trans ((Below.heap_alloc _ _ _ hsz2).trans HIt2.out))
        have O1 : Hid (w1.ownsRow (w.heap.size + 1) 9 1 v' (acc ++ [s.extract a (p + 1)]).length (strs (acc ++ [s.extract a (p + 1)]))) := Lib.hid (by rw [strs_snoc, List.length_append]; exact hown1)
        have hal2 : (acc ++ [s.extract a (p + 1)]).length ≤ p + 1 := by simp; omega
        clear hown1 hgrow hrow HO2 HB2 HIt2
        generalize acc ++ [s.extract a (p + 1)] = acc' at *
        go_wp2_with fail
        go_roundw
        case rel => exact ⟨p + 1, p + 1, acc', by go_num, by omega, by omega, hal2, I1, HS2, O1, B1⟩
        case measure =>
          have hm := HM.out
          have hm2 : w1.iterPos w.heap.size = p + 1 := by simp only [World.iterPos, I1.out]
          rw [hm, hm2]; omega
      · obtain ⟨r, d, HD⟩ : ∃ r d, Hid (Utf8.decode s p = (r, d)) := ⟨_, _, Lib.hid rfl⟩
        have hd1 : 1 ≤ d := by have := width_pos s p hlt; rw [HD.out] at this; exact this
        have hr10 : r ≠ 10 := by
          by_cases h128 : ch s p < 128
          · have := decode_ascii s p hlt (by rw [HV.out]; exact h128)
            rw [HD.out, HV.out] at this
            simp only [Prod.mk.injEq] at this
            omega
          · have := (decode_high s p hlt (by rw [HV.out]; omega)).1
            rw [HD.out] at this
            simp only at this
            omega
        have hr2 : r ≤ 2147483647 := by have := decode_le s p; rw [HD.out] at this; exact this
        have hsk : ∀ k, k < d → p + k < s.size ∧ ch s (p + k) ≠ 10 := by
          by_cases h128 : ch s p < 128
          · have := decode_ascii s p hlt (by rw [HV.out]; exact h128)
            rw [HD.out] at this
            simp only [Prod.mk.injEq] at this
            intro k hk
            obtain rfl : k = 0 := by omega
            exact ⟨hlt, h10⟩
          · have := decode_skip s p hlt (by omega)
            rw [HD.out] at this
            exact this
        have hpd : p + d ≤ s.size := by have := (hsk (d - 1) (by omega)).1; omega
        have HS2 : Hid (acc ++ linP s a (p + d) = R) := Lib.hid (by rw [← HS.out, linP_skip d p hsk])
        have hnx : ∀ ty, (Instr.next (.pointer (some ⟨w.heap.size, 0, none⟩)) true ty).run Try.prog wr = .ok (.tuple #[.bool true, .int .i64 (p : Int), .int .i32 (r : Int)]) (wr.iterAt w.heap.size s (p + d)) := fun ty => by
          rw [Lib.run_next_any_at wr w.heap.size s p ty HIt.out hlt, HD.out]
        rw [HD.out] at HIt2 HB2 HO2 hsz2
        simp only at HIt2 HB2 HO2 hsz2
        have hq : ((r : Int) == 10) = false := by simp; omega
        clear HS HV h10 HD HIt HO HB hsk hr10
        generalize wr.iterAt w.heap.size s (p + d) = w2 at *
        go_wp2_with fail
        go_roundw
        case rel => exact ⟨a, p + d, acc, rfl, by omega, by omega, by omega, HIt2, HS2, HO2, HB2⟩
        case measure =>
          have hm := HM.out
          have hm2 : w2.iterPos w.heap.size = p + d := by simp only [World.iterPos, HIt2.out]
          rw [hm, hm2]; omega
    · have hnx : ∀ ty, (Instr.next (.pointer (some ⟨w.heap.size, 0, none⟩)) true ty).run Try.prog wr = .ok (.tuple #[.bool false]) wr := fun ty => Lib.run_next_end_at wr w.heap.size s p ty HIt.out hlt
      clear HIt
      by_cases hal3 : a < s.size
      · have HS2 : Hid (acc ++ [s.extract a s.size] = R) := Lib.hid (by rw [← HS.out, linP_3 (by omega) hal3])
        have q6 : (a : Int) ≤ (s.size : Int) := by omega
        have q8 : decide (a < s.size) = true := decide_eq_true hal3
        clear HS
        go_wp2_with (at_builtin; refine wpList_append_own _ rfl _ _ 36 rfl (w.heap.size + 1) 9 i0 (.string ⟨#[]⟩) 1 16 Try.underlying36 hi hz0 hz1 hz2 rfl (by decide) _ _ _ rfl (HO.out.alloc _) ⟨wr.heap.size, 0, none⟩ 1 1 [.string (s.extract a s.size)] rfl rfl ?c1 ?c2 ?c3 ?c4 ?c5 ?_)
        case c1 => exact cells_new1 _ _ _
        case c2 => intro u hu; simp at hu; subst hu; rfl
        case c3 => unfold maxLen; omega
        case c4 => omega
        case c5 => simp; omega
        intro v' w1 hown1 hgrow _
        have hrow := fun j hj => (HO.out.lt j hj).1
        have B1 : Hid (Below w.heap.size w w1) := Lib.hid ((HB.out.alloc HB.out.size _).grown hgrow (by simp; omega) (fun j hj => by have := hrow j hj; omega))
        have O1 : Hid (w1.ownsRow (w.heap.size + 1) 9 1 v' (acc ++ [s.extract a s.size]).length (strs (acc ++ [s.extract a s.size]))) := Lib.hid (by rw [strs_snoc, List.length_append]; exact hown1)
        clear hown1 hgrow hrow HO HB
        rw [HS2.out] at O1
        go_wp2_with fail
        go_ret
        exact ⟨v', rfl, own_mono O1.out (by omega), B1.out⟩
      · have HS2 : Hid (acc = R) := Lib.hid (by rw [← HS.out, linP_4 (by omega) hal3]; simp)
        have q8 : decide (a < s.size) = false := decide_eq_false hal3
        clear HS
        rw [HS2.out] at HO
        go_wp2_with fail
        go_ret
        exact ⟨_, rfl, own_mono HO.out (by omega), HB.out⟩
