/-
  The specification reads what Text writes. No condition on the world.
-/
import Derived.Test.YtmmghdicjpfdoaaGreatDoorVa
namespace Go.Proofs.YtmmghdicjpfdoaaGreatDoor
open Go.RowKit
set_option linter.unusedSimpArgs false
set_option linter.unnecessarySimpa false
set_option linter.unusedVariables false
/-
  Plain mathematics: the specification's loop reads what Text writes; and the law SemverParses. Conditions: the table of powers of ten, internal/bytealg.MaxLen holds some number, the two error variables of strconv hold interface values.
-/
def valF (x : Nat) (l : List UInt8) : Nat := l.foldl (fun a c => a * 10 + (c.toNat - 48)) x
theorem rd_run0 : ∀ (l r : List UInt8) (x y z : Nat), (∀ c ∈ l, 48 ≤ c.toNat ∧ c.toNat ≤ 57) → rd (l ++ r) 0 x y z = rd r 0 (valF x l) y z
  | [], r, x, y, z, _ => rfl
  | c :: l, r, x, y, z, h => by
    obtain ⟨h1, h2⟩ := h c (by simp)
    rw [List.cons_append]
    have e : rd (c :: (l ++ r)) 0 x y z = rd (l ++ r) 0 (x * 10 + (c.toNat - 48)) y z := by rw [rd, if_neg (by omega), if_neg (by omega), if_pos rfl]
    exact e.trans (rd_run0 l r _ y z (fun d hd => h d (by simp [hd])))
theorem rd_run1 : ∀ (l r : List UInt8) (x y z : Nat), (∀ c ∈ l, 48 ≤ c.toNat ∧ c.toNat ≤ 57) → rd (l ++ r) 1 x y z = rd r 1 x (valF y l) z
  | [], r, x, y, z, _ => rfl
  | c :: l, r, x, y, z, h => by
    obtain ⟨h1, h2⟩ := h c (by simp)
    rw [List.cons_append]
    have e : rd (c :: (l ++ r)) 1 x y z = rd (l ++ r) 1 x (y * 10 + (c.toNat - 48)) z := by rw [rd, if_neg (by omega), if_neg (by omega), if_neg (by omega), if_pos rfl]
    exact e.trans (rd_run1 l r x _ z (fun d hd => h d (by simp [hd])))
theorem rd_run2 : ∀ (l r : List UInt8) (x y z : Nat), (∀ c ∈ l, 48 ≤ c.toNat ∧ c.toNat ≤ 57) → rd (l ++ r) 2 x y z = rd r 2 x y (valF z l)
  | [], r, x, y, z, _ => rfl
  | c :: l, r, x, y, z, h => by
    obtain ⟨h1, h2⟩ := h c (by simp)
    rw [List.cons_append]
    have e : rd (c :: (l ++ r)) 2 x y z = rd (l ++ r) 2 x y (z * 10 + (c.toNat - 48)) := by rw [rd, if_neg (by omega), if_neg (by omega), if_neg (by omega), if_neg (by omega)]
    exact e.trans (rd_run2 l r x y _ (fun d hd => h d (by simp [hd])))
theorem rd_sep0 (r : List UInt8) (x y z : Nat) : rd (46 :: r) 0 x y z = rd r 1 x y z := by
  rw [rd, if_pos ⟨by decide, by decide⟩]
theorem rd_sep1 (r : List UInt8) (x y z : Nat) : rd (46 :: r) 1 x y z = rd r 2 x y z := by
  rw [rd, if_pos ⟨by decide, by decide⟩]
theorem val_dec' (u : Nat) : valF 0 (Lib.decDigits u) = u := ZSemverMath.val_dec u
theorem rd_text (a b c : Nat) : rd (Lib.decDigits a ++ 46 :: (Lib.decDigits b ++ 46 :: Lib.decDigits c)) 0 0 0 0 = some (a, b, c) := by
  rw [rd_run0 _ _ _ _ _ (ZSemverMath.dec_dig a), rd_sep0, rd_run1 _ _ _ _ _ (ZSemverMath.dec_dig b), rd_sep1]
  have := rd_run2 (Lib.decDigits c) [] (valF 0 (Lib.decDigits a)) (valF 0 (Lib.decDigits b)) 0 (ZSemverMath.dec_dig c)
  rw [List.append_nil] at this
  rw [this, val_dec', val_dec', val_dec']
  rfl
theorem dec_pos (u : Nat) : 1 ≤ (Lib.decDigits u).length := by
  by_cases h : u < 10
  · rw [Lib.decDigits_one h]; simp
  · rw [ZSemverMath.dec_more h]; simp
theorem txt_list {a b c : Int} (h : okV a b c = true) : (txtS a b c).data.toList = 118 :: (Lib.decDigits a.toNat ++ 46 :: (Lib.decDigits b.toNat ++ 46 :: Lib.decDigits c.toNat)) := by
  obtain ⟨⟨a0, a1⟩, ⟨b0, b1⟩, ⟨c0, c1⟩⟩ := okV_parts h
  simp [txtS, istr_dec a0, istr_dec b0, istr_dec c0]
theorem txt_sizes {a b c : Int} (h : okV a b c = true) : 6 ≤ (txtS a b c).size ∧ (txtS a b c).size ≤ 15 := by
  obtain ⟨⟨a0, a1⟩, ⟨b0, b1⟩, ⟨c0, c1⟩⟩ := okV_parts h
  have e : (txtS a b c).size = (txtS a b c).data.toList.length := by simp
  rw [e, txt_list h]
  have x1 := dec_pos a.toNat; have x2 := dec_pos b.toNat; have x3 := dec_pos c.toNat
  have y1 := dec_len 3 a.toNat (by omega); have y2 := dec_len 3 b.toNat (by omega); have y3 := dec_len 3 c.toNat (by omega)
  simp only [List.length_cons, List.length_append]
  omega
theorem rparse_txt (a b c : Int) (h : okV a b c = true) (w : World) :
    Calls Tryz.prog 72 #[.string (txtS a b c)] w fun e w' => e = .returned (.tuple #[vv a b c, .int .i64 0]) ∧ Below w.heap.size w w' := by
  obtain ⟨h5, h15⟩ := txt_sizes h
  have hl := txt_list h
  obtain ⟨⟨a0, a1⟩, ⟨b0, b1⟩, ⟨c0, c1⟩⟩ := okV_parts h
  have hd : ((txtS a b c)[0]).toNat = 118 := by
    have := sdrop_at (txtS a b c) 0 (by omega)
    rw [List.drop_zero, hl] at this
    have h2 := (List.cons.inj this).1
    rw [← h2]; rfl
  refine (rparse_main (txtS a b c) h5 h15 hd w).mono ?_
  rintro e w' ⟨rfl, hb⟩
  refine ⟨?_, hb⟩
  rw [hl, List.drop_succ_cons, List.drop_zero, rd_text]
  have e1 : ((a.toNat : Nat) : Int) = a := by omega
  have e2 : ((b.toNat : Nat) : Int) = b := by omega
  have e3 : ((c.toNat : Nat) : Int) = c := by omega
  simp only [rres, e1, e2, e3]
  have ht : txt a b c = txtS a b c := by unfold txt; rw [if_pos h]
  rw [ht]; simp
theorem rparse_no (s : ByteArray) (hN : ∀ a b c, txt a b c ≠ s) (w : World) :
    Calls Tryz.prog 72 #[.string s] w fun e w' => e = .returned (.tuple #[vv 0 0 0, .int .i64 8]) ∧ Below w.heap.size w w' := by
  by_cases hs : s.size < 6 ∨ 15 < s.size
  · exact rparse_short s hs w
  · have h5 : 6 ≤ s.size := by omega
    have h15 : s.size ≤ 15 := by omega
    by_cases hd : (s[0]).toNat = 118
    · refine (rparse_main s h5 h15 hd w).mono ?_
      rintro e w' ⟨rfl, hb⟩
      refine ⟨?_, hb⟩
      cases rd (s.data.toList.drop 1) 0 0 0 0 with
      | none => rfl
      | some p =>
        obtain ⟨x, y, z⟩ := p
        have : ((txt x y z).toList == s.toList) = false := by
          rw [beq_eq_false_iff_ne]
          intro h
          rw [Go.ByteArray.toList_eq, Go.ByteArray.toList_eq] at h
          exact hN _ _ _ (ByteArray.ext (Array.ext' h))
        simp only [rres, this]
        rfl
    · exact rparse_head s h5 h15 hd w
theorem rparse_q (w : World) :
    Calls Tryz.prog 72 #[.string ⟨#[63]⟩] w fun e w' => e = .returned (.tuple #[vv 0 0 0, .int .i64 8]) ∧ Below w.heap.size w w' :=
  rparse_short _ (.inl (by decide)) w
end Go.Proofs.YtmmghdicjpfdoaaGreatDoor
