/-
  PLAIN: sets of bytes as numbers of 256 bits, and their four words of 64 bits. No program in sight.
-/
import Derived.Laws.Entries
import Derived.Laws.BitsAllLaws
namespace Go.Proofs.YtmkmbpiaolmncaaDoor
open Go

abbrev BS := BitVec 256
def wd (i : Nat) (s : BS) : Int := ((s.extractLsb' (64 * i) 64).toNat : Int)

theorem wd_lo (i : Nat) (s : BS) : 0 ≤ wd i s := Int.natCast_nonneg _
theorem wd_hi (i : Nat) (s : BS) : wd i s ≤ 18446744073709551615 := by
  have := (s.extractLsb' (64 * i) 64).isLt
  unfold wd; omega
theorem ofInt_wd (i : Nat) (s : BS) : BitVec.ofInt 64 (wd i s) = s.extractLsb' (64 * i) 64 := by
  unfold wd; rw [BitVec.ofInt_natCast, BitVec.ofNat_toNat, BitVec.setWidth_eq]
theorem wrap_bv (x : BitVec 64) : IntKind.u64.wrap (x.toNat : Int) = (x.toNat : Int) := by
  have h : IntKind.u64.wrap (x.toNat : Int) = (x.toNat : Int) % 18446744073709551616 := by simp [IntKind.wrap, IntKind.bits, IntKind.signed]
  have := x.isLt
  rw [h]; omega

theorem bits_bv_and (x y : Int) : bits .and .u64 x y = ((BitVec.ofInt 64 x &&& BitVec.ofInt 64 y).toNat : Int) := wrap_bv _
theorem bits_bv_or (x y : Int) : bits .or .u64 x y = ((BitVec.ofInt 64 x ||| BitVec.ofInt 64 y).toNat : Int) := wrap_bv _
theorem bits_bv_xor (x y : Int) : bits .xor .u64 x y = ((BitVec.ofInt 64 x ^^^ BitVec.ofInt 64 y).toNat : Int) := wrap_bv _

theorem wd_or (i : Nat) (a b : BS) : bits .or .u64 (wd i a) (wd i b) = wd i (a ||| b) := by
  rw [bits_bv_or, ofInt_wd, ofInt_wd]
  unfold wd
  congr 2
  apply BitVec.eq_of_getLsbD_eq
  intro j hj
  simp [hj]

theorem wd_and (i : Nat) (a b : BS) : bits .and .u64 (wd i a) (wd i b) = wd i (a &&& b) := by
  rw [bits_bv_and, ofInt_wd, ofInt_wd]
  unfold wd
  congr 2
  apply BitVec.eq_of_getLsbD_eq
  intro j hj
  simp [hj]

theorem wd_not (i : Nat) (hi : i < 4) (a : BS) : bits .xor .u64 IntKind.u64.max (wd i a) = wd i (~~~a) := by
  have e : BitVec.ofInt 64 IntKind.u64.max = BitVec.allOnes 64 := by decide
  rw [bits_bv_xor, ofInt_wd, e, BitVec.allOnes_xor]
  unfold wd
  congr 2
  apply BitVec.eq_of_getLsbD_eq
  intro j hj
  simp [hj, show 64 * i + j < 256 by omega]

theorem wd_inj {a b : BS} (h0 : wd 0 a = wd 0 b) (h1 : wd 1 a = wd 1 b) (h2 : wd 2 a = wd 2 b) (h3 : wd 3 a = wd 3 b) : a = b := by
  have key : ∀ i, wd i a = wd i b → ∀ j, j < 64 → a.getLsbD (64 * i + j) = b.getLsbD (64 * i + j) := by
    intro i h j hj
    have e : a.extractLsb' (64 * i) 64 = b.extractLsb' (64 * i) 64 := by
      apply BitVec.eq_of_toNat_eq; unfold wd at h; omega
    have := congrArg (fun x => x.getLsbD j) e
    simpa [BitVec.getLsbD_extractLsb', hj] using this
  apply BitVec.eq_of_getLsbD_eq
  intro k hk
  have e : k = 64 * (k / 64) + k % 64 := by omega
  have hr : k % 64 < 64 := by omega
  have hq : k / 64 = 0 ∨ k / 64 = 1 ∨ k / 64 = 2 ∨ k / 64 = 3 := by omega
  rw [e]
  rcases hq with q | q | q | q <;> rw [q]
  · exact key 0 h0 _ hr
  · exact key 1 h1 _ hr
  · exact key 2 h2 _ hr
  · exact key 3 h3 _ hr

/-- four words make a set -/
def mk4 (a0 a1 a2 a3 : Int) : BS := BitVec.ofInt 64 a3 ++ (BitVec.ofInt 64 a2 ++ (BitVec.ofInt 64 a1 ++ BitVec.ofInt 64 a0))

theorem toNat_ofInt_word {x : Int} (h0 : 0 ≤ x) (h1 : x ≤ 18446744073709551615) : ((BitVec.ofInt 64 x).toNat : Int) = x := by
  obtain ⟨n, rfl⟩ := Int.eq_ofNat_of_zero_le h0
  rw [BitVec.ofInt_natCast, BitVec.toNat_ofNat]
  omega

theorem mk4_wd {a0 a1 a2 a3 : Int} (l0 : 0 ≤ a0) (u0 : a0 ≤ 18446744073709551615) (l1 : 0 ≤ a1) (u1 : a1 ≤ 18446744073709551615)
    (l2 : 0 ≤ a2) (u2 : a2 ≤ 18446744073709551615) (l3 : 0 ≤ a3) (u3 : a3 ≤ 18446744073709551615) :
    wd 0 (mk4 a0 a1 a2 a3) = a0 ∧ wd 1 (mk4 a0 a1 a2 a3) = a1 ∧ wd 2 (mk4 a0 a1 a2 a3) = a2 ∧ wd 3 (mk4 a0 a1 a2 a3) = a3 := by
  have f : ∀ (i : Nat) (x : Int), 0 ≤ x → x ≤ 18446744073709551615 → (mk4 a0 a1 a2 a3).extractLsb' (64 * i) 64 = BitVec.ofInt 64 x → wd i (mk4 a0 a1 a2 a3) = x := by
    intro i x h0 h1 h
    unfold wd
    rw [h, toNat_ofInt_word h0 h1]
  refine ⟨f 0 a0 l0 u0 ?_, f 1 a1 l1 u1 ?_, f 2 a2 l2 u2 ?_, f 3 a3 l3 u3 ?_⟩
  all_goals
    unfold mk4
    apply BitVec.eq_of_getLsbD_eq
    intro j hj
    simp only [BitVec.getLsbD_extractLsb', BitVec.getLsbD_append, hj, decide_true, Bool.true_and]
    grind

/-- a bit of a word is a bit of the set -/
theorem wd_bit (q r : Nat) (s : BS) (hr : r < 64) : (bits .and .u64 (wd q s / 2 ^ r) 1 == 1) = s.getLsbD (64 * q + r) := by
  have e : wd q s / 2 ^ r = (((s.extractLsb' (64 * q) 64) >>> r).toNat : Int) := by
    unfold wd
    rw [BitVec.toNat_ushiftRight, Nat.shiftRight_eq_div_pow]
    simp
  have e1 : BitVec.ofInt 64 1 = 1#64 := by decide
  rw [bits_bv_and, e, BitVec.ofInt_natCast, BitVec.ofNat_toNat, BitVec.setWidth_eq, e1]
  have h : ∀ x : BitVec 64, ((((x &&& 1#64).toNat : Nat) : Int) == 1) = x.getLsbD 0 := by
    intro x
    rw [BitVec.toNat_and]
    simp only [BitVec.toNat_ofNat, BitVec.getLsbD, Nat.testBit_zero]
    rw [show 1 % 2 ^ 64 = 1 from rfl, Nat.and_one_is_mod]
    rw [Bool.eq_iff_iff]
    simp
    omega
  rw [h]
  simp [hr]

theorem wd_bit2 (q r : Nat) (s : BS) (hr : r < 64) : (wd q s / 2 ^ r % 2 == 1) = s.getLsbD (64 * q + r) := by
  rw [← wd_bit q r s hr]
  have e1 : BitVec.ofInt 64 1 = 1#64 := by decide
  have e : wd q s / 2 ^ r = (((s.extractLsb' (64 * q) 64) >>> r).toNat : Int) := by
    unfold wd
    rw [BitVec.toNat_ushiftRight, Nat.shiftRight_eq_div_pow]
    simp
  rw [bits_bv_and, e, BitVec.ofInt_natCast, BitVec.ofNat_toNat, BitVec.setWidth_eq, e1, BitVec.toNat_and]
  rw [show (1#64).toNat = 1 from rfl, Nat.and_one_is_mod]
  rfl

/-- the set with one more byte -/
def wth (s : BS) (b : Nat) : BS := s ||| (1#256 <<< b)

theorem wd_one (i b : Nat) (hi : i < 4) : wd i (1#256 <<< b) = if b / 64 = i then 2 ^ (b % 64) else 0 := by
  unfold wd
  have h : (1#256 <<< b).extractLsb' (64 * i) 64 = if b / 64 = i then BitVec.twoPow 64 (b % 64) else 0#64 := by
    apply BitVec.eq_of_getLsbD_eq
    intro j hj
    split
    · simp [hj]
      grind
    · simp [hj]
      grind
  rw [h]
  split
  · rw [BitVec.toNat_twoPow]
    have : 2 ^ (b % 64) < 2 ^ 64 := Nat.pow_lt_pow_right (by omega) (by omega)
    rw [Nat.mod_eq_of_lt this]
    simp
  · rfl

theorem wrap_pow (r : Nat) (hr : r < 64) : IntKind.u64.wrap (2 ^ r) = 2 ^ r := by
  have h : ((BitVec.twoPow 64 r).toNat : Int) = 2 ^ r := by
    rw [BitVec.toNat_twoPow, Nat.mod_eq_of_lt (Nat.pow_lt_pow_right (by omega) hr)]
    simp
  rw [← h]; exact wrap_bv _

theorem wd_with (i : Nat) (hi : i < 4) (s : BS) (b : Nat) :
    wd i (wth s b) = if b / 64 = i then bits .or .u64 (wd i s) (IntKind.u64.wrap (2 ^ (b % 64))) else wd i s := by
  unfold wth
  rw [← wd_or, wd_one i b hi]
  split
  · rw [wrap_pow _ (by omega)]
  · rw [bits_bv_or, ofInt_wd, show BitVec.ofInt 64 0 = 0#64 by decide, BitVec.or_zero]; rfl

theorem bit_at (q r b : Nat) (s : BS) (hr : r < 64) (hb : 64 * q + r = b) : (bits .and .u64 (wd q s / 2 ^ r) 1 == 1) = s.getLsbD b := by
  rw [wd_bit q r s hr, hb]
theorem rbit_at (q r b : Nat) (s : BS) (hr : r < 64) (hb : 64 * q + r = b) : ((wd q s / 2 ^ r).tmod 2 == 1) = s.getLsbD b := by
  rw [Int.tmod_eq_emod_of_nonneg (Int.ediv_nonneg (wd_lo q s) (Int.pow_nonneg (by decide))), wd_bit2 q r s hr, hb]
theorem wd_withI (i : Nat) (hi : i < 4) (s : BS) (b : Int) (h0 : 0 ≤ b) :
    wd i (wth s b.toNat) = if b / 64 = (i : Int) then bits .or .u64 (wd i s) (IntKind.u64.wrap (2 ^ (b % 64).toNat)) else wd i s := by
  rw [wd_with i hi s b.toNat]
  have e : b.toNat % 64 = (b % 64).toNat := by omega
  rw [e]
  have d : (b.toNat / 64 = i) = (b / 64 = (i : Int)) := by apply propext; omega
  simp only [d]

theorem mem_wth (s : BS) (b k : Nat) (hk : k < 256) : (wth s b).getLsbD k = (s.getLsbD k || k == b) := by
  unfold wth
  simp [hk]
  grind

/-- the bytes that are less than n -/
def blw (n : Nat) : BS := BitVec.ofNat 256 (2 ^ n - 1)
theorem mem_blw (n k : Nat) (hk : k < 256) : (blw n).getLsbD k = decide (k < n) := by
  unfold blw
  rw [BitVec.getLsbD_ofNat, Nat.testBit_two_pow_sub_one]
  simp [hk]

theorem wd_blw (i n : Nat) (hi : i < 4) : wd i (blw n) = 2 ^ (min (n - 64 * i) 64) - 1 := by
  have h : (blw n).extractLsb' (64 * i) 64 = BitVec.ofNat 64 (2 ^ (min (n - 64 * i) 64) - 1) := by
    apply BitVec.eq_of_getLsbD_eq
    intro j hj
    simp only [BitVec.getLsbD_extractLsb', hj, decide_true, Bool.true_and]
    rw [mem_blw _ _ (by omega), BitVec.getLsbD_ofNat, Nat.testBit_two_pow_sub_one]
    grind
  unfold wd
  rw [h, BitVec.toNat_ofNat]
  have h1 : 2 ^ (min (n - 64 * i) 64) ≤ 2 ^ 64 := Nat.pow_le_pow_right (by omega) (by omega)
  have h2 : 0 < 2 ^ (min (n - 64 * i) 64) := Nat.pow_pos (by omega)
  rw [Nat.mod_eq_of_lt (by omega)]
  rw [Int.natCast_sub h2]
  simp

theorem wrap_pred {m : Nat} (hm : m ≤ 64) : IntKind.u64.wrap (IntKind.u64.wrap (2 ^ m) - 1) = 2 ^ m - 1 := by
  have w : ∀ n : Int, IntKind.u64.wrap n = n % 18446744073709551616 := fun n => by simp [IntKind.wrap, IntKind.bits, IntKind.signed]
  rw [w, w]
  by_cases h : m = 64
  · subst h; decide
  · have h1 : (2 : Int) ^ m < 2 ^ 64 := by
      have := Nat.pow_lt_pow_right (a := 2) (m := m) (n := 64) (by omega) (by omega)
      have e : ((2 ^ m : Nat) : Int) < ((2 ^ 64 : Nat) : Int) := by omega
      simpa using e
    have h2 : (0 : Int) < 2 ^ m := Int.pow_pos (by omega)
    have h3 : (2 : Int) ^ 64 = 18446744073709551616 := by decide
    rw [h3] at h1
    omega
theorem bl_full (i : Nat) {n : Int} (hi : i < 4) (h : 64 * ((i : Int) + 1) ≤ n) : IntKind.u64.wrap (IntKind.u64.wrap 18446744073709551616 - 1) = wd i (blw n.toNat) := by
  rw [wd_blw i n.toNat hi, show min (n.toNat - 64 * i) 64 = 64 by omega]
  decide
theorem bl_part (i : Nat) {n m : Int} (hi : i < 4) (hm : m = n - 64 * i) (h0 : 0 ≤ m) (h : m ≤ 64) : IntKind.u64.wrap (IntKind.u64.wrap (2 ^ m.toNat) - 1) = wd i (blw n.toNat) := by
  rw [wd_blw i n.toNat hi, show min (n.toNat - 64 * i) 64 = m.toNat by omega, wrap_pred (by omega)]
theorem bl_zero (i : Nat) {n : Int} (hi : i < 4) (h : n ≤ 64 * i) : 0 = wd i (blw n.toNat) := by
  rw [wd_blw i n.toNat hi, show min (n.toNat - 64 * i) 64 = 0 by omega]
  decide
theorem bl_one (i : Nat) {n : Int} (hi : i < 4) (h : n ≤ 64 * i) : IntKind.u64.wrap (IntKind.u64.wrap 1 - 1) = wd i (blw n.toNat) := by
  rw [← bl_zero i hi h]; decide

/-- the bytes from lo to hi -/
def rgo (lo hi : Nat) : BS := blw (hi + 1) &&& ~~~ (blw lo)
theorem mem_rgo (lo hi k : Nat) (hk : k < 256) : (rgo lo hi).getLsbD k = (decide (lo ≤ k) && decide (k ≤ hi)) := by
  unfold rgo
  rw [BitVec.getLsbD_and, BitVec.getLsbD_not, mem_blw _ _ hk, mem_blw _ _ hk]
  grind

end Go.Proofs.YtmkmbpiaolmncaaDoor
