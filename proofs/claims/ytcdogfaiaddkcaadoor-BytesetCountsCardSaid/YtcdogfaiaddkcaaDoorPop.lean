/-
  PLAIN: the number of one bits of a 64-bit word, as math/bits computes it: masks, shifts, sums. Numbers only.
-/
import Derived.Test.YtcdogfaiaddkcaaDoorMath
namespace Go.Proofs.YtcdogfaiaddkcaaDoor
open Go

/-- the number of one bits among the lowest n -/
def ones : Nat → Nat → Nat
  | 0, _ => 0
  | n + 1, x => x % 2 + ones n (x / 2)
/-- a mask of n bytes, each k -/
def msk (k : Nat) : Nat → Nat
  | 0 => 0
  | n + 1 => 256 * msk k n + k
/-- a function laid over n bytes -/
def ov (f : Nat → Nat) : Nat → Nat → Nat
  | 0, _ => 0
  | n + 1, x => 256 * ov f n (x / 256) + f (x % 256)
def f1 (r : Nat) : Nat := ((r >>> 1) &&& 0x55) + (r &&& 0x55)
def f2 (r : Nat) : Nat := ((r >>> 2) &&& 0x33) + (r &&& 0x33)
def f3 (r : Nat) : Nat := ((r >>> 4) + r) &&& 0x0f

theorem and_split (a b : Nat) : a &&& b = 256 * (a / 256 &&& b / 256) + (a % 256 &&& b % 256) := by
  have h1 : (a &&& b) / 256 = a / 256 &&& b / 256 := by
    have := Nat.shiftRight_and_distrib (a := a) (b := b) (i := 8)
    simpa [Nat.shiftRight_eq_div_pow] using this
  have h2 : (a &&& b) % 256 = a % 256 &&& b % 256 := by
    have := Nat.and_mod_two_pow (a := a) (b := b) (n := 8)
    simpa using this
  have := Nat.div_add_mod (a &&& b) 256
  rw [h1, h2] at this
  exact this.symm
theorem msk_div (k n : Nat) (h : k < 256) : msk k (n + 1) / 256 = msk k n := by simp only [msk]; omega
theorem msk_mod (k n : Nat) (h : k < 256) : msk k (n + 1) % 256 = k := by simp only [msk]; omega
theorem and0 (x : Nat) : x &&& 0 = 0 := by simp

theorem sh1_byte : ∀ (r : Fin 256), ((r.val / 2 + 128) &&& 0x55) = ((r.val >>> 1) &&& 0x55) := by decide +kernel
theorem sh2_byte : ∀ (r : Fin 256) (q : Fin 4), ((r.val / 4 + 64 * q.val) &&& 0x33) = ((r.val >>> 2) &&& 0x33) := by decide +kernel
theorem fold1 (n x : Nat) : ((x >>> 1) &&& msk 0x55 n) + (x &&& msk 0x55 n) = ov f1 n x := by
  induction n generalizing x with
  | zero => simp [msk, ov]
  | succ n ih =>
    have e1 := and_split (x >>> 1) (msk 0x55 (n + 1))
    have e2 := and_split x (msk 0x55 (n + 1))
    rw [msk_div _ _ (by omega), msk_mod _ _ (by omega)] at e1 e2
    have d : (x >>> 1) / 256 = (x / 256) >>> 1 := by simp only [Nat.shiftRight_eq_div_pow]; omega
    have m : ((x >>> 1) % 256) &&& 0x55 = ((x % 256) >>> 1) &&& 0x55 := by
      have hr : x % 256 < 256 := Nat.mod_lt _ (by omega)
      have s := sh1_byte ⟨x % 256, hr⟩
      simp only [Nat.shiftRight_eq_div_pow] at s ⊢
      rcases Nat.mod_two_eq_zero_or_one (x / 256) with h | h
      · rw [show x / 2 ^ 1 % 256 = x % 256 / 2 ^ 1 by omega]
      · rw [show x / 2 ^ 1 % 256 = x % 256 / 2 + 128 by omega]; exact s
    rw [e1, e2, d, m]
    have := ih (x / 256)
    simp only [ov, ← this, f1]
    omega
theorem fold2 (n x : Nat) : ((x >>> 2) &&& msk 0x33 n) + (x &&& msk 0x33 n) = ov f2 n x := by
  induction n generalizing x with
  | zero => simp [msk, ov]
  | succ n ih =>
    have e1 := and_split (x >>> 2) (msk 0x33 (n + 1))
    have e2 := and_split x (msk 0x33 (n + 1))
    rw [msk_div _ _ (by omega), msk_mod _ _ (by omega)] at e1 e2
    have d : (x >>> 2) / 256 = (x / 256) >>> 2 := by simp only [Nat.shiftRight_eq_div_pow]; omega
    have m : ((x >>> 2) % 256) &&& 0x33 = ((x % 256) >>> 2) &&& 0x33 := by
      have hr : x % 256 < 256 := Nat.mod_lt _ (by omega)
      have s := sh2_byte ⟨x % 256, hr⟩ ⟨x / 256 % 4, Nat.mod_lt _ (by omega)⟩
      simp only [Nat.shiftRight_eq_div_pow] at s ⊢
      rw [show x / 2 ^ 2 % 256 = x % 256 / 4 + 64 * (x / 256 % 4) by omega]; exact s
    rw [e1, e2, d, m]
    have := ih (x / 256)
    simp only [ov, ← this, f2]
    omega
/-- every nibble of x is at most 4, among the lowest n bytes; nothing above -/
def nib : Nat → Nat → Prop
  | 0, x => x = 0
  | n + 1, x => x % 16 ≤ 4 ∧ x / 16 % 16 ≤ 4 ∧ nib n (x / 256)
theorem nib_low {n x : Nat} (h : nib n x) : x % 16 ≤ 4 := by
  cases n with
  | zero => simp [nib] at h; omega
  | succ n => exact h.1
theorem f3_byte : ∀ (r : Fin 137) (q : Fin 5), ((16 * q.val + r.val) % 256 &&& 0x0f) = r.val % 16 := by decide +kernel
theorem f3_val : ∀ r : Fin 256, f3 r.val = (r.val / 16 + r.val) % 16 := by decide +kernel
theorem fold3 (n x : Nat) (h : nib n x) : ((x >>> 4) + x) &&& msk 0x0f n = ov f3 n x := by
  induction n generalizing x with
  | zero => simp [msk, ov]
  | succ n ih =>
    obtain ⟨h1, h2, h3⟩ := h
    have e1 := and_split ((x >>> 4) + x) (msk 0x0f (n + 1))
    rw [msk_div _ _ (by omega), msk_mod _ _ (by omega)] at e1
    have hq := nib_low h3
    obtain ⟨q, hqe⟩ : ∃ q, q = x / 256 := ⟨_, rfl⟩
    obtain ⟨r0, hr0⟩ : ∃ r, r = x % 16 := ⟨_, rfl⟩
    obtain ⟨r1, hr1⟩ : ∃ r, r = x / 16 % 16 := ⟨_, rfl⟩
    obtain ⟨q0, hq0⟩ : ∃ r, r = q % 16 := ⟨_, rfl⟩
    obtain ⟨q1, hq1⟩ : ∃ r, r = q / 16 := ⟨_, rfl⟩
    have hd : x / 16 / 16 = x / 256 := by rw [Nat.div_div_eq_div_mul]
    have hx16 : x / 16 = 16 * q + r1 := by omega
    have hx : x = 16 * (x / 16) + r0 := by omega
    have hqq : q = 16 * q1 + q0 := by omega
    have hr : x % 256 = 16 * r1 + r0 := by omega
    rw [← hqe, ← hq0] at hq
    have d : ((x >>> 4) + x) / 256 = ((x / 256) >>> 4) + x / 256 := by
      simp only [Nat.shiftRight_eq_div_pow]
      rw [show (2 : Nat) ^ 4 = 16 by rfl, ← hqe, ← hq1]
      rw [← hr0] at h1
      rw [← hr1] at h2
      clear hd hqe hr0 hr1 hq0 hq1 e1 h3 ih hr
      omega
    have m : (((x >>> 4) + x) % 256) &&& 0x0f = f3 (x % 256) := by
      rw [← hr0] at h1
      rw [← hr1] at h2
      have s := f3_byte ⟨r1 + (16 * r1 + r0), by omega⟩ ⟨q0, by omega⟩
      rw [f3_val ⟨x % 256, Nat.mod_lt _ (by omega)⟩]
      simp only [Nat.shiftRight_eq_div_pow] at s ⊢
      rw [hr, show (16 * r1 + r0) / 16 = r1 by omega, ← s]
      congr 1
      rw [show (2 : Nat) ^ 4 = 16 by rfl]
      clear hd hqe hr0 hr1 hq0 hq1 e1 h3 ih hr s d
      omega
    rw [e1, d, m, ih _ h3]
    simp only [ov]
theorem f1_lt : ∀ r : Fin 256, f1 r.val < 256 := by decide +kernel
theorem f2_ok : ∀ r : Fin 256, f2 (f1 r.val) < 256 ∧ f2 (f1 r.val) % 16 ≤ 4 ∧ f2 (f1 r.val) / 16 % 16 ≤ 4 ∧ f3 (f2 (f1 r.val)) = ones 8 r.val := by decide +kernel
theorem ov_ov (f g : Nat → Nat) (hg : ∀ r, r < 256 → g r < 256) (n x : Nat) : ov f n (ov g n x) = ov (fun r => f (g r)) n x := by
  induction n generalizing x with
  | zero => rfl
  | succ n ih =>
    have := hg (x % 256) (Nat.mod_lt _ (by omega))
    simp only [ov]
    rw [show (256 * ov g n (x / 256) + g (x % 256)) / 256 = ov g n (x / 256) by omega, show (256 * ov g n (x / 256) + g (x % 256)) % 256 = g (x % 256) by omega, ih]
theorem nib_ov (n x : Nat) : nib n (ov (fun r => f2 (f1 r)) n x) := by
  induction n generalizing x with
  | zero => simp [nib, ov]
  | succ n ih =>
    obtain ⟨h0, h1, h2, _⟩ := f2_ok ⟨x % 256, Nat.mod_lt _ (by omega)⟩
    simp only [nib, ov]
    refine ⟨by simp only at h0 h1 h2 ⊢; omega, by simp only at h0 h1 h2 ⊢; omega, ?_⟩
    rw [show (256 * ov (fun r => f2 (f1 r)) n (x / 256) + f2 (f1 (x % 256))) / 256 = ov (fun r => f2 (f1 r)) n (x / 256) by simp only at h0; omega]
    exact ih _
theorem ones_le (n x : Nat) : ones n x ≤ n := by
  induction n generalizing x with
  | zero => simp [ones]
  | succ n ih => have := ih (x / 2); simp only [ones]; omega
theorem ones_split (n m x : Nat) : ones (n + m) x = ones n x + ones m (x / 2 ^ n) := by
  induction n generalizing x with
  | zero => simp [ones]
  | succ n ih =>
    rw [show n + 1 + m = (n + m) + 1 by omega]
    simp only [ones]
    rw [ih, Nat.div_div_eq_div_mul, show 2 * 2 ^ n = 2 ^ (n + 1) by rw [Nat.pow_succ]; omega]
    omega
theorem ones_mod (n x : Nat) : ones n (x % 2 ^ n) = ones n x := by
  induction n generalizing x with
  | zero => rfl
  | succ n ih =>
    simp only [ones]
    rw [show x % 2 ^ (n + 1) / 2 = x / 2 % 2 ^ n by rw [Nat.pow_succ, Nat.mul_comm, Nat.mod_mul_right_div_self], ih, Nat.mod_mod_of_dvd _ ⟨2 ^ n, by rw [Nat.pow_succ, Nat.mul_comm]⟩]
/-- what math/bits.OnesCount64 computes, before its sums -/
theorem bytes_ones (n x : Nat) : ov (fun r => f3 (f2 (f1 r))) n x = ov (fun r => ones 8 r) n x := by
  induction n generalizing x with
  | zero => rfl
  | succ n ih =>
    obtain ⟨_, _, _, h⟩ := f2_ok ⟨x % 256, Nat.mod_lt _ (by omega)⟩
    simp only [ov, ih]
    simp only at h
    rw [h]

/-- digits of base 256, the lowest first -/
def val : List Nat → Nat
  | [] => 0
  | d :: ds => 256 * val ds + d
theorem val_div {d : Nat} {ds : List Nat} (h : d < 256) : val (d :: ds) / 256 = val ds := by simp only [val]; omega
theorem val_add {d e : Nat} {ds es : List Nat} : val (d :: ds) + val (e :: es) = 256 * (val ds + val es) + (d + e) := by simp only [val]; omega
theorem val_nil (ds : List Nat) : val ds + val [] = val ds := by simp [val]
theorem sums (p0 p1 p2 p3 p4 p5 p6 p7 : Nat) (h0 : p0 ≤ 8) (h1 : p1 ≤ 8) (h2 : p2 ≤ 8) (h3 : p3 ≤ 8) (h4 : p4 ≤ 8) (h5 : p5 ≤ 8) (h6 : p6 ≤ 8) (h7 : p7 ≤ 8)
    (y y1 y2 y3 : Nat) (hy : y = val [p0, p1, p2, p3, p4, p5, p6, p7])
    (e1 : y1 = y + y / 256) (e2 : y2 = y1 + y1 / 65536) (e3 : y3 = y2 + y2 / 4294967296) :
    y1 < 18446744073709551616 ∧ y2 < 18446744073709551616 ∧ y3 < 18446744073709551616 ∧ y3 % 128 = p0 + p1 + p2 + p3 + p4 + p5 + p6 + p7 := by
  have a1 : y1 = val [p0 + p1, p1 + p2, p2 + p3, p3 + p4, p4 + p5, p5 + p6, p6 + p7, p7] := by
    rw [e1, hy, val_div (by omega)]; simp only [val_add, val_nil]; simp only [val]
  have a2 : y2 = val [p0 + p1 + (p2 + p3), p1 + p2 + (p3 + p4), p2 + p3 + (p4 + p5), p3 + p4 + (p5 + p6), p4 + p5 + (p6 + p7), p5 + p6 + p7, p6 + p7, p7] := by
    rw [e2, show (65536 : Nat) = 256 * 256 by rfl, ← Nat.div_div_eq_div_mul, a1, val_div (by omega), val_div (by omega)]; simp only [val_add, val_nil]; simp only [val]
  have a3 : y3 = val [p0 + p1 + (p2 + p3) + (p4 + p5 + (p6 + p7)), p1 + p2 + (p3 + p4) + (p5 + p6 + p7), p2 + p3 + (p4 + p5) + (p6 + p7), p3 + p4 + (p5 + p6) + p7, p4 + p5 + (p6 + p7), p5 + p6 + p7, p6 + p7, p7] := by
    rw [e3, show (4294967296 : Nat) = 256 * 256 * 256 * 256 by rfl, ← Nat.div_div_eq_div_mul, ← Nat.div_div_eq_div_mul, ← Nat.div_div_eq_div_mul, a2, val_div (by omega), val_div (by omega), val_div (by omega), val_div (by omega)]; simp only [val_add, val_nil]; simp only [val]
  refine ⟨?_, ?_, ?_, ?_⟩
  · rw [a1]; clear a1 a2 a3 e1 e2 e3 hy; simp only [val]; omega
  · rw [a2]; clear a1 a2 a3 e1 e2 e3 hy; simp only [val]; omega
  · rw [a3]; clear a1 a2 a3 e1 e2 e3 hy; simp only [val]; omega
  · rw [a3]; clear a1 a2 a3 e1 e2 e3 hy
    generalize val [p1 + p2 + (p3 + p4) + (p5 + p6 + p7), p2 + p3 + (p4 + p5) + (p6 + p7), p3 + p4 + (p5 + p6) + p7, p4 + p5 + (p6 + p7), p5 + p6 + p7, p6 + p7, p7] = V at *
    show (256 * val _ + _) % 128 = _
    generalize val [p1 + p2 + (p3 + p4) + (p5 + p6 + p7), p2 + p3 + (p4 + p5) + (p6 + p7), p3 + p4 + (p5 + p6) + p7, p4 + p5 + (p6 + p7), p5 + p6 + p7, p6 + p7, p7] = V
    omega
/-- the number of one bits, as math/bits reckons it -/
theorem pop_all (x y1 y2 y3 z1 z2 z3 : Nat)
    (e1 : y1 = ((x >>> 1) &&& 6148914691236517205) + (x &&& 6148914691236517205)) (e2 : y2 = ((y1 >>> 2) &&& 3689348814741910323) + (y1 &&& 3689348814741910323))
    (e3 : y3 = ((y2 >>> 4) + y2) &&& 1085102592571150095) (f1' : z1 = y3 + y3 / 256) (f2' : z2 = z1 + z1 / 65536) (f3' : z3 = z2 + z2 / 4294967296) :
    z1 < 18446744073709551616 ∧ z2 < 18446744073709551616 ∧ z3 < 18446744073709551616 ∧ z3 % 128 = ones 64 x := by
  have a1 : y1 = ov f1 8 x := by rw [e1]; exact fold1 8 x
  have a2 : y2 = ov (fun r => f2 (f1 r)) 8 x := by
    rw [e2, a1, ← ov_ov f2 f1 (fun r hr => f1_lt ⟨r, hr⟩)]; exact fold2 8 _
  have a3 : y3 = ov (fun r => ones 8 r) 8 x := by
    rw [e3, a2, ← bytes_ones, ← ov_ov f3 (fun r => f2 (f1 r)) (fun r hr => (f2_ok ⟨r, hr⟩).1)]
    exact fold3 8 _ (nib_ov 8 x)
  have hy : y3 = val [ones 8 x, ones 8 (x / 256), ones 8 (x / 256 / 256), ones 8 (x / 256 / 256 / 256), ones 8 (x / 256 / 256 / 256 / 256), ones 8 (x / 256 / 256 / 256 / 256 / 256), ones 8 (x / 256 / 256 / 256 / 256 / 256 / 256), ones 8 (x / 256 / 256 / 256 / 256 / 256 / 256 / 256)] := by
    rw [a3]
    have m : ∀ z, ones 8 (z % 256) = ones 8 z := fun z => ones_mod 8 z
    simp only [ov, val, m]
  obtain ⟨b1, b2, b3, b4⟩ := sums _ _ _ _ _ _ _ _ (ones_le 8 _) (ones_le 8 _) (ones_le 8 _) (ones_le 8 _) (ones_le 8 _) (ones_le 8 _) (ones_le 8 _) (ones_le 8 _) y3 z1 z2 z3 hy f1' f2' f3'
  refine ⟨b1, b2, b3, ?_⟩
  rw [b4]
  have s := fun m z => ones_split 8 m z
  simp only [show (2 : Nat) ^ 8 = 256 by rfl] at s
  rw [show (64 : Nat) = 8 + (8 + (8 + (8 + (8 + (8 + (8 + 8)))))) by rfl, s, s, s, s, s, s, s]
  omega
end Go.Proofs.YtcdogfaiaddkcaaDoor
