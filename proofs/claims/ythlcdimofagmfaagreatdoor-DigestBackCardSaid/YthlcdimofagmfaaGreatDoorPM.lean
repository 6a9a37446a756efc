/-
  PLAIN: which texts are those of a sum, and the number of such a text.
-/
import Derived.Test.YthlcdimofagmfaaGreatDoorD3
import Derived.Test.YthlcdimofagmfaaGreatDoorShelf
namespace Go.Proofs.YthlcdimofagmfaaGreatDoor.Dg
open Go.RowKit
set_option linter.unusedSimpArgs false
set_option linter.unnecessarySimpa false
set_option linter.unusedVariables false
/-- the value of a digit, or -1 -/
def hexI (c : UInt8) : Int := Lib.indexByte digsL c
/-- the value of a digit of either case, or -1 -/
def rhex (c : UInt8) : Int := if 48 ≤ c.toNat ∧ c.toNat ≤ 57 then (c.toNat : Int) - 48 else if 97 ≤ c.toNat ∧ c.toNat ≤ 102 then (c.toNat : Int) - 87 else if 65 ≤ c.toNat ∧ c.toNat ≤ 70 then (c.toNat : Int) - 55 else -1
theorem byte_all {p : UInt8 → Prop} (h : ∀ n : Fin 256, p (UInt8.ofNat n.val)) (c : UInt8) : p c := by
  have := h ⟨c.toNat, c.toNat_lt⟩
  simpa using this
theorem hexI_cases (c : UInt8) : hexI c = -1 ∨ (0 ≤ hexI c ∧ hexI c < 16 ∧ hxd (hexI c).toNat = c ∧ rhex c = hexI c) := by
  revert c
  exact byte_all (by decide +kernel)
theorem rhex_cases (c : UInt8) : rhex c = -1 ∨ (0 ≤ rhex c ∧ rhex c < 16) := by
  unfold rhex
  repeat' split
  all_goals omega
theorem hexI_hxd (d : Nat) (h : d < 16) : hexI (hxd d) = (d : Int) := by
  have : ∀ d : Fin 16, hexI (hxd d.val) = (d.val : Int) := by decide +kernel
  exact this ⟨d, h⟩
def isHex (c : UInt8) : Bool := decide (0 ≤ hexI c)
def valF (a : Nat) (l : List UInt8) : Nat := l.foldl (fun n c => 16 * n + (hexI c).toNat) a
def valR (a : Nat) (l : List UInt8) : Nat := l.foldl (fun n c => 16 * n + (rhex c).toNat) a
theorem isHex_lt {c : UInt8} (h : isHex c = true) : 0 ≤ hexI c ∧ hexI c < 16 ∧ hxd (hexI c).toNat = c ∧ rhex c = hexI c := by
  unfold isHex at h
  have h' := of_decide_eq_true h
  rcases hexI_cases c with e | e
  · omega
  · exact e
theorem valF_eq (l : List UInt8) : ∀ a, (∀ c ∈ l, isHex c = true) → valF a l = a * 16 ^ l.length + valF 0 l ∧ valF 0 l < 16 ^ l.length := by
  induction l with
  | nil => intro a _; exact ⟨by simp [valF], by simp [valF]⟩
  | cons c t ih =>
    intro a h
    have hc := isHex_lt (h c (by simp))
    have ht : ∀ c ∈ t, isHex c = true := fun c hc => h c (by simp [hc])
    obtain ⟨h1, h2⟩ := ih (16 * a + (hexI c).toNat) ht
    obtain ⟨h3, _⟩ := ih (16 * 0 + (hexI c).toNat) ht
    have e1 : valF a (c :: t) = valF (16 * a + (hexI c).toNat) t := rfl
    have e2 : valF 0 (c :: t) = valF (16 * 0 + (hexI c).toNat) t := rfl
    rw [e1, e2, h1, h3, List.length_cons, Nat.pow_succ]
    generalize 16 ^ t.length = p at *
    generalize valF 0 t = r at *
    obtain ⟨d, hd⟩ : ∃ d, d = (hexI c).toNat := ⟨_, rfl⟩
    rw [← hd]
    have hd16 : d < 16 := by omega
    refine ⟨?_, ?_⟩
    · rw [Nat.add_mul, Nat.add_mul]
      have : 16 * a * p = a * (p * 16) := by rw [Nat.mul_comm p 16, ← Nat.mul_assoc, Nat.mul_comm a 16]
      omega
    · have : d * p ≤ 15 * p := Nat.mul_le_mul_right p (by omega)
      have e : (16 * 0 + d) * p = d * p := by simp
      rw [e]; omega
theorem valR_lt (l : List UInt8) : valR 0 l < 16 ^ l.length := by
  suffices h : ∀ a, valR a l < (a + 1) * 16 ^ l.length by simpa using h 0
  induction l with
  | nil => intro a; simp [valR]
  | cons c t ih =>
    intro a
    have e1 : valR a (c :: t) = valR (16 * a + (rhex c).toNat) t := rfl
    rw [e1, List.length_cons, Nat.pow_succ]
    refine Nat.lt_of_lt_of_le (ih _) ?_
    have h16 : (rhex c).toNat < 16 := by rcases rhex_cases c with e | ⟨_, e⟩ <;> omega
    have e : (a + 1) * (16 ^ t.length * 16) = (16 * a + 16) * 16 ^ t.length := by
      rw [Nat.mul_comm (16 ^ t.length) 16, ← Nat.mul_assoc, Nat.add_mul a 1 16, Nat.mul_comm a 16, Nat.one_mul]
    rw [e]
    exact Nat.mul_le_mul_right _ (by omega)
theorem valR_eq (l : List UInt8) : ∀ a, (∀ c ∈ l, isHex c = true) → valR a l = valF a l := by
  induction l with
  | nil => intro a _; rfl
  | cons c t ih =>
    intro a h
    have hc := isHex_lt (h c (by simp))
    have e1 : valF a (c :: t) = valF (16 * a + (hexI c).toNat) t := rfl
    have e2 : valR a (c :: t) = valR (16 * a + (rhex c).toNat) t := rfl
    rw [e1, e2, hc.2.2.2]
    exact ih _ (fun c hc => h c (by simp [hc]))
theorem low_val (l : List UInt8) : ∀ a, (∀ c ∈ l, isHex c = true) → lowL (valF a l) l.length = l := by
  induction l with
  | nil => intro a _; rfl
  | cons c t ih =>
    intro a h
    have hc := isHex_lt (h c (by simp))
    have ht : ∀ c ∈ t, isHex c = true := fun c hc => h c (by simp [hc])
    have e1 : valF a (c :: t) = valF (16 * a + (hexI c).toNat) t := rfl
    rw [e1, List.length_cons]
    show hxd (valF (16 * a + (hexI c).toNat) t / 16 ^ t.length % 16) :: lowL (valF (16 * a + (hexI c).toNat) t) t.length = c :: t
    rw [ih _ ht]
    obtain ⟨h1, h2⟩ := valF_eq t (16 * a + (hexI c).toNat) ht
    have hd : valF (16 * a + (hexI c).toNat) t / 16 ^ t.length % 16 = (hexI c).toNat := by
      rw [h1, Nat.mul_comm, Nat.mul_add_div (Nat.pow_pos (by omega)), Nat.div_eq_of_lt h2]
      omega
    rw [hd, hc.2.2.1]
theorem val_low (n : Nat) : ∀ k a, valF a (lowL n k) = a * 16 ^ k + n % 16 ^ k
  | 0, a => by simp [valF, lowL, Nat.mod_one]
  | k + 1, a => by
    have e1 : valF a (lowL n (k + 1)) = valF (16 * a + (hexI (hxd (n / 16 ^ k % 16))).toNat) (lowL n k) := rfl
    rw [e1, val_low n k, hexI_hxd _ (Nat.mod_lt _ (by omega)), Int.toNat_natCast, Nat.pow_succ, Nat.mod_mul]
    generalize 16 ^ k = p
    generalize n / p % 16 = d
    rw [Nat.add_mul, Nat.mul_comm d p]
    have : 16 * a * p = a * (p * 16) := by rw [Nat.mul_comm p 16, ← Nat.mul_assoc, Nat.mul_comm a 16]
    omega
theorem low_hex (n : Nat) : ∀ k, ∀ c ∈ lowL n k, isHex c = true
  | 0, c, h => by simp [lowL] at h
  | k + 1, c, h => by
    rcases List.mem_cons.1 h with rfl | h
    · unfold isHex; rw [hexI_hxd _ (Nat.mod_lt _ (by omega))]; exact decide_eq_true (Int.natCast_nonneg _)
    · exact low_hex n k c h
/-- is it the text of a number -/
def okP (L : List UInt8) : Bool := (L.take 2 == [104, 58]) && (L.length == 18) && (L.drop 2).all isHex
theorem okP_iff {L : List UInt8} : okP L = true ↔ ∃ l, L = 104 :: 58 :: l ∧ l.length = 16 ∧ ∀ c ∈ l, isHex c = true := by
  unfold okP
  simp only [Bool.and_eq_true, beq_iff_eq, List.all_eq_true]
  constructor
  · rintro ⟨⟨h1, h2⟩, h3⟩
    refine ⟨L.drop 2, ?_, by simp [h2], h3⟩
    have := List.take_append_drop 2 L
    rw [h1] at this
    exact this.symm
  · rintro ⟨l, rfl, h2, h3⟩
    exact ⟨⟨rfl, by simp [h2]⟩, by simpa using h3⟩
def numP (L : List UInt8) : Nat := if okP L = true then valF 0 (L.drop 2) else 0
def errP (L : List UInt8) : Int := if okP L = true then 0 else 8
theorem okP_text {L : List UInt8} (h : okP L = true) : txtL (valF 0 (L.drop 2)) 16 = L ∧ valF 0 (L.drop 2) < 18446744073709551616 := by
  obtain ⟨l, rfl, h2, h3⟩ := okP_iff.1 h
  have e : (104 :: 58 :: l).drop 2 = l := rfl
  rw [e, ← low_all]
  have := low_val l 0 h3
  rw [h2] at this
  have h4 := (valF_eq l 0 h3).2
  rw [h2] at h4
  exact ⟨by rw [this], h4⟩
theorem text_okP (n : Nat) (hn : n < 18446744073709551616) : okP (txtL n 16) = true ∧ valF 0 ((txtL n 16).drop 2) = n := by
  rw [← low_all]
  refine ⟨okP_iff.2 ⟨_, rfl, low_len n 16, low_hex n 16⟩, ?_⟩
  have e : (104 :: 58 :: lowL n 16).drop 2 = lowL n 16 := rfl
  rw [e, val_low, Nat.zero_mul, Nat.zero_add]
  exact Nat.mod_eq_of_lt hn
theorem numP_lt (L : List UInt8) : numP L < 18446744073709551616 := by
  unfold numP
  split
  · exact (okP_text (by assumption)).2
  · omega
/-- what the specification reads: the digits of either case -/
def midL (L : List UInt8) : List UInt8 := (L.drop 2).take 16
theorem spec_fail {L : List UInt8} {c : UInt8} (h : c ∈ midL L) (hc : rhex c = -1) : okP L = false := by
  rw [Bool.eq_false_iff]
  intro hk
  obtain ⟨l, rfl, h2, h3⟩ := okP_iff.1 hk
  have hm : c ∈ l := by
    unfold midL at h
    exact List.mem_of_mem_take h
  have := isHex_lt (h3 c hm)
  omega
theorem spec_same {L : List UInt8} (h : txtL (valR 0 (midL L)) 16 = L) : numP L = valR 0 (midL L) ∧ errP L = 0 := by
  have hlt : valR 0 (midL L) < 18446744073709551616 := by
    refine Nat.lt_of_lt_of_le (valR_lt _) ?_
    have : (midL L).length ≤ 16 := by unfold midL; rw [List.length_take]; omega
    exact Nat.le_trans (Nat.pow_le_pow_right (by omega) this) (by decide)
  obtain ⟨h1, h2⟩ := text_okP _ hlt
  rw [h] at h1 h2
  unfold numP errP
  rw [if_pos h1, if_pos h1]
  exact ⟨h2, rfl⟩
theorem spec_other {L : List UInt8} (h : txtL (valR 0 (midL L)) 16 ≠ L) : numP L = 0 ∧ errP L = 8 := by
  have hk : okP L = false := by
    rw [Bool.eq_false_iff]
    intro hk
    obtain ⟨l, rfl, h2, h3⟩ := okP_iff.1 hk
    have e : midL (104 :: 58 :: l) = l := by
      show l.take 16 = l
      exact List.take_of_length_le (by omega)
    rw [e, valR_eq l 0 h3] at h
    exact h (okP_text hk).1
  unfold numP errP
  rw [if_neg (by simp [hk]), if_neg (by simp [hk])]
  exact ⟨rfl, rfl⟩
end Go.Proofs.YthlcdimofagmfaaGreatDoor.Dg
