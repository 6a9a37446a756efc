/-
  PLAIN: decimal numerals: their bytes are digits, a numeral has one number, texts of versions differ. Lists only.
-/
import Derived.Lib.ItoaNum
import Derived.Lib.Atoi
import Derived.Lib.Split
import Derived.Lib.IndexBytes
namespace Go.Proofs.YtaeideimlagheaaGreatDoor.ZSemverMath
open Go
theorem dec_more {m : Nat} (h : ¬ m < 10) : Lib.decDigits m = Lib.decDigits (m / 10) ++ [UInt8.ofNat (48 + m % 10)] := by
  rw [Lib.decDigits, dif_neg h]
def valL (l : List UInt8) : Nat := l.foldl (fun a x => a * 10 + (x.toNat - 48)) 0
theorem valL_snoc (l : List UInt8) (c : UInt8) : valL (l ++ [c]) = valL l * 10 + (c.toNat - 48) := by simp [valL]
theorem dig_nat (d : Nat) (h : d < 10) : (UInt8.ofNat (48 + d)).toNat = 48 + d := by
  rw [UInt8.toNat_ofNat']; omega
theorem val_dec (u : Nat) : valL (Lib.decDigits u) = u := by
  induction u using Nat.strongRecOn with
  | ind u ih =>
    by_cases h : u < 10
    · rw [Lib.decDigits_one h]
      have := dig_nat u h
      simp only [valL, List.foldl_cons, List.foldl_nil]
      rw [this]; omega
    · rw [dec_more h, valL_snoc, ih (u / 10) (by omega), dig_nat _ (by omega)]; omega
theorem dec_inj {u v : Nat} (h : Lib.decDigits u = Lib.decDigits v) : u = v := by
  rw [← val_dec u, h, val_dec v]
theorem dec_dig (u : Nat) : ∀ x ∈ Lib.decDigits u, 48 ≤ x.toNat ∧ x.toNat ≤ 57 := by
  induction u using Nat.strongRecOn with
  | ind u ih =>
    intro x hx
    by_cases h : u < 10
    · rw [Lib.decDigits_one h] at hx
      simp only [List.mem_singleton] at hx
      subst hx
      rw [dig_nat u h]; omega
    · rw [dec_more h, List.mem_append, List.mem_singleton] at hx
      rcases hx with hx | rfl
      · exact ih (u / 10) (by omega) x hx
      · rw [dig_nat _ (by omega)]; omega
theorem dec_nodot (u : Nat) : (46 : UInt8) ∉ Lib.decDigits u := by
  intro h
  have := dec_dig u 46 h
  simp at this
theorem split_one {c : UInt8} : ∀ {l1 l2 r1 r2 : List UInt8}, c ∉ l1 → c ∉ l2 → l1 ++ c :: r1 = l2 ++ c :: r2 → l1 = l2 ∧ r1 = r2 := by
  intro l1
  induction l1 with
  | nil =>
    intro l2 r1 r2 _ h2 e
    cases l2 with
    | nil => simp at e; exact ⟨rfl, e⟩
    | cons a t => simp at e; exact absurd (by rw [e.1]; simp) h2
  | cons a t ih =>
    intro l2 r1 r2 h1 h2 e
    cases l2 with
    | nil => simp at e; exact absurd (by rw [← e.1]; simp) h1
    | cons b s =>
      simp only [List.cons_append, List.cons.injEq] at e
      obtain ⟨rfl, e⟩ := e
      obtain ⟨e1, e2⟩ := ih (fun h => h1 (by simp [h])) (fun h => h2 (by simp [h])) e
      exact ⟨by rw [e1], e2⟩
theorem texts_inj {a b c a' b' c' : Nat} (h : [118] ++ Lib.decDigits a ++ [46] ++ Lib.decDigits b ++ [46] ++ Lib.decDigits c = [118] ++ Lib.decDigits a' ++ [46] ++ Lib.decDigits b' ++ [46] ++ Lib.decDigits c') : a = a' ∧ b = b' ∧ c = c' := by
  replace h : Lib.decDigits a ++ 46 :: (Lib.decDigits b ++ 46 :: Lib.decDigits c) = Lib.decDigits a' ++ 46 :: (Lib.decDigits b' ++ 46 :: Lib.decDigits c') := by simpa using h
  obtain ⟨h1, h2⟩ := split_one (dec_nodot a) (dec_nodot a') h
  obtain ⟨h3, h4⟩ := split_one (dec_nodot b) (dec_nodot b') h2
  exact ⟨dec_inj h1, dec_inj h3, dec_inj h4⟩
end Go.Proofs.YtaeideimlagheaaGreatDoor.ZSemverMath
namespace Go.Proofs.YtaeideimlagheaaGreatDoor.ZSemverMath
open Go
theorem decFrom_snoc (l : List UInt8) (b : UInt8) (d : Nat) (hd : Lib.digitVal b = some d) : ∀ (acc n : Nat), Lib.decFrom acc l = some n → Lib.decFrom acc (l ++ [b]) = some (n * 10 + d) := by
  intro acc n h
  have h1 : Lib.decFrom acc ((l ++ [b]).take l.length) = some n := by rw [List.take_left' rfl]; exact h
  have := Lib.decFrom_take (l ++ [b]) l.length acc n b d h1 (by simp) hd
  rw [List.take_of_length_le (by simp)] at this
  exact this
theorem digit_of (d : Nat) (h : d < 10) : Lib.digitVal (UInt8.ofNat (48 + d)) = some d := by
  have : ∀ d : Fin 10, Lib.digitVal (UInt8.ofNat (48 + d.val)) = some d.val := by decide +kernel
  exact this ⟨d, h⟩
theorem decFrom_dec (u : Nat) : Lib.decFrom 0 (Lib.decDigits u) = some u := by
  induction u using Nat.strongRecOn with
  | ind u ih =>
    by_cases h : u < 10
    · rw [Lib.decDigits_one h]
      have := decFrom_snoc [] (UInt8.ofNat (48 + u)) u (digit_of u h) 0 0 (by rfl)
      simpa using this
    · rw [dec_more h]
      have := decFrom_snoc _ (UInt8.ofNat (48 + u % 10)) (u % 10) (digit_of _ (by omega)) 0 (u / 10) (ih (u / 10) (by omega))
      rw [this]
      congr 1
      omega
theorem atoi_dec (u : Nat) : Lib.atoi (Lib.decDigits u) = some (u : Int) := by
  have hd := dec_dig u
  have hf := decFrom_dec u
  cases e : Lib.decDigits u with
  | nil => rw [e] at hf; exfalso; have h0 := val_dec u; rw [e] at h0; subst h0; rw [Lib.decDigits_one (by decide)] at e; cases e
  | cons b r =>
    rw [e] at hf hd
    have hb := hd b (by simp)
    have n45 : (b == 45) = false := by rw [beq_eq_false_iff_ne]; intro h; subst h; revert hb; decide
    have n43 : (b == 43) = false := by rw [beq_eq_false_iff_ne]; intro h; subst h; revert hb; decide
    unfold Lib.atoi
    simp only [n45, n43, Bool.false_eq_true, if_false]
    have : Lib.decNat (b :: r) = some u := by unfold Lib.decNat; first | exact hf | simpa using hf
    rw [this]; rfl
end Go.Proofs.YtaeideimlagheaaGreatDoor.ZSemverMath
namespace Go.Proofs.YtaeideimlagheaaGreatDoor.ZSemverMath
open Go
abbrev dot : ByteArray := ⟨#[46]⟩
theorem index_dot : ∀ (l r : List UInt8), (46 : UInt8) ∉ l → Lib.index (l ++ 46 :: r) [46] = (l.length : Int)
  | [], r, _ => by
    unfold Lib.index
    simp
  | a :: t, r, h => by
    have ih := index_dot t r (fun x => h (by simp [x]))
    have ha : (46 : UInt8) ≠ a := fun e => h (by simp [e])
    simp only [List.cons_append]
    unfold Lib.index
    rw [ih]
    have hp : ([46] : List UInt8).isPrefixOf (a :: (t ++ 46 :: r)) = false := by simp [List.isPrefixOf, ha]
    rw [hp]
    have hn : ((t.length : Int) == -1) = false := by rw [beq_eq_false_iff_ne]; omega
    simp [hn]
theorem split_dot (A R s : ByteArray) (hA : (46 : UInt8) ∉ A.data.toList) (hs : s = A ++ dot ++ R) (k : Nat) : Lib.splitB dot 0 (k + 1) s = A :: Lib.splitB dot 0 k R := by
  have hd : s.data.toList = A.data.toList ++ 46 :: R.data.toList := by rw [hs]; simp
  have hi : Lib.indexB s dot = (A.size : Int) := by
    show Lib.index s.data.toList [46] = _
    rw [hd, index_dot _ _ hA]
    simp
  rw [Lib.splitB_hit dot 0 k s A.size hi]
  have e1 : s.extract 0 (A.size + 0) = A := by
    apply ByteArray.ext; apply Array.ext'
    rw [Nat.add_zero, show (s.extract 0 A.size).data.toList = s.data.toList.take A.size by simp, hd, List.take_left' (by simp)]
  have hsz : dot.size = 1 := rfl
  have e2 : s.extract (A.size + dot.size) s.size = R := by
    apply ByteArray.ext; apply Array.ext'
    rw [Lib.extract_to_end, hsz, hd, show A.data.toList ++ 46 :: R.data.toList = (A.data.toList ++ [46]) ++ R.data.toList by simp, List.drop_left' (by simp)]
  rw [e1, e2]
theorem split_three (A B C : ByteArray) (hA : (46 : UInt8) ∉ A.data.toList) (hB : (46 : UInt8) ∉ B.data.toList) : Lib.splitB dot 0 2 (A ++ dot ++ B ++ dot ++ C) = [A, B, C] := by
  have assoc : A ++ dot ++ B ++ dot ++ C = A ++ dot ++ (B ++ dot ++ C) := by
    apply ByteArray.ext; apply Array.ext'; simp
  rw [split_dot A (B ++ dot ++ C) _ hA assoc 1, split_dot B C _ hB rfl 0]
  rfl
end Go.Proofs.YtaeideimlagheaaGreatDoor.ZSemverMath
