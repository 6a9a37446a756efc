/-
  What stands for a byte in a literal. No condition.
-/
import Derived.Test.YthlcdimofagmfaaGreatDoorProg
import Derived.WalkKit
import Derived.WalkSpells
import Derived.WalkLawsBesides
import Derived.Lib.Hide
import Derived.Below
import Derived.BigQuiet
import Derived.Deep.QuietTactic
namespace Go.Proofs.YthlcdimofagmfaaGreatDoor.Qt
open Go.RowKit
set_option linter.unusedSimpArgs false
set_option linter.unusedVariables false

def prB (c : UInt8) : Bool := decide (32 ≤ c.toNat) && decide (c.toNat ≤ 126)
theorem ret_bool {a b : Bool} (h : a = b) : Ending.returned (.bool a) = .returned (.bool b) := by rw [h]
theorem ret_int {k : IntKind} {a b : Int} (h : a = b) : Ending.returned (.int k a) = .returned (.int k b) := by rw [h]

set_option maxHeartbeats 1000000 in
theorem printable_any (n : Nat) (w : World) :
    Calls Tryz.prog 127 #[.int .u8 (n : Int)] w fun e w' => e = .returned (.bool (decide (32 ≤ n) && decide (n ≤ 126))) ∧ w = w' := by
  by_cases h1 : 32 ≤ n
  · go_enter Tryz.func127, Tryz.ntmps127
    go_wp2
    go_ret
    exact ⟨ret_bool (by simp [h1] <;> omega), rfl⟩
  · go_enter Tryz.func127, Tryz.ntmps127
    go_wp2
    go_ret
    exact ⟨ret_bool (by simp [h1] <;> omega), rfl⟩

def hexD (n : Nat) : UInt8 := if n < 10 then UInt8.ofNat (48 + n) else UInt8.ofNat (87 + n)
/-- what stands for a byte in a literal -/
def wrB (c : UInt8) : List UInt8 :=
  if c = 34 ∨ c = 92 then [92, c] else if c = 10 then [92, 110] else if c = 9 then [92, 116] else if c = 13 then [92, 114]
  else if 32 ≤ c.toNat ∧ c.toNat ≤ 126 then [c] else [92, 120, hexD (c.toNat / 16), hexD (c.toNat % 16)]

theorem one_byte (s : ByteArray) (hs : s.size = 1) (h : 0 < s.size) : s = ⟨#[s[0]]⟩ := by
  obtain ⟨⟨l⟩⟩ := s
  match l, hs with
  | [c], _ => rfl
theorem app1 (x : List UInt8) (s : ByteArray) (hs : s.size = 1) (h : 0 < s.size) : (⟨x.toArray⟩ : ByteArray) ++ s = ⟨(x ++ [s[0]]).toArray⟩ := by
  obtain ⟨⟨l⟩⟩ := s
  match l, hs with
  | [c], _ =>
    apply ByteArray.ext
    simp
    rfl
theorem nat_u8 {c : UInt8} {n : Nat} (h : c.toNat = n) (hn : n < 256) : c = UInt8.ofNat n := by subst h; simp
theorem wr_q {c : UInt8} (h : c.toNat = 34 ∨ c.toNat = 92) : wrB c = [92, c] := by
  unfold wrB
  rw [if_pos]
  rcases h with h | h
  · left; exact nat_u8 (n := 34) h (by omega)
  · right; exact nat_u8 (n := 92) h (by omega)
theorem ne_u8 {c : UInt8} {n : Nat} (h : c.toNat ≠ n) (hn : n < 256) : c ≠ UInt8.ofNat n := by
  intro e; subst e; apply h; simp; omega
theorem wr_c {c : UInt8} (h1 : c.toNat ≠ 34) (h2 : c.toNat ≠ 92) (hp : 32 ≤ c.toNat ∧ c.toNat ≤ 126) : wrB c = [c] := by
  have q1 := ne_u8 h1 (by omega); have q2 := ne_u8 h2 (by omega)
  have q3 : c ≠ 10 := ne_u8 (c := c) (n := 10) (by omega) (by omega)
  have q4 : c ≠ 9 := ne_u8 (c := c) (n := 9) (by omega) (by omega)
  have q5 : c ≠ 13 := ne_u8 (c := c) (n := 13) (by omega) (by omega)
  unfold wrB
  rw [if_neg (by rintro (h | h); exact q1 h; exact q2 h), if_neg q3, if_neg q4, if_neg q5, if_pos hp]
theorem wr_x {c : UInt8} (h3 : c.toNat ≠ 10) (h4 : c.toNat ≠ 9) (h5 : c.toNat ≠ 13) (hp : ¬ (32 ≤ c.toNat ∧ c.toNat ≤ 126)) : wrB c = [92, 120, hexD (c.toNat / 16), hexD (c.toNat % 16)] := by
  have q1 : c ≠ 34 := ne_u8 (c := c) (n := 34) (by omega) (by omega)
  have q2 : c ≠ 92 := ne_u8 (c := c) (n := 92) (by omega) (by omega)
  have q3 : c ≠ 10 := ne_u8 (n := 10) h3 (by omega)
  have q4 : c ≠ 9 := ne_u8 (n := 9) h4 (by omega)
  have q5 : c ≠ 13 := ne_u8 (n := 13) h5 (by omega)
  unfold wrB
  rw [if_neg (by rintro (h | h); exact q1 h; exact q2 h), if_neg q3, if_neg q4, if_neg q5, if_neg hp]
abbrev hexS : ByteArray := ⟨#[48, 49, 50, 51, 52, 53, 54, 55, 56, 57, 97, 98, 99, 100, 101, 102]⟩
theorem hex_at : ∀ d : Fin 16, (hexS.extract d.val (d.val + 1)).data.toList = [hexD d.val] := by decide +kernel
theorem hex_ba (d : Nat) (h : d < 16) : hexS.extract d (d + 1) = ⟨#[hexD d]⟩ := by
  have := hex_at ⟨d, h⟩
  apply ByteArray.ext
  apply Array.ext'
  exact this
theorem hex_two (d1 d2 : Nat) (h1 : d1 < 16) (h2 : d2 < 16) : (⟨#[92, 120]⟩ : ByteArray) ++ hexS.extract d1 (d1 + 1) ++ hexS.extract d2 (d2 + 1) = ⟨[92, 120, hexD d1, hexD d2].toArray⟩ := by
  rw [hex_ba d1 h1, hex_ba d2 h2]
  apply ByteArray.ext
  rfl
theorem and15 : ∀ n : Fin 256, bits .and .u8 (n.val : Int) 15 = ((n.val % 16 : Nat) : Int) := by decide +kernel
set_option maxHeartbeats 1000000 in
theorem written_any (s : ByteArray) (hs : s.size = 1) (h0 : 0 < s.size) (w : World) :
    Calls Tryz.prog 98 #[.string s] w fun e w' => e = .returned (.string ⟨(wrB s[0]).toArray⟩) ∧ ∃ n, w' = w.drewN n := by
  have hlt := (s[0]).toNat_lt
  have hle : s.size ≤ 1 := by omega
  have HS := Lib.hid hs
  have w1 : ∀ d : Int, 0 ≤ d → d < 16 → IntKind.u8.wrap (d + 1) = d + 1 := fun d a b => by simp [IntKind.wrap, IntKind.bits, IntKind.signed]; omega
  obtain ⟨d1, hd1⟩ : ∃ d, d = s[0].toNat / 16 := ⟨_, rfl⟩
  obtain ⟨d2, hd2⟩ : ∃ d, d = s[0].toNat % 16 := ⟨_, rfl⟩
  have e1 : ((s[0]).toNat : Int) / 16 = (d1 : Int) := by omega
  have e2 : bits .and .u8 ((s[0]).toNat : Int) 15 = (d2 : Int) := by rw [hd2]; exact and15 ⟨s[0].toNat, by omega⟩
  have l1 : d1 < 16 := by omega
  have l2 : d2 < 16 := by omega
  have f1 := w1 d1 (by omega) (by omega)
  have f2 := w1 d2 (by omega) (by omega)
  have HD1 := Lib.hid hd1
  have HD2 := Lib.hid hd2
  clear hs hd1 hd2 w1
  go_enter Tryz.func98, Tryz.ntmps98
  go_wp2_with (go_at_call 127; refine (printable_any _ _).mono ?_; rintro e w1 ⟨rfl, rfl⟩)
  case' _ => skip
  · go_ret; exact ⟨by rw [wr_q (.inl (by omega))]; exact congrArg _ (congrArg _ (app1 [92] s HS.out h0)), 0, rfl⟩
  · go_ret; exact ⟨by rw [wr_q (by simp at *; omega)]; exact congrArg _ (congrArg _ (app1 [92] s HS.out h0)), 0, rfl⟩
  · go_ret; exact ⟨by rw [nat_u8 (c := s[0]) (n := 10) (by simp at *; omega) (by omega)]; rfl, 0, rfl⟩
  · go_ret; exact ⟨by rw [nat_u8 (c := s[0]) (n := 9) (by simp at *; omega) (by omega)]; rfl, 0, rfl⟩
  · go_ret; exact ⟨by rw [nat_u8 (c := s[0]) (n := 13) (by simp at *; omega) (by omega)]; rfl, 0, rfl⟩
  · go_quiet (fail)
    go_wp2_with fail
    go_ret
    exact ⟨by rw [wr_x (by simp at *; omega) (by simp at *; omega) (by simp at *; omega) (by simp at *; omega), ← HD1.out, ← HD2.out, hex_two d1 d2 l1 l2]; rfl, nq, rfl⟩
  · go_ret; exact ⟨by rw [wr_c (by simp at *; omega) (by simp at *; omega) (by simp at *; omega)]; exact congrArg _ (congrArg _ (one_byte s HS.out h0)), 0, rfl⟩
end Go.Proofs.YthlcdimofagmfaaGreatDoor.Qt
