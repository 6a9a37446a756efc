/-
  The order of versions is total; blocks with versions. No condition.
-/
import Derived.Test.YtmmghdicjpfdoaaGreatDoorV1
namespace Go.Proofs.YtmmghdicjpfdoaaGreatDoor
open Go.RowKit
set_option linter.unusedSimpArgs false
set_option linter.unnecessarySimpa false
set_option linter.unusedVariables false
theorem cmpI_cases (a b : Int) : (a < b ∧ cmpI a b = -1) ∨ (a = b ∧ cmpI a b = 0) ∨ (b < a ∧ cmpI a b = 1) := by
  unfold cmpI
  rcases Int.lt_trichotomy a b with h | h | h
  · exact .inl ⟨h, by rw [if_pos h]⟩
  · exact .inr (.inl ⟨h, by rw [if_neg (by omega), if_neg (by omega)]⟩)
  · exact .inr (.inr ⟨h, by rw [if_neg (by omega), if_pos h]⟩)
/-- a before b, in the order of versions -/
def ltV (a0 a1 a2 b0 b1 b2 : Int) : Prop := a0 < b0 ∨ (a0 = b0 ∧ (a1 < b1 ∨ (a1 = b1 ∧ a2 < b2)))
theorem cmp3_cases (a0 a1 a2 b0 b1 b2 : Int) :
    (ltV a0 a1 a2 b0 b1 b2 ∧ cmp3 a0 a1 a2 b0 b1 b2 = -1) ∨ ((a0 = b0 ∧ a1 = b1 ∧ a2 = b2) ∧ cmp3 a0 a1 a2 b0 b1 b2 = 0) ∨ (ltV b0 b1 b2 a0 a1 a2 ∧ cmp3 a0 a1 a2 b0 b1 b2 = 1) := by
  unfold cmp3 ltV
  rcases cmpI_cases a0 b0 with ⟨h, e⟩ | ⟨h, e⟩ | ⟨h, e⟩ <;> rw [e]
  · left; exact ⟨.inl h, by simp⟩
  · rcases cmpI_cases a1 b1 with ⟨h1, e1⟩ | ⟨h1, e1⟩ | ⟨h1, e1⟩ <;> rw [e1]
    · left; exact ⟨by omega, by simp⟩
    · rcases cmpI_cases a2 b2 with ⟨h2, e2⟩ | ⟨h2, e2⟩ | ⟨h2, e2⟩ <;> rw [e2]
      · left; exact ⟨by omega, by simp⟩
      · right; left; exact ⟨⟨h, h1, h2⟩, by simp⟩
      · right; right; exact ⟨by omega, by simp⟩
    · right; right; exact ⟨by omega, by simp⟩
  · right; right; exact ⟨.inl h, by simp⟩
theorem cmp3_anti (a0 a1 a2 b0 b1 b2 : Int) : cmp3 b0 b1 b2 a0 a1 a2 = - cmp3 a0 a1 a2 b0 b1 b2 := by
  rcases cmp3_cases a0 a1 a2 b0 b1 b2 with ⟨h, e⟩ | ⟨h, e⟩ | ⟨h, e⟩ <;> rcases cmp3_cases b0 b1 b2 a0 a1 a2 with ⟨h', e'⟩ | ⟨h', e'⟩ | ⟨h', e'⟩ <;> rw [e, e'] <;> first | (simp; done) | omega | (unfold ltV at *; omega)
theorem cmp3_trans {a0 a1 a2 b0 b1 b2 c0 c1 c2 n m : Int} (h1 : cmp3 a0 a1 a2 b0 b1 b2 = n) (h2 : cmp3 b0 b1 b2 c0 c1 c2 = m) (hn : n ≤ 0) (hm : m ≤ 0) :
    cmp3 a0 a1 a2 c0 c1 c2 = if n = 0 ∧ m = 0 then 0 else -1 := by
  rcases cmp3_cases a0 a1 a2 b0 b1 b2 with ⟨h, e⟩ | ⟨h, e⟩ | ⟨h, e⟩ <;> rcases cmp3_cases b0 b1 b2 c0 c1 c2 with ⟨h', e'⟩ | ⟨h', e'⟩ | ⟨h', e'⟩ <;> rcases cmp3_cases a0 a1 a2 c0 c1 c2 with ⟨h'', e''⟩ | ⟨h'', e''⟩ | ⟨h'', e''⟩ <;> rw [e] at h1 <;> rw [e'] at h2 <;> subst h1 h2 <;> rw [e''] <;> first | (simp; done) | omega | (unfold ltV at *; omega)
theorem eqV (a b c a' b' c' : Int) (w : World) : (Op.equalIn 10000 23 (vv a b c) (vv a' b' c')).run Tryz.prog w = .ok (a == a' && (b == b' && c == c')) w := by
  unfold vv
  go_simp
  by_cases h0 : a = a' <;> by_cases h1 : b = b' <;> by_cases h2 : c = c' <;> simp [h0, h1, h2]
/-- three versions in their blocks, in a world behind w0 -/
abbrev C3 (w : World) (p : Nat) (a b c : Int) : Prop :=
  w.cell? ⟨p, 0, none⟩ = some (.int .i64 a) ∧ w.cell? ⟨p, 1, none⟩ = some (.int .i64 b) ∧ w.cell? ⟨p, 2, none⟩ = some (.int .i64 c)
theorem C3.keep {w w' : World} {p : Nat} {a b c : Int} (h : C3 w p a b c) (hb : Below w.heap.size w w') : C3 w' p a b c := ⟨cell_keep h.1 hb, cell_keep h.2.1 hb, cell_keep h.2.2 hb⟩
theorem Row3.c3 {w : World} {g : Nat} {a b c : Int} (h : Row3 w g a b c) : C3 w g a b c := ⟨h.c0, h.c1, h.c2⟩
abbrev I3 (w0 : World) (p q r : Nat) (a b c a' b' c' a'' b'' c'' : Int) (w : World) : Prop := Below w0.heap.size w0 w ∧ C3 w p a b c ∧ C3 w q a' b' c' ∧ C3 w r a'' b'' c''
abbrev I2 (w0 : World) (p q : Nat) (a b c a' b' c' : Int) (w : World) : Prop := Below w0.heap.size w0 w ∧ C3 w p a b c ∧ C3 w q a' b' c'
theorem I3.keep {w0 w w' : World} {p q r : Nat} {a b c a' b' c' a'' b'' c'' : Int} (h : I3 w0 p q r a b c a' b' c' a'' b'' c'' w) (hb : Below w.heap.size w w') : I3 w0 p q r a b c a' b' c' a'' b'' c'' w' :=
  ⟨h.1.trans (hb.mono h.1.size), C3.keep h.2.1 hb, C3.keep h.2.2.1 hb, C3.keep h.2.2.2 hb⟩
theorem I2.keep {w0 w w' : World} {p q : Nat} {a b c a' b' c' : Int} (h : I2 w0 p q a b c a' b' c' w) (hb : Below w.heap.size w w') : I2 w0 p q a b c a' b' c' w' :=
  ⟨h.1.trans (hb.mono h.1.size), C3.keep h.2.1 hb, C3.keep h.2.2 hb⟩
theorem mx3 {w0 w : World} (hM : Mx w0) {p q r : Nat} {a b c a' b' c' a'' b'' c'' : Int} (h : I3 w0 p q r a b c a' b' c' a'' b'' c'' w) : Mx w := hM.keep h.1 hM.1
theorem mx2 {w0 w : World} (hM : Mx w0) {p q : Nat} {a b c a' b' c' : Int} (h : I2 w0 p q a b c a' b' c' w) : Mx w := hM.keep h.1 hM.1
theorem of3 {w w0 w' : World} (hb : Below w.heap.size w w0) {p q r : Nat} {a b c a' b' c' a'' b'' c'' : Int} (h : I3 w0 p q r a b c a' b' c' a'' b'' c'' w') : Below w.heap.size w w' := hb.trans (h.1.mono hb.size)
theorem of2 {w w0 w' : World} (hb : Below w.heap.size w w0) {p q : Nat} {a b c a' b' c' : Int} (h : I2 w0 p q a b c a' b' c' w') : Below w.heap.size w w' := hb.trans (h.1.mono hb.size)
theorem compare_at {a b c a' b' c' : Int} (n : Int) (h : cmp3 a b c a' b' c' = n) (w : World) :
    Calls Tryz.prog 55 #[vv a b c, vv a' b' c'] w fun e w' => e = .returned (.int .i64 n) ∧ Below w.heap.size w w' := by
  have := compare_any a b c a' b' c' w; rw [h] at this; exact this
abbrev vblk (a b c : Int) : Obj := .cells #[.int .i64 a, .int .i64 b, .int .i64 c] 23
end Go.Proofs.YtmmghdicjpfdoaaGreatDoor
