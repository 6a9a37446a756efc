/-
  Versions: the result of an array of numbers, whether one is valid, rows of three numbers. No condition.
-/
import Derived.Test.YthlcdimofagmfaaGreatDoorAB
import Derived.Laws.StructEq
import Derived.Test.YthlcdimofagmfaaGreatDoorShelf
import Derived.Laws.IdiomStrings
import Derived.Lib.Hide
import Derived.Lib.ItoaNum
import Derived.Lib.ItoaLen
namespace Go.Proofs.YthlcdimofagmfaaGreatDoor
open Go.RowKit
set_option linter.unusedSimpArgs false
set_option linter.unnecessarySimpa false
set_option linter.unusedVariables false
theorem valid_at (a b c : Int) (v : Bool) (h : okV a b c = v) (w : World) :
    Calls Tryz.prog 80 #[vv a b c] w fun e w' => e = .returned (.bool v) ∧ Below w.heap.size w w' := by
  have := valid_any a b c w; rw [h] at this; exact this
/-- three cells of a version in a block -/
structure Row3 (w : World) (g : Nat) (a b c : Int) : Prop where
  size : g < w.heap.size
  c0 : w.cell? ⟨g, 0, none⟩ = some (.int .i64 a)
  c1 : w.cell? ⟨g, 1, none⟩ = some (.int .i64 b)
  c2 : w.cell? ⟨g, 2, none⟩ = some (.int .i64 c)
  f0 : w.frozen? ⟨g, 0, none⟩ = false
  f1 : w.frozen? ⟨g, 1, none⟩ = false
  f2 : w.frozen? ⟨g, 2, none⟩ = false
theorem Row3.below {w w' : World} {g N : Nat} {a b c : Int} (h : Row3 w g a b c) (hb : Below N w w') (hn : g < N) : Row3 w' g a b c :=
  ⟨Nat.lt_of_lt_of_le h.size hb.size, by rw [hb.cell hn]; exact h.c0, by rw [hb.cell hn]; exact h.c1, by rw [hb.cell hn]; exact h.c2,
    by rw [hb.frozen hn]; exact h.f0, by rw [hb.frozen hn]; exact h.f1, by rw [hb.frozen hn]; exact h.f2⟩
theorem Row3.keep {w w' : World} {g : Nat} {a b c : Int} (h : Row3 w g a b c) (hb : Below w.heap.size w w') : Row3 w' g a b c := h.below hb h.size
theorem Row3.new (w : World) (a b c : Int) (T : TypeId) (n : Nat) (hn : n = w.heap.size) : Row3 (w.alloc (.cells #[.int .i64 a, .int .i64 b, .int .i64 c] T)) n a b c := by
  subst hn
  refine ⟨by simp, ?_, ?_, ?_, ?_, ?_, ?_⟩ <;> (go_simp; done)
theorem Row3.alloc {w : World} {g : Nat} {a b c : Int} (h : Row3 w g a b c) (o : Obj) : Row3 (w.alloc o) g a b c :=
  h.keep ((Below.refl _ _).alloc (Nat.le_refl _) o)
/-- a version in a block, in a world behind w0 -/
abbrev S1 (w0 : World) (p : Nat) (a b c : Int) (w : World) : Prop :=
  Below w0.heap.size w0 w ∧ w.cell? ⟨p, 0, none⟩ = some (.int .i64 a) ∧ w.cell? ⟨p, 1, none⟩ = some (.int .i64 b) ∧ w.cell? ⟨p, 2, none⟩ = some (.int .i64 c)
theorem keep1 {w0 w w' : World} {p : Nat} {a b c : Int} (h : S1 w0 p a b c w) (hb : Below w.heap.size w w') : S1 w0 p a b c w' :=
  ⟨h.1.trans (hb.mono h.1.size), cell_keep h.2.1 hb, cell_keep h.2.2.1 hb, cell_keep h.2.2.2 hb⟩
theorem below1 {w0 w : World} {p : Nat} {a b c : Int} (h : S1 w0 p a b c w) : Below w0.heap.size w0 w := h.1
/-- internal/bytealg.MaxLen holds some number -/
def Mx (w : World) : Prop := 0 < w.heap.size ∧ ∃ m : Int, w.cell? ⟨0, 0, none⟩ = some (.int .i64 m)
theorem Mx.keep {w w' : World} {N : Nat} (h : Mx w) (hb : Below N w w') (hN : 0 < N) : Mx w' :=
  ⟨Nat.lt_of_lt_of_le h.1 hb.size, h.2.elim fun m hm => ⟨m, by rw [hb.cell hN]; exact hm⟩⟩
theorem cso {w : World} {a b : Addr} (v : Value) (h : a ≠ b) : (w.setCell a v).cell? b = w.cell? b := by
  apply World.cell?_setCell_other; exact h
theorem Row3.set_other {w : World} {g b i : Nat} {x0 x1 x2 : Int} (h : Row3 w g x0 x1 x2) (v : Value) (hb : b ≠ g) : Row3 (w.setCell ⟨b, i, none⟩ v) g x0 x1 x2 := by
  have e : ∀ j, (⟨b, i, none⟩ : Addr) ≠ ⟨g, j, none⟩ := fun j k => hb (by injection k)
  refine ⟨by simpa using h.size, ?_, ?_, ?_, ?_, ?_, ?_⟩
  · rw [cso v (e _)]; exact h.c0
  · rw [cso v (e _)]; exact h.c1
  · rw [cso v (e _)]; exact h.c2
  · rw [World.frozen?_setCell]; exact h.f0
  · rw [World.frozen?_setCell]; exact h.f1
  · rw [World.frozen?_setCell]; exact h.f2
theorem Row3.set0 {w : World} {g : Nat} {x0 x1 x2 : Int} (h : Row3 w g x0 x1 x2) (v : Int) : Row3 (w.setCell ⟨g, 0, none⟩ (.int .i64 v)) g v x1 x2 := by
  obtain ⟨z, c0, c1, c2, f0, f1, f2⟩ := h
  refine ⟨by simpa using z, ?_, ?_, ?_, ?_, ?_, ?_⟩ <;> (go_simp; done)
theorem Row3.set1 {w : World} {g : Nat} {x0 x1 x2 : Int} (h : Row3 w g x0 x1 x2) (v : Int) : Row3 (w.setCell ⟨g, 1, none⟩ (.int .i64 v)) g x0 v x2 := by
  obtain ⟨z, c0, c1, c2, f0, f1, f2⟩ := h
  refine ⟨by simpa using z, ?_, ?_, ?_, ?_, ?_, ?_⟩ <;> (go_simp; done)
theorem Row3.set2 {w : World} {g : Nat} {x0 x1 x2 : Int} (h : Row3 w g x0 x1 x2) (v : Int) : Row3 (w.setCell ⟨g, 2, none⟩ (.int .i64 v)) g x0 x1 v := by
  obtain ⟨z, c0, c1, c2, f0, f1, f2⟩ := h
  refine ⟨by simpa using z, ?_, ?_, ?_, ?_, ?_, ?_⟩ <;> (go_simp; done)
end Go.Proofs.YthlcdimofagmfaaGreatDoor
namespace Go.Proofs.YthlcdimofagmfaaGreatDoor
open Go.RowKit
set_option linter.unusedSimpArgs false
set_option linter.unnecessarySimpa false
set_option linter.unusedVariables false
theorem cmpI_cases (a b : Int) : (a < b ∧ cmpI a b = -1) ∨ (a = b ∧ cmpI a b = 0) ∨ (b < a ∧ cmpI a b = 1) := by
  unfold cmpI
  rcases Int.lt_trichotomy a b with h | h | h
  · exact .inl ⟨h, by rw [if_pos h]⟩
  · exact .inr (.inl ⟨h, by rw [if_neg (by omega), if_neg (by omega)]⟩)
  · exact .inr (.inr ⟨h, by rw [if_neg (by omega), if_pos h]⟩)
/-- a before b, in the order of versions -/
def ltV (a0 a1 a2 b0 b1 b2 : Int) : Prop := a0 < b0 ∨ (a0 = b0 ∧ (a1 < b1 ∨ (a1 = b1 ∧ a2 < b2)))
theorem cmp3_cases (a0 a1 a2 b0 b1 b2 : Int) :
    (ltV a0 a1 a2 b0 b1 b2 ∧ cmp3 a0 a1 a2 b0 b1 b2 = -1) ∨ ((a0 = b0 ∧ a1 = b1 ∧ a2 = b2) ∧ cmp3 a0 a1 a2 b0 b1 b2 = 0) ∨ (ltV b0 b1 b2 a0 a1 a2 ∧ cmp3 a0 a1 a2 b0 b1 b2 = 1) := by
  unfold cmp3 ltV
  rcases cmpI_cases a0 b0 with ⟨h, e⟩ | ⟨h, e⟩ | ⟨h, e⟩ <;> rw [e]
  · left; exact ⟨.inl h, by simp⟩
  · rcases cmpI_cases a1 b1 with ⟨h1, e1⟩ | ⟨h1, e1⟩ | ⟨h1, e1⟩ <;> rw [e1]
    · left; exact ⟨by omega, by simp⟩
    · rcases cmpI_cases a2 b2 with ⟨h2, e2⟩ | ⟨h2, e2⟩ | ⟨h2, e2⟩ <;> rw [e2]
      · left; exact ⟨by omega, by simp⟩
      · right; left; exact ⟨⟨h, h1, h2⟩, by simp⟩
      · right; right; exact ⟨by omega, by simp⟩
    · right; right; exact ⟨by omega, by simp⟩
  · right; right; exact ⟨.inl h, by simp⟩
theorem cmp3_anti (a0 a1 a2 b0 b1 b2 : Int) : cmp3 b0 b1 b2 a0 a1 a2 = - cmp3 a0 a1 a2 b0 b1 b2 := by
  rcases cmp3_cases a0 a1 a2 b0 b1 b2 with ⟨h, e⟩ | ⟨h, e⟩ | ⟨h, e⟩ <;> rcases cmp3_cases b0 b1 b2 a0 a1 a2 with ⟨h', e'⟩ | ⟨h', e'⟩ | ⟨h', e'⟩ <;> rw [e, e'] <;> first | (simp; done) | omega | (unfold ltV at *; omega)
theorem cmp3_trans {a0 a1 a2 b0 b1 b2 c0 c1 c2 n m : Int} (h1 : cmp3 a0 a1 a2 b0 b1 b2 = n) (h2 : cmp3 b0 b1 b2 c0 c1 c2 = m) (hn : n ≤ 0) (hm : m ≤ 0) :
    cmp3 a0 a1 a2 c0 c1 c2 = if n = 0 ∧ m = 0 then 0 else -1 := by
  rcases cmp3_cases a0 a1 a2 b0 b1 b2 with ⟨h, e⟩ | ⟨h, e⟩ | ⟨h, e⟩ <;> rcases cmp3_cases b0 b1 b2 c0 c1 c2 with ⟨h', e'⟩ | ⟨h', e'⟩ | ⟨h', e'⟩ <;> rcases cmp3_cases a0 a1 a2 c0 c1 c2 with ⟨h'', e''⟩ | ⟨h'', e''⟩ | ⟨h'', e''⟩ <;> rw [e] at h1 <;> rw [e'] at h2 <;> subst h1 h2 <;> rw [e''] <;> first | (simp; done) | omega | (unfold ltV at *; omega)
theorem eqV (a b c a' b' c' : Int) (w : World) : (Op.equalIn 10000 32 (vv a b c) (vv a' b' c')).run Tryz.prog w = .ok (a == a' && (b == b' && c == c')) w := by
  unfold vv
  go_simp
  by_cases h0 : a = a' <;> by_cases h1 : b = b' <;> by_cases h2 : c = c' <;> simp [h0, h1, h2]
/-- three versions in their blocks, in a world behind w0 -/
abbrev C3 (w : World) (p : Nat) (a b c : Int) : Prop :=
  w.cell? ⟨p, 0, none⟩ = some (.int .i64 a) ∧ w.cell? ⟨p, 1, none⟩ = some (.int .i64 b) ∧ w.cell? ⟨p, 2, none⟩ = some (.int .i64 c)
theorem C3.keep {w w' : World} {p : Nat} {a b c : Int} (h : C3 w p a b c) (hb : Below w.heap.size w w') : C3 w' p a b c := ⟨cell_keep h.1 hb, cell_keep h.2.1 hb, cell_keep h.2.2 hb⟩
theorem Row3.c3 {w : World} {g : Nat} {a b c : Int} (h : Row3 w g a b c) : C3 w g a b c := ⟨h.c0, h.c1, h.c2⟩
abbrev I3 (w0 : World) (p q r : Nat) (a b c a' b' c' a'' b'' c'' : Int) (w : World) : Prop := Below w0.heap.size w0 w ∧ C3 w p a b c ∧ C3 w q a' b' c' ∧ C3 w r a'' b'' c''
abbrev I2 (w0 : World) (p q : Nat) (a b c a' b' c' : Int) (w : World) : Prop := Below w0.heap.size w0 w ∧ C3 w p a b c ∧ C3 w q a' b' c'
theorem I3.keep {w0 w w' : World} {p q r : Nat} {a b c a' b' c' a'' b'' c'' : Int} (h : I3 w0 p q r a b c a' b' c' a'' b'' c'' w) (hb : Below w.heap.size w w') : I3 w0 p q r a b c a' b' c' a'' b'' c'' w' :=
  ⟨h.1.trans (hb.mono h.1.size), C3.keep h.2.1 hb, C3.keep h.2.2.1 hb, C3.keep h.2.2.2 hb⟩
theorem I2.keep {w0 w w' : World} {p q : Nat} {a b c a' b' c' : Int} (h : I2 w0 p q a b c a' b' c' w) (hb : Below w.heap.size w w') : I2 w0 p q a b c a' b' c' w' :=
  ⟨h.1.trans (hb.mono h.1.size), C3.keep h.2.1 hb, C3.keep h.2.2 hb⟩
theorem mx3 {w0 w : World} (hM : Mx w0) {p q r : Nat} {a b c a' b' c' a'' b'' c'' : Int} (h : I3 w0 p q r a b c a' b' c' a'' b'' c'' w) : Mx w := hM.keep h.1 hM.1
theorem mx2 {w0 w : World} (hM : Mx w0) {p q : Nat} {a b c a' b' c' : Int} (h : I2 w0 p q a b c a' b' c' w) : Mx w := hM.keep h.1 hM.1
theorem of3 {w w0 w' : World} (hb : Below w.heap.size w w0) {p q r : Nat} {a b c a' b' c' a'' b'' c'' : Int} (h : I3 w0 p q r a b c a' b' c' a'' b'' c'' w') : Below w.heap.size w w' := hb.trans (h.1.mono hb.size)
theorem of2 {w w0 w' : World} (hb : Below w.heap.size w w0) {p q : Nat} {a b c a' b' c' : Int} (h : I2 w0 p q a b c a' b' c' w') : Below w.heap.size w w' := hb.trans (h.1.mono hb.size)
theorem compare_at {a b c a' b' c' : Int} (n : Int) (h : cmp3 a b c a' b' c' = n) (w : World) :
    Calls Tryz.prog 44 #[vv a b c, vv a' b' c'] w fun e w' => e = .returned (.int .i64 n) ∧ Below w.heap.size w w' := by
  have := compare_any a b c a' b' c' w; rw [h] at this; exact this
abbrev vblk (a b c : Int) : Obj := .cells #[.int .i64 a, .int .i64 b, .int .i64 c] 32
end Go.Proofs.YthlcdimofagmfaaGreatDoor
namespace Go.Proofs.YthlcdimofagmfaaGreatDoor
open Go.RowKit
set_option linter.unusedSimpArgs false
set_option linter.unnecessarySimpa false
set_option linter.unusedVariables false
set_option maxHeartbeats 1000000 in
theorem number_any (n : Int) (w : World) : Calls Tryz.prog 111 #[.int .i64 n] w fun e w' => e = .returned (.bool (okN n)) ∧ w = w' := by
  by_cases l : n < 0
  · have HV := Lib.hid (okN_lo l)
    have l' : ¬ 0 ≤ n := by omega
    go_enter Tryz.func111, Tryz.ntmps111
    go_wp2
    go_ret
    exact ⟨by rw [HV.out]; rfl, rfl⟩
  · have l' : 0 ≤ n := by omega
    by_cases u : 9999 < n
    · have HV := Lib.hid (okN_hi u)
      have u' : ¬ n ≤ 9999 := by omega
      go_enter Tryz.func111, Tryz.ntmps111
      go_wp2
      go_ret
      exact ⟨by rw [HV.out]; rfl, rfl⟩
    · have HV := Lib.hid (okN_yes l u)
      have u' : n ≤ 9999 := by omega
      go_enter Tryz.func111, Tryz.ntmps111
      go_wp2
      go_ret
      exact ⟨by rw [HV.out]; rfl, rfl⟩
theorem number_at (n : Int) (v : Bool) (h : okN n = v) (w : World) : Calls Tryz.prog 111 #[.int .i64 n] w fun e w' => e = .returned (.bool v) ∧ w = w' := by
  have := number_any n w; rw [h] at this; exact this
set_option maxHeartbeats 1000000 in
theorem one_any (a b : Int) (w : World) : Calls Tryz.prog 135 #[.int .i64 a, .int .i64 b] w fun e w' => e = .returned (.int .i64 (cmpI a b)) ∧ w = w' := by
  by_cases h1 : a < b
  · rw [cmp_lt h1]
    go_enter Tryz.func135, Tryz.ntmps135
    go_wp2
    go_ret
    exact ⟨rfl, rfl⟩
  · by_cases h2 : b < a
    · rw [cmp_gt h2]
      go_enter Tryz.func135, Tryz.ntmps135
      go_wp2
      go_ret
      exact ⟨rfl, rfl⟩
    · rw [cmp_eq (by omega)]
      go_enter Tryz.func135, Tryz.ntmps135
      go_wp2
      go_ret
      exact ⟨rfl, rfl⟩
set_option maxRecDepth 100000 in
set_option maxHeartbeats 2000000 in
theorem rvalid_any (a b c : Int) (w : World) : Calls Tryz.prog 69 #[vv a b c] w fun e w' => e = .returned (.bool (okV a b c)) ∧ Below w.heap.size w w' := by
  unfold vv
  cases ha : okN a
  · have Ha := Lib.hid ha
    have HV : Hid (okV a b c = false) := by show okV a b c = _; unfold okV; rw [ha]; rfl
    clear ha
    go_enter Tryz.func69, Tryz.ntmps69
    go_wp2_with fail
    refine (number_at a false Ha.out _).mono ?_
    rintro e w1 ⟨rfl, rfl⟩
    go_wp2_with fail
    go_ret
    exact ⟨by rw [HV.out]; rfl, (Below.refl _ _).alloc (Nat.le_refl _) _⟩
  · have Ha := Lib.hid ha
    cases hb : okN b
    · have Hb := Lib.hid hb
      have HV : Hid (okV a b c = false) := by show okV a b c = _; unfold okV; rw [ha, hb]; rfl
      clear ha hb
      go_enter Tryz.func69, Tryz.ntmps69
      go_wp2_with fail
      refine (number_at a true Ha.out _).mono ?_
      rintro e w1 ⟨rfl, rfl⟩
      go_wp2_with fail
      refine (number_at b false Hb.out _).mono ?_
      rintro e w1 ⟨rfl, rfl⟩
      go_wp2_with fail
      go_ret
      exact ⟨by rw [HV.out]; rfl, (Below.refl _ _).alloc (Nat.le_refl _) _⟩
    · have Hb := Lib.hid hb
      cases hc : okN c
      · have Hc := Lib.hid hc
        have HV : Hid (okV a b c = false) := by show okV a b c = _; unfold okV; rw [ha, hb, hc]; rfl
        clear ha hb hc
        go_enter Tryz.func69, Tryz.ntmps69
        go_wp2_with fail
        refine (number_at a true Ha.out _).mono ?_
        rintro e w1 ⟨rfl, rfl⟩
        go_wp2_with fail
        refine (number_at b true Hb.out _).mono ?_
        rintro e w1 ⟨rfl, rfl⟩
        go_wp2_with fail
        refine (number_at c false Hc.out _).mono ?_
        rintro e w1 ⟨rfl, rfl⟩
        go_wp2_with fail
        go_ret
        exact ⟨by rw [HV.out]; rfl, (Below.refl _ _).alloc (Nat.le_refl _) _⟩
      · have Hc := Lib.hid hc
        have HV : Hid (okV a b c = true) := by show okV a b c = _; unfold okV; rw [ha, hb, hc]; rfl
        clear ha hb hc
        go_enter Tryz.func69, Tryz.ntmps69
        go_wp2_with fail
        refine (number_at a true Ha.out _).mono ?_
        rintro e w1 ⟨rfl, rfl⟩
        go_wp2_with fail
        refine (number_at b true Hb.out _).mono ?_
        rintro e w1 ⟨rfl, rfl⟩
        go_wp2_with fail
        refine (number_at c true Hc.out _).mono ?_
        rintro e w1 ⟨rfl, rfl⟩
        go_wp2_with fail
        go_ret
        exact ⟨by rw [HV.out]; rfl, (Below.refl _ _).alloc (Nat.le_refl _) _⟩
theorem rvalid_at (a b c : Int) (v : Bool) (h : okV a b c = v) (w : World) :
    Calls Tryz.prog 69 #[vv a b c] w fun e w' => e = .returned (.bool v) ∧ Below w.heap.size w w' := by
  have := rvalid_any a b c w; rw [h] at this; exact this
set_option maxRecDepth 100000 in
set_option maxHeartbeats 2000000 in
theorem rcompare_any (a b c a' b' c' : Int) (w : World) :
    Calls Tryz.prog 110 #[vv a b c, vv a' b' c'] w fun e w' => e = .returned (.int .i64 (cmp3 a b c a' b' c')) ∧ Below w.heap.size w w' := by
  have hB : Below w.heap.size w ((w.alloc (vblk a b c)).alloc (vblk a' b' c')) := ((Below.refl _ _).alloc (Nat.le_refl _) _).alloc (by simp) _
  unfold vblk at hB
  have HB := Lib.hid hB
  clear hB
  unfold vv
  by_cases h0 : a = a'
  · have f0 : (a != a') = false := by simp [h0]
    have E0 : cmpI a a' = 0 := cmp_eq h0
    by_cases h1 : b = b'
    · have f1 : (b != b') = false := by simp [h1]
      have E1 : cmpI b b' = 0 := cmp_eq h1
      have HV : Hid (cmp3 a b c a' b' c' = cmpI c c') := by show cmp3 a b c a' b' c' = _; unfold cmp3; rw [if_neg (by simp [E0]), if_neg (by simp [E1])]
      clear h0 h1 E0 E1
      go_enter Tryz.func110, Tryz.ntmps110
      go_wp2_with fail
      refine (one_any _ _ _).mono ?_
      rintro e w1 ⟨rfl, rfl⟩
      go_wp2_with fail
      go_ret
      exact ⟨by rw [HV.out]; rfl, HB.out⟩
    · have f1 : (b != b') = true := by simp [h1]
      have E1 : cmpI b b' ≠ 0 := by rcases cmpI_cases b b' with ⟨_, e⟩ | ⟨h, e⟩ | ⟨_, e⟩ <;> omega
      have HV : Hid (cmp3 a b c a' b' c' = cmpI b b') := by show cmp3 a b c a' b' c' = _; unfold cmp3; rw [if_neg (by simp [E0]), if_pos E1]
      clear h0 h1 E0 E1
      go_enter Tryz.func110, Tryz.ntmps110
      go_wp2_with fail
      refine (one_any _ _ _).mono ?_
      rintro e w1 ⟨rfl, rfl⟩
      go_wp2_with fail
      go_ret
      exact ⟨by rw [HV.out]; rfl, HB.out⟩
  · have f0 : (a != a') = true := by simp [h0]
    have E0 : cmpI a a' ≠ 0 := by rcases cmpI_cases a a' with ⟨_, e⟩ | ⟨h, e⟩ | ⟨_, e⟩ <;> omega
    have HV : Hid (cmp3 a b c a' b' c' = cmpI a a') := by show cmp3 a b c a' b' c' = _; unfold cmp3; rw [if_pos E0]
    clear h0 E0
    go_enter Tryz.func110, Tryz.ntmps110
    go_wp2_with fail
    refine (one_any _ _ _).mono ?_
    rintro e w1 ⟨rfl, rfl⟩
    go_wp2_with fail
    go_ret
    exact ⟨by rw [HV.out]; rfl, HB.out⟩
theorem rcompare_at {a b c a' b' c' : Int} (n : Int) (h : cmp3 a b c a' b' c' = n) (w : World) :
    Calls Tryz.prog 110 #[vv a b c, vv a' b' c'] w fun e w' => e = .returned (.int .i64 n) ∧ Below w.heap.size w w' := by
  have := rcompare_any a b c a' b' c' w; rw [h] at this; exact this
end Go.Proofs.YthlcdimofagmfaaGreatDoor
namespace Go.Proofs.YthlcdimofagmfaaGreatDoor
open Go.RowKit
set_option linter.unusedSimpArgs false
set_option linter.unnecessarySimpa false
set_option linter.unusedVariables false
/-
  The statements' own decimal numerals ('digits', 'Digits'). The number at most 1000000.
-/
def noText : Value → Nat
  | .string s => if s.size = 0 then 1 else 0
  | _ => 0
def DInv (n m : Nat) (t : List UInt8) : Prop := (t = [] ∧ m = n) ∨ (t ≠ [] ∧ 0 < m ∧ Lib.decDigits m ++ t = Lib.decDigits n) ∨ (t ≠ [] ∧ m = 0 ∧ t = Lib.decDigits n)
theorem dec_more {m : Nat} (h : ¬ m < 10) : Lib.decDigits m = Lib.decDigits (m / 10) ++ [UInt8.ofNat (48 + m % 10)] := by
  rw [Lib.decDigits, dif_neg h]
theorem dinv_step {n m : Nat} {t : List UInt8} (h : DInv n m t) (hgo : 0 < m ∨ t = []) : DInv n (m / 10) ([UInt8.ofNat (48 + m % 10)] ++ t) := by
  rcases h with ⟨rfl, rfl⟩ | ⟨h1, h2, h3⟩ | ⟨h1, rfl, h3⟩
  · by_cases hm : m < 10
    · right; right
      exact ⟨by simp, by omega, by rw [Lib.decDigits_one hm, Nat.mod_eq_of_lt hm]; rfl⟩
    · right; left
      exact ⟨by simp, by omega, by rw [dec_more hm]; simp⟩
  · by_cases hm : m < 10
    · right; right
      refine ⟨by simp, by omega, ?_⟩
      rw [← h3, Lib.decDigits_one hm, Nat.mod_eq_of_lt hm]
    · right; left
      refine ⟨by simp, by omega, ?_⟩
      rw [← h3, dec_more hm]; simp
  · rcases hgo with h | h
    · omega
    · exact absurd h h1
theorem dinv_end {n m : Nat} {t : List UInt8} (h : DInv n m t) (h1 : ¬ 0 < m) (h2 : t ≠ []) : t = Lib.decDigits n := by
  rcases h with ⟨e, _⟩ | ⟨_, e, _⟩ | ⟨_, _, e⟩
  · exact absurd e h2
  · exact absurd e h1
  · exact e
theorem app_ba (a b : List UInt8) : (⟨a.toArray⟩ : ByteArray) ++ ⟨b.toArray⟩ = ⟨(a ++ b).toArray⟩ := by
  apply ByteArray.ext
  simp
set_option maxRecDepth 100000 in
set_option maxHeartbeats 2000000 in
theorem rdig_any (n : Nat) (hn : n ≤ 1000000) (w : World) :
    Calls Tryz.prog 112 #[.int .i64 (n : Int), .int .i64 1] w fun e w' => e = .returned (.string ⟨(Lib.decDigits n).toArray⟩) ∧ Below w.heap.size w w' := by
  obtain ⟨R, hR⟩ : ∃ R, R = (⟨(Lib.decDigits n).toArray⟩ : ByteArray) := ⟨_, rfl⟩
  rw [← hR]
  have HR := Lib.hid hR
  clear hR
  go_enter Tryz.func112, Tryz.ntmps112
  go_wp2_with fail
  go_loopw [0, 5] (fun i v wr => ∃ (m : Nat) (t : List UInt8), i = .int .i64 (m : Int) ∧ v = .string ⟨t.toArray⟩ ∧ m ≤ n ∧ t.length + m ≤ n + 1 ∧ Hid (DInv n m t) ∧ Below w.heap.size w wr) (fun i v _ => (intOf i).toNat + noText v)
  case atStart => exact ⟨n, [], rfl, rfl, Nat.le_refl _, by simp, Lib.hid (.inl ⟨rfl, rfl⟩), Below.refl _ _⟩
  case round =>
    obtain ⟨m, t, rfl, rfl, hm, hl, HI, hB⟩ := hrel
    have ts : (⟨t.toArray⟩ : ByteArray).size = t.length := rfl
    by_cases hgo : 0 < m ∨ t = []
    · obtain ⟨d, hd⟩ : ∃ d, d = m % 10 := ⟨_, rfl⟩
      obtain ⟨q, hq⟩ : ∃ q, q = m / 10 := ⟨_, rfl⟩
      obtain ⟨c, hcd⟩ : ∃ c, c = UInt8.ofNat (48 + d) := ⟨_, rfl⟩
      have hd9 : d < 10 := by omega
      have hc : (c.toNat : Int) = 48 + (d : Int) := by rw [hcd]; simp; omega
      have r1 : Int.tmod (m : Int) 10 = (d : Int) := by rw [hd]; rfl
      have r2 : (m : Int) % 10 = (d : Int) := by rw [hd]; rfl
      have r3 : Int.tdiv (m : Int) 10 = (q : Int) := by rw [hq]; rfl
      have r4 : (m : Int) / 10 = (q : Int) := by rw [hq]; rfl
      have r5 : IntKind.i64.wrap (48 + (d : Int)) = 48 + (d : Int) := by simp [IntKind.wrap, IntKind.bits, IntKind.signed]; omega
      have r6 : IntKind.u8.wrap (48 + (d : Int)) = 48 + (d : Int) := by simp [IntKind.wrap, IntKind.bits, IntKind.signed]; omega
      have r7 : (48 + (d : Int)) % 256 = 48 + (d : Int) := by omega
      have r8 : IntKind.i64.wrap (q : Int) = (q : Int) := by simp [IntKind.wrap, IntKind.bits, IntKind.signed]; omega
      have r9 : IntKind.i64.wrap (d : Int) = (d : Int) := by simp [IntKind.wrap, IntKind.bits, IntKind.signed]; omega
      have hbk := fun (w : World) (a : Addr) (hx : w.cell? a = some (.int .u8 (48 + (d : Int)))) => Go.run_convert_bytes_back (P := Tryz.prog) w 52 9 5 a 1 [c] Tryz.underlying52 Tryz.underlying5 Tryz.underlying9 (fun j hj => by
        obtain rfl : j = 0 := by simpa using hj
        rw [show a.add 0 = a by simp [Addr.add], hx, ← hc]; rfl)
      have hcv : ∀ w : World, (convert 52 9 (.slice (some ⟨w.heap.size, 0, none⟩) 1 1)).run Tryz.prog (w.alloc (.cells #[.int .u8 (48 + (d : Int))] 5)) = .ok (.string ⟨#[c]⟩) (w.alloc (.cells #[.int .u8 (48 + (d : Int))] 5)) := fun w => hbk _ _ (by rw [World.cell?_alloc_new]; rfl)
      have HS := Lib.hid (dinv_step HI.out hgo)
      rw [← hd, ← hq, ← hcd] at HS
      have hap : (⟨#[c]⟩ : ByteArray) ++ ⟨t.toArray⟩ = ⟨([c] ++ t).toArray⟩ := app_ba [_] t
      have HA := Lib.hid hap
      have HM := Lib.hid (show q + noText (.string ⟨([c] ++ t).toArray⟩) < m + noText (.string ⟨t.toArray⟩) by
        have e1 : noText (.string ⟨([c] ++ t).toArray⟩) = 0 := by
          show (if ([c] ++ t).toArray.size = 0 then 1 else 0) = 0
          simp
        rw [e1]
        rcases hgo with h | h
        · omega
        · subst h
          have e2 : noText (.string ⟨([] : List UInt8).toArray⟩) = 1 := rfl
          rw [e2]; omega)
      have hql : t.length + 1 + q ≤ n + 1 := by
        rcases hgo with h | h
        · omega
        · subst h; simp; omega
      have hqn : q ≤ n := by omega
      have zs : ¬ 9223372036854775807 < 1 + t.length := by omega
      clear hbk hap hc hd hq hcd
      by_cases hm0 : 0 < m
      · have HB := Lib.hid (hB.alloc hB.size (.cells #[.int .u8 (48 + (d : Int))] 5))
        clear hgo hB
        go_wp2_with fail
        go_roundw
        case rel => exact ⟨q, _, rfl, by rw [HA.out], hqn, by simp; omega, HS, HB.out⟩
        case measure => have := HM.out; rw [HA.out]; simp [intOf] at this ⊢; omega
      · have HB := Lib.hid (hB.alloc hB.size (.cells #[.int .u8 (48 + (d : Int))] 5))
        have ht : t = [] := by
          rcases hgo with h | h
          · exact absurd h hm0
          · exact h
        subst ht
        have hz1 : decide ((0 : Int) < (m : Int)) = false := by simp; omega
        have hz2 : ¬ (0 : Int) < (m : Int) := by omega
        clear hgo hB
        go_wp2_with fail
        go_roundw
        case rel => exact ⟨q, _, rfl, by rw [HA.out], hqn, by simp; omega, HS, HB.out⟩
        case measure => have := HM.out; rw [HA.out]; simp [intOf] at this ⊢; omega
    · have h1 : ¬ 0 < m := fun h => hgo (.inl h)
      have h2 : t ≠ [] := fun h => hgo (.inr h)
      have HE := Lib.hid (dinv_end HI.out h1 h2)
      obtain rfl : m = 0 := by omega
      have hl1 : 1 ≤ t.length := List.length_pos_iff.2 h2
      have hl2 : (1 : Int) ≤ ((⟨t.toArray⟩ : ByteArray).size : Int) := by rw [ts]; omega
      clear hgo h1 h2 HI
      generalize hU : (⟨t.toArray⟩ : ByteArray) = U at *
      have HU := Lib.hid hU
      clear hU
      go_wp2_with fail
      go_ret
      exact ⟨by rw [HR.out, ← HE.out, HU.out]; rfl, hB⟩
end Go.Proofs.YthlcdimofagmfaaGreatDoor
namespace Go.Proofs.YthlcdimofagmfaaGreatDoor
open Go.RowKit
set_option linter.unusedSimpArgs false
set_option linter.unnecessarySimpa false
set_option linter.unusedVariables false
/-
  The text of a version: what the program returns, where the world holds the table of powers of ten, and what the specification returns.
-/
/-- the table of powers of ten is there -/
def P10 (w : World) : Prop := Lib.TabIs Tryz.prog w "internal/strconv.uint64pow10" .u64 Lib.pow10Tab
theorem P10.keep {w w' : World} (h : P10 w) (hb : Below w.heap.size w w') : P10 w' := by
  unfold P10 Lib.TabIs World.var? at h ⊢
  cases hg : Tryz.prog.globalNamed "internal/strconv.uint64pow10" with
  | none => rw [hg] at h; cases h
  | some g =>
    rw [hg] at h
    simp only [Option.bind_some] at h ⊢
    have hlt : g < w.heap.size := by
      rcases Nat.lt_or_ge g w.heap.size with h' | h'
      · exact h'
      · rw [Array.getElem?_eq_none h'] at h; cases h
    rw [hb.block g hlt]
    exact h
theorem below_grow (w : World) (k : Nat) (os : Array Obj) : Below w.heap.size w (Go.Sort.grow (w.drewN k) os) := by
  have h0 : Below w.heap.size w (w.drewN k) := by constructor <;> first | rfl | (intros; rfl) | (intros; assumption) | exact Nat.le_refl _
  constructor <;> first
    | rfl
    | (intros; rfl)
    | (intro b hb; show (w.heap ++ os)[b]? = w.heap[b]?; rw [Array.getElem?_append_left hb])
    | (show w.heap.size ≤ (w.heap ++ os).size; simp)
def istr (n : Int) : ByteArray := ⟨(Lib.itoa n).toArray⟩
def txtS (a b c : Int) : ByteArray := (⟨#[118]⟩ : ByteArray) ++ istr a ++ ⟨#[46]⟩ ++ istr b ++ ⟨#[46]⟩ ++ istr c
def txt (a b c : Int) : ByteArray := if okV a b c = true then txtS a b c else ⟨#[63]⟩
theorem istr_size (n : Int) (h0 : 0 ≤ n) (h1 : n ≤ 9999) : (istr n).size ≤ 21 := Lib.itoa_length_le n (by omega) (by omega)
theorem itoa_tab (n : Int) (h0 : 0 ≤ n) (h1 : n ≤ 9999) (w : World) (hT : P10 w) :
    Calls Tryz.prog 120 #[.int .i64 n] w fun e w' => e = .returned (.string (istr n)) ∧ Below w.heap.size w w' :=
  (Tryz.strconv_Itoa n (by omega) (by omega) w hT).mono fun e w' ⟨he, k, os, hw⟩ => ⟨he, by rw [hw]; exact below_grow w k os⟩
set_option maxHeartbeats 1000000 in
theorem rdigits_any (n : Int) (h0 : 0 ≤ n) (h1 : n ≤ 9999) (w : World) :
    Calls Tryz.prog 70 #[.int .i64 n] w fun e w' => e = .returned (.string (istr n)) ∧ Below w.heap.size w w' := by
  obtain ⟨m, rfl⟩ := Int.eq_ofNat_of_zero_le h0
  have hd := rdig_any m (by omega) w
  have hs : istr (m : Int) = ⟨(Lib.decDigits m).toArray⟩ := by
    unfold istr Lib.itoa
    rw [if_neg (by omega)]; rfl
  rw [hs]
  have HD := Lib.hid hd
  clear hd hs h0 h1
  go_enter Tryz.func70, Tryz.ntmps70
  go_wp2_with fail
  refine HD.out.mono ?_
  rintro e w1 ⟨rfl, hb⟩
  have HB := Lib.hid hb
  clear hb
  go_wp2_with fail
  go_ret
  exact ⟨rfl, HB.out⟩
theorem okV_parts {a b c : Int} (h : okV a b c = true) : (0 ≤ a ∧ a ≤ 9999) ∧ (0 ≤ b ∧ b ≤ 9999) ∧ (0 ≤ c ∧ c ≤ 9999) := by
  simp [okV, okN] at h
  omega
/-- a version in a block, and the table -/
abbrev ST (w0 : World) (p : Nat) (a b c : Int) (w : World) : Prop :=
  Below w0.heap.size w0 w ∧ P10 w ∧ w.cell? ⟨p, 0, none⟩ = some (.int .i64 a) ∧ w.cell? ⟨p, 1, none⟩ = some (.int .i64 b) ∧ w.cell? ⟨p, 2, none⟩ = some (.int .i64 c)
theorem ST.keep {w0 w w' : World} {p : Nat} {a b c : Int} (h : ST w0 p a b c w) (hb : Below w.heap.size w w') : ST w0 p a b c w' :=
  ⟨h.1.trans (hb.mono h.1.size), P10.keep h.2.1 hb, cell_keep h.2.2.1 hb, cell_keep h.2.2.2.1 hb, cell_keep h.2.2.2.2 hb⟩
theorem ST.tab {w0 w : World} {p : Nat} {a b c : Int} (h : ST w0 p a b c w) : P10 w := h.2.1
theorem ST.below {w0 w : World} {p : Nat} {a b c : Int} (h : ST w0 p a b c w) : Below w0.heap.size w0 w := h.1
set_option maxRecDepth 100000 in
set_option maxHeartbeats 4000000 in
theorem text_ok (a b c : Int) (h : okV a b c = true) (w : World) (hT : P10 w) :
    Calls Tryz.prog 83 #[vv a b c] w fun e w' => e = .returned (.string (txtS a b c)) ∧ Below w.heap.size w w' := by
  obtain ⟨⟨a0, a1⟩, ⟨b0, b1⟩, ⟨c0, c1⟩⟩ := okV_parts h
  have CA := Lib.hid (fun w (hT : P10 w) => itoa_tab a a0 a1 w hT)
  have CB := Lib.hid (fun w (hT : P10 w) => itoa_tab b b0 b1 w hT)
  have CC := Lib.hid (fun w (hT : P10 w) => itoa_tab c c0 c1 w hT)
  have sa := istr_size a a0 a1
  have sb := istr_size b b0 b1
  have sc := istr_size c c0 c1
  unfold txtS
  generalize istr a = A at *
  generalize istr b = B at *
  generalize istr c = C at *
  have z1 : ¬ 9223372036854775807 < 1 + A.size := by omega
  have z2 : ¬ 9223372036854775807 < 1 + A.size + 1 := by omega
  have z3 : ¬ 9223372036854775807 < 1 + A.size + 1 + B.size := by omega
  have z4 : ¬ 9223372036854775807 < 1 + A.size + 1 + B.size + 1 := by omega
  have z5 : ¬ 9223372036854775807 < 1 + A.size + 1 + B.size + 1 + C.size := by omega
  have H := Lib.hid h
  have HT := Lib.hid hT
  clear h hT a0 a1 b0 b1 c0 c1
  unfold vv
  go_enter Tryz.func83, Tryz.ntmps83
  go_wp2_with fail
  refine (valid_at _ _ _ true H.out _).mono ?_
  rintro e w1 ⟨rfl, hb1⟩
  have hS : ST w w.heap.size a b c w1 := by
    have R1 : Row3 w1 w.heap.size a b c := (Row3.new w a b c 32 _ rfl).keep hb1
    have B1 := ((Below.refl w.heap.size w).alloc (Nat.le_refl _) (.cells #[.int .i64 a, .int .i64 b, .int .i64 c] 32)).trans (hb1.mono (by simp))
    exact ⟨B1, P10.keep HT.out B1, R1.c0, R1.c1, R1.c2⟩
  clear hb1
  go_wp2_with fail
  go_region_held3 (fun w' => ST w w.heap.size a b c w') (first | assumption | exact ST.keep (by assumption) ((Below.refl _ _).drew) | exact ST.keep (by assumption) (by assumption)) (first | (go_at_call 120; ((with_reducible refine (CA.out _ (ST.tab (w0 := w) (p := w.heap.size) (a := a) (b := b) (c := c) (by assumption))).mono ?_)); rintro e w' ⟨rfl, hbN⟩) | (go_at_call 120; ((with_reducible refine (CB.out _ (ST.tab (w0 := w) (p := w.heap.size) (a := a) (b := b) (c := c) (by assumption))).mono ?_)); rintro e w' ⟨rfl, hbN⟩) | (go_at_call 120; ((with_reducible refine (CC.out _ (ST.tab (w0 := w) (p := w.heap.size) (a := a) (b := b) (c := c) (by assumption))).mono ?_)); rintro e w' ⟨rfl, hbN⟩))
  all_goals (go_wp2_with fail; go_ret; exact ⟨rfl, ST.below (by assumption)⟩)
set_option maxRecDepth 100000 in
set_option maxHeartbeats 4000000 in
theorem rtext_ok (a b c : Int) (h : okV a b c = true) (w : World) :
    Calls Tryz.prog 42 #[vv a b c] w fun e w' => e = .returned (.string (txtS a b c)) ∧ Below w.heap.size w w' := by
  obtain ⟨⟨a0, a1⟩, ⟨b0, b1⟩, ⟨c0, c1⟩⟩ := okV_parts h
  have CA := Lib.hid (fun w => rdigits_any a a0 a1 w)
  have CB := Lib.hid (fun w => rdigits_any b b0 b1 w)
  have CC := Lib.hid (fun w => rdigits_any c c0 c1 w)
  have sa := istr_size a a0 a1
  have sb := istr_size b b0 b1
  have sc := istr_size c c0 c1
  unfold txtS
  generalize istr a = A at *
  generalize istr b = B at *
  generalize istr c = C at *
  have z1 : ¬ 9223372036854775807 < 1 + A.size := by omega
  have z2 : ¬ 9223372036854775807 < 1 + A.size + 1 := by omega
  have z3 : ¬ 9223372036854775807 < 1 + A.size + 1 + B.size := by omega
  have z4 : ¬ 9223372036854775807 < 1 + A.size + 1 + B.size + 1 := by omega
  have z5 : ¬ 9223372036854775807 < 1 + A.size + 1 + B.size + 1 + C.size := by omega
  have H := Lib.hid h
  clear h a0 a1 b0 b1 c0 c1
  unfold vv
  go_enter Tryz.func42, Tryz.ntmps42
  go_wp2_with fail
  refine (rvalid_at _ _ _ true H.out _).mono ?_
  rintro e w1 ⟨rfl, hb1⟩
  have hS : S1 w w.heap.size a b c w1 := by
    have R1 : Row3 w1 w.heap.size a b c := (Row3.new w a b c 32 _ rfl).keep hb1
    have B1 := ((Below.refl w.heap.size w).alloc (Nat.le_refl _) (.cells #[.int .i64 a, .int .i64 b, .int .i64 c] 32)).trans (hb1.mono (by simp))
    exact ⟨B1, R1.c0, R1.c1, R1.c2⟩
  clear hb1
  go_wp2_with fail
  go_region_held3 (fun w' => S1 w w.heap.size a b c w') (first | assumption | exact keep1 (by assumption) ((Below.refl _ _).drew) | exact keep1 (by assumption) (by assumption)) (first | (go_at_call 70; ((with_reducible refine (CA.out _).mono ?_)); rintro e w' ⟨rfl, hbN⟩) | (go_at_call 70; ((with_reducible refine (CB.out _).mono ?_)); rintro e w' ⟨rfl, hbN⟩) | (go_at_call 70; ((with_reducible refine (CC.out _).mono ?_)); rintro e w' ⟨rfl, hbN⟩))
  all_goals (go_wp2_with fail; go_ret; exact ⟨rfl, below1 (by assumption)⟩)
theorem text_at (a b c : Int) (s : ByteArray) (h : txt a b c = s) (w : World) (hT : P10 w) :
    Calls Tryz.prog 83 #[vv a b c] w fun e w' => e = .returned (.string s) ∧ Below w.heap.size w w' := by
  subst h
  unfold txt
  cases ho : okV a b c with
  | true => rw [if_pos rfl]; exact text_ok a b c ho w hT
  | false =>
    rw [if_neg (by simp)]
    have H := Lib.hid ho
    clear ho
    unfold vv
    go_enter Tryz.func83, Tryz.ntmps83
    go_wp2_with fail
    refine (valid_at _ _ _ false H.out _).mono ?_
    rintro e w1 ⟨rfl, hb1⟩
    have HB := Lib.hid (((Below.refl w.heap.size w).alloc (Nat.le_refl _) (.cells #[.int .i64 a, .int .i64 b, .int .i64 c] 32)).trans (hb1.mono (by simp)))
    clear hb1
    go_wp2_with fail
    go_ret
    exact ⟨rfl, HB.out⟩
theorem rtext_at (a b c : Int) (s : ByteArray) (h : txt a b c = s) (w : World) :
    Calls Tryz.prog 42 #[vv a b c] w fun e w' => e = .returned (.string s) ∧ Below w.heap.size w w' := by
  subst h
  unfold txt
  cases ho : okV a b c with
  | true => rw [if_pos rfl]; exact rtext_ok a b c ho w
  | false =>
    rw [if_neg (by simp)]
    have H := Lib.hid ho
    clear ho
    unfold vv
    go_enter Tryz.func42, Tryz.ntmps42
    go_wp2_with fail
    refine (rvalid_at _ _ _ false H.out _).mono ?_
    rintro e w1 ⟨rfl, hb1⟩
    have HB := Lib.hid (((Below.refl w.heap.size w).alloc (Nat.le_refl _) (.cells #[.int .i64 a, .int .i64 b, .int .i64 c] 32)).trans (hb1.mono (by simp)))
    clear hb1
    go_wp2_with fail
    go_ret
    exact ⟨rfl, HB.out⟩
end Go.Proofs.YthlcdimofagmfaaGreatDoor
