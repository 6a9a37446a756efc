/-
  Versions: the result of an array of numbers, whether one is valid, rows of three numbers. No condition.
-/
import Derived.Test.YtmmghdicjpfdoaaGreatDoorB
import Derived.Laws.StructEq
import Derived.Test.YtmmghdicjpfdoaaGreatDoorShelf
namespace Go.Proofs.YtmmghdicjpfdoaaGreatDoor
open Go.RowKit
set_option linter.unusedSimpArgs false
set_option linter.unnecessarySimpa false
set_option linter.unusedVariables false
set_option maxHeartbeats 1000000 in
theorem version_any (a b c : Int) (w : World) :
    Calls Tryz.prog 109 #[vv a b c] w fun e w' => e = .returned (vv a b c) ∧ Below w.heap.size w w' := by
  unfold vv
  go_enter Tryz.func109, Tryz.ntmps109
  go_wp2
  refine bodyPost_ret (v := _) (by simp [results, Tryz.results109, go_sem]) rfl ⟨rfl, ?_⟩
  exact ((Below.refl _ _).alloc (Nat.le_refl _) _).alloc (by simp) _
theorem valid_at (a b c : Int) (v : Bool) (h : okV a b c = v) (w : World) :
    Calls Tryz.prog 34 #[vv a b c] w fun e w' => e = .returned (.bool v) ∧ Below w.heap.size w w' := by
  have := valid_any a b c w; rw [h] at this; exact this
/-- three cells of a version in a block -/
structure Row3 (w : World) (g : Nat) (a b c : Int) : Prop where
  size : g < w.heap.size
  c0 : w.cell? ⟨g, 0, none⟩ = some (.int .i64 a)
  c1 : w.cell? ⟨g, 1, none⟩ = some (.int .i64 b)
  c2 : w.cell? ⟨g, 2, none⟩ = some (.int .i64 c)
  f0 : w.frozen? ⟨g, 0, none⟩ = false
  f1 : w.frozen? ⟨g, 1, none⟩ = false
  f2 : w.frozen? ⟨g, 2, none⟩ = false
theorem Row3.below {w w' : World} {g N : Nat} {a b c : Int} (h : Row3 w g a b c) (hb : Below N w w') (hn : g < N) : Row3 w' g a b c :=
  ⟨Nat.lt_of_lt_of_le h.size hb.size, by rw [hb.cell hn]; exact h.c0, by rw [hb.cell hn]; exact h.c1, by rw [hb.cell hn]; exact h.c2,
    by rw [hb.frozen hn]; exact h.f0, by rw [hb.frozen hn]; exact h.f1, by rw [hb.frozen hn]; exact h.f2⟩
theorem Row3.keep {w w' : World} {g : Nat} {a b c : Int} (h : Row3 w g a b c) (hb : Below w.heap.size w w') : Row3 w' g a b c := h.below hb h.size
theorem Row3.new (w : World) (a b c : Int) (T : TypeId) (n : Nat) (hn : n = w.heap.size) : Row3 (w.alloc (.cells #[.int .i64 a, .int .i64 b, .int .i64 c] T)) n a b c := by
  subst hn
  refine ⟨by simp, ?_, ?_, ?_, ?_, ?_, ?_⟩ <;> (go_simp; done)
theorem Row3.alloc {w : World} {g : Nat} {a b c : Int} (h : Row3 w g a b c) (o : Obj) : Row3 (w.alloc o) g a b c :=
  h.keep ((Below.refl _ _).alloc (Nat.le_refl _) o)
/-- a version in a block, in a world behind w0 -/
abbrev S1 (w0 : World) (p : Nat) (a b c : Int) (w : World) : Prop :=
  Below w0.heap.size w0 w ∧ w.cell? ⟨p, 0, none⟩ = some (.int .i64 a) ∧ w.cell? ⟨p, 1, none⟩ = some (.int .i64 b) ∧ w.cell? ⟨p, 2, none⟩ = some (.int .i64 c)
theorem keep1 {w0 w w' : World} {p : Nat} {a b c : Int} (h : S1 w0 p a b c w) (hb : Below w.heap.size w w') : S1 w0 p a b c w' :=
  ⟨h.1.trans (hb.mono h.1.size), cell_keep h.2.1 hb, cell_keep h.2.2.1 hb, cell_keep h.2.2.2 hb⟩
theorem below1 {w0 w : World} {p : Nat} {a b c : Int} (h : S1 w0 p a b c w) : Below w0.heap.size w0 w := h.1
/-- internal/bytealg.MaxLen holds some number -/
def Mx (w : World) : Prop := 0 < w.heap.size ∧ ∃ m : Int, w.cell? ⟨0, 0, none⟩ = some (.int .i64 m)
theorem Mx.keep {w w' : World} {N : Nat} (h : Mx w) (hb : Below N w w') (hN : 0 < N) : Mx w' :=
  ⟨Nat.lt_of_lt_of_le h.1 hb.size, h.2.elim fun m hm => ⟨m, by rw [hb.cell hN]; exact hm⟩⟩
theorem cso {w : World} {a b : Addr} (v : Value) (h : a ≠ b) : (w.setCell a v).cell? b = w.cell? b := by
  apply World.cell?_setCell_other; exact h
theorem Row3.set_other {w : World} {g b i : Nat} {x0 x1 x2 : Int} (h : Row3 w g x0 x1 x2) (v : Value) (hb : b ≠ g) : Row3 (w.setCell ⟨b, i, none⟩ v) g x0 x1 x2 := by
  have e : ∀ j, (⟨b, i, none⟩ : Addr) ≠ ⟨g, j, none⟩ := fun j k => hb (by injection k)
  refine ⟨by simpa using h.size, ?_, ?_, ?_, ?_, ?_, ?_⟩
  · rw [cso v (e _)]; exact h.c0
  · rw [cso v (e _)]; exact h.c1
  · rw [cso v (e _)]; exact h.c2
  · rw [World.frozen?_setCell]; exact h.f0
  · rw [World.frozen?_setCell]; exact h.f1
  · rw [World.frozen?_setCell]; exact h.f2
theorem Row3.set0 {w : World} {g : Nat} {x0 x1 x2 : Int} (h : Row3 w g x0 x1 x2) (v : Int) : Row3 (w.setCell ⟨g, 0, none⟩ (.int .i64 v)) g v x1 x2 := by
  obtain ⟨z, c0, c1, c2, f0, f1, f2⟩ := h
  refine ⟨by simpa using z, ?_, ?_, ?_, ?_, ?_, ?_⟩ <;> (go_simp; done)
theorem Row3.set1 {w : World} {g : Nat} {x0 x1 x2 : Int} (h : Row3 w g x0 x1 x2) (v : Int) : Row3 (w.setCell ⟨g, 1, none⟩ (.int .i64 v)) g x0 v x2 := by
  obtain ⟨z, c0, c1, c2, f0, f1, f2⟩ := h
  refine ⟨by simpa using z, ?_, ?_, ?_, ?_, ?_, ?_⟩ <;> (go_simp; done)
theorem Row3.set2 {w : World} {g : Nat} {x0 x1 x2 : Int} (h : Row3 w g x0 x1 x2) (v : Int) : Row3 (w.setCell ⟨g, 2, none⟩ (.int .i64 v)) g x0 x1 v := by
  obtain ⟨z, c0, c1, c2, f0, f1, f2⟩ := h
  refine ⟨by simpa using z, ?_, ?_, ?_, ?_, ?_, ?_⟩ <;> (go_simp; done)
theorem atoi_ex (s : ByteArray) (n : Int) (hl : s.size ≤ 18) (h : Lib.atoi s.data.toList = some n) (w : World) :
    Calls Tryz.prog 108 #[.string s] w fun e w' => e = .returned (.tuple #[.int .i64 n, .nilIface]) ∧ Below w.heap.size w w' :=
  (Tryz.strconv_Atoi s n hl h w).mono fun _ _ ⟨he, t, hw⟩ => ⟨he, by rw [hw]; exact Lib.bytesWorld_below _ _ _⟩
end Go.Proofs.YtmmghdicjpfdoaaGreatDoor
