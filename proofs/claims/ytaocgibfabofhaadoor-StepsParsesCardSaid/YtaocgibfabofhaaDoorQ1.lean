/-
  The specification's reader of paths: how it lies in memory, and its small functions. No condition but that the reader stands at a byte of its text, or at its end.
-/
import Derived.Test.YtaocgibfabofhaaDoorR9
namespace Go.Proofs.YtaocgibfabofhaaDoor
open Go.RowKit
set_option linter.unusedSimpArgs false
set_option linter.unusedVariables false
/-- the specification's reader: its text, its offset, whether it has failed -/
def Rq (w : World) (g : Nat) (s : ByteArray) (p : Nat) (f : Bool) : Prop := w.heap[g]? = some (.cells #[.string s, .int .i64 (p : Int), .bool f] 60 (0, 0))
theorem Rq.facts {w : World} {g : Nat} {s : ByteArray} {p : Nat} {f : Bool} (h : Rq w g s p f) :
    g < w.heap.size ∧ w.cell? ⟨g, 0, none⟩ = some (.string s) ∧ w.cell? ⟨g, 1, none⟩ = some (.int .i64 (p : Int)) ∧ w.cell? ⟨g, 2, none⟩ = some (.bool f) ∧ w.frozen? ⟨g, 1, none⟩ = false ∧ w.frozen? ⟨g, 2, none⟩ = false := by
  unfold Rq at h
  refine ⟨(Array.getElem?_eq_some_iff.1 h).1, by rw [Lib.cell_of_heap h]; rfl, by rw [Lib.cell_of_heap h]; rfl, by rw [Lib.cell_of_heap h]; rfl, by simp [World.frozen?, h], by simp [World.frozen?, h]⟩
theorem Rq.set {w : World} {g : Nat} {s : ByteArray} {p : Nat} {f : Bool} (h : Rq w g s p f) (q : Nat) : Rq (w.setCell ⟨g, 1, none⟩ (.int .i64 (q : Int))) g s q f := by
  unfold Rq at h ⊢
  simp [World.setCell, Array.getElem?_modify, h]
theorem Rq.fail {w : World} {g : Nat} {s : ByteArray} {p : Nat} {f : Bool} (h : Rq w g s p f) (f' : Bool) : Rq (w.setCell ⟨g, 2, none⟩ (.bool f')) g s p f' := by
  unfold Rq at h ⊢
  simp [World.setCell, Array.getElem?_modify, h]
theorem Rq.keep {w w' : World} {g : Nat} {s : ByteArray} {p : Nat} {f : Bool} (h : Rq w g s p f) (k : Below w.heap.size w w') : Rq w' g s p f := by
  unfold Rq at h ⊢
  rw [k.block _ (Array.getElem?_eq_some_iff.1 h).1]; exact h
/-- what a method of the reader leaves: new blocks, and the reader at another place -/
def RqP (g : Nat) (s : ByteArray) (p : Nat) (f : Bool) (w w' : World) : Prop := w.grownBy w' (some g) ∧ Rq w' g s p f
theorem RqP.start {g : Nat} {s : ByteArray} {p : Nat} {f : Bool} {w : World} (h : Rq w g s p f) : RqP g s p f w w := ⟨gb_refl _ _, h⟩
theorem RqP.below {g : Nat} {s : ByteArray} {p : Nat} {f : Bool} {w w1 w2 : World} (h : RqP g s p f w w1) (k : Below w1.heap.size w1 w2) : RqP g s p f w w2 := ⟨gb_trans h.1 (gb_below k), h.2.keep k⟩
theorem RqP.step {g : Nat} {s : ByteArray} {p q : Nat} {f : Bool} {v : Int} {w w1 : World} (h : RqP g s p f w w1) (hv : v = (q : Int)) : RqP g s q f w (w1.setCell ⟨g, 1, none⟩ (.int .i64 v)) :=
  ⟨gb_trans h.1 (gb_set w1 ⟨g, 1, none⟩ _), by subst hv; exact h.2.set q⟩
theorem RqP.fail {g : Nat} {s : ByteArray} {p : Nat} {f : Bool} {w w1 : World} (h : RqP g s p f w w1) (f' : Bool) : RqP g s p f' w (w1.setCell ⟨g, 2, none⟩ (.bool f')) :=
  ⟨gb_trans h.1 (gb_set w1 ⟨g, 2, none⟩ _), h.2.fail f'⟩
theorem RqP.trans {g : Nat} {s : ByteArray} {p q : Nat} {f f' : Bool} {w w1 w2 : World} (h : RqP g s p f w w1) (k : RqP g s q f' w1 w2) : RqP g s q f' w w2 := ⟨gb_trans h.1 k.1, k.2⟩
set_option maxRecDepth 100000 in
set_option maxHeartbeats 1000000 in
theorem more_any (g : Nat) (s : ByteArray) (p : Nat) (f : Bool) (w : World) (h : Rq w g s p f) :
    Calls Tryd.prog 69 #[.pointer (some ⟨g, 0, none⟩)] w fun e w' => e = .returned (.bool (!f && decide (p < s.size))) ∧ ∃ n, w' = w.drewN n := by
  obtain ⟨z, c0, c1, c2, f1, f2⟩ := h.facts
  clear h
  cases f with
  | true =>
    go_enter Tryd.func69, Tryd.ntmps69
    go_wp2_with fail
    go_quiet (fail)
    go_wp2_with fail
    go_ret
    exact ⟨rfl, _, rfl⟩
  | false =>
    obtain ⟨b, hb⟩ : ∃ b, b = decide (p < s.size) := ⟨_, rfl⟩
    have q : decide ((p : Int) < (s.size : Int)) = b := by rw [hb]; exact decide_eq_decide.2 (by omega)
    rw [← hb]
    clear hb
    go_enter Tryd.func69, Tryd.ntmps69
    go_wp2_with fail
    go_quiet (fail)
    go_wp2_with fail
    go_ret
    exact ⟨ret_bool (by simp [← q]), _, rfl⟩
theorem more_q {g : Nat} {s : ByteArray} {p : Nat} {f : Bool} {w : World} (h : Rq w g s p f) (v : Bool) (hv : (!f && decide (p < s.size)) = v) (n : Nat) :
    Calls Tryd.prog 69 #[.pointer (some ⟨g, 0, none⟩)] (w.drewN n) fun e w' => e = .returned (.bool v) ∧ ∃ m, w' = (w.drewN n).drewN m := by
  subst hv; exact more_any g s p f _ (h.keep (bdrewN (Below.refl _ _) n))
theorem more_r {g : Nat} {s : ByteArray} {p : Nat} {f : Bool} {w : World} (h : Rq w g s p f) (v : Bool) (hv : (!f && decide (p < s.size)) = v) :
    Calls Tryd.prog 69 #[.pointer (some ⟨g, 0, none⟩)] w fun e w' => e = .returned (.bool v) ∧ Below w.heap.size w w' := by
  subst hv
  refine (more_any g s p f _ h).mono ?_
  rintro e w1 ⟨rfl, m, rfl⟩
  exact ⟨rfl, bdrewN (Below.refl _ _) _⟩
end Go.Proofs.YtaocgibfabofhaaDoor
