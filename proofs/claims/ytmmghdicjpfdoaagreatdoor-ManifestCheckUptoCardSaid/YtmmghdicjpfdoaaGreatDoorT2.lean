/-
  Text of the program. Conditions: the table of powers of ten, internal/bytealg.MaxLen holds some number; at most 90000 requirements.
-/
import Derived.Test.YtmmghdicjpfdoaaGreatDoorT1
import Derived.Test.YtmmghdicjpfdoaaGreatDoorBs
import Derived.Lib.OthersKept
import Derived.Lib.BufferKept
namespace Go.Proofs.YtmmghdicjpfdoaaGreatDoor
open Go.RowKit Go.Sort
set_option linter.unusedSimpArgs false
set_option linter.unnecessarySimpa false
set_option linter.unusedVariables false
def kM : ByteArray := ⟨#[109, 111, 100, 117, 108, 101]⟩
def kR : ByteArray := ⟨#[114, 101, 113, 117, 105, 114, 101]⟩
def textL (x : Md) (S : List Md) : List UInt8 := (lineB kM x).data.toList ++ S.flatMap fun y => (lineB kR y).data.toList
theorem builder_below {b : Nat} {bs : List Value} {W W' : World} (h : Lib.IsBuilderF 65 5 b b bs W) (hb : Below W.heap.size W W') : Lib.IsBuilderF 65 5 b b bs W' := by
  have one : ∀ p, Lib.BuilderAtF 65 5 b b p bs W → Lib.BuilderAtF 65 5 b b p bs W' := by
    rintro p ⟨hB, v, h1, h2, h3⟩
    refine ⟨hB, v, by rw [hb.block b (Array.getElem?_eq_some_iff.1 h1).1]; exact h1, ⟨h2.1, ?_⟩, h3⟩
    rcases h2.2 with h4 | ⟨g, cap, cur, fz, e1, e2, e3, e4⟩
    · exact .inl h4
    · exact .inr ⟨g, cap, cur, fz, e1, e2, by rw [hb.block g (Array.getElem?_eq_some_iff.1 e3).1]; exact e3, e4⟩
  rcases h with h | h
  · exact .inl (one _ h)
  · exact .inr (one _ h)
theorem builder_block {b : Nat} {bs : List Value} {W : World} (h : Lib.IsBuilderF 65 5 b b bs W) : ∃ cs, W.heap[b]? = some (.cells cs 65 (0, 0)) := by
  rcases h with ⟨_, v, h, _⟩ | ⟨_, v, h, _⟩ <;> exact ⟨_, h⟩
theorem cell_of_block {w w' : World} {g o : Nat} (h : w'.heap[g]? = w.heap[g]?) : w'.cell? ⟨g, o, none⟩ = w.cell? ⟨g, o, none⟩ := by
  simp [World.cell?, h]
theorem rm_kept {w w' : World} {B b : Nat} {A : Option Addr} {l : List Md} (h : RM w B A l) (ht : Ty w A) (hb : ∃ cs, w.heap[b]? = some (.cells cs 65 (0, 0))) (ho : Lib.OthersKept 5 (some b) w w') : RM w' B A l :=
  ⟨fun i hi => by
    obtain ⟨g, o, e, hl, hc⟩ := h.at_ i hi
    obtain ⟨cs, fz, hg⟩ := ht g o e
    have hne : some g ≠ some b := by
      intro e2
      obtain ⟨cs', hb'⟩ := hb
      rw [Option.some.inj e2, hb'] at hg
      simp at hg
    have := ho g _ hg hne (by intro c f hcf; simp at hcf)
    refine ⟨g, o, e, hl, fun c v hv => ?_⟩
    rw [cell_of_block (this.trans hg.symm)]
    exact hc c v hv⟩
theorem cells_append (l m : List UInt8) : Lib.byteCells (l ++ m) = Lib.byteCells l ++ Lib.byteCells m := by simp [Lib.byteCells]
theorem str_cells (s : ByteArray) : Lib.strCells s = Lib.byteCells s.data.toList := by
  simp [Lib.strCells, Lib.byteCells]
theorem cells_len (l : List UInt8) : (Lib.byteCells l).length = l.length := by simp [Lib.byteCells]
theorem ws_any (b : Nat) (l : List UInt8) (s : ByteArray) (w : World) (h : Lib.IsBuilderF 65 5 b b (Lib.byteCells l) w) (hlen : l.length + s.size ≤ 100000000) :
    Calls Tryz.prog 42 #[.pointer (some ⟨b, 0, none⟩), .string s] w fun e w' => e = .returned (.tuple #[.int .i64 s.size, .nilIface]) ∧ Lib.IsBuilderF 65 5 b b (Lib.byteCells (l ++ s.data.toList)) w' ∧ Below b w w' ∧ Lib.OthersKept 5 (some b) w w' := by
  have hbw : b < w.heap.size := by obtain ⟨cs, hc⟩ := builder_block h; exact (Array.getElem?_eq_some_iff.1 hc).1
  refine (Tryz.writeString b b _ s w h (by rw [cells_len]; omega) (by omega)).mono ?_
  rintro e w' ⟨rfl, h1, h2, h3⟩
  exact ⟨rfl, .inr (by rw [cells_append, ← str_cells]; exact h1), h2, h3⟩
end Go.Proofs.YtmmghdicjpfdoaaGreatDoor
