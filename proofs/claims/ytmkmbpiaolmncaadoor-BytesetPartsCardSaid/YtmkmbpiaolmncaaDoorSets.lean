import Derived.Test.YtmkmbpiaolmncaaDoorAwake
namespace Go.Proofs.YtmkmbpiaolmncaaDoor
open Go.RowKit

/-- the cells of a set in a block -/
abbrev C4 (w : World) (b : Nat) (s : BS) : Prop :=
  w.cell? ⟨b, 0, none⟩ = some (.int .u64 (wd 0 s)) ∧ w.cell? ⟨b, 1, none⟩ = some (.int .u64 (wd 1 s)) ∧ w.cell? ⟨b, 2, none⟩ = some (.int .u64 (wd 2 s)) ∧ w.cell? ⟨b, 3, none⟩ = some (.int .u64 (wd 3 s))
theorem C4.keep {w w' : World} {b : Nat} {s : BS} (h : C4 w b s) (hb : Below w.heap.size w w') : C4 w' b s :=
  ⟨cell_keep h.1 hb, cell_keep h.2.1 hb, cell_keep h.2.2.1 hb, cell_keep h.2.2.2 hb⟩
theorem Row4.c4 {w : World} {b : Nat} {s : BS} (h : Row4 w b s) : C4 w b s := ⟨h.c0, h.c1, h.c2, h.c3⟩

/-- one, two, five sets in their blocks, in a world behind w0 -/
abbrev In1 (w0 : World) (b : Nat) (s : BS) (w : World) : Prop := Below w0.heap.size w0 w ∧ C4 w b s
abbrev In2 (w0 : World) (b c : Nat) (s t : BS) (w : World) : Prop := Below w0.heap.size w0 w ∧ C4 w b s ∧ C4 w c t
abbrev In5 (w0 : World) (b1 b2 b3 b4 b5 : Nat) (s1 s2 s3 s4 s5 : BS) (w : World) : Prop := Below w0.heap.size w0 w ∧ C4 w b1 s1 ∧ C4 w b2 s2 ∧ C4 w b3 s3 ∧ C4 w b4 s4 ∧ C4 w b5 s5
theorem In1.keep {w0 w w' : World} {b : Nat} {s : BS} (h : In1 w0 b s w) (hb : Below w.heap.size w w') : In1 w0 b s w' := ⟨h.1.trans (hb.mono h.1.size), h.2.keep hb⟩
theorem In2.keep {w0 w w' : World} {b c : Nat} {s t : BS} (h : In2 w0 b c s t w) (hb : Below w.heap.size w w') : In2 w0 b c s t w' := ⟨h.1.trans (hb.mono h.1.size), C4.keep h.2.1 hb, C4.keep h.2.2 hb⟩
theorem In5.keep {w0 w w' : World} {b1 b2 b3 b4 b5 : Nat} {s1 s2 s3 s4 s5 : BS} (h : In5 w0 b1 b2 b3 b4 b5 s1 s2 s3 s4 s5 w) (hb : Below w.heap.size w w') : In5 w0 b1 b2 b3 b4 b5 s1 s2 s3 s4 s5 w' :=
  ⟨h.1.trans (hb.mono h.1.size), C4.keep h.2.1 hb, C4.keep h.2.2.1 hb, C4.keep h.2.2.2.1 hb, C4.keep h.2.2.2.2.1 hb, C4.keep h.2.2.2.2.2 hb⟩
theorem tab1 {w0 w : World} (hT : Tab w0) {b : Nat} {s : BS} (h : In1 w0 b s w) : Tab w := hT.below h.1 hT.1
theorem tab2 {w0 w : World} (hT : Tab w0) {b c : Nat} {s t : BS} (h : In2 w0 b c s t w) : Tab w := hT.below h.1 hT.1
theorem tab5 {w0 w : World} (hT : Tab w0) {b1 b2 b3 b4 b5 : Nat} {s1 s2 s3 s4 s5 : BS} (h : In5 w0 b1 b2 b3 b4 b5 s1 s2 s3 s4 s5 w) : Tab w := hT.below h.1 hT.1
/-- what came of a world with new blocks -/
theorem from1 {w w0 w' : World} (hb : Below w.heap.size w w0) {b : Nat} {s : BS} (h : In1 w0 b s w') : Below w.heap.size w w' := hb.trans (h.1.mono hb.size)
theorem from2 {w w0 w' : World} (hb : Below w.heap.size w w0) {b c : Nat} {s t : BS} (h : In2 w0 b c s t w') : Below w.heap.size w w' := hb.trans (h.1.mono hb.size)
theorem from5 {w w0 w' : World} (hb : Below w.heap.size w w0) {b1 b2 b3 b4 b5 : Nat} {s1 s2 s3 s4 s5 : BS} (h : In5 w0 b1 b2 b3 b4 b5 s1 s2 s3 s4 s5 w') : Below w.heap.size w w' := hb.trans (h.1.mono hb.size)

theorem refhas_any (s : BS) (b : Int) (h0 : 0 ≤ b) (h1 : b ≤ 255) (w : World) :
    Calls Tryd.prog 16 #[st s, .int .u8 b] w fun e w' => e = .returned (.bool (s.getLsbD b.toNat)) ∧ Below w.heap.size w w' := by
  unfold st
  go_enter Tryd.func16, Tryd.ntmps16
  go_wp2_with fail
  refine (rhas_in s b h0 (by omega) _).mono ?_
  rintro e w1 ⟨rfl, hb1⟩
  have HB := Lib.hid ((((Below.refl w.heap.size w).alloc (Nat.le_refl _) (.cells #[.int .u64 (wd 0 s), .int .u64 (wd 1 s), .int .u64 (wd 2 s), .int .u64 (wd 3 s)] 24))).trans (hb1.mono (by simp)))
  clear hb1
  go_wp2_with fail
  go_ret
  exact ⟨rfl, HB.out⟩
end Go.Proofs.YtmkmbpiaolmncaaDoor
