/-
  The line of a module: the program's, and the specification's. Condition: the table of powers of ten (the program's alone); sizes.
-/
import Derived.Test.YtmmghdicjpfdoaaGreatDoorS4
import Derived.Test.YtmmghdicjpfdoaaGreatDoorVb
namespace Go.Proofs.YtmmghdicjpfdoaaGreatDoor
open Go.RowKit Go.Sort
set_option linter.unusedSimpArgs false
set_option linter.unnecessarySimpa false
set_option linter.unusedVariables false
/-- the line of a module -/
def lineB (k : ByteArray) (x : Md) : ByteArray := k ++ (⟨#[32]⟩ : ByteArray) ++ x.1 ++ (⟨#[32]⟩ : ByteArray) ++ txt x.2.1 x.2.2.1 x.2.2.2 ++ (⟨#[10]⟩ : ByteArray)
theorem txt_le (a b c : Int) : (txt a b c).size ≤ 15 := by
  unfold txt
  split
  · rename_i h; exact (txt_sizes h).2
  · decide
abbrev J4 (w0 : World) (p : Nat) (x : Md) (w : World) : Prop := Below w0.heap.size w0 w ∧ C4 w p x
theorem J4.keep {w0 w w' : World} {p : Nat} {x : Md} (h : J4 w0 p x w) (hb : Below w.heap.size w w') : J4 w0 p x w' := ⟨h.1.trans (hb.mono h.1.size), C4.keep h.2 hb⟩
theorem J4.below {w0 w : World} {p : Nat} {x : Md} (h : J4 w0 p x w) : Below w0.heap.size w0 w := h.1
abbrev P4 (w0 : World) (p : Nat) (x : Md) (w : World) : Prop := J4 w0 p x w ∧ P10 w
theorem P4.keep {w0 w w' : World} {p : Nat} {x : Md} (h : P4 w0 p x w) (hb : Below w.heap.size w w') : P4 w0 p x w' := ⟨J4.keep h.1 hb, P10.keep h.2 hb⟩
theorem P4.tab {w0 w : World} {p : Nat} {x : Md} (h : P4 w0 p x w) : P10 w := h.2
set_option maxRecDepth 100000 in
set_option maxHeartbeats 4000000 in
theorem line_any (k : ByteArray) (x : Md) (hk : k.size ≤ 1000) (hx : x.1.size ≤ 100000) (w : World) (hT : P10 w) :
    Calls Tryz.prog 43 #[.string k, md x] w fun e w' => e = .returned (.string (lineB k x)) ∧ Below w.heap.size w w' := by
  have hb0 := bal w (.cells #[.string x.1, .int .i64 x.2.1, .int .i64 x.2.2.1, .int .i64 x.2.2.2] 25)
  have hS0 : P4 w w.heap.size x (w.alloc (.cells #[.string x.1, .int .i64 x.2.1, .int .i64 x.2.2.1, .int .i64 x.2.2.2] 25)) := ⟨⟨hb0, C4.new w x 25⟩, P10.keep hT hb0⟩
  have hs := txt_le x.2.1 x.2.2.1 x.2.2.2
  have KT := Lib.hid (fun s h w hT => text_at x.2.1 x.2.2.1 x.2.2.2 s h w hT)
  unfold lineB
  obtain ⟨T, hTT⟩ : ∃ T, T = txt x.2.1 x.2.2.1 x.2.2.2 := ⟨_, rfl⟩
  rw [← hTT] at hs ⊢
  have K := Lib.hid (fun w hT => KT.out T hTT.symm w hT)
  have z1 : ¬ 9223372036854775807 < k.size + 1 := by omega
  have z2 : ¬ 9223372036854775807 < k.size + 1 + x.1.size := by omega
  have z3 : ¬ 9223372036854775807 < k.size + 1 + x.1.size + 1 := by omega
  have z4 : ¬ 9223372036854775807 < k.size + 1 + x.1.size + 1 + T.size := by omega
  have z5 : ¬ 9223372036854775807 < k.size + 1 + x.1.size + 1 + T.size + 1 := by omega
  have HS := Lib.hid hS0
  clear hb0 hS0 hT KT hTT hk hx hs
  unfold md
  go_enter Tryz.func43, Tryz.ntmps43
  go_wp2_with fail
  have hS := HS.out
  generalize w.alloc (.cells #[.string x.1, .int .i64 x.2.1, .int .i64 x.2.2.1, .int .i64 x.2.2.2] 25) = W at *
  go_region_held3 (fun w' => P4 w w.heap.size x w') (first | assumption | exact P4.keep (by assumption) ((Below.refl _ _).drew) | exact P4.keep (by assumption) (by assumption))
    (first | (go_at_call 63; ((with_reducible refine (K.out _ (P4.tab (w0 := w) (p := w.heap.size) (x := x) (by assumption))).mono ?_)); rintro e w' ⟨rfl, hbN⟩))
  all_goals (go_wp2_with fail; go_ret; exact ⟨rfl, (show P4 w w.heap.size x _ by assumption).1.1⟩)
set_option maxRecDepth 100000 in
set_option maxHeartbeats 4000000 in
theorem rline_any (k : ByteArray) (x : Md) (hk : k.size ≤ 1000) (hx : x.1.size ≤ 100000) (w : World) :
    Calls Tryz.prog 46 #[.string k, md x] w fun e w' => e = .returned (.string (lineB k x)) ∧ Below w.heap.size w w' := by
  have hb0 := bal w (.cells #[.string x.1, .int .i64 x.2.1, .int .i64 x.2.2.1, .int .i64 x.2.2.2] 25)
  have hS0 : J4 w w.heap.size x (w.alloc (.cells #[.string x.1, .int .i64 x.2.1, .int .i64 x.2.2.1, .int .i64 x.2.2.2] 25)) := ⟨hb0, C4.new w x 25⟩
  have hs := txt_le x.2.1 x.2.2.1 x.2.2.2
  have KT := Lib.hid (fun s h w => rtext_at x.2.1 x.2.2.1 x.2.2.2 s h w)
  unfold lineB
  obtain ⟨T, hTT⟩ : ∃ T, T = txt x.2.1 x.2.2.1 x.2.2.2 := ⟨_, rfl⟩
  rw [← hTT] at hs ⊢
  have K := Lib.hid (fun w => KT.out T hTT.symm w)
  have z1 : ¬ 9223372036854775807 < k.size + 1 := by omega
  have z2 : ¬ 9223372036854775807 < k.size + 1 + x.1.size := by omega
  have z3 : ¬ 9223372036854775807 < k.size + 1 + x.1.size + 1 := by omega
  have z4 : ¬ 9223372036854775807 < k.size + 1 + x.1.size + 1 + T.size := by omega
  have z5 : ¬ 9223372036854775807 < k.size + 1 + x.1.size + 1 + T.size + 1 := by omega
  have HS := Lib.hid hS0
  clear hb0 hS0 KT hTT hk hx hs
  unfold md
  go_enter Tryz.func46, Tryz.ntmps46
  go_wp2_with fail
  have hS := HS.out
  generalize w.alloc (.cells #[.string x.1, .int .i64 x.2.1, .int .i64 x.2.2.1, .int .i64 x.2.2.2] 25) = W at *
  go_region_held3 (fun w' => J4 w w.heap.size x w') (first | assumption | exact J4.keep (by assumption) ((Below.refl _ _).drew) | exact J4.keep (by assumption) (by assumption))
    (first | (go_at_call 66; ((with_reducible refine (K.out _).mono ?_)); rintro e w' ⟨rfl, hbN⟩))
  all_goals (go_wp2_with fail; go_ret; exact ⟨rfl, (show J4 w w.heap.size x _ by assumption).1⟩)
end Go.Proofs.YtmmghdicjpfdoaaGreatDoor
