/-
  The line of a module: the program's, and the specification's. Condition: the table of powers of ten (the program's alone); sizes.
-/
import Derived.Test.YthlcdimofagmfaaGreatDoorS
import Derived.Test.YthlcdimofagmfaaGreatDoorVx
import Derived.Test.YthlcdimofagmfaaGreatDoorBs
import Derived.Lib.OthersKept
import Derived.Lib.BufferKept
namespace Go.Proofs.YthlcdimofagmfaaGreatDoor
open Go.RowKit Go.Sort
set_option linter.unusedSimpArgs false
set_option linter.unnecessarySimpa false
set_option linter.unusedVariables false
/-- the line of a module -/
def lineB (k : ByteArray) (x : Md) : ByteArray := k ++ (⟨#[32]⟩ : ByteArray) ++ x.1 ++ (⟨#[32]⟩ : ByteArray) ++ txt x.2.1 x.2.2.1 x.2.2.2 ++ (⟨#[10]⟩ : ByteArray)
theorem txt_le (a b c : Int) : (txt a b c).size ≤ 15 := by
  unfold txt
  split
  · rename_i h; exact (txt_sizes h).2
  · decide
abbrev J4 (w0 : World) (p : Nat) (x : Md) (w : World) : Prop := Below w0.heap.size w0 w ∧ C4 w p x
theorem J4.keep {w0 w w' : World} {p : Nat} {x : Md} (h : J4 w0 p x w) (hb : Below w.heap.size w w') : J4 w0 p x w' := ⟨h.1.trans (hb.mono h.1.size), C4.keep h.2 hb⟩
theorem J4.below {w0 w : World} {p : Nat} {x : Md} (h : J4 w0 p x w) : Below w0.heap.size w0 w := h.1
abbrev P4 (w0 : World) (p : Nat) (x : Md) (w : World) : Prop := J4 w0 p x w ∧ P10 w
theorem P4.keep {w0 w w' : World} {p : Nat} {x : Md} (h : P4 w0 p x w) (hb : Below w.heap.size w w') : P4 w0 p x w' := ⟨J4.keep h.1 hb, P10.keep h.2 hb⟩
theorem P4.tab {w0 w : World} {p : Nat} {x : Md} (h : P4 w0 p x w) : P10 w := h.2
set_option maxRecDepth 100000 in
set_option maxHeartbeats 4000000 in
theorem line_any (k : ByteArray) (x : Md) (hk : k.size ≤ 1000) (hx : x.1.size ≤ 100000) (w : World) (hT : P10 w) :
    Calls Tryz.prog 53 #[.string k, md x] w fun e w' => e = .returned (.string (lineB k x)) ∧ Below w.heap.size w w' := by
  have hb0 := bal w (.cells #[.string x.1, .int .i64 x.2.1, .int .i64 x.2.2.1, .int .i64 x.2.2.2] 34)
  have hS0 : P4 w w.heap.size x (w.alloc (.cells #[.string x.1, .int .i64 x.2.1, .int .i64 x.2.2.1, .int .i64 x.2.2.2] 34)) := ⟨⟨hb0, C4.new w x 34⟩, P10.keep hT hb0⟩
  have hs := txt_le x.2.1 x.2.2.1 x.2.2.2
  have KT := Lib.hid (fun s h w hT => text_at x.2.1 x.2.2.1 x.2.2.2 s h w hT)
  unfold lineB
  obtain ⟨T, hTT⟩ : ∃ T, T = txt x.2.1 x.2.2.1 x.2.2.2 := ⟨_, rfl⟩
  rw [← hTT] at hs ⊢
  have K := Lib.hid (fun w hT => KT.out T hTT.symm w hT)
  have z1 : ¬ 9223372036854775807 < k.size + 1 := by omega
  have z2 : ¬ 9223372036854775807 < k.size + 1 + x.1.size := by omega
  have z3 : ¬ 9223372036854775807 < k.size + 1 + x.1.size + 1 := by omega
  have z4 : ¬ 9223372036854775807 < k.size + 1 + x.1.size + 1 + T.size := by omega
  have z5 : ¬ 9223372036854775807 < k.size + 1 + x.1.size + 1 + T.size + 1 := by omega
  have HS := Lib.hid hS0
  clear hb0 hS0 hT KT hTT hk hx hs
  unfold md
  go_enter Tryz.func53, Tryz.ntmps53
  go_wp2_with fail
  have hS := HS.out
  generalize w.alloc (.cells #[.string x.1, .int .i64 x.2.1, .int .i64 x.2.2.1, .int .i64 x.2.2.2] 34) = W at *
  go_region_held3 (fun w' => P4 w w.heap.size x w') (first | assumption | exact P4.keep (by assumption) ((Below.refl _ _).drew) | exact P4.keep (by assumption) (by assumption))
    (first | (go_at_call 83; ((with_reducible refine (K.out _ (P4.tab (w0 := w) (p := w.heap.size) (x := x) (by assumption))).mono ?_)); rintro e w' ⟨rfl, hbN⟩))
  all_goals (go_wp2_with fail; go_ret; exact ⟨rfl, (show P4 w w.heap.size x _ by assumption).1.1⟩)
set_option maxRecDepth 100000 in
set_option maxHeartbeats 4000000 in
theorem rline_any (k : ByteArray) (x : Md) (hk : k.size ≤ 1000) (hx : x.1.size ≤ 100000) (w : World) :
    Calls Tryz.prog 63 #[.string k, md x] w fun e w' => e = .returned (.string (lineB k x)) ∧ Below w.heap.size w w' := by
  have hb0 := bal w (.cells #[.string x.1, .int .i64 x.2.1, .int .i64 x.2.2.1, .int .i64 x.2.2.2] 34)
  have hS0 : J4 w w.heap.size x (w.alloc (.cells #[.string x.1, .int .i64 x.2.1, .int .i64 x.2.2.1, .int .i64 x.2.2.2] 34)) := ⟨hb0, C4.new w x 34⟩
  have hs := txt_le x.2.1 x.2.2.1 x.2.2.2
  have KT := Lib.hid (fun s h w => rtext_at x.2.1 x.2.2.1 x.2.2.2 s h w)
  unfold lineB
  obtain ⟨T, hTT⟩ : ∃ T, T = txt x.2.1 x.2.2.1 x.2.2.2 := ⟨_, rfl⟩
  rw [← hTT] at hs ⊢
  have K := Lib.hid (fun w => KT.out T hTT.symm w)
  have z1 : ¬ 9223372036854775807 < k.size + 1 := by omega
  have z2 : ¬ 9223372036854775807 < k.size + 1 + x.1.size := by omega
  have z3 : ¬ 9223372036854775807 < k.size + 1 + x.1.size + 1 := by omega
  have z4 : ¬ 9223372036854775807 < k.size + 1 + x.1.size + 1 + T.size := by omega
  have z5 : ¬ 9223372036854775807 < k.size + 1 + x.1.size + 1 + T.size + 1 := by omega
  have HS := Lib.hid hS0
  clear hb0 hS0 KT hTT hk hx hs
  unfold md
  go_enter Tryz.func63, Tryz.ntmps63
  go_wp2_with fail
  have hS := HS.out
  generalize w.alloc (.cells #[.string x.1, .int .i64 x.2.1, .int .i64 x.2.2.1, .int .i64 x.2.2.2] 34) = W at *
  go_region_held3 (fun w' => J4 w w.heap.size x w') (first | assumption | exact J4.keep (by assumption) ((Below.refl _ _).drew) | exact J4.keep (by assumption) (by assumption))
    (first | (go_at_call 42; ((with_reducible refine (K.out _).mono ?_)); rintro e w' ⟨rfl, hbN⟩))
  all_goals (go_wp2_with fail; go_ret; exact ⟨rfl, (show J4 w w.heap.size x _ by assumption).1⟩)
end Go.Proofs.YthlcdimofagmfaaGreatDoor
namespace Go.Proofs.YthlcdimofagmfaaGreatDoor
open Go.RowKit Go.Sort
set_option linter.unusedSimpArgs false
set_option linter.unnecessarySimpa false
set_option linter.unusedVariables false
def kM : ByteArray := ⟨#[109, 111, 100, 117, 108, 101]⟩
def kR : ByteArray := ⟨#[114, 101, 113, 117, 105, 114, 101]⟩
def textL (x : Md) (S : List Md) : List UInt8 := (lineB kM x).data.toList ++ S.flatMap fun y => (lineB kR y).data.toList
theorem builder_below {b : Nat} {bs : List Value} {W W' : World} (h : Lib.IsBuilderF 84 5 b b bs W) (hb : Below W.heap.size W W') : Lib.IsBuilderF 84 5 b b bs W' := by
  have one : ∀ p, Lib.BuilderAtF 84 5 b b p bs W → Lib.BuilderAtF 84 5 b b p bs W' := by
    rintro p ⟨hB, v, h1, h2, h3⟩
    refine ⟨hB, v, by rw [hb.block b (Array.getElem?_eq_some_iff.1 h1).1]; exact h1, ⟨h2.1, ?_⟩, h3⟩
    rcases h2.2 with h4 | ⟨g, cap, cur, fz, e1, e2, e3, e4⟩
    · exact .inl h4
    · exact .inr ⟨g, cap, cur, fz, e1, e2, by rw [hb.block g (Array.getElem?_eq_some_iff.1 e3).1]; exact e3, e4⟩
  rcases h with h | h
  · exact .inl (one _ h)
  · exact .inr (one _ h)
theorem builder_block {b : Nat} {bs : List Value} {W : World} (h : Lib.IsBuilderF 84 5 b b bs W) : ∃ cs, W.heap[b]? = some (.cells cs 84 (0, 0)) := by
  rcases h with ⟨_, v, h, _⟩ | ⟨_, v, h, _⟩ <;> exact ⟨_, h⟩
theorem cell_of_block {w w' : World} {g o : Nat} (h : w'.heap[g]? = w.heap[g]?) : w'.cell? ⟨g, o, none⟩ = w.cell? ⟨g, o, none⟩ := by
  simp [World.cell?, h]
theorem rm_kept {w w' : World} {B b : Nat} {A : Option Addr} {l : List Md} (h : RM w B A l) (ht : Ty w A) (hb : ∃ cs, w.heap[b]? = some (.cells cs 84 (0, 0))) (ho : Lib.OthersKept 5 (some b) w w') : RM w' B A l :=
  ⟨fun i hi => by
    obtain ⟨g, o, e, hl, hc⟩ := h.at_ i hi
    obtain ⟨cs, fz, hg⟩ := ht g o e
    have hne : some g ≠ some b := by
      intro e2
      obtain ⟨cs', hb'⟩ := hb
      rw [Option.some.inj e2, hb'] at hg
      simp at hg
    have := ho g _ hg hne (by intro c f hcf; simp at hcf)
    refine ⟨g, o, e, hl, fun c v hv => ?_⟩
    rw [cell_of_block (this.trans hg.symm)]
    exact hc c v hv⟩
theorem cells_append (l m : List UInt8) : Lib.byteCells (l ++ m) = Lib.byteCells l ++ Lib.byteCells m := by simp [Lib.byteCells]
theorem str_cells (s : ByteArray) : Lib.strCells s = Lib.byteCells s.data.toList := by
  simp [Lib.strCells, Lib.byteCells]
theorem cells_len (l : List UInt8) : (Lib.byteCells l).length = l.length := by simp [Lib.byteCells]
theorem ws_any (b : Nat) (l : List UInt8) (s : ByteArray) (w : World) (h : Lib.IsBuilderF 84 5 b b (Lib.byteCells l) w) (hlen : l.length + s.size ≤ 100000000) :
    Calls Tryz.prog 52 #[.pointer (some ⟨b, 0, none⟩), .string s] w fun e w' => e = .returned (.tuple #[.int .i64 s.size, .nilIface]) ∧ Lib.IsBuilderF 84 5 b b (Lib.byteCells (l ++ s.data.toList)) w' ∧ Below b w w' ∧ Lib.OthersKept 5 (some b) w w' := by
  have hbw : b < w.heap.size := by obtain ⟨cs, hc⟩ := builder_block h; exact (Array.getElem?_eq_some_iff.1 hc).1
  refine (Tryz.writeString b b _ s w h (by rw [cells_len]; omega) (by omega)).mono ?_
  rintro e w' ⟨rfl, h1, h2, h3⟩
  exact ⟨rfl, .inr (by rw [cells_append, ← str_cells]; exact h1), h2, h3⟩
end Go.Proofs.YthlcdimofagmfaaGreatDoor
namespace Go.Proofs.YthlcdimofagmfaaGreatDoor
open Go.RowKit Go.Sort
set_option linter.unusedSimpArgs false
set_option linter.unnecessarySimpa false
set_option linter.unusedVariables false
def textB (x : Md) (l : List Md) : ByteArray := if chkM x l = 0 then ⟨(textL x (sortM l)).toArray⟩ else ⟨#[]⟩
def TextIs (s : ByteArray) (n : Int) (w : World) (e : Ending) (w' : World) : Prop := e = .returned (.tuple #[.string s, .int .i64 n]) ∧ Below w.heap.size w w'
theorem chk_path {x : Md} {l : List Md} (h : chkM x l = 0) : ∀ y ∈ x :: l, y.1.size ≤ 60 := by
  intro y hy
  rw [chkM_def] at h
  by_cases h1 : (x :: l).any p1 = true
  · rw [if_pos h1] at h; cases h
  · have := List.any_eq_false.1 (Bool.eq_false_iff.2 h1) y hy
    simp only [p1, pathB, Bool.not_eq_true', Bool.not_eq_false, Bool.and_eq_true, decide_eq_true_eq] at this
    have := this.1
    simpa using this
theorem flat_bound (k : ByteArray) (hk : k.size ≤ 10) : ∀ (S : List Md), (∀ y ∈ S, y.1.size ≤ 60) → (S.flatMap fun y => (lineB k y).data.toList).length ≤ S.length * 100
  | [], _ => by simp
  | y :: S, h => by
    have ih := flat_bound k hk S (fun z hz => h z (by simp [hz]))
    have hy := h y (by simp)
    have ht := txt_le y.2.1 y.2.2.1 y.2.2.2
    have hl : (lineB k y).data.toList.length ≤ 100 := by
      have : (lineB k y).data.toList.length = (lineB k y).size := by simp
      rw [this]
      unfold lineB
      have e1 : (⟨#[32]⟩ : ByteArray).size = 1 := rfl
      have e2 : (⟨#[10]⟩ : ByteArray).size = 1 := rfl
      simp only [ByteArray.size_append, e1, e2]; omega
    rw [List.flatMap_cons, List.length_append, List.length_cons]; omega
theorem line_le (k : ByteArray) (hk : k.size ≤ 10) (y : Md) (hy : y.1.size ≤ 60) : (lineB k y).size ≤ 100 := by
  have ht := txt_le y.2.1 y.2.2.1 y.2.2.2
  unfold lineB
  have e1 : (⟨#[32]⟩ : ByteArray).size = 1 := rfl
  have e2 : (⟨#[10]⟩ : ByteArray).size = 1 := rfl
  simp only [ByteArray.size_append, e1, e2]; omega
set_option maxRecDepth 100000 in
set_option maxHeartbeats 4000000 in
theorem text_no (x : Md) (A : Option Addr) (c : Nat) (l : List Md) (n : Int) (w : World) (hM : Mx w) (hR : RM w w.heap.size A l) (hf : Plane A c) (hl : l.length ≤ 90000) (hc : chkM x l = n) (hn : n ≠ 0) :
    Calls Tryz.prog 31 #[mf x A l.length c] w (TextIs ⟨#[]⟩ n w) := by
  have hb0 := bal w (mblk x A l.length c 37)
  have K := Lib.hid (check_any x A c l _ (hM.keep hb0 hM.1) (hR.up hb0) hf hl)
  rw [hc] at K
  have HB0 := Lib.hid hb0
  have q1 : (n != 0) = true := by simp [hn]
  clear hb0 hM hR hf hl hc hn
  unfold mf at *
  unfold mblk at *
  go_enter Tryz.func31, Tryz.ntmps31
  go_wp2_with fail
  refine K.out.mono ?_
  rintro e w1 ⟨rfl, hb1⟩
  have HB1 := Lib.hid (HB0.out.trans (hb1.mono HB0.out.size))
  clear hb1
  go_wp2_with fail
  go_ret2
  exact ⟨rfl, HB1.out⟩
set_option maxRecDepth 100000 in
set_option maxHeartbeats 4000000 in
theorem text_yes (x : Md) (A : Option Addr) (c : Nat) (l : List Md) (w : World) (hM : Mx w) (hT : P10 w) (hR : RM w w.heap.size A l) (hf : Plane A c) (hl : l.length ≤ 80) (hc : chkM x l = 0) :
    Calls Tryz.prog 31 #[mf x A l.length c] w (TextIs ⟨(textL x (sortM l)).toArray⟩ 0 w) := by
  have hb0 := bal w (mblk x A l.length c 37)
  have K := Lib.hid (check_any x A c l _ (hM.keep hb0 hM.1) (hR.up hb0) hf (by omega))
  rw [hc] at K
  have hpl := chk_path hc
  have hxp : x.1.size ≤ 60 := hpl x (by simp)
  have HPS := Lib.hid (show ∀ y ∈ sortM l, y.1.size ≤ 60 from fun y hy => hpl y (by simp [(sortM_perm l).mem_iff.1 hy]))
  have HB0 := Lib.hid hb0
  have HT := Lib.hid hT
  have hC := C4.new w x 37
  have HRF := Lib.hid (And.intro hR (And.intro hf hl))
  have hsl := sortM_length l
  obtain ⟨S, hS⟩ : ∃ S, S = sortM l := ⟨_, rfl⟩
  rw [← hS] at HPS hsl ⊢
  have HSS := Lib.hid hS
  have hS80 : S.length ≤ 80 := by omega
  have hbx : (w.alloc (mblk x A l.length c 37)).cell? ⟨w.heap.size, 0, none⟩ = some (.string x.1) ∧ (w.alloc (mblk x A l.length c 37)).cell? ⟨w.heap.size, 1, none⟩ = some (.int .i64 x.2.1) ∧ (w.alloc (mblk x A l.length c 37)).cell? ⟨w.heap.size, 2, none⟩ = some (.int .i64 x.2.2.1) ∧ (w.alloc (mblk x A l.length c 37)).cell? ⟨w.heap.size, 3, none⟩ = some (.int .i64 x.2.2.2) ∧ (w.alloc (mblk x A l.length c 37)).cell? ⟨w.heap.size, 4, none⟩ = some (.slice A l.length c) := ⟨by simp, by simp, by simp, by simp, by simp⟩
  have HX := Lib.hid hbx
  have HTL : Hid (textL x S = (lineB kM x).data.toList ++ S.flatMap fun y => (lineB kR y).data.toList) := Lib.hid rfl
  obtain ⟨R, hRR⟩ : ∃ R, R = textL x S := ⟨_, rfl⟩
  rw [← hRR] at HTL ⊢
  have hlk := line_le kM (by decide) x hxp
  have KL := Lib.hid (fun w h => line_any kM x (by decide) (by omega) w h)
  clear hb0 hM hT hR hf hl hc hpl hC hS hbx hRR hsl
  unfold mf at *
  unfold mblk at *
  go_enter Tryz.func31, Tryz.ntmps31
  go_wp2_with fail
  refine K.out.mono ?_
  rintro e w1 ⟨rfl, hb1⟩
  have HB1 := Lib.hid (HB0.out.trans (hb1.mono HB0.out.size))
  obtain ⟨x0, x1, x2, x3, x4⟩ := HX.out
  have y0 := cell_keep (cell_keep x0 hb1) (bal w1 (.cells #[.pointer none, .slice none 0 0] 84))
  have y1 := cell_keep (cell_keep x1 hb1) (bal w1 (.cells #[.pointer none, .slice none 0 0] 84))
  have y2 := cell_keep (cell_keep x2 hb1) (bal w1 (.cells #[.pointer none, .slice none 0 0] 84))
  have y3 := cell_keep (cell_keep x3 hb1) (bal w1 (.cells #[.pointer none, .slice none 0 0] 84))
  have y4 := cell_keep (cell_keep x4 hb1) (bal w1 (.cells #[.pointer none, .slice none 0 0] 84))
  have hlt1 : w.heap.size < w1.heap.size := by have := hb1.size; simp at this; omega
  have HI2 := Lib.hid (Lib.IsBuilderF.of (Lib.fresh_isBuilder 84 5 w1))
  have HB2 := Lib.hid (HB1.out.alloc HB1.out.size (.cells #[.pointer none, .slice none 0 0] 84))
  have HT2 := Lib.hid (P10.keep HT.out HB2.out)
  clear hb1 K HB0 HX x0 x1 x2 x3 x4 HB1
  go_wp2_with fail
  generalize w1.alloc (.cells #[.pointer none, .slice none 0 0] 84) = w2 at *
  generalize w1.heap.size = b at *
  refine (KL.out _ HT2.out).mono ?_
  rintro e w3 ⟨rfl, hb3⟩
  have HI3 := Lib.hid (builder_below HI2.out hb3)
  have HB3 := Lib.hid (HB2.out.trans (hb3.mono HB2.out.size))
  have HY := Lib.hid (cell_keep y4 hb3)
  clear hb3 HI2 HB2 HT2 KL y0 y1 y2 y3 y4
  go_wp2_with fail
  refine (ws_any b [] (lineB kM x) w3 HI3.out (by have := hlk; simp; omega)).mono ?_
  rintro e w4 ⟨rfl, hi4, hb4, ho4⟩
  have HI4 := Lib.hid hi4
  have HB4 := Lib.hid (HB3.out.trans (hb4.mono (Nat.le_of_lt hlt1)))
  have y4 : w4.cell? ⟨w.heap.size, 4, none⟩ = some (.slice A l.length c) := by rw [hb4.cell (p := ⟨w.heap.size, 4, none⟩) hlt1]; exact HY.out
  have KS := Lib.hid (sorted_any A c l w4 ((HRF.out.1.below HB4.out).le HB4.out.size) (by have := HRF.out.2.2; omega) HRF.out.2.1)
  rw [← HSS.out] at KS
  clear hi4 hb4 ho4 HI3 HB3 HY
  go_wp2_with fail
  refine KS.out.mono ?_
  rintro e w5 ⟨A1, c1, rfl, hre, ⟨_, _, hty⟩, hb5⟩
  have HI5 := Lib.hid (builder_below HI4.out hb5)
  have HB5 := Lib.hid (HB4.out.trans (hb5.mono HB4.out.size))
  have HRE := Lib.hid (And.intro hre hty)
  clear hre hty hb5 HI4 HB4 KS y4 HRF HSS
  have hbw5 : b < w5.heap.size := by obtain ⟨cs, hc⟩ := builder_block HI5.out; exact (Array.getElem?_eq_some_iff.1 hc).1
  go_wp2_with fail
  go_loopw [7, 21] (fun _ s21 wr => ∃ k : Nat, s21 = .int .i64 (k : Int) ∧ k ≤ S.length ∧ Hid (Lib.IsBuilderF 84 5 b b (Lib.byteCells ((lineB kM x).data.toList ++ (S.take k).flatMap fun y => (lineB kR y).data.toList)) wr) ∧ Hid (Lib.OthersKept 5 (some b) w5 wr) ∧ Hid (Below b w5 wr)) (fun _ s21 _ => (S.length - intOf s21).toNat)
  case atStart => exact ⟨0, rfl, by omega, Lib.hid (by simpa using HI5.out), Lib.hid (Lib.OthersKept.refl _ _ _), Lib.hid (Below.refl _ _)⟩
  case round =>
    obtain ⟨k, rfl, hk, HI, HO, HB⟩ := hrel
    have hbwr : b < wr.heap.size := Nat.lt_of_lt_of_le hbw5 HB.out.size
    have HBW := Lib.hid (show Below w.heap.size w wr from HB5.out.trans (HB.out.mono (Nat.le_of_lt hlt1)))
    by_cases hlt : k < S.length
    · obtain ⟨g, o, hA, hgl, c0, c1, c2, c3⟩ := (rm_kept HRE.out.1 HRE.out.2 (builder_block HI5.out) HO.out).four k hlt
      subst hA
      have hkl : (k : Int) < (S.length : Int) := by omega
      have hyp := HPS.out S[k] (List.getElem_mem hlt)
      have HTK := Lib.hid (show ((S.take (k + 1)).flatMap fun y => (lineB kR y).data.toList) = ((S.take k).flatMap fun y => (lineB kR y).data.toList) ++ (lineB kR S[k]).data.toList by
        rw [← List.take_append_getElem hlt, List.flatMap_append]; simp)
      have hfb := flat_bound kR (by decide) (S.take k) (fun y hy => HPS.out y (List.mem_of_mem_take hy))
      have htl : (S.take k).length ≤ 80 := by simp; omega
      obtain ⟨y, hy⟩ : ∃ y, y = S[k] := ⟨_, rfl⟩
      rw [← hy] at c0 c1 c2 c3 hyp HTK
      have hl2 := line_le kR (by decide) y hyp
      have hl1 : (lineB kM x).data.toList.length = (lineB kM x).size := by simp
      have HL := Lib.hid hl1
      clear hl1
      have hb7 := bal wr (.cells #[.string y.1, .int .i64 y.2.1, .int .i64 y.2.2.1, .int .i64 y.2.2.2] 34)
      have KL := Lib.hid (line_any kR y (by decide) (by omega) (wr.alloc (.cells #[.string y.1, .int .i64 y.2.1, .int .i64 y.2.2.1, .int .i64 y.2.2.2] 34)) (P10.keep (P10.keep HT.out HBW.out) hb7))
      have HI7 := Lib.hid (builder_below HI.out hb7)
      have HO7 := Lib.hid (HO.out.below hb7)
      have HB7 := Lib.hid (HB.out.alloc (Nat.le_of_lt hbwr) (.cells #[.string y.1, .int .i64 y.2.1, .int .i64 y.2.2.1, .int .i64 y.2.2.2] 34))
      generalize ((S.take k).flatMap fun y => (lineB kR y).data.toList) = acc at *
      clear hy hb7 HI HO HB hyp
      go_wp2_with fail
      refine KL.out.mono ?_
      rintro e w8 ⟨rfl, hb8⟩
      have HI8 := Lib.hid (builder_below HI7.out hb8)
      have HO8 := Lib.hid (HO7.out.below hb8)
      have HB8 := Lib.hid (HB7.out.trans (hb8.mono (by simp; omega)))
      clear hb8 HI7 HO7 HB7 KL c0 c1 c2 c3
      go_wp2_with fail
      refine (ws_any b ((lineB kM x).data.toList ++ acc) (lineB kR y) w8 HI8.out (by rw [List.length_append, HL.out]; omega)).mono ?_
      rintro e w9 ⟨rfl, hi9, hb9, ho9⟩
      have HI9 := Lib.hid (show Lib.IsBuilderF 84 5 b b (Lib.byteCells ((lineB kM x).data.toList ++ (S.take (k + 1)).flatMap fun y => (lineB kR y).data.toList)) w9 by rw [HTK.out, ← List.append_assoc]; exact hi9)
      have HO9 := Lib.hid (HO8.out.trans ho9)
      have HB9 := Lib.hid (HB8.out.trans hb9)
      clear hi9 hb9 ho9 HI8 HO8 HB8
      go_wp2_with fail
      go_roundw
      case rel => exact ⟨k + 1, by go_num, by omega, HI9, HO9, HB9⟩
      case measure => simp [intOf]; omega
    · obtain rfl : k = S.length := by omega
      have hI := HI.out
      rw [List.take_length, ← HTL.out] at hI
      have KS := Lib.hid (Tryz.builderString b b R wr hI (Nat.le_of_lt hbwr))
      clear hI HI HO
      go_wp2_with fail
      refine KS.out.mono ?_
      rintro e w9 ⟨rfl, _, hb9, _⟩
      have HBE := Lib.hid (HBW.out.trans (hb9.mono (Nat.le_of_lt hlt1)))
      clear hb9
      go_wp2_with fail
      go_ret2
      exact ⟨rfl, HBE.out⟩
theorem text_any (x : Md) (A : Option Addr) (c : Nat) (l : List Md) (w : World) (hM : Mx w) (hT : P10 w) (hR : RM w w.heap.size A l) (hf : Plane A c) (hl : l.length ≤ 80) :
    Calls Tryz.prog 31 #[mf x A l.length c] w (TextIs (textB x l) (chkM x l) w) := by
  unfold textB
  by_cases h : chkM x l = 0
  · rw [if_pos h, h]; exact text_yes x A c l w hM hT hR hf hl h
  · rw [if_neg h]; exact text_no x A c l _ w hM hR hf (by omega) rfl h
end Go.Proofs.YthlcdimofagmfaaGreatDoor
