/-
  Text of the program. Conditions: the table of powers of ten, internal/bytealg.MaxLen holds some number; at most 80 requirements.
-/
import Derived.Test.YtmmghdicjpfdoaaGreatDoorT2
namespace Go.Proofs.YtmmghdicjpfdoaaGreatDoor
open Go.RowKit Go.Sort
set_option linter.unusedSimpArgs false
set_option linter.unnecessarySimpa false
set_option linter.unusedVariables false
def textB (x : Md) (l : List Md) : ByteArray := if chkM x l = 0 then ⟨(textL x (sortM l)).toArray⟩ else ⟨#[]⟩
def TextIs (s : ByteArray) (n : Int) (w : World) (e : Ending) (w' : World) : Prop := e = .returned (.tuple #[.string s, .int .i64 n]) ∧ Below w.heap.size w w'
theorem chk_path {x : Md} {l : List Md} (h : chkM x l = 0) : ∀ y ∈ x :: l, y.1.size ≤ 60 := by
  intro y hy
  rw [chkM_def] at h
  by_cases h1 : (x :: l).any p1 = true
  · rw [if_pos h1] at h; cases h
  · have := List.any_eq_false.1 (Bool.eq_false_iff.2 h1) y hy
    simp only [p1, pathB, Bool.not_eq_true', Bool.not_eq_false, Bool.and_eq_true, decide_eq_true_eq] at this
    have := this.1
    simpa using this
theorem flat_bound (k : ByteArray) (hk : k.size ≤ 10) : ∀ (S : List Md), (∀ y ∈ S, y.1.size ≤ 60) → (S.flatMap fun y => (lineB k y).data.toList).length ≤ S.length * 100
  | [], _ => by simp
  | y :: S, h => by
    have ih := flat_bound k hk S (fun z hz => h z (by simp [hz]))
    have hy := h y (by simp)
    have ht := txt_le y.2.1 y.2.2.1 y.2.2.2
    have hl : (lineB k y).data.toList.length ≤ 100 := by
      have : (lineB k y).data.toList.length = (lineB k y).size := by simp
      rw [this]
      unfold lineB
      have e1 : (⟨#[32]⟩ : ByteArray).size = 1 := rfl
      have e2 : (⟨#[10]⟩ : ByteArray).size = 1 := rfl
      simp only [ByteArray.size_append, e1, e2]; omega
    rw [List.flatMap_cons, List.length_append, List.length_cons]; omega
theorem line_le (k : ByteArray) (hk : k.size ≤ 10) (y : Md) (hy : y.1.size ≤ 60) : (lineB k y).size ≤ 100 := by
  have ht := txt_le y.2.1 y.2.2.1 y.2.2.2
  unfold lineB
  have e1 : (⟨#[32]⟩ : ByteArray).size = 1 := rfl
  have e2 : (⟨#[10]⟩ : ByteArray).size = 1 := rfl
  simp only [ByteArray.size_append, e1, e2]; omega
set_option maxRecDepth 100000 in
set_option maxHeartbeats 4000000 in
theorem text_no (x : Md) (A : Option Addr) (c : Nat) (l : List Md) (n : Int) (w : World) (hM : Mx w) (hR : RM w w.heap.size A l) (hf : Plain A c) (hl : l.length ≤ 90000) (hc : chkM x l = n) (hn : n ≠ 0) :
    Calls Tryz.prog 18 #[mf x A l.length c] w (TextIs ⟨#[]⟩ n w) := by
  have hb0 := bal w (mblk x A l.length c 28)
  have K := Lib.hid (check_any x A c l _ (hM.keep hb0 hM.1) (hR.up hb0) hf hl)
  rw [hc] at K
  have HB0 := Lib.hid hb0
  have q1 : (n != 0) = true := by simp [hn]
  clear hb0 hM hR hf hl hc hn
  unfold mf at *
  unfold mblk at *
  go_enter Tryz.func18, Tryz.ntmps18
  go_wp2_with fail
  refine K.out.mono ?_
  rintro e w1 ⟨rfl, hb1⟩
  have HB1 := Lib.hid (HB0.out.trans (hb1.mono HB0.out.size))
  clear hb1
  go_wp2_with fail
  go_ret2
  exact ⟨rfl, HB1.out⟩
set_option maxRecDepth 100000 in
set_option maxHeartbeats 4000000 in
theorem text_yes (x : Md) (A : Option Addr) (c : Nat) (l : List Md) (w : World) (hM : Mx w) (hT : P10 w) (hR : RM w w.heap.size A l) (hf : Plain A c) (hl : l.length ≤ 80) (hc : chkM x l = 0) :
    Calls Tryz.prog 18 #[mf x A l.length c] w (TextIs ⟨(textL x (sortM l)).toArray⟩ 0 w) := by
  have hb0 := bal w (mblk x A l.length c 28)
  have K := Lib.hid (check_any x A c l _ (hM.keep hb0 hM.1) (hR.up hb0) hf (by omega))
  rw [hc] at K
  have hpl := chk_path hc
  have hxp : x.1.size ≤ 60 := hpl x (by simp)
  have HPS := Lib.hid (show ∀ y ∈ sortM l, y.1.size ≤ 60 from fun y hy => hpl y (by simp [(sortM_perm l).mem_iff.1 hy]))
  have HB0 := Lib.hid hb0
  have HT := Lib.hid hT
  have hC := C4.new w x 28
  have HRF := Lib.hid (And.intro hR (And.intro hf hl))
  have hsl := sortM_length l
  obtain ⟨S, hS⟩ : ∃ S, S = sortM l := ⟨_, rfl⟩
  rw [← hS] at HPS hsl ⊢
  have HSS := Lib.hid hS
  have hS80 : S.length ≤ 80 := by omega
  have hbx : (w.alloc (mblk x A l.length c 28)).cell? ⟨w.heap.size, 0, none⟩ = some (.string x.1) ∧ (w.alloc (mblk x A l.length c 28)).cell? ⟨w.heap.size, 1, none⟩ = some (.int .i64 x.2.1) ∧ (w.alloc (mblk x A l.length c 28)).cell? ⟨w.heap.size, 2, none⟩ = some (.int .i64 x.2.2.1) ∧ (w.alloc (mblk x A l.length c 28)).cell? ⟨w.heap.size, 3, none⟩ = some (.int .i64 x.2.2.2) ∧ (w.alloc (mblk x A l.length c 28)).cell? ⟨w.heap.size, 4, none⟩ = some (.slice A l.length c) := ⟨by simp, by simp, by simp, by simp, by simp⟩
  have HX := Lib.hid hbx
  have HTL : Hid (textL x S = (lineB kM x).data.toList ++ S.flatMap fun y => (lineB kR y).data.toList) := Lib.hid rfl
  obtain ⟨R, hRR⟩ : ∃ R, R = textL x S := ⟨_, rfl⟩
  rw [← hRR] at HTL ⊢
  have hlk := line_le kM (by decide) x hxp
  have KL := Lib.hid (fun w h => line_any kM x (by decide) (by omega) w h)
  clear hb0 hM hT hR hf hl hc hpl hC hS hbx hRR hsl
  unfold mf at *
  unfold mblk at *
  go_enter Tryz.func18, Tryz.ntmps18
  go_wp2_with fail
  refine K.out.mono ?_
  rintro e w1 ⟨rfl, hb1⟩
  have HB1 := Lib.hid (HB0.out.trans (hb1.mono HB0.out.size))
  obtain ⟨x0, x1, x2, x3, x4⟩ := HX.out
  have y0 := cell_keep (cell_keep x0 hb1) (bal w1 (.cells #[.pointer none, .slice none 0 0] 65))
  have y1 := cell_keep (cell_keep x1 hb1) (bal w1 (.cells #[.pointer none, .slice none 0 0] 65))
  have y2 := cell_keep (cell_keep x2 hb1) (bal w1 (.cells #[.pointer none, .slice none 0 0] 65))
  have y3 := cell_keep (cell_keep x3 hb1) (bal w1 (.cells #[.pointer none, .slice none 0 0] 65))
  have y4 := cell_keep (cell_keep x4 hb1) (bal w1 (.cells #[.pointer none, .slice none 0 0] 65))
  have hlt1 : w.heap.size < w1.heap.size := by have := hb1.size; simp at this; omega
  have HI2 := Lib.hid (Lib.IsBuilderF.of (Lib.fresh_isBuilder 65 5 w1))
  have HB2 := Lib.hid (HB1.out.alloc HB1.out.size (.cells #[.pointer none, .slice none 0 0] 65))
  have HT2 := Lib.hid (P10.keep HT.out HB2.out)
  clear hb1 K HB0 HX x0 x1 x2 x3 x4 HB1
  go_wp2_with fail
  generalize w1.alloc (.cells #[.pointer none, .slice none 0 0] 65) = w2 at *
  generalize w1.heap.size = b at *
  refine (KL.out _ HT2.out).mono ?_
  rintro e w3 ⟨rfl, hb3⟩
  have HI3 := Lib.hid (builder_below HI2.out hb3)
  have HB3 := Lib.hid (HB2.out.trans (hb3.mono HB2.out.size))
  have HY := Lib.hid (cell_keep y4 hb3)
  clear hb3 HI2 HB2 HT2 KL y0 y1 y2 y3 y4
  go_wp2_with fail
  refine (ws_any b [] (lineB kM x) w3 HI3.out (by have := hlk; simp; omega)).mono ?_
  rintro e w4 ⟨rfl, hi4, hb4, ho4⟩
  have HI4 := Lib.hid hi4
  have HB4 := Lib.hid (HB3.out.trans (hb4.mono (Nat.le_of_lt hlt1)))
  have y4 : w4.cell? ⟨w.heap.size, 4, none⟩ = some (.slice A l.length c) := by rw [hb4.cell (p := ⟨w.heap.size, 4, none⟩) hlt1]; exact HY.out
  have KS := Lib.hid (sorted_any A c l w4 ((HRF.out.1.below HB4.out).le HB4.out.size) (by have := HRF.out.2.2; omega) HRF.out.2.1)
  rw [← HSS.out] at KS
  clear hi4 hb4 ho4 HI3 HB3 HY
  go_wp2_with fail
  refine KS.out.mono ?_
  rintro e w5 ⟨A1, c1, rfl, hre, ⟨_, _, hty⟩, hb5⟩
  have HI5 := Lib.hid (builder_below HI4.out hb5)
  have HB5 := Lib.hid (HB4.out.trans (hb5.mono HB4.out.size))
  have HRE := Lib.hid (And.intro hre hty)
  clear hre hty hb5 HI4 HB4 KS y4 HRF HSS
  have hbw5 : b < w5.heap.size := by obtain ⟨cs, hc⟩ := builder_block HI5.out; exact (Array.getElem?_eq_some_iff.1 hc).1
  go_wp2_with fail
  go_loopw [7, 21] (fun _ s21 wr => ∃ k : Nat, s21 = .int .i64 (k : Int) ∧ k ≤ S.length ∧ Hid (Lib.IsBuilderF 65 5 b b (Lib.byteCells ((lineB kM x).data.toList ++ (S.take k).flatMap fun y => (lineB kR y).data.toList)) wr) ∧ Hid (Lib.OthersKept 5 (some b) w5 wr) ∧ Hid (Below b w5 wr)) (fun _ s21 _ => (S.length - intOf s21).toNat)
  case atStart => exact ⟨0, rfl, by omega, Lib.hid (by simpa using HI5.out), Lib.hid (Lib.OthersKept.refl _ _ _), Lib.hid (Below.refl _ _)⟩
  case round =>
    obtain ⟨k, rfl, hk, HI, HO, HB⟩ := hrel
    have hbwr : b < wr.heap.size := Nat.lt_of_lt_of_le hbw5 HB.out.size
    have HBW := Lib.hid (show Below w.heap.size w wr from HB5.out.trans (HB.out.mono (Nat.le_of_lt hlt1)))
    by_cases hlt : k < S.length
    · obtain ⟨g, o, hA, hgl, c0, c1, c2, c3⟩ := (rm_kept HRE.out.1 HRE.out.2 (builder_block HI5.out) HO.out).four k hlt
      subst hA
      have hkl : (k : Int) < (S.length : Int) := by omega
      have hyp := HPS.out S[k] (List.getElem_mem hlt)
      have HTK := Lib.hid (show ((S.take (k + 1)).flatMap fun y => (lineB kR y).data.toList) = ((S.take k).flatMap fun y => (lineB kR y).data.toList) ++ (lineB kR S[k]).data.toList by
        rw [← List.take_append_getElem hlt, List.flatMap_append]; simp)
      have hfb := flat_bound kR (by decide) (S.take k) (fun y hy => HPS.out y (List.mem_of_mem_take hy))
      have htl : (S.take k).length ≤ 80 := by simp; omega
      obtain ⟨y, hy⟩ : ∃ y, y = S[k] := ⟨_, rfl⟩
      rw [← hy] at c0 c1 c2 c3 hyp HTK
      have hl2 := line_le kR (by decide) y hyp
      have hl1 : (lineB kM x).data.toList.length = (lineB kM x).size := by simp
      have HL := Lib.hid hl1
      clear hl1
      have hb7 := bal wr (.cells #[.string y.1, .int .i64 y.2.1, .int .i64 y.2.2.1, .int .i64 y.2.2.2] 25)
      have KL := Lib.hid (line_any kR y (by decide) (by omega) (wr.alloc (.cells #[.string y.1, .int .i64 y.2.1, .int .i64 y.2.2.1, .int .i64 y.2.2.2] 25)) (P10.keep (P10.keep HT.out HBW.out) hb7))
      have HI7 := Lib.hid (builder_below HI.out hb7)
      have HO7 := Lib.hid (HO.out.below hb7)
      have HB7 := Lib.hid (HB.out.alloc (Nat.le_of_lt hbwr) (.cells #[.string y.1, .int .i64 y.2.1, .int .i64 y.2.2.1, .int .i64 y.2.2.2] 25))
      generalize ((S.take k).flatMap fun y => (lineB kR y).data.toList) = acc at *
      clear hy hb7 HI HO HB hyp
      go_wp2_with fail
      refine KL.out.mono ?_
      rintro e w8 ⟨rfl, hb8⟩
      have HI8 := Lib.hid (builder_below HI7.out hb8)
      have HO8 := Lib.hid (HO7.out.below hb8)
      have HB8 := Lib.hid (HB7.out.trans (hb8.mono (by simp; omega)))
      clear hb8 HI7 HO7 HB7 KL c0 c1 c2 c3
      go_wp2_with fail
      refine (ws_any b ((lineB kM x).data.toList ++ acc) (lineB kR y) w8 HI8.out (by rw [List.length_append, HL.out]; omega)).mono ?_
      rintro e w9 ⟨rfl, hi9, hb9, ho9⟩
      have HI9 := Lib.hid (show Lib.IsBuilderF 65 5 b b (Lib.byteCells ((lineB kM x).data.toList ++ (S.take (k + 1)).flatMap fun y => (lineB kR y).data.toList)) w9 by rw [HTK.out, ← List.append_assoc]; exact hi9)
      have HO9 := Lib.hid (HO8.out.trans ho9)
      have HB9 := Lib.hid (HB8.out.trans hb9)
      clear hi9 hb9 ho9 HI8 HO8 HB8
      go_wp2_with fail
      go_roundw
      case rel => exact ⟨k + 1, by go_num, by omega, HI9, HO9, HB9⟩
      case measure => simp [intOf]; omega
    · obtain rfl : k = S.length := by omega
      have hI := HI.out
      rw [List.take_length, ← HTL.out] at hI
      have KS := Lib.hid (Tryz.builderString b b R wr hI (Nat.le_of_lt hbwr))
      clear hI HI HO
      go_wp2_with fail
      refine KS.out.mono ?_
      rintro e w9 ⟨rfl, _, hb9, _⟩
      have HBE := Lib.hid (HBW.out.trans (hb9.mono (Nat.le_of_lt hlt1)))
      clear hb9
      go_wp2_with fail
      go_ret2
      exact ⟨rfl, HBE.out⟩
theorem text_any (x : Md) (A : Option Addr) (c : Nat) (l : List Md) (w : World) (hM : Mx w) (hT : P10 w) (hR : RM w w.heap.size A l) (hf : Plain A c) (hl : l.length ≤ 80) :
    Calls Tryz.prog 18 #[mf x A l.length c] w (TextIs (textB x l) (chkM x l) w) := by
  unfold textB
  by_cases h : chkM x l = 0
  · rw [if_pos h, h]; exact text_yes x A c l w hM hT hR hf hl h
  · rw [if_neg h]; exact text_no x A c l _ w hM hR hf (by omega) rfl h
end Go.Proofs.YtmmghdicjpfdoaaGreatDoor
