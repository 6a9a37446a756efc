/-
  The words of a line. Condition: internal/bytealg.MaxLen holds some number.
-/
import Derived.Test.YtmmghdicjpfdoaaGreatDoorR2
namespace Go.Proofs.YtmmghdicjpfdoaaGreatDoor
open Go.RowKit Go.Sort
set_option linter.unusedSimpArgs false
set_option linter.unnecessarySimpa false
set_option linter.unusedVariables false
theorem splitL_count (c : UInt8) : ∀ l : List UInt8, (splitL c l).length ≤ l.length + 1
  | [] => by simp [splitL]
  | b :: l => by
    have ih := splitL_count c l
    by_cases hb : b = c
    · rw [splitL_eq hb]; simp; omega
    · rw [splitL_no hb]
      cases hs : splitL c l with
      | nil => simp [glue]
      | cons u v => rw [hs] at ih; simp [glue] at ih ⊢; omega
theorem cut_len (s p : List UInt8) : (Lib.cut s p).1.length ≤ s.length := by
  unfold Lib.cut
  split <;> simp
  omega
theorem words_len {s : List UInt8} {x : List UInt8} (h : x ∈ wordsC s) : x.length ≤ s.length := by
  unfold wordsC wordsL bareL at h
  have := splitL_len 32 _ x (List.mem_filter.1 h).1
  have := cut_len s [47, 47]
  omega
theorem words_count (s : List UInt8) : (wordsC s).length ≤ s.length + 1 := by
  unfold wordsC wordsL bareL
  have h1 := List.length_filter_le (fun x : List UInt8 => !x.isEmpty) (splitL 32 (Lib.cut s [47, 47]).1)
  have h2 := splitL_count 32 (Lib.cut s [47, 47]).1
  have := cut_len s [47, 47]
  omega
theorem closure70 (x : Nat) (W : World) : Calls Tryz.prog 70 #[.int .i32 (x : Int)] W fun e w' => e = .returned (.bool (blank x)) ∧ ∃ q, w' = W.drewN q := by
  have h : blank x = ((x : Int) == 32) := by
    unfold blank; rw [Bool.eq_iff_iff, beq_iff_eq, beq_iff_eq]; omega
  rw [h]
  clear h
  cases h1 : ((x : Int) == 32) <;> (
    go_enter Tryz.func70, Tryz.ntmps70
    go_wp2_with fail
    go_ret
    exact ⟨ret_bool (by first | exact h1.symm | exact h1 | rw [h1] | rfl), 0, rfl⟩)
def WordsIs (s : ByteArray) (w : World) (e : Ending) (w' : World) : Prop :=
  ∃ L : List ByteArray, L.map (·.data.toList) = wordsC s.data.toList ∧ GivesS L w e w'
theorem eg70 : ∀ args w, (callFunc 70 args).run Tryz.prog w = .ok (.enter 70 args) w := enters_of Tryz.func70 (by kernel_rfl) rfl
theorem fields_at (s : ByteArray) (hs : s.size ≤ 100000) (w : World) : Calls Tryz.prog 69 #[.string s, .func (.func 70) #[] #[]] w (GivesS (Lib.goFieldsP blank s) w) := by
  refine (Any.strings_FieldsFunc Tryz.lays229 70 #[] eg70 blank s w (by omega) (fun W x hb => closure70 x W) (by kernel_rfl) (by kernel_rfl)).mono ?_
  rintro e w' ⟨A, rfl, hA, hown, hb⟩
  obtain ⟨A', c', he, h1, h2, h3⟩ := rs_of_own hown
  exact ⟨A', c', congrArg _ he, h1, ⟨h2, h3⟩, hb⟩
set_option maxRecDepth 100000 in
theorem words_any (s : ByteArray) (hs : s.size ≤ 100000) (w : World) (hM : Mx w) : Calls Tryz.prog 49 #[.string s] w (WordsIs s w) := by
  obtain ⟨_, m, hm⟩ := hM
  obtain ⟨B, hB⟩ : ∃ B : ByteArray, B = ⟨(Lib.cut s.data.toList [47, 47]).1.toArray⟩ := ⟨_, rfl⟩
  have K1 : Hid (Calls Tryz.prog 68 #[.string s, .string ⟨#[47, 47]⟩] w fun e w' => (∃ r f, e = .returned (.tuple #[.string B, .string r, .bool f])) ∧ ∃ n, w' = w.drewN n) :=
    Lib.hid ((Tryz.strings_Cut s ⟨#[47, 47]⟩ m w (by omega) hm).mono fun e w' ⟨he, hw⟩ => ⟨⟨⟨(Lib.cut s.data.toList [47, 47]).2.1.toArray⟩, (Lib.cut s.data.toList [47, 47]).2.2, by rw [he, hB]⟩, hw⟩)
  have hBs : B.size ≤ 100000 := by
    have := cut_len s.data.toList [47, 47]
    rw [hB]
    show (Lib.cut s.data.toList [47, 47]).1.toArray.size ≤ 100000
    rw [List.size_toArray]
    simp at this
    omega
  have hBd : B.data.toList = bareL s.data.toList := by rw [hB]; rfl
  have HP : Hid (∀ e w1 w', Below w.heap.size w w1 → GivesS (Lib.goFieldsP blank B) w1 e w' → WordsIs s w e w') := Lib.hid (fun e w1 w' hb ⟨A, c, he, h1, ⟨h2, h3⟩, h4⟩ =>
    ⟨Lib.goFieldsP blank B, by rw [fields_words, hBd]; rfl, A, c, he, h1, ⟨h2, h3.le hb.size⟩, hb.trans (h4.mono hb.size)⟩)
  have K2 := Lib.hid (fun w => fields_at B hBs w)
  clear hB hBs hBd hm
  go_enter Tryz.func49, Tryz.ntmps49
  go_wp2_with fail
  refine K1.out.mono ?_
  rintro e w1 ⟨⟨r, f, rfl⟩, n, rfl⟩
  have HB := Lib.hid (show Below w.heap.size w (w.drewN n) from ((Gr.refl w).drewN n).below)
  go_wp2_with fail
  refine (K2.out _).mono ?_
  rintro e w2 hG
  obtain ⟨A, c, rfl, hG⟩ := hG
  have HE := Lib.hid (HP.out _ _ _ HB.out ⟨A, c, rfl, hG⟩)
  clear hG HP K1 K2
  generalize (Lib.goFieldsP blank B).length = q at *
  go_wp2_with fail
  go_ret
  exact HE.out
end Go.Proofs.YtmmghdicjpfdoaaGreatDoor
