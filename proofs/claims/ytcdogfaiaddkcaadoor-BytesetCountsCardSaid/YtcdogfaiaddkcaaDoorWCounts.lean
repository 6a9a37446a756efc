/-
  Len and Least agree with the specification's list of elements, for any set of bytes: the law BytesetCounts. Condition: the table math/bits.deBruijn64tab holds what its text says.
-/
import Derived.Test.YtcdogfaiaddkcaaDoorOnes
import Derived.Test.YtcdogfaiaddkcaaDoorWRanges
namespace Go.Proofs.YtcdogfaiaddkcaaDoor
open Go.RowKit
set_option linter.unusedSimpArgs false
set_option linter.unusedVariables false
theorem len_is (s : BS) (n : Nat) (h : (els s 256).length = n) (w : World) :
    Calls Tryd.prog 25 #[st s] w fun e w' => e = .returned (.int .i64 (n : Int)) ∧ Below w.heap.size w w' := by subst h; exact len_any s w
theorem rlist_is (s : BS) (l : List Nat) (h : els s 256 = l) (w : World) :
    Calls Tryd.prog 23 #[st s] w fun e w' => ∃ a c, e = .returned (.slice a l.length c) ∧ w'.ownsRow (w.heap.size + 1) 3 1 (.slice a l.length c) l.length (vals l) ∧ Below w.heap.size w w' := by
  subst h
  refine (rlist_any s w).mono ?_
  rintro e w' ⟨v, rfl, hown, hb⟩
  obtain ⟨a, c, rfl⟩ := own_shape hown
  exact ⟨a, c, rfl, hown, hb⟩
set_option maxRecDepth 100000 in
set_option maxHeartbeats 2000000 in
theorem law_counts0 (s : BS) (hs : s = 0#256) (w : World) (hT : Tab w) :
    Calls Tryd.prog 6 #[st s] w fun e w' => e = .returned (.bool true) ∧ Below w.heap.size w w' := by
  have hE : els s 256 = [] := els_none s 256 (fun j _ => by rw [hs]; simp)
  have HE := Lib.hid hE
  have HS := Lib.hid hs
  have HT := Lib.hid hT
  have h0 := hT.1
  clear hE hs hT
  unfold st
  go_enter Tryd.func6, Tryd.ntmps6
  go_wp2_with fail
  refine (rlist_is s [] HE.out _).mono ?_
  rintro e w1 ⟨a, c, rfl, hown, hb1⟩
  have R1 := (Row4.new w s).below hb1 (by simp)
  have B1 : Below w.heap.size w w1 := ((Below.refl w.heap.size w).alloc (Nat.le_refl _) _).trans (hb1.mono (by simp))
  clear hb1 hown
  obtain ⟨za, a0, a1, a2, a3, fa0, fa1, fa2, fa3⟩ := id R1
  go_wp2_with fail
  refine (least_any s _ (HT.out.below B1 h0)).mono ?_
  rintro e w2 ⟨hL, hb2⟩
  have he : e = .returned (.tuple #[.int .u8 0, .bool false]) := by
    rcases hL with h | ⟨b, _, hl, _⟩
    · exact h.2
    · have := hl.1; rw [HS.out] at this; simp at this
  subst he
  have R2 := R1.below hb2 R1.size
  have B2 : Below w.heap.size w w2 := B1.trans (hb2.mono B1.size)
  clear hL hb2 R1 B1 za a0 a1 a2 a3 fa0 fa1 fa2 fa3
  obtain ⟨za, a0, a1, a2, a3, fa0, fa1, fa2, fa3⟩ := id R2
  go_wp2_with fail
  refine (len_is s 0 (by rw [HE.out]; rfl) _).mono ?_
  rintro e w3 ⟨rfl, hb3⟩
  have B3 : Below w.heap.size w w3 := B2.trans (hb3.mono B2.size)
  clear hb3 R2 B2 za a0 a1 a2 a3 fa0 fa1 fa2 fa3
  go_wp2_with fail
  refine (awake_any _ (HT.out.below B3 h0)).mono ?_
  rintro e w4 ⟨rfl, hb4⟩
  have HB := Lib.hid (B3.trans (hb4.mono B3.size))
  clear hb4 B3
  go_wp2_with fail
  go_ret
  exact ⟨rfl, HB.out⟩
set_option maxRecDepth 100000 in
set_option maxHeartbeats 2000000 in
theorem law_counts1 (s : BS) (b : Nat) (hl : isLeast s b) (hb256 : b < 256) (w : World) (hT : Tab w) :
    Calls Tryd.prog 6 #[st s] w fun e w' => e = .returned (.bool true) ∧ Below w.heap.size w w' := by
  obtain ⟨t, hE⟩ := els_head s b hl.1 hl.2 (256 - (b + 1))
  rw [show b + 1 + (256 - (b + 1)) = 256 by omega] at hE
  have hlen : t.length + 1 ≤ 256 := by have := els_len_le s 256; rw [hE] at this; simpa using this
  have HE := Lib.hid hE
  have HT := Lib.hid hT
  have HL := Lib.hid hl
  have h0 := hT.1
  clear hE hl hT
  unfold st
  go_enter Tryd.func6, Tryd.ntmps6
  go_wp2_with fail
  refine (rlist_is s (b :: t) HE.out _).mono ?_
  rintro e w1 ⟨a, c, rfl, hown, hb1⟩
  have R1 := (Row4.new w s).below hb1 (by simp)
  have B1 : Below w.heap.size w w1 := ((Below.refl w.heap.size w).alloc (Nat.le_refl _) _).trans (hb1.mono (by simp))
  obtain ⟨g, cap, ev⟩ := Joins.ownsRow_form hown (by simp)
  simp only [Value.slice.injEq, true_and] at ev
  obtain ⟨rfl, rfl⟩ := ev
  have hc0 : w1.cell? ⟨g, 0, none⟩ = some (.int .i64 (b : Int)) := by
    have := hown.cellAt 0 (by simp)
    simpa [vals] using this
  simp only [List.length_cons]
  generalize hn : t.length + 1 = n at hlen ⊢
  have hpos : 0 < n := by omega
  have HN := Lib.hid hn
  have d1 : ((n : Int) == 0) = false := by simp; omega
  clear hb1 hown hn
  obtain ⟨za, a0, a1, a2, a3, fa0, fa1, fa2, fa3⟩ := id R1
  go_wp2_with fail
  refine (least_any s _ (HT.out.below B1 h0)).mono ?_
  rintro e w2 ⟨hL, hb2⟩
  have he : e = .returned (.tuple #[.int .u8 (b : Int), .bool true]) := by
    rcases hL with h | ⟨b', _, hl', he⟩
    · have := HL.out.1; rw [h.1] at this; simp at this
    · have : b' = b := by
        rcases Nat.lt_trichotomy b' b with h | h | h
        · have := HL.out.2 b' h; rw [hl'.1] at this; cases this
        · exact h
        · have := hl'.2 b h; rw [HL.out.1] at this; cases this
      subst this; exact he
  subst he
  have R2 := R1.below hb2 R1.size
  have B2 : Below w.heap.size w w2 := B1.trans (hb2.mono B1.size)
  have hc2 := cell_keepB hc0 hb2
  clear hL hb2 R1 B1 za a0 a1 a2 a3 fa0 fa1 fa2 fa3 hc0
  obtain ⟨za, a0, a1, a2, a3, fa0, fa1, fa2, fa3⟩ := id R2
  go_wp2_with fail
  refine (len_is s n (by rw [HE.out]; simpa using HN.out) _).mono ?_
  rintro e w3 ⟨rfl, hb3⟩
  have B3 : Below w.heap.size w w3 := B2.trans (hb3.mono B2.size)
  have hc3 := cell_keepB hc2 hb3
  clear hb3 R2 B2 za a0 a1 a2 a3 fa0 fa1 fa2 fa3 hc2
  have e1 : IntKind.i64.wrap (b : Int) = (b : Int) := by simp [IntKind.wrap, IntKind.bits, IntKind.signed]; omega
  go_wp2_with fail
  refine (awake_any _ (HT.out.below B3 h0)).mono ?_
  rintro e w4 ⟨rfl, hb4⟩
  have HB := Lib.hid (B3.trans (hb4.mono B3.size))
  clear hb4 B3
  go_wp2_with fail
  go_ret
  exact ⟨rfl, HB.out⟩
theorem law_counts (s : BS) (w : World) (hT : Tab w) :
    Calls Tryd.prog 6 #[st s] w fun e w' => e = .returned (.bool true) ∧ Below w.heap.size w w' := by
  by_cases h : ∃ b, b < 256 ∧ isLeast s b
  · obtain ⟨b, hb, hl⟩ := h
    exact law_counts1 s b hl hb w hT
  · refine law_counts0 s ?_ w hT
    apply BitVec.eq_of_getLsbD_eq
    have key : ∀ j, j ≤ 256 → ∀ i, i < j → s.getLsbD i = false := by
      intro j
      induction j with
      | zero => intro _ i hi; omega
      | succ j ih =>
        intro hj i hi
        have ih := ih (by omega)
        by_cases e : i < j
        · exact ih i e
        · have : i = j := by omega
          subst this
          cases hb : s.getLsbD i with
          | false => rfl
          | true => exact absurd ⟨i, by omega, hb, ih⟩ h
    intro i hi
    rw [key 256 (Nat.le_refl _) i hi]; simp
end Go.Proofs.YtcdogfaiaddkcaaDoor
