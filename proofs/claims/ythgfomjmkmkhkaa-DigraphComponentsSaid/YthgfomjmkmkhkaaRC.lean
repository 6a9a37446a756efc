/-
  Components of the specification. Conditions: the slice reads as a graph of at most 900 nodes with at most 1000 successors each.
-/
import Derived.Test.YthgfomjmkmkhkaaRQ
import Derived.Test.YthgfomjmkmkhkaaK
namespace Go.Proofs.Ythgfomjmkmkhkaa
open Go.RowKit
set_option linter.unusedSimpArgs false
set_option linter.unusedVariables false
theorem mut_step {g : Gr} {a l q : Nat} (h1 : Mut g a l) (h2 : ∀ x, q < x → x < l → ¬ Mut g a x) (hq : Mut g a q) : ∀ x, q ≤ x → x < q → ¬ Mut g a x := fun x h h' => by omega
theorem tab_mut {g : Gr} {n : Nat} {T : Nat → Nat → Bool} (hT : ∀ a b, a < n → b < n → (T a b = true ↔ Con g a b)) {a q : Nat} (ha : a < n) (hq : q < n) (hne : q ≠ a) : (T a q = true ∧ T q a = true) ↔ Mut g a q := by
  rw [hT a q ha hq, hT q a hq ha]
  constructor
  · intro h; exact Or.inr h
  · rintro (h | h)
    · exact absurd h.symm hne
    · exact h
set_option maxRecDepth 100000 in
set_option maxHeartbeats 8000000 in
theorem rcomp_any (A : Option Addr) (c : Nat) (gs : Gr) (w : World) (h : RG w w.heap.size A gs) (hl : gs.length ≤ 900) (hl2 : ∀ l ∈ gs, l.length ≤ 1000) :
    Calls Try.prog 24 #[.slice A gs.length c] w (GivesI (comps gs) w) := by
  have CP := Lib.hid (paths_any A c gs w h (by omega) hl2)
  have HCL := Lib.hid (comps_len gs)
  obtain ⟨n, hn⟩ : ∃ n, gs.length = n := ⟨_, rfl⟩
  have HN := Lib.hid hn
  rw [hn] at hl CP HCL ⊢
  clear h hl2 hn
  go_enter Try.func24, Try.ntmps24
  go_wp2_with fail
  refine CP.out.mono ?_
  rintro e w1 ⟨Ap, cp, T, rfl, hp1, hb1, hT⟩
  have HP1 := Lib.hid hp1
  have HB1 := Lib.hid hb1
  have HT := Lib.hid hT
  clear hp1 hb1 hT CP
  go_wp2_with fail
  go_loopw [4, 5] (fun s4 s5 wr => ∃ (a : Nat) (C : List Nat) (vo : Value), s5 = .int .i64 (a : Int) ∧ vo = s4 ∧ a ≤ n ∧ Hid (C.length = a) ∧ Hid (∀ i x, C[i]? = some x → LeastOf gs i x) ∧ Hid (wr.ownsRow w1.heap.size 3 1 vo C.length (icells (ints C))) ∧ Hid (Below w1.heap.size w1 wr)) (fun _ s5 _ => (n - intOf s5).toNat)
  case atStart => exact ⟨0, [], _, rfl, rfl, by omega, Lib.hid rfl, Lib.hid (fun i x h => by simp at h), Lib.hid (World.ownsRow_nil _ _ _ _), Lib.hid (Below.refl _ _)⟩
  case round =>
    obtain ⟨a, C, vo, rfl, rfl, ha, HCl, HC, HO, HB⟩ := hrel
    obtain ⟨wr9, rfl⟩ : ∃ x, x = wr := ⟨_, rfl⟩
    by_cases hlt : a < n
    · have hai : (a : Int) < (n : Int) := by omega
      have ha0 : (0 : Int) ≤ (a : Int) := by omega
      have HAK := Lib.hid (show a + 1 ≤ n by omega)
      obtain ⟨ad, a1, c1, hA, _, hr1, _, hb9⟩ := (HP1.out.below HB.out).at_ a hlt
      subst hA
      have HR1 := Lib.hid hr1
      have HB9 := Lib.hid hb9
      clear hlt hr1 hb9
      go_wp2_with fail
      go_loopw [6, 7] (fun s6 s7 wr => ∃ (m l : Nat) (z : Int), s7 = .int .i64 z ∧ s6 = .int .i64 (l : Int) ∧ z = (m : Int) - 1 ∧ m ≤ a ∧ l ≤ a ∧ Hid (Mut gs a l) ∧ Hid (∀ x, m ≤ x → x < l → ¬ Mut gs a x) ∧ wr = wr9) (fun _ s7 _ => (intOf s7 + 1).toNat)
      case atStart => exact ⟨a, a, _, rfl, rfl, rfl, by omega, by omega, Lib.hid (Mut.refl _ _), Lib.hid (fun x h1 h2 => by omega), rfl⟩
      case round =>
        obtain ⟨m, l, z, rfl, rfl, hz, hma, hla, HM, HL, rfl⟩ := hrel
        rcases Nat.eq_zero_or_pos m with hm0 | hm0
        · subst hm0
          have hz9 : z = -1 := by omega
          subst hz9
          have HLO : Hid (LeastOf gs a l) := Lib.hid ⟨HM.out, hla, fun b hb => HL.out b (by omega) hb⟩
          have HO2 := Lib.hid (own_below HO.out ((Below.refl _ _).alloc (Nat.le_refl _) (.cells #[.int .i64 (l : Int)] 3)))
          have HAL := Lib.hid ((Below.refl wr.heap.size wr).alloc (Nat.le_refl _) (.cells #[.int .i64 (l : Int)] 3))
          have HSZ := Lib.hid HB.out.size
          have hcl : C.length ≤ 1000 := by have := HCl.out; omega
          clear hz HM HL
          go_wp2_with (at_builtin; refine wpList_append_int_at rfl (.tmp 40) (.tmp 42) rfl w1.heap.size vo C l rfl HO2.out _ rfl ((MapKept.heap_alloc _ _).1) hcl (by have := HSZ.out; simp; omega) ?_)
          intro v5 w6 HO6 hg6 hd6
          have HB6 := Lib.hid ((HB.out.trans (HAL.out.mono HSZ.out)).grown hg6 (by have := HSZ.out; simp; omega) (fun j hj => (World.ownsRow.lt HO.out j hj).1))
          have HO6' := Lib.hid (show w6.ownsRow w1.heap.size 3 1 v5 (C ++ [l]).length (icells (ints (C ++ [l]))) by rw [List.length_append]; exact HO6.out)
          have HC6 : Hid (∀ i x, (C ++ [l])[i]? = some x → LeastOf gs i x) := Lib.hid (fun i x hi => by
            rcases Nat.lt_or_ge i C.length with h | h
            · rw [List.getElem?_append_left h] at hi; exact HC.out i x hi
            · have hl9 : i < (C ++ [l]).length := by
                rcases Nat.lt_or_ge i (C ++ [l]).length with h' | h'
                · exact h'
                · rw [List.getElem?_eq_none h'] at hi; cases hi
              simp at hl9
              have hie : i = C.length := by omega
              subst hie
              rw [List.getElem?_append_right (Nat.le_refl _)] at hi
              simp at hi
              subst hi
              rw [HCl.out]; exact HLO.out)
          have HCl6 : Hid ((C ++ [l]).length = a + 1) := Lib.hid (by rw [List.length_append, HCl.out]; rfl)
          clear HO6 hg6 hd6 HO2 HO HC HAL
          go_wp2_with fail
          go_roundw
          case rel => exact ⟨a + 1, C ++ [l], _, by go_num, rfl, HAK.out, HCl6, HC6, HO6', HB6⟩
          case measure => have := HAK.out; first | (simp [intOf]; done) | (simp [intOf]; omega)
        · obtain ⟨q, rfl⟩ : ∃ q, m = q + 1 := ⟨m - 1, by omega⟩
          have hz9 : z = (q : Int) := by omega
          subst hz9
          have hqn : q < n := by omega
          obtain ⟨ad', a2, c2, hA', _, hr2, _, hb2⟩ := (HP1.out.below HB.out).at_ q hqn
          obtain rfl : ad = ad' := Option.some.inj hA'
          have hcq := HB9.out q hqn
          have hca := hb2 a (by have := HAK.out; omega)
          have hr1 := HR1.out
          have htm := tab_mut HT.out (a := a) (q := q) (by have := HAK.out; omega) hqn (by omega)
          have hq0 : (0 : Int) ≤ (q : Int) := by omega
          have hq1 : (q : Int) < (n : Int) := by omega
          have HQA := Lib.hid (show q < a by omega)
          have hqb : q ≤ 1000 := by omega
          have hann : (a : Int) < (n : Int) := by have := HAK.out; omega
          have HTM := Lib.hid htm
          clear hz hA' hb2 htm hqn
          generalize T a q = t1 at *
          generalize T q a = t2 at *
          cases t1 with
          | false =>
            have HL2 : Hid (∀ x, q ≤ x → x < l → ¬ Mut gs a x) := Lib.hid (fun x h1 h2 => by
              rcases Nat.lt_or_ge q x with h | h
              · exact HL.out x h h2
              · obtain rfl : x = q := by omega
                intro hm; have := HTM.out.2 hm; simp at this)
            clear HL
            go_wp2_with fail
            go_roundw
            case rel => exact ⟨q, l, _, rfl, rfl, by first | rfl | omega | (push_cast; omega), by have := HQA.out; omega, hla, HM, HL2, trivial⟩
            case measure => first | (simp [intOf]; done) | (simp [intOf]; omega)
          | true =>
            cases t2 with
            | false =>
              have HL2 : Hid (∀ x, q ≤ x → x < l → ¬ Mut gs a x) := Lib.hid (fun x h1 h2 => by
                rcases Nat.lt_or_ge q x with h | h
                · exact HL.out x h h2
                · obtain rfl : x = q := by omega
                  intro hm; have := HTM.out.2 hm; simp at this)
              clear HL
              go_wp2_with fail
              go_roundw
              case rel => exact ⟨q, l, _, rfl, rfl, by first | rfl | omega | (push_cast; omega), by have := HQA.out; omega, hla, HM, HL2, trivial⟩
              case measure => first | (simp [intOf]; done) | (simp [intOf]; omega)
            | true =>
              have HM2 : Hid (Mut gs a q) := Lib.hid (HTM.out.1 ⟨rfl, rfl⟩)
              go_wp2_with fail
              go_roundw
              case rel => exact ⟨q, q, _, rfl, rfl, by first | rfl | omega | (push_cast; omega), by have := HQA.out; omega, by have := HQA.out; omega, HM2, Lib.hid (fun x h1 h2 => by omega), trivial⟩
              case measure => first | (simp [intOf]; done) | (simp [intOf]; omega)
    · obtain rfl : a = n := by omega
      have hki : ¬ (a : Int) < (a : Int) := by omega
      obtain ⟨A9, c9, hvm⟩ := own_vis HO.out
      subst hvm
      have HZ : Hid (ints C = comps gs) := Lib.hid (eq_comps (by rw [ints_len, HCl.out, HN.out]) (fun i hi => by
        obtain ⟨x, hx⟩ : ∃ x, C[i]? = some x := ⟨_, List.getElem?_eq_getElem (by have := HCl.out; have := HN.out; omega)⟩
        exact ⟨x, by unfold ints; rw [List.getElem?_map, hx]; rfl, HC.out i x hx⟩))
      have HLZ : Hid (C.length = (comps gs).length) := Lib.hid (by rw [← HZ.out, ints_len])
      clear hlt
      go_wp2_with fail
      go_ret
      refine ⟨A9, c9, by rw [← HLZ.out]; rfl, ?_, HB1.out.trans (HB.out.mono HB1.out.size)⟩
      rw [← HZ.out]
      exact ri_own (by rw [ints_len]; exact HO.out)
end Go.Proofs.Ythgfomjmkmkhkaa
