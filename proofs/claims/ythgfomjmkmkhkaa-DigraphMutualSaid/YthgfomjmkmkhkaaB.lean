/-
  has, Ints, Lists and Small of the specification. No condition but that the slices read as lists of at most 1000 parts.
-/
import Derived.Test.YthgfomjmkmkhkaaA
import Derived.StillTailTactics
namespace Go.Proofs.Ythgfomjmkmkhkaa
open Go.RowKit
set_option linter.unusedSimpArgs false
set_option linter.unusedVariables false
set_option maxRecDepth 100000 in
set_option maxHeartbeats 4000000 in
theorem has_any (A : Option Addr) (c : Nat) (xs : List Int) (b : Int) (w : World) (h : RI w w.heap.size A xs) (hl : xs.length ≤ 1000) :
    Calls Try.prog 45 #[.slice A xs.length c, .int .i64 b] w fun e w' => e = .returned (.bool (xs.contains b)) ∧ Below w.heap.size w w' := by
  have HX := Lib.hid h
  clear h
  have HR : Hid ((xs.drop 0).contains b = xs.contains b) := Lib.hid rfl
  generalize xs.contains b = R at *
  go_enter Try.func45, Try.ntmps45
  go_wp2_with fail
  go_loopw [5] (fun s7 wr => ∃ k : Nat, s7 = .int .i64 (k : Int) ∧ k ≤ xs.length ∧ Hid ((xs.drop k).contains b = R) ∧ Hid (Below w.heap.size w wr)) (fun s7 _ => (xs.length - intOf s7).toNat)
  case atStart => exact ⟨0, rfl, by omega, HR, Lib.hid (Below.refl _ _)⟩
  case round =>
    obtain ⟨k, rfl, hk, HS, HB⟩ := hrel
    by_cases hlt : k < xs.length
    · obtain ⟨a1, hA1, hl1, c0⟩ := (HX.out.below HB.out).at_ k hlt
      subst hA1
      have HS2 : Hid ((xs[k] == b || (xs.drop (k + 1)).contains b) = R) := Lib.hid (by rw [← HS.out, List.drop_eq_getElem_cons hlt, List.contains_cons, Bool.beq_comm])
      have hki : (k : Int) < (xs.length : Int) := by omega
      have hk0 : (0 : Int) ≤ (k : Int) := by omega
      have HK := Lib.hid (show k + 1 ≤ xs.length by omega)
      generalize xs[k] = x at *
      clear hlt HS
      by_cases hx : x = b
      · have HT : Hid (true = R) := Lib.hid (by rw [← HS2.out, hx]; simp)
        subst hx
        clear HS2
        go_wp2_with fail
        go_ret
        exact ⟨ret_bool HT.out, HB.out⟩
      · have HT : Hid ((xs.drop (k + 1)).contains b = R) := Lib.hid (by rw [← HS2.out, beq_eq_false_iff_ne.2 hx, Bool.false_or])
        have q1 : (x == b) = false := beq_eq_false_iff_ne.2 hx
        clear HS2
        go_wp2_with fail
        go_roundw
        case rel => exact ⟨k + 1, by go_num, HK.out, HT, HB⟩
        case measure => have := HK.out; first | (simp [intOf]; done) | (simp [intOf]; omega)
    · obtain rfl : k = xs.length := by omega
      have HT : Hid (false = R) := Lib.hid (by rw [← HS.out, List.drop_eq_nil_of_le (Nat.le_refl _)]; rfl)
      have hki : ¬ (xs.length : Int) < (xs.length : Int) := by omega
      clear HS hlt
      go_wp2_with fail
      go_ret
      exact ⟨ret_bool HT.out, HB.out⟩

theorem drop_eq_iff {α : Type} {xs ys : List α} {k : Nat} (h : k < xs.length) (h2 : k < ys.length) : xs.drop k = ys.drop k ↔ xs[k] = ys[k] ∧ xs.drop (k + 1) = ys.drop (k + 1) := by
  rw [List.drop_eq_getElem_cons h, List.drop_eq_getElem_cons h2]
  constructor
  · intro e; exact List.cons.inj e
  · rintro ⟨e1, e2⟩; rw [e1, e2]
set_option maxRecDepth 100000 in
set_option maxHeartbeats 4000000 in
theorem ints_any (A B : Option Addr) (c d : Nat) (xs ys : List Int) (w : World) (h : RI w w.heap.size A xs) (h2 : RI w w.heap.size B ys) (hl : xs.length ≤ 1000) (hl2 : ys.length ≤ 1000) :
    Calls Try.prog 20 #[.slice A xs.length c, .slice B ys.length d] w fun e w' => e = .returned (.bool (decide (xs = ys))) ∧ Below w.heap.size w w' := by
  by_cases hn : (xs.length : Int) = (ys.length : Int)
  · have hn' : xs.length = ys.length := by omega
    have HX := Lib.hid h
    have HY := Lib.hid h2
    clear h h2
    have HR : Hid (decide (xs.drop 0 = ys.drop 0) = decide (xs = ys)) := Lib.hid rfl
    generalize decide (xs = ys) = R at *
    have HN := Lib.hid hn'
    rw [← hn']
    clear hn hn' hl2
    go_enter Try.func20, Try.ntmps20
    go_wp2_with fail
    go_loopw [5] (fun s7 wr => ∃ k : Nat, s7 = .int .i64 (k : Int) ∧ k ≤ xs.length ∧ Hid (decide (xs.drop k = ys.drop k) = R) ∧ Hid (Below w.heap.size w wr)) (fun s7 _ => (xs.length - intOf s7).toNat)
    case atStart => exact ⟨0, rfl, by omega, HR, Lib.hid (Below.refl _ _)⟩
    case round =>
      obtain ⟨k, rfl, hk, HS, HB⟩ := hrel
      by_cases hlt : k < xs.length
      · have hlt2 : k < ys.length := by have := HN.out; omega
        obtain ⟨a1, hA1, hl1, c0⟩ := (HX.out.below HB.out).at_ k hlt
        obtain ⟨a2, hA2, hl2, c2⟩ := (HY.out.below HB.out).at_ k hlt2
        subst hA1 hA2
        have HS2 : Hid (decide (xs[k] = ys[k] ∧ xs.drop (k + 1) = ys.drop (k + 1)) = R) := Lib.hid (by rw [← HS.out]; exact decide_eq_decide.2 (drop_eq_iff hlt hlt2).symm)
        have hki : (k : Int) < (xs.length : Int) := by omega
        have hk0 : (0 : Int) ≤ (k : Int) := by omega
        have HK := Lib.hid (show k + 1 ≤ xs.length by omega)
        generalize xs[k] = x at *
        generalize ys[k] = y at *
        clear hlt hlt2 HS
        by_cases hx : x = y
        · have HT : Hid (decide (xs.drop (k + 1) = ys.drop (k + 1)) = R) := Lib.hid (by rw [← HS2.out]; simp [hx])
          subst hx
          clear HS2
          go_wp2_with fail
          go_region
          go_wp2_with fail
          go_roundw
          case rel => exact ⟨k + 1, by go_num, HK.out, HT, Lib.hid HB.out.drew⟩
          case measure => have := HK.out; first | (simp [intOf]; done) | (simp [intOf]; omega)
        · have HT : Hid (false = R) := Lib.hid (by rw [← HS2.out]; simp [hx])
          have q1 : (x == y) = false := beq_eq_false_iff_ne.2 hx
          clear HS2
          go_wp2_with fail
          go_region
          go_wp2_with fail
          go_ret
          exact ⟨ret_bool HT.out, HB.out.drew⟩
      · obtain rfl : k = xs.length := by omega
        have HT : Hid (true = R) := Lib.hid (by rw [← HS.out, List.drop_eq_nil_of_le (Nat.le_refl _), List.drop_eq_nil_of_le (by rw [HN.out]; exact Nat.le_refl _)]; simp)
        have hki : ¬ (xs.length : Int) < (xs.length : Int) := by omega
        clear HS hlt
        go_wp2_with fail
        go_ret
        exact ⟨ret_bool HT.out, HB.out⟩
  · have HT : Hid (false = decide (xs = ys)) := Lib.hid (by rw [decide_eq_false]; intro e; exact hn (by rw [e]))
    generalize decide (xs = ys) = R at *
    generalize xs.length = n at *
    generalize ys.length = m at *
    go_enter Try.func20, Try.ntmps20
    go_wp2_with fail
    go_ret
    exact ⟨ret_bool HT.out, Below.refl _ _⟩
set_option maxRecDepth 100000 in
set_option maxHeartbeats 4000000 in
theorem lists_any (A B : Option Addr) (c d : Nat) (xs ys : Gr) (w : World) (h : RG w w.heap.size A xs) (h2 : RG w w.heap.size B ys) (hl : xs.length ≤ 1000) (hl2 : ys.length ≤ 1000) (hx : ∀ l ∈ xs, l.length ≤ 1000) (hy : ∀ l ∈ ys, l.length ≤ 1000) :
    Calls Try.prog 17 #[.slice A xs.length c, .slice B ys.length d] w fun e w' => e = .returned (.bool (decide (xs = ys))) ∧ Below w.heap.size w w' := by
  by_cases hn : (xs.length : Int) = (ys.length : Int)
  · have hn' : xs.length = ys.length := by omega
    have HX := Lib.hid h
    have HY := Lib.hid h2
    have HLX := Lib.hid hx
    have HLY := Lib.hid hy
    clear h h2 hx hy
    have HR : Hid (decide (xs.drop 0 = ys.drop 0) = decide (xs = ys)) := Lib.hid rfl
    generalize decide (xs = ys) = R at *
    have HN := Lib.hid hn'
    rw [← hn']
    clear hn hn' hl2
    go_enter Try.func17, Try.ntmps17
    go_wp2_with fail
    go_loopw [5] (fun s7 wr => ∃ k : Nat, s7 = .int .i64 (k : Int) ∧ k ≤ xs.length ∧ Hid (decide (xs.drop k = ys.drop k) = R) ∧ Hid (Below w.heap.size w wr)) (fun s7 _ => (xs.length - intOf s7).toNat)
    case atStart => exact ⟨0, rfl, by omega, HR, Lib.hid (Below.refl _ _)⟩
    case round =>
      obtain ⟨k, rfl, hk, HS, HB⟩ := hrel
      by_cases hlt : k < xs.length
      · have hlt2 : k < ys.length := by have := HN.out; omega
        obtain ⟨a1, A1, c1, hA1, hl1, e1, r1⟩ := (HX.out.up HB.out).at_ k hlt
        obtain ⟨a2, A2, c2, hA2, hl2, e2, r2⟩ := (HY.out.up HB.out).at_ k hlt2
        subst hA1 hA2
        have HS2 : Hid (decide (xs[k] = ys[k] ∧ xs.drop (k + 1) = ys.drop (k + 1)) = R) := Lib.hid (by rw [← HS.out]; exact decide_eq_decide.2 (drop_eq_iff hlt hlt2).symm)
        have hki : (k : Int) < (xs.length : Int) := by omega
        have hk0 : (0 : Int) ≤ (k : Int) := by omega
        have HK := Lib.hid (show k + 1 ≤ xs.length by omega)
        have HI := Lib.hid (ints_any A1 A2 c1 c2 xs[k] ys[k] wr.drew (r1.up (Below.refl _ _).drew) (r2.up (Below.refl _ _).drew) (HLX.out _ (List.getElem_mem hlt)) (HLY.out _ (List.getElem_mem hlt2)))
        generalize xs[k] = x at *
        generalize ys[k] = y at *
        have HBd := Lib.hid HB.out.drew
        clear hlt hlt2 HS r1 r2
        go_wp2_with fail
        go_still_tail 8, (by kernel_rfl)
        change wpList _ _ _ _ _ wr.drew
        generalize wr.drew = wk at *
        go_wp2_with fail
        refine HI.out.mono ?_
        rintro e w3 ⟨rfl, hb3⟩
        have HB3 := Lib.hid (HBd.out.trans (hb3.mono HBd.out.size))
        clear hb3 HI
        by_cases hx : x = y
        · have HT : Hid (decide (xs.drop (k + 1) = ys.drop (k + 1)) = R) := Lib.hid (by rw [← HS2.out]; simp [hx])
          rw [decide_eq_true hx]
          clear HS2
          go_wp2_with fail
          go_roundw
          case rel => exact ⟨k + 1, by go_num, HK.out, HT, HB3⟩
          case measure => have := HK.out; first | (simp [intOf]; done) | (simp [intOf]; omega)
        · have HT : Hid (false = R) := Lib.hid (by rw [← HS2.out]; simp [hx])
          rw [decide_eq_false hx]
          clear HS2
          go_wp2_with fail
          go_ret
          exact ⟨ret_bool HT.out, HB3.out⟩
      · obtain rfl : k = xs.length := by omega
        have HT : Hid (true = R) := Lib.hid (by rw [← HS.out, List.drop_eq_nil_of_le (Nat.le_refl _), List.drop_eq_nil_of_le (by rw [HN.out]; exact Nat.le_refl _)]; simp)
        have hki : ¬ (xs.length : Int) < (xs.length : Int) := by omega
        clear HS hlt
        go_wp2_with fail
        go_ret
        exact ⟨ret_bool HT.out, HB.out⟩
  · have HT : Hid (false = decide (xs = ys)) := Lib.hid (by rw [decide_eq_false]; intro e; exact hn (by rw [e]))
    generalize decide (xs = ys) = R at *
    generalize xs.length = n at *
    generalize ys.length = m at *
    go_enter Try.func17, Try.ntmps17
    go_wp2_with fail
    go_ret
    exact ⟨ret_bool HT.out, Below.refl _ _⟩
set_option maxRecDepth 100000 in
set_option maxHeartbeats 4000000 in
theorem small_any (A : Option Addr) (c : Nat) (gs : Gr) (w : World) (h : RG w w.heap.size A gs) (hl : gs.length ≤ 9223372036854775807) (hl2 : ∀ l ∈ gs, l.length ≤ 9223372036854775807) :
    Calls Try.prog 12 #[.slice A gs.length c] w fun e w' => e = .returned (.bool (decide (gs.length ≤ 12) && gs.all (fun l => decide (l.length ≤ 14)))) ∧ Below w.heap.size w w' := by
  by_cases hn : gs.length ≤ 12
  · have hn1 : ¬ (12 : Int) < (gs.length : Int) := by omega
    rw [decide_eq_true hn, Bool.true_and]
    have HX := Lib.hid h
    have HL := Lib.hid hl2
    clear h hl2
    have HR : Hid ((gs.drop 0).all (fun l => decide (l.length ≤ 14)) = gs.all (fun l => decide (l.length ≤ 14))) := Lib.hid rfl
    generalize gs.all (fun l => decide (l.length ≤ 14)) = R at *
    go_enter Try.func12, Try.ntmps12
    go_wp2_with fail
    go_loopw [3] (fun s7 wr => ∃ k : Nat, s7 = .int .i64 (k : Int) ∧ k ≤ gs.length ∧ Hid ((gs.drop k).all (fun l => decide (l.length ≤ 14)) = R) ∧ Hid (Below w.heap.size w wr)) (fun s7 _ => (gs.length - intOf s7).toNat)
    case atStart => exact ⟨0, rfl, by omega, HR, Lib.hid (Below.refl _ _)⟩
    case round =>
      obtain ⟨k, rfl, hk, HS, HB⟩ := hrel
      by_cases hlt : k < gs.length
      · obtain ⟨a1, A1, c1, hA1, hl1, e1, r1⟩ := (HX.out.up HB.out).at_ k hlt
        subst hA1
        have HS2 : Hid ((decide (gs[k].length ≤ 14) && (gs.drop (k + 1)).all (fun l => decide (l.length ≤ 14))) = R) := Lib.hid (by rw [← HS.out, List.drop_eq_getElem_cons hlt, List.all_cons])
        have hki : (k : Int) < (gs.length : Int) := by omega
        have hk0 : (0 : Int) ≤ (k : Int) := by omega
        have HK := Lib.hid (show k + 1 ≤ gs.length by omega)
        have hx9 := HL.out _ (List.getElem_mem hlt)
        generalize gs[k].length = n at *
        clear hlt HS r1
        by_cases hx : n ≤ 14
        · have q1 : ¬ (14 : Int) < (n : Int) := by omega
          have HT : Hid ((gs.drop (k + 1)).all (fun l => decide (l.length ≤ 14)) = R) := Lib.hid (by rw [← HS2.out]; simp [hx])
          clear HS2 hx
          go_wp2_with fail
          go_roundw
          case rel => exact ⟨k + 1, by go_num, HK.out, HT, HB⟩
          case measure => have := HK.out; first | (simp [intOf]; done) | (simp [intOf]; omega)
        · have q1 : (14 : Int) < (n : Int) := by omega
          have HT : Hid (false = R) := Lib.hid (by rw [← HS2.out]; simp [hx])
          clear HS2 hx
          go_wp2_with fail
          go_ret
          exact ⟨ret_bool HT.out, HB.out⟩
      · obtain rfl : k = gs.length := by omega
        have HT : Hid (true = R) := Lib.hid (by rw [← HS.out, List.drop_eq_nil_of_le (Nat.le_refl _)]; rfl)
        have hki : ¬ (gs.length : Int) < (gs.length : Int) := by omega
        clear HS hlt
        go_wp2_with fail
        go_ret
        exact ⟨ret_bool HT.out, HB.out⟩
  · have hn1 : (12 : Int) < (gs.length : Int) := by omega
    rw [decide_eq_false hn, Bool.false_and]
    generalize gs.length = n at *
    go_enter Try.func12, Try.ntmps12
    go_wp2_with fail
    go_ret
    exact ⟨rfl, Below.refl _ _⟩
end Go.Proofs.Ythgfomjmkmkhkaa
