/-
  bools of the laws: two lists of Booleans. No condition but that the slices read as lists of at most 1000 parts.
-/
import Derived.Test.YthgfomjmkmkhkaaB
namespace Go.Proofs.Ythgfomjmkmkhkaa
open Go.RowKit
set_option linter.unusedSimpArgs false
set_option linter.unusedVariables false
/-- the slice at A reads as the Booleans xs, in blocks below B -/
structure RB (w : World) (B : Nat) (A : Option Addr) (xs : List Bool) : Prop where
  at_ : ∀ k (h : k < xs.length), ∃ ad, A = some ad ∧ ad.block < B ∧ w.cell? (ad.add k) = some (.bool xs[k])
theorem RB.below {w w' : World} {B : Nat} {A : Option Addr} {xs : List Bool} (h : RB w B A xs) (hb : Below B w w') : RB w' B A xs :=
  ⟨fun k hk => by
    obtain ⟨ad, e, hl, c⟩ := h.at_ k hk
    exact ⟨ad, e, hl, by rw [hb.cell (by rw [block_of_add]; exact hl)]; exact c⟩⟩
theorem RB.le {w : World} {B B' : Nat} {A : Option Addr} {xs : List Bool} (h : RB w B A xs) (hb : B ≤ B') : RB w B' A xs :=
  ⟨fun k hk => by
    obtain ⟨ad, e, hl, c⟩ := h.at_ k hk
    exact ⟨ad, e, Nat.lt_of_lt_of_le hl hb, c⟩⟩
theorem RB.up {w w' : World} {A : Option Addr} {xs : List Bool} (h : RB w w.heap.size A xs) (hb : Below w.heap.size w w') : RB w' w'.heap.size A xs := (h.below hb).le hb.size
set_option maxRecDepth 100000 in
set_option maxHeartbeats 4000000 in
theorem bools_any (A B : Option Addr) (c d : Nat) (xs ys : List Bool) (w : World) (h : RB w w.heap.size A xs) (h2 : RB w w.heap.size B ys) (hl : xs.length ≤ 1000) (hl2 : ys.length ≤ 1000) :
    Calls Try.prog 14 #[.slice A xs.length c, .slice B ys.length d] w fun e w' => e = .returned (.bool (decide (xs = ys))) ∧ Below w.heap.size w w' := by
  by_cases hn : (xs.length : Int) = (ys.length : Int)
  · have hn' : xs.length = ys.length := by omega
    have HX := Lib.hid h
    have HY := Lib.hid h2
    clear h h2
    have HR : Hid (decide (xs.drop 0 = ys.drop 0) = decide (xs = ys)) := Lib.hid rfl
    generalize decide (xs = ys) = R at *
    have HN := Lib.hid hn'
    rw [← hn']
    clear hn hn' hl2
    go_enter Try.func14, Try.ntmps14
    go_wp2_with fail
    go_loopw [5] (fun s7 wr => ∃ k : Nat, s7 = .int .i64 (k : Int) ∧ k ≤ xs.length ∧ Hid (decide (xs.drop k = ys.drop k) = R) ∧ Hid (Below w.heap.size w wr)) (fun s7 _ => (xs.length - intOf s7).toNat)
    case atStart => exact ⟨0, rfl, by omega, HR, Lib.hid (Below.refl _ _)⟩
    case round =>
      obtain ⟨k, rfl, hk, HS, HB⟩ := hrel
      by_cases hlt : k < xs.length
      · have hlt2 : k < ys.length := by have := HN.out; omega
        obtain ⟨a1, hA1, hl1, c0⟩ := (HX.out.below HB.out).at_ k hlt
        obtain ⟨a2, hA2, hl2, c2⟩ := (HY.out.below HB.out).at_ k hlt2
        subst hA1 hA2
        have HS2 : Hid (decide (xs[k] = ys[k] ∧ xs.drop (k + 1) = ys.drop (k + 1)) = R) := Lib.hid (by rw [← HS.out]; exact decide_eq_decide.2 (drop_eq_iff hlt hlt2).symm)
        have hki : (k : Int) < (xs.length : Int) := by omega
        have hk0 : (0 : Int) ≤ (k : Int) := by omega
        have HK := Lib.hid (show k + 1 ≤ xs.length by omega)
        generalize xs[k] = x at *
        generalize ys[k] = y at *
        clear hlt hlt2 HS
        by_cases hx : x = y
        · have HT : Hid (decide (xs.drop (k + 1) = ys.drop (k + 1)) = R) := Lib.hid (by rw [← HS2.out]; simp [hx])
          subst hx
          clear HS2
          go_wp2_with fail
          go_region
          go_wp2_with fail
          go_roundw
          case rel => exact ⟨k + 1, by go_num, HK.out, HT, Lib.hid HB.out.drew⟩
          case measure => have := HK.out; first | (simp [intOf]; done) | (simp [intOf]; omega)
        · have HT : Hid (false = R) := Lib.hid (by rw [← HS2.out]; simp [hx])
          have q1 : (x == y) = false := beq_eq_false_iff_ne.2 hx
          clear HS2
          go_wp2_with fail
          go_region
          go_wp2_with fail
          go_ret
          exact ⟨ret_bool HT.out, HB.out.drew⟩
      · obtain rfl : k = xs.length := by omega
        have HT : Hid (true = R) := Lib.hid (by rw [← HS.out, List.drop_eq_nil_of_le (Nat.le_refl _), List.drop_eq_nil_of_le (by rw [HN.out]; exact Nat.le_refl _)]; simp)
        have hki : ¬ (xs.length : Int) < (xs.length : Int) := by omega
        clear HS hlt
        go_wp2_with fail
        go_ret
        exact ⟨ret_bool HT.out, HB.out⟩
  · have HT : Hid (false = decide (xs = ys)) := Lib.hid (by rw [decide_eq_false]; intro e; exact hn (by rw [e]))
    generalize decide (xs = ys) = R at *
    generalize xs.length = n at *
    generalize ys.length = m at *
    go_enter Try.func14, Try.ntmps14
    go_wp2_with fail
    go_ret
    exact ⟨ret_bool HT.out, Below.refl _ _⟩
end Go.Proofs.Ythgfomjmkmkhkaa
