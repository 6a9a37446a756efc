/-
  Paths of the specification. Conditions: the slice reads as a graph of at most 1000 nodes with at most 1000 successors each.
-/
import Derived.Test.YthgfomjmkmkhkaaRP
namespace Go.Proofs.Ythgfomjmkmkhkaa
open Go.RowKit
set_option linter.unusedSimpArgs false
set_option linter.unusedVariables false
set_option maxRecDepth 100000 in
set_option maxHeartbeats 4000000 in
theorem edge_same (A : Option Addr) (c : Nat) (gs : Gr) (a : Nat) (b : Int) (w : World) (h : RG w w.heap.size A gs) (ha : a < gs.length) (hl : gs.length ≤ 1000) (hl2 : gs[a].length ≤ 1000) :
    Calls Try.prog 35 #[.slice A gs.length c, .int .i64 (a : Int), .int .i64 b] w fun e w' => e = .returned (.bool (gs[a].contains b)) ∧ w' = w := by
  obtain ⟨ad, A1, c1, hA, hbk, hc, hr⟩ := h.at_ a ha
  subst hA
  have HX := Lib.hid hr
  have HC := Lib.hid hc
  have HL := Lib.hid hbk
  have ha0 : (0 : Int) ≤ (a : Int) := by omega
  have ha1 : (a : Int) < (gs.length : Int) := by omega
  clear hr hc hbk h
  generalize gs[a] = xs at *
  generalize gs.length = n at *
  have HR : Hid ((xs.drop 0).contains b = xs.contains b) := Lib.hid rfl
  generalize xs.contains b = R at *
  have hn0 : (n : Int) ≤ 1000 := by omega
  go_enter Try.func35, Try.ntmps35
  go_wp2_with fail
  go_loopw [7] (fun s7 wr => ∃ k : Nat, s7 = .int .i64 (k : Int) ∧ k ≤ xs.length ∧ Hid ((xs.drop k).contains b = R) ∧ wr = w) (fun s7 _ => (xs.length - intOf s7).toNat)
  case atStart => exact ⟨0, rfl, by omega, HR, rfl⟩
  case round =>
    obtain ⟨k, rfl, hk, HS, HB⟩ := hrel
    subst HB
    have hc : wr.cell? (ad.add a) = some (Value.slice A1 xs.length c1) := HC.out
    by_cases hlt : k < xs.length
    · obtain ⟨a1, hA1, hl1, c0⟩ := HX.out.at_ k hlt
      subst hA1
      have HS2 : Hid ((xs[k] == b || (xs.drop (k + 1)).contains b) = R) := Lib.hid (by rw [← HS.out, List.drop_eq_getElem_cons hlt, List.contains_cons, Bool.beq_comm])
      have hki : (k : Int) < (xs.length : Int) := by omega
      have hk0 : (0 : Int) ≤ (k : Int) := by omega
      have HK := Lib.hid (show k + 1 ≤ xs.length by omega)
      generalize xs[k] = x at *
      clear hlt HS
      by_cases hx : x = b
      · have HT : Hid (true = R) := Lib.hid (by rw [← HS2.out, hx]; simp)
        subst hx
        clear HS2
        go_wp2_with fail
        go_ret
        exact ⟨ret_bool HT.out, rfl⟩
      · have HT : Hid ((xs.drop (k + 1)).contains b = R) := Lib.hid (by rw [← HS2.out, beq_eq_false_iff_ne.2 hx, Bool.false_or])
        have q1 : (x == b) = false := beq_eq_false_iff_ne.2 hx
        clear HS2
        go_wp2_with fail
        go_roundw
        case rel => exact ⟨k + 1, by go_num, HK.out, HT, trivial⟩
        case measure => have := HK.out; first | (simp [intOf]; done) | (simp [intOf]; omega)
    · obtain rfl : k = xs.length := by omega
      have HT : Hid (false = R) := Lib.hid (by rw [← HS.out, List.drop_eq_nil_of_le (Nat.le_refl _)]; rfl)
      have hki : ¬ (xs.length : Int) < (xs.length : Int) := by omega
      clear HS hlt
      go_wp2_with fail
      go_ret
      exact ⟨ret_bool HT.out, rfl⟩
/-- a table that a call gives: which nodes have a way of at least one edge to which -/
def GivesP (gs : Gr) (n : Nat) (w : World) : Ending → World → Prop := fun e w' => ∃ A c T, e = .returned (.slice A n c) ∧ RP w' w'.heap.size A n T ∧ Below w.heap.size w w' ∧ ∀ a b, a < n → b < n → (T a b = true ↔ Con gs a b)
theorem upd_row {E : Nat → Nat → Bool} {a b : Nat} (x y : Nat) (hx : x < a + 1) : upd2 (fun x y => if x < a then E x y else (decide (y < b) && E x y)) a b (E a b) x y = (if x < a then E x y else (decide (y < b + 1) && E x y)) := by
  unfold upd2
  by_cases hxa : x < a
  · rw [if_neg (by omega)]
    simp only [if_pos hxa]
  · have hxe : x = a := by omega
    subst hxe
    simp only [Nat.lt_irrefl, if_false, true_and]
    by_cases hy : y = b
    · subst hy; simp
    · rw [if_neg hy]
      by_cases hyb : y < b
      · rw [decide_eq_true hyb, decide_eq_true (by omega)]
      · rw [decide_eq_false hyb, decide_eq_false (by omega)]
set_option maxRecDepth 100000 in
set_option maxHeartbeats 8000000 in
theorem paths_any (A : Option Addr) (c : Nat) (gs : Gr) (w : World) (h : RG w w.heap.size A gs) (hl : gs.length ≤ 1000) (hl2 : ∀ l ∈ gs, l.length ≤ 1000) :
    Calls Try.prog 32 #[.slice A gs.length c] w (GivesP gs gs.length w) := by
  have HX := Lib.hid h
  have HE : Hid (∀ (a : Nat) (b : Int) (W : World), a < gs.length → Below w.heap.size w W → Calls Try.prog 35 #[.slice A gs.length c, .int .i64 (a : Int), .int .i64 b] W fun e w' => e = .returned (.bool ((suc gs a).contains b)) ∧ w' = W) := Lib.hid fun a b W ha hb => by
    have := edge_same A c gs a b W (HX.out.up hb) ha hl (hl2 _ (List.getElem_mem ha))
    unfold suc
    rw [List.getElem?_eq_getElem ha]
    exact this
  obtain ⟨E, hE⟩ : ∃ E : Nat → Nat → Bool, E = fun a b : Nat => (suc gs a).contains ((b : Nat) : Int) := ⟨_, rfl⟩
  have HED : Hid (∀ a b, a < gs.length → b < gs.length → (E a b = true ↔ Edge gs a b)) := Lib.hid (fun a b ha hb => by
    rw [hE]; simp only [List.contains_eq_mem, decide_eq_true_eq]
    exact ⟨fun h => ⟨ha, hb, h⟩, fun h => h.2.2⟩)
  have HE2 : Hid (∀ (a b : Nat) (W : World), a < gs.length → Below w.heap.size w W → Calls Try.prog 35 #[.slice A gs.length c, .int .i64 (a : Int), .int .i64 (b : Int)] W fun e w' => e = .returned (.bool (E a b)) ∧ w' = W) := Lib.hid (fun a b W ha hb => by rw [hE]; exact HE.out a b W ha hb)
  have HMK := Try.make38 gs.length (by omega) w
  have HP0 := Lib.hid (pt_start w gs.length hl E)
  have HMK2 : Hid (∀ W : World, (Instr.makeSlice 27 (.int .i64 (gs.length : Int)) (.int .i64 (gs.length : Int))).run Try.prog W = .ok (.slice (some ⟨W.heap.size, 0, none⟩) gs.length gs.length) (W.alloc (.cells (madeCells #[.bool false] gs.length) 4))) := Lib.hid (fun W => Try.make27 gs.length (by omega) W)
  obtain ⟨n, hn⟩ : ∃ n, gs.length = n := ⟨_, rfl⟩
  have HN := Lib.hid hn
  rw [hn] at hl HE2 HED HMK HP0 HMK2 ⊢
  clear h hl2 hE HE hn HX
  go_enter Try.func32, Try.ntmps32
  go_wp2_with fail
  generalize w.alloc (.cells (madeCells #[.slice none 0 0] n) 27) = w0 at *
  clear HMK
  go_loopw [5, 6] (fun s5 _ wr => ∃ (a : Nat), s5 = .int .i64 (a : Int) ∧ a ≤ n ∧ Hid (PT w wr w.heap.size n a E)) (fun s5 _ _ => (n - intOf s5).toNat)
  case atStart => exact ⟨0, rfl, by omega, HP0⟩
  case round =>
    clear HP0
    obtain ⟨a, rfl, ha, HP⟩ := hrel
    by_cases hlt : a < n
    · have hai : (a : Int) < (n : Int) := by omega
      have ha0 : (0 : Int) ≤ (a : Int) := by omega
      have HAK := Lib.hid (show a + 1 ≤ n by omega)
      obtain ⟨hfz, v0, hc0⟩ := HP.out.frz a hlt
      have hcx : (wr.alloc (.cells (madeCells #[.bool false] n) 4)).cell? ⟨w.heap.size, a, none⟩ = some v0 := by
        rw [((Below.refl _ _).alloc (Nat.le_refl wr.heap.size) (.cells (madeCells #[.bool false] n) 4)).cell (show w.heap.size < wr.heap.size from HP.out.size)]; exact hc0
      have hfx : (wr.alloc (.cells (madeCells #[.bool false] n) 4)).frozen? ⟨w.heap.size, a, none⟩ = false := by
        rw [((Below.refl _ _).alloc (Nat.le_refl wr.heap.size) (.cells (madeCells #[.bool false] n) 4)).frozen (show w.heap.size < wr.heap.size from HP.out.size)]; exact hfz
      have hmk := HMK2.out wr
      have HP1 := Lib.hid (((HP.out.congr (T' := fun x y => if x < a then E x y else (decide (y < 0) && E x y)) (fun x y hx hy => by rw [if_pos hx])).make hlt hl (fun b hb => by rw [if_neg (by omega)]; simp)))
      clear hlt HP
      go_wp2_with fail
      generalize (wr.alloc (.cells (madeCells #[.bool false] n) 4)).setCell ⟨w.heap.size, a, none⟩ (.slice (some ⟨wr.heap.size, 0, none⟩) n n) = w1 at *
      clear hfz hc0 hcx hmk hfx
      go_loopw [6] (fun s6 wr => ∃ (b : Nat), s6 = .int .i64 (b : Int) ∧ b ≤ n ∧ Hid (PT w wr w.heap.size n (a + 1) (fun x y => if x < a then E x y else (decide (y < b) && E x y)))) (fun s6 _ => (n - intOf s6).toNat)
      case atStart => exact ⟨0, rfl, by omega, HP1⟩
      case round =>
        clear HP1
        obtain ⟨b, rfl, hb, HP⟩ := hrel
        obtain ⟨wr9, rfl⟩ : ∃ x, x = wr := ⟨_, rfl⟩
        by_cases hlt : b < n
        · have hbi : (b : Int) < (n : Int) := by omega
          have hb0 : (0 : Int) ≤ (b : Int) := by omega
          have HBK := Lib.hid (show b + 1 ≤ n by omega)
          have HPd := Lib.hid (HP.out.keep (drewB wr9))
          obtain ⟨r, hcr, hr1, hr2, hrb, hset⟩ := HPd.out.cell HAK.out (Nat.lt_succ_self a)
          obtain ⟨hcb, hfb⟩ := hrb b hlt
          have CE := Lib.hid (HE2.out a b wr9.drew (by have := HAK.out; omega) HPd.out.below)
          have HP2 := Lib.hid ((hset b (E a b) hlt).congr (fun x y hx hy => upd_row x y hx))
          have hcr2 : wr9.cell? ⟨w.heap.size, a, none⟩ = some (.slice (some ⟨r, 0, none⟩) n n) := hcr
          clear hlt hrb hset HP HPd
          generalize E a b = ev at *
          go_wp2_with fail
          refine wp_region_still_tail 10 (by kernel_rfl) (by kernel_rfl) ?_
          simp only [List.take_succ_cons, List.take_zero, List.drop_succ_cons, List.drop_zero]
          repeat still_step
          still_call CE.out
          repeat still_step
          refine wpStill_nil ?_
          change wpList _ _ _ _ _ wr9.drew
          generalize wr9.drew = w3 at *
          go_wp2_with fail
          go_roundw
          case rel => exact ⟨b + 1, by go_num, HBK.out, HP2⟩
          case measure => have := HBK.out; first | (simp [intOf]; done) | (simp [intOf]; omega)
        · obtain rfl : b = n := by omega
          have hki : ¬ (b : Int) < (b : Int) := by omega
          have HP3 := Lib.hid (HP.out.congr (T' := E) (fun x y hx hy => by
            by_cases hxa : x < a
            · rw [if_pos hxa]
            · rw [if_neg hxa, decide_eq_true hy]; rfl))
          clear hlt HP
          go_wp2_with fail
          go_roundw
          case rel => exact ⟨a + 1, by go_num, HAK.out, HP3⟩
          case measure => have := HAK.out; first | (simp [intOf]; done) | (simp [intOf]; omega)
    · obtain rfl : a = n := by omega
      have hki : ¬ (a : Int) < (a : Int) := by omega
      have HP0 := HP
      have HW0 : Hid (War gs 0 E (fun _ _ => False)) := Lib.hid (war_start (fun x y hx hy => HED.out x y (by have := HN.out; omega) (by have := HN.out; omega)))
      clear hlt HMK2 HE2
      go_wp2_with fail
      clear HP
      go_loopw [7, 8, 9] (fun s7 _ _ wr => ∃ (k : Nat) (T : Nat → Nat → Bool), s7 = .int .i64 (k : Int) ∧ k ≤ a ∧ Hid (PT w wr w.heap.size a a T) ∧ Hid (War gs k T (fun _ _ => False))) (fun s7 _ _ _ => (a - intOf s7).toNat)
      case atStart => exact ⟨0, E, rfl, by omega, HP0, HW0⟩
      case round =>
        clear HP0 HW0
        obtain ⟨k, T, rfl, hk, HP, HW⟩ := hrel
        by_cases hlt : k < a
        · have hki2 : (k : Int) < (a : Int) := by omega
          have hk0 : (0 : Int) ≤ (k : Int) := by omega
          have HKK := Lib.hid (show k + 1 ≤ a by omega)
          have HP0 := HP
          have HW0 := Lib.hid (show War gs k T (fun x _ => x < 0) from ⟨HW.out.snd, HW.out.cmp, fun _ _ h => by omega⟩)
          clear hlt HW
          go_wp2_with fail
          clear HP
          go_loopw [8, 9] (fun s8 _ wr => ∃ (x : Nat) (T : Nat → Nat → Bool), s8 = .int .i64 (x : Int) ∧ x ≤ a ∧ Hid (PT w wr w.heap.size a a T) ∧ Hid (War gs k T (fun p _ => p < x))) (fun s8 _ _ => (a - intOf s8).toNat)
          case atStart => exact ⟨0, T, rfl, by omega, HP0, HW0⟩
          case round =>
            clear HP0 HW0
            obtain ⟨x, T, rfl, hx, HP, HW⟩ := hrel
            by_cases hlt : x < a
            · have hxi : (x : Int) < (a : Int) := by omega
              have hx0 : (0 : Int) ≤ (x : Int) := by omega
              have HXK := Lib.hid (show x + 1 ≤ a by omega)
              have HP0 := HP
              have HW0 := Lib.hid (show War gs k T (fun p q => p < x ∨ (p = x ∧ q < 0)) from ⟨HW.out.snd, HW.out.cmp, fun p q h => HW.out.new p q (by omega)⟩)
              clear hlt HW
              go_wp2_with fail
              clear HP
              go_loopw [9] (fun s9 wr => ∃ (y : Nat) (T : Nat → Nat → Bool), s9 = .int .i64 (y : Int) ∧ y ≤ a ∧ Hid (PT w wr w.heap.size a a T) ∧ Hid (War gs k T (fun p q => p < x ∨ (p = x ∧ q < y)))) (fun s9 _ => (a - intOf s9).toNat)
              case atStart => exact ⟨0, T, rfl, by omega, HP0, HW0⟩
              case round =>
                clear HP0 HW0
                obtain ⟨y, T, rfl, hy, HP, HW⟩ := hrel
                obtain ⟨wr9, rfl⟩ : ∃ x, x = wr := ⟨_, rfl⟩
                by_cases hlt : y < a
                · have hyi : (y : Int) < (a : Int) := by omega
                  have hy0 : (0 : Int) ≤ (y : Int) := by omega
                  have HYK := Lib.hid (show y + 1 ≤ a by omega)
                  have HPd := Lib.hid (HP.out.keep (drewB wr9))
                  obtain ⟨r, hcr, hgr, hgr2, hrb, hset⟩ := HPd.out.cell (Nat.le_refl _) (a := x) (by have := HXK.out; omega)
                  obtain ⟨rk, hck, hgk, hgk2, hkb, hgk3⟩ := HPd.out.cell (Nat.le_refl _) (a := k) (by have := HKK.out; omega)
                  obtain ⟨hcxy, hfxy⟩ := hrb y hlt
                  obtain ⟨hcxk, hgk4⟩ := hrb k (by have := HKK.out; omega)
                  obtain ⟨hcky, hgk5⟩ := hkb y hlt
                  have HP2 := Lib.hid (hset y (T x y || (T x k && T k y)) hlt)
                  have HW2 := Lib.hid (show War gs k (upd2 T x y (T x y || (T x k && T k y))) (fun p q => p < x ∨ (p = x ∧ q < y + 1)) from
                    ⟨(war_step HW.out (by have := HKK.out; have := HN.out; omega)).snd, (war_step HW.out (by have := HKK.out; have := HN.out; omega)).cmp, fun p q h => (war_step HW.out (by have := HKK.out; have := HN.out; omega)).new p q (by omega)⟩)
                  clear hlt hrb hset hkb HP HPd HW
                  generalize T x y = t1 at *
                  generalize T x k = t2 at *
                  generalize T k y = t3 at *
                  have hcr' : wr9.cell? ⟨w.heap.size, x, none⟩ = some (.slice (some ⟨r, 0, none⟩) a a) := hcr
                  have hck' : wr9.cell? ⟨w.heap.size, k, none⟩ = some (.slice (some ⟨rk, 0, none⟩) a a) := hck
                  have hcxy' : wr9.cell? ⟨r, y, none⟩ = some (.bool t1) := hcxy
                  have hcxk' : wr9.cell? ⟨r, k, none⟩ = some (.bool t2) := hcxk
                  have hcky' : wr9.cell? ⟨rk, y, none⟩ = some (.bool t3) := hcky
                  have hfxy' : wr9.frozen? ⟨r, y, none⟩ = false := hfxy
                  clear hcr hck hcxy hcxk hcky hfxy hgr hgr2 hgk hgk2 hgk3 hgk4 hgk5
                  cases t1 with
                  | true =>
                    go_wp2_with fail
                    go_region
                    go_wp2_with fail
                    go_roundw
                    case rel => exact ⟨y + 1, _, by go_num, HYK.out, HP2, HW2⟩
                    case measure => have := HYK.out; first | (simp [intOf]; done) | (simp [intOf]; omega)
                  | false =>
                    cases t2 with
                    | false =>
                      go_wp2_with fail
                      go_region
                      go_wp2_with fail
                      go_roundw
                      case rel => exact ⟨y + 1, _, by go_num, HYK.out, HP2, HW2⟩
                      case measure => have := HYK.out; first | (simp [intOf]; done) | (simp [intOf]; omega)
                    | true =>
                      cases t3 with
                      | true =>
                        go_wp2_with fail
                        go_region
                        go_wp2_with fail
                        go_roundw
                        case rel => exact ⟨y + 1, _, by go_num, HYK.out, HP2, HW2⟩
                        case measure => have := HYK.out; first | (simp [intOf]; done) | (simp [intOf]; omega)
                      | false =>
                        go_wp2_with fail
                        go_region
                        go_wp2_with fail
                        go_roundw
                        case rel => exact ⟨y + 1, _, by go_num, HYK.out, HP2, HW2⟩
                        case measure => have := HYK.out; first | (simp [intOf]; done) | (simp [intOf]; omega)
                · obtain rfl : y = a := by omega
                  have hki3 : ¬ (y : Int) < (y : Int) := by omega
                  have HW3 := Lib.hid (show War gs k T (fun p _ => p < x + 1) from ⟨HW.out.snd, HW.out.cmp, fun p q h ht => by
                    have := ht.lt.2
                    have := HN.out
                    exact HW.out.new p q (by omega) ht⟩)
                  clear hlt HW
                  go_wp2_with fail
                  go_roundw
                  case rel => exact ⟨x + 1, T, by go_num, HXK.out, HP, HW3⟩
                  case measure => have := HXK.out; first | (simp [intOf]; done) | (simp [intOf]; omega)
            · obtain rfl : x = a := by omega
              have hki3 : ¬ (x : Int) < (x : Int) := by omega
              have HW3 := Lib.hid (war_next HW.out (fun p q hp hq => by have := HN.out; omega))
              clear hlt HW
              go_wp2_with fail
              go_roundw
              case rel => exact ⟨k + 1, T, by go_num, HKK.out, HP, HW3⟩
              case measure => have := HKK.out; first | (simp [intOf]; done) | (simp [intOf]; omega)
        · obtain rfl : k = a := by omega
          have hki3 : ¬ (k : Int) < (k : Int) := by omega
          have HZ : Hid (∀ x y, x < k → y < k → (T x y = true ↔ Con gs x y)) := Lib.hid (fun x y hx hy => war_end (by rw [HN.out]; exact HW.out) (by have := HN.out; omega) (by have := HN.out; omega))
          clear hlt HW
          go_wp2_with fail
          go_ret
          exact ⟨some ⟨w.heap.size, 0, none⟩, k, T, rfl, HP.out.rp, HP.out.below, HZ.out⟩
end Go.Proofs.Ythgfomjmkmkhkaa
