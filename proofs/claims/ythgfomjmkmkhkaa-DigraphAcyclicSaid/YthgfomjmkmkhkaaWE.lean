/-
  after of the law, at an order; the law DigraphAcyclic out of what awake gives (premise HA). Condition: the slice reads as a graph.
-/
import Derived.Test.YthgfomjmkmkhkaaMa
import Derived.Test.YthgfomjmkmkhkaaWC
import Derived.Deep.QuietTactic
namespace Go.Proofs.Ythgfomjmkmkhkaa
open Go.RowKit
set_option linter.unusedSimpArgs false
set_option linter.unusedVariables false
/-- the places after i nodes -/
structure PL (n : Nat) (O : List Nat) (i : Nat) (P : List Int) : Prop where
  len : P.length = n
  yes : ∀ t x, t < i → O[t]? = some x → P[x]? = some ((t : Int) + 1)
  no : ∀ x, x < n → x ∉ O.take i → P[x]? = some 0
theorem pl_start (n : Nat) (O : List Nat) : PL n O 0 (List.replicate n 0) := ⟨by simp, by intro t x ht; omega, fun x hx _ => by simp [hx]⟩
theorem pl_step {n : Nat} {O : List Nat} {i x : Nat} {P : List Int} (L : PL n O i P) (hnd : O.Nodup) (hx : O[i]? = some x) (hxn : x < n) : P[x]? = some 0 ∧ PL n O (i + 1) (P.set x ((i : Int) + 1)) := by
  have hni : x ∉ O.take i := by
    intro h
    obtain ⟨k, hk, e⟩ := mem_take.1 h
    have := nod_at hnd hx e
    omega
  have hxl : x < P.length := by rw [L.len]; exact hxn
  refine ⟨L.no x hxn hni, by simp [L.len], fun t y ht hy => ?_, fun y hy hyt => ?_⟩
  · by_cases hxy : x = y
    · subst hxy
      have := nod_at hnd hx hy
      subst this
      rw [List.getElem?_set_self hxl]
    · rw [List.getElem?_set_ne hxy]
      rcases Nat.lt_or_ge t i with h | h
      · exact L.yes t y h hy
      · obtain rfl : t = i := by omega
        rw [hx] at hy; exact absurd (Option.some.inj hy) hxy
  · have hxy : x ≠ y := by
      intro e; subst e
      exact hyt (mem_take.2 ⟨i, by omega, hx⟩)
    rw [List.getElem?_set_ne hxy]
    exact L.no y hy (fun h => by
      obtain ⟨k, hk, e⟩ := mem_take.1 h
      exact hyt (mem_take.2 ⟨k, by omega, e⟩))
set_option maxRecDepth 100000 in
set_option maxHeartbeats 8000000 in
theorem after_any (A B : Option Addr) (c d : Nat) (gs : Gr) (O : List Nat) (w : World) (h : RG w w.heap.size A gs) (h2 : RI w w.heap.size B (ints O)) (hO : O.length = gs.length) (hl : gs.length ≤ 1000) (hl2 : ∀ l ∈ gs, l.length ≤ 1000) (hord : Ordd gs O) :
    Calls Try.prog 29 #[.slice A gs.length c, .slice B gs.length d] w fun e w' => e = .returned (.bool true) ∧ Below w.heap.size w w' := by
  have HX := Lib.hid h
  have HL := Lib.hid hl2
  have HB := Lib.hid h2
  have HORD := Lib.hid hord
  have HND := Lib.hid hord.nodup
  have HALL := Lib.hid (ordd_all hord hO)
  have HP0 := Lib.hid (pl_start gs.length O)
  have HMK := Try.make23 gs.length (by omega) w
  have HI0 := Lib.hid (ir_new w gs.length (by omega))
  have HB0 := Lib.hid ((Below.refl w.heap.size w).alloc (Nat.le_refl _) (.cells (madeCells #[.int .i64 0] gs.length) 3))
  clear h hl2 h2 hord
  obtain ⟨k, hk⟩ : ∃ k, gs.length = k := ⟨_, rfl⟩
  have HK := Lib.hid hk
  have HOL : Hid (O.length = k) := Lib.hid (by rw [hO, hk])
  rw [hk] at hl HP0 HMK HI0 HB0 HALL ⊢
  clear hk hO
  have hnn : ((k : Int) != (k : Int)) = false := by simp
  go_enter Try.func29, Try.ntmps29
  go_wp2_with fail
  generalize w.alloc (.cells (madeCells #[.int .i64 0] k) 3) = w0 at *
  go_loopw [6] (fun s6 wr => ∃ (i : Nat) (P : List Int), s6 = .int .i64 (i : Int) ∧ i ≤ k ∧ Hid (IRow wr w.heap.size k P) ∧ Hid (PL k O i P) ∧ Hid (Below w.heap.size w wr)) (fun s6 _ => (k - intOf s6).toNat)
  case atStart => exact ⟨0, _, rfl, by omega, HI0, HP0, HB0⟩
  case round =>
    clear HI0 HP0 HB0 HMK
    obtain ⟨i, P, rfl, hi, HI, HP, HW⟩ := hrel
    by_cases hlt : i < k
    · have hki : (i : Int) < (k : Int) := by omega
      have hk0 : (0 : Int) ≤ (i : Int) := by omega
      have HIK := Lib.hid (show i + 1 ≤ k by omega)
      obtain ⟨x, hx⟩ : ∃ x, O[i]? = some x := ⟨_, List.getElem?_eq_getElem (by rw [HOL.out]; exact hlt)⟩
      have hxk : x < k := by have := (HORD.out i x hx).1; have := HK.out; omega
      obtain ⟨a1, hA1, _, c0⟩ := (HB.out.below HW.out).at_ i (by rw [ints_len, HOL.out]; exact hlt)
      have c0' : wr.cell? (a1.add i) = some (.int .i64 (x : Int)) := by
        rw [c0]; rw [List.getElem?_eq_getElem (by rw [HOL.out]; exact hlt)] at hx; simp [ints, Option.some.inj hx]
      subst hA1
      obtain ⟨hp0, hp1⟩ := pl_step HP.out HND.out hx hxk
      obtain ⟨_, hcp, hfp⟩ := ir_at HI.out x hxk _ hp0
      have HP1 := Lib.hid hp1
      have HI1 := Lib.hid (ir_set HI.out x ((i : Int) + 1))
      have HW1 := Lib.hid (HW.out.setCell (p := ⟨w.heap.size, x, none⟩) (Nat.le_refl _) (.int .i64 ((i : Int) + 1)))
      have d1 : decide ((x : Int) < 0) = false := decide_eq_false (by omega)
      have d2 : decide ((k : Int) ≤ (x : Int)) = false := decide_eq_false (by omega)
      have hx0 : (0 : Int) ≤ (x : Int) := by omega
      have hx1 : (x : Int) < (k : Int) := by omega
      clear c0 hx hp0 hp1 hlt hxk HI HP HW
      go_wp2_with fail
      go_roundw
      case rel => exact ⟨i + 1, _, by go_num, HIK.out, HI1, HP1, HW1⟩
      case measure => have := HIK.out; first | (simp [intOf]; done) | (simp [intOf]; omega)
    · obtain rfl : i = k := by omega
      have hki : ¬ (i : Int) < (i : Int) := by omega
      have HI0 := HI
      have HW0 := HW
      clear hlt
      go_wp2_with fail
      clear HI HW
      go_loopw [7, 8, 9] (fun s7 _ _ wr => ∃ (a : Nat), s7 = .int .i64 (a : Int) ∧ a ≤ i ∧ Hid (IRow wr w.heap.size i P) ∧ Hid (Below w.heap.size w wr)) (fun s7 _ _ _ => (i - intOf s7).toNat)
      case atStart => exact ⟨0, rfl, by omega, HI0, HW0⟩
      case round =>
        clear HI0 HW0
        obtain ⟨a, rfl, ha, HI, HW⟩ := hrel
        by_cases hlt : a < i
        · have hai : (a : Int) < (i : Int) := by omega
          have ha0 : (0 : Int) ≤ (a : Int) := by omega
          have HAK := Lib.hid (show a + 1 ≤ i by omega)
          have HAL := Lib.hid (show a < gs.length by have := HK.out; omega)
          have HI0 := HI
          have HW0 := HW
          obtain ⟨ad, A1, c1, hA, hbk, hga0, HRI⟩ := HX.out.suc_at HAL.out
          subst hA
          have HGA := Lib.hid hga0
          have HBK := Lib.hid hbk
          have hgl : (suc gs a).length ≤ 1000 := suc_len HL.out
          have HRI2 := Lib.hid HRI
          obtain ⟨ys, hys⟩ : ∃ ys, suc gs a = ys := ⟨_, rfl⟩
          rw [hys] at hgl HRI2 HGA
          have HYS := Lib.hid hys
          clear hlt hga0 hbk HRI hys
          go_wp2_with fail
          clear HI HW
          go_loopw [8, 9] (fun s8 _ wr => ∃ (j : Nat), s8 = .int .i64 (j : Int) ∧ j ≤ ys.length ∧ Hid (IRow wr w.heap.size i P) ∧ Hid (Below w.heap.size w wr)) (fun s8 _ _ => (ys.length - intOf s8).toNat)
          case atStart => exact ⟨0, rfl, by omega, HI0, HW0⟩
          case round =>
            clear HI0 HW0
            obtain ⟨j, rfl, hj, HI, HW⟩ := hrel
            have hga : wr.cell? (ad.add a) = some (.slice A1 ys.length c1) := by rw [HW.out.cell (by rw [block_of_add]; exact HBK.out)]; exact HGA.out
            by_cases hjl : j < ys.length
            · have hki2 : (j : Int) < (ys.length : Int) := by omega
              have hk02 : (0 : Int) ≤ (j : Int) := by omega
              have HJ1 := Lib.hid (show j + 1 ≤ ys.length by omega)
              obtain ⟨a1, hA1, _, c0⟩ := (HRI2.out.below HW.out).at_ j hjl
              subst hA1
              have HX9 : Hid (ys[j]? = some ys[j]) := Lib.hid (List.getElem?_eq_getElem hjl)
              generalize ys[j] = x at *
              have HW9 := Lib.hid (fun m => HW.out.trans (bdrewN (Below.refl w.heap.size wr) m))
              have HI9 := Lib.hid (fun m => ir_below HI.out (bdrewN (Below.refl wr.heap.size wr) m))
              clear hjl
              by_cases hx0 : 0 ≤ x
              · by_cases hx1 : x < (i : Int)
                · obtain ⟨b, rfl⟩ : ∃ b : Nat, x = (b : Int) := ⟨x.toNat, by omega⟩
                  have hbi : b < i := by omega
                  have he : Edge gs a b := ⟨HAL.out, by have := HK.out; omega, by rw [HYS.out]; exact List.mem_of_getElem? HX9.out⟩
                  obtain ⟨ia, hia⟩ := List.mem_iff_getElem?.1 (HALL.out a (by have := HAK.out; omega))
                  obtain ⟨ib, hib⟩ := List.mem_iff_getElem?.1 (HALL.out b hbi)
                  have hlt9 := HORD.out.edge hia hib he
                  have hial : ia < i := by
                    rw [← HOL.out]
                    rcases Nat.lt_or_ge ia O.length with h' | h'
                    · exact h'
                    · rw [List.getElem?_eq_none h'] at hia; cases hia
                  have hibl : ib < i := by
                    rw [← HOL.out]
                    rcases Nat.lt_or_ge ib O.length with h' | h'
                    · exact h'
                    · rw [List.getElem?_eq_none h'] at hib; cases hib
                  obtain ⟨_, hca, _⟩ := ir_at HI.out a (by have := HAK.out; omega) _ (HP.out.yes ia a hial hia)
                  obtain ⟨_, hcb, _⟩ := ir_at HI.out b hbi _ (HP.out.yes ib b hibl hib)
                  have d1 : decide ((0 : Int) ≤ (b : Int)) = true := decide_eq_true hx0
                  have d2 : decide ((b : Int) < (i : Int)) = true := decide_eq_true hx1
                  have d3 : decide ((ib : Int) + 1 ≤ (ia : Int) + 1) = false := decide_eq_false (by omega)
                  have d4 : decide ((ib : Int) ≤ (ia : Int)) = false := decide_eq_false (by omega)
                  have d5 : decide (ib ≤ ia) = false := decide_eq_false (by omega)
                  have d6 : ¬ ib ≤ ia := by omega
                  have d7 : ¬ (ib : Int) ≤ (ia : Int) := by omega
                  clear he hia hib hlt9 hial hibl hbi
                  go_wp2_with fail
                  go_quiet (fail)
                  go_wp2_with fail
                  go_roundw
                  case rel => exact ⟨j + 1, by go_num, HJ1.out, Lib.hid (HI9.out _), Lib.hid (HW9.out _)⟩
                  case measure => have := HJ1.out; first | (simp [intOf]; done) | (simp [intOf]; omega)
                · have d1 : decide ((0 : Int) ≤ x) = true := decide_eq_true hx0
                  have d2 : decide (x < (i : Int)) = false := decide_eq_false hx1
                  go_wp2_with fail
                  go_quiet (fail)
                  go_wp2_with fail
                  go_roundw
                  case rel => exact ⟨j + 1, by go_num, HJ1.out, Lib.hid (HI9.out _), Lib.hid (HW9.out _)⟩
                  case measure => have := HJ1.out; first | (simp [intOf]; done) | (simp [intOf]; omega)
              · have d1 : decide ((0 : Int) ≤ x) = false := decide_eq_false hx0
                go_wp2_with fail
                go_quiet (fail)
                go_wp2_with fail
                go_roundw
                case rel => exact ⟨j + 1, by go_num, HJ1.out, Lib.hid (HI9.out _), Lib.hid (HW9.out _)⟩
                case measure => have := HJ1.out; first | (simp [intOf]; done) | (simp [intOf]; omega)
            · obtain rfl : j = ys.length := by omega
              have hki2 : ¬ (ys.length : Int) < (ys.length : Int) := by omega
              clear hjl
              go_wp2_with fail
              go_roundw
              case rel => exact ⟨a + 1, by go_num, HAK.out, HI, HW⟩
              case measure => have := HAK.out; first | (simp [intOf]; done) | (simp [intOf]; omega)
        · obtain rfl : a = i := by omega
          have hki2 : ¬ (a : Int) < (a : Int) := by omega
          clear hlt
          go_wp2_with fail
          go_ret
          exact ⟨rfl, HW.out⟩
end Go.Proofs.Ythgfomjmkmkhkaa
