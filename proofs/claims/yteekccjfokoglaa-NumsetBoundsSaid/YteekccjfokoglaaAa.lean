/-
  Sets of one span, few, Ints, between. No condition but the bounds.
-/
import Derived.Test.YteekccjfokoglaaZ
namespace Go.Proofs.Yteekccjfokoglaa
open Go.RowKit Go.Sort Go.Lib Go.Proofs
set_option linter.unusedSimpArgs false
set_option linter.unnecessarySimpa false
set_option linter.unusedVariables false
theorem re_one (W : World) (a b : Int) : Re (W.alloc (.cells #[.int .i64 a, .int .i64 b] 46)) (W.alloc (.cells #[.int .i64 a, .int .i64 b] 46)).heap.size (some ⟨W.heap.size, 0, none⟩) [(a, b)] :=
  ⟨fun i hi => by
    obtain rfl : i = 0 := by simp at hi; exact hi
    exact ⟨W.heap.size, 0, rfl, by simp, by simp, by simp⟩⟩
theorem re_two (W : World) (a b c d : Int) : Re (W.alloc (.cells #[.int .i64 a, .int .i64 b, .int .i64 c, .int .i64 d] 46)) (W.alloc (.cells #[.int .i64 a, .int .i64 b, .int .i64 c, .int .i64 d] 46)).heap.size (some ⟨W.heap.size, 0, none⟩) [(a, b), (c, d)] :=
  ⟨fun i hi => by
    rcases (show i = 0 ∨ i = 1 by simp at hi; omega) with rfl | rfl
    · exact ⟨W.heap.size, 0, rfl, by simp, by simp, by simp⟩
    · exact ⟨W.heap.size, 0, rfl, by simp, by simp, by simp⟩⟩
theorem plain_at (g n : Nat) : Plain (some ⟨g, 0, none⟩) n := .inr ⟨g, 0, rfl⟩
theorem plain_nil : Plain none 0 := .inl ⟨rfl, rfl⟩
theorem hi_at {N g : Nat} (h : N ≤ g) : Hi N (some ⟨g, 0, none⟩) := fun b o e => by cases e; exact h
theorem hi_nil (N : Nat) : Hi N none := fun b o e => by cases e
def oneI (a b : Int) : NS := ([(a, b)], [])
def oneF (a b : Int) : NS := ([], [(a, b)])
theorem ints_any (a b : Int) (w : World) : Calls Try.prog 48 #[.int .i64 a, .int .i64 b] w (GivesN (oneI a b) w) := by
  go_enter Try.func48, Try.ntmps48
  go_wp2
  refine bodyPost_ret (v := nv (some ⟨w.heap.size + 1, 0, none⟩) 1 1 none 0 0) (by simp [results, Try.results48, go_sem]) rfl ?_
  have hR := re_one (w.alloc (.cells #[.slice (some ⟨w.heap.size + 1, 0, none⟩) 1 1, .slice none 0 0] 24)) a b
  rw [show (w.alloc (.cells #[.slice (some ⟨w.heap.size + 1, 0, none⟩) 1 1, .slice none 0 0] 24)).heap.size = w.heap.size + 1 by simp] at hR
  exact ⟨some ⟨w.heap.size + 1, 0, none⟩, 1, none, 0, rfl, ⟨⟨hR, re_nil _ _ _, plain_at _ _, plain_nil⟩, hi_at (by omega), hi_nil _⟩, ((Below.refl _ _).alloc (Nat.le_refl _) _).alloc (by simp) _⟩
theorem fracs_any (a b : Int) (w : World) : Calls Try.prog 49 #[.int .i64 a, .int .i64 b] w (GivesN (oneF a b) w) := by
  go_enter Try.func49, Try.ntmps49
  go_wp2
  refine bodyPost_ret (v := nv none 0 0 (some ⟨w.heap.size + 1, 0, none⟩) 1 1) (by simp [results, Try.results49, go_sem]) rfl ?_
  have hR := re_one (w.alloc (.cells #[.slice none 0 0, .slice (some ⟨w.heap.size + 1, 0, none⟩) 1 1] 24)) a b
  rw [show (w.alloc (.cells #[.slice none 0 0, .slice (some ⟨w.heap.size + 1, 0, none⟩) 1 1] 24)).heap.size = w.heap.size + 1 by simp] at hR
  exact ⟨none, 0, some ⟨w.heap.size + 1, 0, none⟩, 1, rfl, ⟨⟨re_nil _ _ _, hR, plain_nil, plain_at _ _⟩, hi_nil _, hi_at (by omega)⟩, ((Below.refl _ _).alloc (Nat.le_refl _) _).alloc (by simp) _⟩
def intS : NS := (allS.1, [])
theorem int_ok : okN 1 intS := ⟨all_ok.1, Nat.zero_le _, all_ok.2.2.1, by simp [intS]⟩
theorem field24 (E1 : Option Addr) (n1 e1 : Nat) (E2 : Option Addr) (n2 e2 : Nat) (W : World) : Sem.run Try.prog (Instr.field 24 (nv E1 n1 e1 E2 n2 e2) 0) W = .ok (.slice E1 n1 e1) W := by kernel_rfl
set_option maxRecDepth 100000 in
set_option maxHeartbeats 1000000 in
theorem intset_any (w : World) : Calls Try.prog 23 #[] w (GivesN intS w) := by
  have H := Lib.hid (fun W => all_any W)
  have HY := Lib.hid (yb_new w)
  go_enter Try.func23, Try.ntmps23
  go_wp2_with fail
  refine (H.out _).mono ?_
  rintro e w2 ⟨E1, e1, E2, e2, rfl, ⟨hns, h1, h2⟩, hb2⟩
  have hY2 := HY.out.up hb2
  obtain ⟨y0, y1, f0, f1, yl⟩ := id hY2
  have i1 : Hi (w.heap.size + 1) E1 := h1.le (by simp)
  have hB2 := (bal w (.cells #[.slice none 0 0, .slice none 0 0] 24)).trans (hb2.mono (by simp))
  obtain ⟨⟨q0, q1⟩, hfn, hfb⟩ := fin_set (F2 := none) (g2 := 0) (s := intS) hY2 ⟨hns.r1, re_nil _ _ _, hns.p1, plain_nil⟩ i1 (hi_nil _) allS.1.length 0
  have HE := Lib.hid (show GivesN intS w (.returned (nv E1 allS.1.length e1 none 0 0)) ((w2.setCell ⟨w.heap.size, 0, none⟩ (.slice E1 allS.1.length e1)).setCell ⟨w.heap.size, 1, none⟩ (.slice none 0 0)) from
    ⟨E1, e1, none, 0, rfl, ⟨hfn, i1.le (by omega), hi_nil _⟩, hB2.trans hfb⟩)
  clear hfn hfb hB2 i1 hY2 hns h1 h2 hb2
  have hf := fun W => field24 E1 allS.1.length e1 E2 allS.2.length e2 W
  go_wp2_with fail
  refine bodyPost_ret (v := nv E1 allS.1.length e1 none 0 0) (by simp [results, Try.results23, go_sem, q0, q1]) rfl HE.out
/-- the numbers from lo to hi units -/
def btw (lo hi : Int) : NS := mk ([(-((-lo) / 10000), hi / 10000)], [(lo, hi)])
set_option maxRecDepth 100000 in
set_option maxHeartbeats 1000000 in
theorem between_any (lo hi : Int) (w : World) (h1 : -1000000000000000 ≤ lo) (h2 : lo ≤ hi) (h3 : hi ≤ 1000000000000000) : Calls Try.prog 67 #[.int .i64 lo, .int .i64 hi] w (GivesN (btw lo hi) w) := by
  have HF1 := Lib.hid (fun W => floor_q (-lo) W ((vld_iff _).2 ⟨by omega, by omega⟩))
  have HF2 := Lib.hid (fun W => floor_q hi W ((vld_iff _).2 ⟨by omega, by omega⟩))
  have b1 : -100000000000 ≤ (-lo) / 10000 ∧ (-lo) / 10000 ≤ 100000000000 := by omega
  have b2 : -100000000000 ≤ hi / 10000 ∧ hi / 10000 ≤ 100000000000 := by omega
  have HOK := Lib.hid (show okN 1 ([(-((-lo) / 10000), hi / 10000)], [(lo, hi)]) from ⟨by simp, by simp, fun x hx => by simp at hx; subst hx; unfold i64ok; simp; omega, fun x hx => by simp at hx; subst hx; unfold i64ok; simp; omega⟩)
  unfold btw
  have HY := Lib.hid (yb_new w)
  obtain ⟨p, hp⟩ : ∃ p, p = (-lo) / 10000 := ⟨_, rfl⟩
  obtain ⟨q, hq⟩ : ∃ q, q = hi / 10000 := ⟨_, rfl⟩
  rw [← hp] at HF1 b1 HOK ⊢
  rw [← hq] at HF2 b2 HOK ⊢
  have t1 : (-(p * 10000)).tdiv 10000 = -p := by rw [show -(p * 10000) = (-p) * 10000 by omega]; exact Int.mul_tdiv_cancel _ (by decide)
  have t2 : (q * 10000).tdiv 10000 = q := Int.mul_tdiv_cancel _ (by decide)
  clear hp hq
  go_enter Try.func67, Try.ntmps67
  go_wp2_with fail
  refine (HF1.out _).mono ?_
  rintro e w2 ⟨rfl, hb2⟩
  have HY2 := Lib.hid (HY.out.up hb2)
  have HB2 := Lib.hid ((bal w (.cells #[.slice none 0 0, .slice none 0 0] 24)).trans (hb2.mono (by simp)))
  clear hb2
  go_wp2_with fail
  refine (HF2.out _).mono ?_
  rintro e w3 ⟨rfl, hb3⟩
  have HY3 := Lib.hid (HY2.out.up hb3)
  have HB3 := Lib.hid (HB2.out.trans (hb3.mono HB2.out.size))
  clear hb3
  go_wp2_with fail
  have hbW := ((bal w3 (.cells #[.int .i64 (-p), .int .i64 q] 46)).alloc (by simp) (.cells #[.int .i64 (-p), .int .i64 q] 46)).alloc (by simp; omega) (.cells #[.int .i64 lo, .int .i64 hi] 46)
  have hR1 := re_one (w3.alloc (.cells #[.int .i64 (-p), .int .i64 q] 46)) (-p) q
  have hR2 := re_one ((w3.alloc (.cells #[.int .i64 (-p), .int .i64 q] 46)).alloc (.cells #[.int .i64 (-p), .int .i64 q] 46)) lo hi
  have hR1' := hR1.up (bal _ (.cells #[.int .i64 lo, .int .i64 hi] 46))
  rw [show (w3.alloc (.cells #[.int .i64 (-p), .int .i64 q] 46)).heap.size = w3.heap.size + 1 by simp] at hR1'
  rw [show ((w3.alloc (.cells #[.int .i64 (-p), .int .i64 q] 46)).alloc (.cells #[.int .i64 (-p), .int .i64 q] 46)).heap.size = w3.heap.size + 1 + 1 by simp] at hR2
  have HMK := Lib.hid (make_any (some ⟨w3.heap.size + 1, 0, none⟩) (some ⟨w3.heap.size + 1 + 1, 0, none⟩) 1 1 ([(-p, q)], [(lo, hi)]) _ ⟨hR1', hR2, plain_at _ _, plain_at _ _⟩ (HOK.out.le (by omega)))
  have HYW := Lib.hid (HY3.out.up hbW)
  have HBW := Lib.hid (HB3.out.trans (hbW.mono HB3.out.size))
  have hsW : w3.heap.size + 3 = (((w3.alloc (.cells #[.int .i64 (-p), .int .i64 q] 46)).alloc (.cells #[.int .i64 (-p), .int .i64 q] 46)).alloc (.cells #[.int .i64 lo, .int .i64 hi] 46)).heap.size := by simp
  have yl3 := HY3.out.lt
  clear hbW hR1 hR1' hR2
  refine HMK.out.mono ?_
  rintro e w4 ⟨F1, g1, F2, g2, rfl, ⟨hns, h1', h2'⟩, hb4⟩
  have hY4 := HYW.out.up hb4
  obtain ⟨y0, y1, f0, f1, yl⟩ := id hY4
  have i1 : Hi (w.heap.size + 1) F1 := h1'.le (by omega)
  have i2 : Hi (w.heap.size + 1) F2 := h2'.le (by omega)
  obtain ⟨⟨q0, q1⟩, hfn, hfb⟩ := fin_set hY4 hns i1 i2 (mk ([(-p, q)], [(lo, hi)])).1.length (mk ([(-p, q)], [(lo, hi)])).2.length
  have HE := Lib.hid (show GivesN (mk ([(-p, q)], [(lo, hi)])) w (.returned (nv F1 (mk ([(-p, q)], [(lo, hi)])).1.length g1 F2 (mk ([(-p, q)], [(lo, hi)])).2.length g2)) _ from
    ⟨F1, g1, F2, g2, rfl, ⟨hfn, i1.le (by omega), i2.le (by omega)⟩, (HBW.out.trans (hb4.mono HBW.out.size)).trans hfb⟩)
  clear hfn hfb i1 i2 hY4 hns h1' h2' hb4
  go_wp2_with fail
  refine bodyPost_ret (v := nv F1 (mk ([(-p, q)], [(lo, hi)])).1.length g1 F2 (mk ([(-p, q)], [(lo, hi)])).2.length g2) (by simp [results, Try.results67, go_sem, q0, q1]) rfl HE.out
end Go.Proofs.Yteekccjfokoglaa
