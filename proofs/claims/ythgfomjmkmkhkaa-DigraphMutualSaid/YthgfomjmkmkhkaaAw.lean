/-
  awake gives true. No condition.
-/
import Derived.Test.YthgfomjmkmkhkaaTb
import Derived.Test.YthgfomjmkmkhkaaWD
namespace Go.Proofs.Ythgfomjmkmkhkaa
open Go.RowKit
set_option linter.unusedSimpArgs false
set_option linter.unusedVariables false
theorem ri_lit (w : World) (xs : List Int) : RI (w.alloc (.cells (icells xs).toArray 3)) (w.heap.size + 1) (some ⟨w.heap.size, 0, none⟩) xs :=
  ⟨fun k hk => by
    refine ⟨⟨w.heap.size, 0, none⟩, rfl, Nat.lt_succ_self _, ?_⟩
    rw [show (⟨w.heap.size, 0, none⟩ : Addr).add k = ⟨w.heap.size, k, none⟩ by simp [Addr.add]; exact fun e => e.symm]
    rw [Lib.cell_of_heap (MapKept.heap_alloc w (.cells (icells xs).toArray 3)).1]
    simp [icells, List.getElem?_eq_getElem hk]⟩
theorem rows_cell (w : World) (rows : List Value) (k : Nat) (v : Value) (h : rows[k]? = some v) : (w.alloc (.cells rows.toArray 23)).cell? ((⟨w.heap.size, 0, none⟩ : Addr).add k) = some v := by
  rw [show (⟨w.heap.size, 0, none⟩ : Addr).add k = ⟨w.heap.size, k, none⟩ by simp [Addr.add]; exact fun e => e.symm]
  rw [Lib.cell_of_heap (MapKept.heap_alloc w (.cells rows.toArray 23)).1]
  simpa using h
theorem rg_lit3 (w : World) (a b c : List Int) : RG ((((w.alloc (.cells (icells a).toArray 3)).alloc (.cells (icells b).toArray 3)).alloc (.cells (icells c).toArray 3)).alloc (.cells [.slice (some ⟨w.heap.size, 0, none⟩) a.length a.length, .slice (some ⟨w.heap.size + 1, 0, none⟩) b.length b.length, .slice (some ⟨w.heap.size + 1 + 1, 0, none⟩) c.length c.length].toArray 23))
    (w.heap.size + 1 + 1 + 1 + 1) (some ⟨w.heap.size + 1 + 1 + 1, 0, none⟩) [a, b, c] := by
  obtain ⟨w1, e1⟩ : ∃ w1, w.alloc (.cells (icells a).toArray 3) = w1 := ⟨_, rfl⟩
  have s1 : w1.heap.size = w.heap.size + 1 := by rw [← e1]; simp
  have r1 := ri_lit w a
  rw [e1] at r1 ⊢
  obtain ⟨w2, e2⟩ : ∃ w2, w1.alloc (.cells (icells b).toArray 3) = w2 := ⟨_, rfl⟩
  have s2 : w2.heap.size = w.heap.size + 1 + 1 := by rw [← e2]; simp [s1]
  have r2 := ri_lit w1 b
  have b2 : Below w1.heap.size w1 w2 := by rw [← e2]; exact (Below.refl _ _).alloc (Nat.le_refl _) _
  rw [e2] at r2 ⊢
  rw [s1] at r2 b2
  obtain ⟨w3, e3⟩ : ∃ w3, w2.alloc (.cells (icells c).toArray 3) = w3 := ⟨_, rfl⟩
  have s3 : w3.heap.size = w.heap.size + 1 + 1 + 1 := by rw [← e3]; simp [s2]
  have r3 := ri_lit w2 c
  have b3 : Below w2.heap.size w2 w3 := by rw [← e3]; exact (Below.refl _ _).alloc (Nat.le_refl _) _
  rw [e3] at r3 ⊢
  rw [s2] at r3 b3
  have hc := rows_cell w3 [.slice (some ⟨w.heap.size, 0, none⟩) a.length a.length, .slice (some ⟨w.heap.size + 1, 0, none⟩) b.length b.length, .slice (some ⟨w.heap.size + 1 + 1, 0, none⟩) c.length c.length]
  rw [s3] at hc
  have b4 : Below (w.heap.size + 1 + 1 + 1) w3 (w3.alloc (.cells [.slice (some ⟨w.heap.size, 0, none⟩) a.length a.length, .slice (some ⟨w.heap.size + 1, 0, none⟩) b.length b.length, .slice (some ⟨w.heap.size + 1 + 1, 0, none⟩) c.length c.length].toArray 23)) := by
    have := (Below.refl w3.heap.size w3).alloc (Nat.le_refl _) (.cells [.slice (some ⟨w.heap.size, 0, none⟩) a.length a.length, .slice (some ⟨w.heap.size + 1, 0, none⟩) b.length b.length, .slice (some ⟨w.heap.size + 1 + 1, 0, none⟩) c.length c.length].toArray 23)
    rw [s3] at this; exact this
  have q1 : RI w3 (w.heap.size + 1) (some ⟨w.heap.size, 0, none⟩) a := (r1.below b2).below (b3.mono (by omega))
  have q2 : RI w3 (w.heap.size + 1 + 1) (some ⟨w.heap.size + 1, 0, none⟩) b := r2.below b3
  refine ⟨fun k hk => ?_⟩
  rcases (show k = 0 ∨ k = 1 ∨ k = 2 by simp at hk; omega) with rfl | rfl | rfl
  · exact ⟨_, _, _, rfl, by show w.heap.size + 1 + 1 + 1 < _; omega, hc 0 _ rfl, ((q1.below (b4.mono (by omega))).le (by omega))⟩
  · exact ⟨_, _, _, rfl, by show w.heap.size + 1 + 1 + 1 < _; omega, hc 1 _ rfl, ((q2.below (b4.mono (by omega))).le (by omega))⟩
  · exact ⟨_, _, _, rfl, by show w.heap.size + 1 + 1 + 1 < _; omega, hc 2 _ rfl, ((r3.below b4).le (by omega))⟩
theorem rg_lit1 (w : World) (a : List Int) : RG ((w.alloc (.cells (icells a).toArray 3)).alloc (.cells [.slice (some ⟨w.heap.size, 0, none⟩) a.length a.length].toArray 23)) (w.heap.size + 1 + 1) (some ⟨w.heap.size + 1, 0, none⟩) [a] := by
  obtain ⟨w1, e1⟩ : ∃ w1, w.alloc (.cells (icells a).toArray 3) = w1 := ⟨_, rfl⟩
  have s1 : w1.heap.size = w.heap.size + 1 := by rw [← e1]; simp
  have r1 := ri_lit w a
  rw [e1] at r1 ⊢
  have hc := rows_cell w1 [.slice (some ⟨w.heap.size, 0, none⟩) a.length a.length]
  rw [s1] at hc
  have b4 := (Below.refl w1.heap.size w1).alloc (Nat.le_refl _) (.cells [.slice (some ⟨w.heap.size, 0, none⟩) a.length a.length].toArray 23)
  rw [s1] at b4
  refine ⟨fun k hk => ?_⟩
  obtain rfl : k = 0 := by simp at hk; omega
  exact ⟨_, _, _, rfl, by show w.heap.size + 1 < _; omega, hc 0 _ rfl, ((r1.below b4).le (by omega))⟩
theorem topo_a : topoR [[1], [], [1]] = ([0, 2, 1], true) := by decide
theorem topo_b : topoR [[0]] = ([], false) := by decide
theorem walk_one {g : Gr} {a b : Nat} (h : Walk g a b 1) : Edge g a b := by
  obtain ⟨c, w, e⟩ := h.last
  rw [w.zero]; exact e
theorem far_one {g : Gr} {a b : Nat} (e : Edge g a b) (h : a ≠ b) : dist g a b = 1 :=
  dist_far (d := 1) ⟨Walk.cons e (Walk.nil b e.2.1), fun k hk w => by
    obtain rfl : k = 0 := by omega
    exact h w.zero⟩
theorem far_two {g : Gr} {a b c : Nat} (e : Edge g a b) (e2 : Edge g b c) (h : a ≠ c) (hn : ¬ Edge g a c) : dist g a c = 2 :=
  dist_far (d := 2) ⟨Walk.cons e (Walk.cons e2 (Walk.nil c e2.2.1)), fun k hk w => by
    rcases (show k = 0 ∨ k = 1 by omega) with rfl | rfl
    · exact h w.zero
    · exact hn (walk_one w)⟩
theorem dists_a : distsI [[1], [2], [0]] 1 = [2, 0, 1] := by
  have h0 : dist [[1], [2], [0]] 1 0 = 2 := far_two (b := 2) (by decide) (by decide) (by decide) (by decide)
  have h1 : dist [[1], [2], [0]] 1 1 = 0 := dist_self (by decide)
  have h2 : dist [[1], [2], [0]] 1 2 = 1 := far_one (by decide) (by decide)
  unfold distsI
  rw [if_pos (by decide)]
  show dists [[1], [2], [0]] 1 = _
  unfold dists
  show [dist [[1], [2], [0]] 1 0, dist [[1], [2], [0]] 1 1, dist [[1], [2], [0]] 1 2] = _
  rw [h0, h1, h2]
theorem cycle_a : cycS [[1], [2], [0]] = [0, 1, 2] := by
  have hc : Con [[1], [2], [0]] 0 0 := (Con.edge (b := 1) (by decide)).trans ((Con.edge (b := 2) (by decide)).trans (Con.edge (by decide)))
  have h0 : cycAt [[1], [2], [0]] = some 0 := cycAt_some (by decide) hc (fun x hx => by omega)
  have one : ∀ a b : Nat, Edge [[1], [2], [0]] a b → (a = 0 ∧ b = 1) ∨ (a = 1 ∧ b = 2) ∨ (a = 2 ∧ b = 0) := by
    intro a b e
    have ha : a < 3 := e.1
    have hb : b < 3 := e.2.1
    rcases (show a = 0 ∨ a = 1 ∨ a = 2 by omega) with rfl | rfl | rfl <;> rcases (show b = 0 ∨ b = 1 ∨ b = 2 by omega) with rfl | rfl | rfl <;> first | (simp; done) | (exact absurd e (by decide))
  have n0 : nxS [[1], [2], [0]] 0 0 = 1 := by
    have := one _ _ (nxS_is hc).2.1
    omega
  have d1 : dist [[1], [2], [0]] 1 0 = 2 := far_two (b := 2) (by decide) (by decide) (by decide) (by decide)
  have n1 : nxS [[1], [2], [0]] 0 1 = 2 := by
    have := one _ _ (nxS_is (g := [[1], [2], [0]]) (s := 0) (a := 1) ((Con.edge (b := 2) (by decide)).trans (Con.edge (by decide)))).2.1
    omega
  unfold cycS
  rw [h0]
  simp only [n0, d1]
  show 0 :: cyP [[1], [2], [0]] 0 2 1 = _
  simp only [cyP, n1]
theorem comps_a : comps [[], [2], [1]] = [0, 1, 1] := by
  have nin : ∀ a b : Nat, Con [[], [2], [1]] a b → b ≠ 0 := by
    rintro a b ⟨n, w⟩ rfl
    obtain ⟨c, _, e⟩ := w.last
    have hc : c < 3 := e.1
    rcases (show c = 0 ∨ c = 1 ∨ c = 2 by omega) with rfl | rfl | rfl <;> exact absurd e (by decide)
  have m0 : ∀ a : Nat, a ≠ 0 → ¬ Mut [[], [2], [1]] a 0 := by
    rintro a ha (h | ⟨h, _⟩)
    · exact ha h
    · exact nin _ _ h rfl
  have l0 : LeastOf [[], [2], [1]] 0 0 := ⟨Mut.refl _ _, Nat.le_refl _, fun b hb => by omega⟩
  have l1 : LeastOf [[], [2], [1]] 1 1 := ⟨Mut.refl _ _, Nat.le_refl _, fun b hb => by obtain rfl : b = 0 := (by omega); exact m0 1 (by omega)⟩
  have l2 : LeastOf [[], [2], [1]] 2 1 := ⟨Or.inr ⟨Con.edge (by decide), Con.edge (by decide)⟩, by omega, fun b hb => by obtain rfl : b = 0 := (by omega); exact m0 2 (by omega)⟩
  refine (eq_comps (by rfl) (fun a ha => ?_)).symm
  have ha' : a < 3 := ha
  rcases (show a = 0 ∨ a = 1 ∨ a = 2 by omega) with rfl | rfl | rfl
  · exact ⟨0, rfl, l0⟩
  · exact ⟨1, rfl, l1⟩
  · exact ⟨1, rfl, l2⟩
theorem rg_grow {w : World} {B : Nat} {A : Option Addr} {gs : Gr} (h : RG w B A gs) (hs : B ≤ w.heap.size) : RG w w.heap.size A gs := h.le hs
set_option maxRecDepth 100000 in
set_option maxHeartbeats 8000000 in
theorem awake_any (w : World) : Calls Try.prog 13 #[] w fun e w' => e = .returned (.bool true) ∧ Below w.heap.size w w' := by
  have C1 := Lib.hid (by
    have h := ptopo_any (some ⟨w.heap.size + 1 + 1 + 1, 0, none⟩) 3 [[1], [], [1]] _ (rg_grow (rg_lit3 w [1] [] [1]) (by simp)) (by decide) (by decide)
    rw [topo_a, show ints (([0, 2, 1] : List Nat), true).1 = [0, 2, 1] from rfl] at h
    exact h)
  have B1 := Lib.hid (((((Below.refl w.heap.size w).alloc (Nat.le_refl _) (.cells #[.int .i64 1] 3)).alloc (by simp) (.cells #[] 3)).alloc (by simp; omega) (.cells #[.int .i64 1] 3)).alloc (by simp; omega) (.cells #[.slice (some ⟨w.heap.size, 0, none⟩) 1 1, .slice (some ⟨w.heap.size + 1, 0, none⟩) 0 0, .slice (some ⟨w.heap.size + 1 + 1, 0, none⟩) 1 1] 23))
  go_enter Try.func13, Try.ntmps13
  go_wp2_with fail
  refine C1.out.mono ?_
  rintro e w1 ⟨A1, c1, rfl, hr1, hb1⟩
  have HR1 : Hid (RI w1 w1.heap.size A1 [0, 2, 1]) := Lib.hid hr1
  have HB1 := Lib.hid (B1.out.trans (hb1.mono B1.out.size))
  clear hr1 hb1 C1 B1
  have C2 := Lib.hid (by
    have h := ptopo_any (some ⟨w1.heap.size + 1, 0, none⟩) 1 [[0]] _ (rg_grow (rg_lit1 w1 [0]) (by simp)) (by decide) (by decide)
    rw [topo_b, show ints (([] : List Nat), false).1 = [] from rfl] at h
    exact h)
  have B2 := Lib.hid (((Below.refl w1.heap.size w1).alloc (Nat.le_refl _) (.cells #[.int .i64 0] 3)).alloc (by simp) (.cells #[.slice (some ⟨w1.heap.size, 0, none⟩) 1 1] 23))
  go_wp2_with fail
  refine C2.out.mono ?_
  rintro e w2 ⟨A2, c2, rfl, _, hb2⟩
  have HB2 := Lib.hid (HB1.out.trans ((B2.out.trans (hb2.mono B2.out.size)).mono HB1.out.size))
  have HR1 := Lib.hid (HR1.out.up (B2.out.trans (hb2.mono B2.out.size)))
  clear hb2 C2 B2 HB1
  have C3 := Lib.hid (by
    have h := pcycle_any (some ⟨w2.heap.size + 1 + 1 + 1, 0, none⟩) 3 [[1], [2], [0]] _ (rg_grow (rg_lit3 w2 [1] [2] [0]) (by simp)) (by decide) (by decide)
    rw [cycle_a, show ints [0, 1, 2] = [0, 1, 2] from rfl] at h
    exact h)
  have B3 := Lib.hid (((((Below.refl w2.heap.size w2).alloc (Nat.le_refl _) (.cells #[.int .i64 1] 3)).alloc (by simp) (.cells #[.int .i64 2] 3)).alloc (by simp; omega) (.cells #[.int .i64 0] 3)).alloc (by simp; omega) (.cells #[.slice (some ⟨w2.heap.size, 0, none⟩) 1 1, .slice (some ⟨w2.heap.size + 1, 0, none⟩) 1 1, .slice (some ⟨w2.heap.size + 1 + 1, 0, none⟩) 1 1] 23))
  go_wp2_with fail
  refine C3.out.mono ?_
  rintro e w3 ⟨A3, c3, rfl, hr3, hb3⟩
  have HR3 : Hid (RI w3 w3.heap.size A3 [0, 1, 2]) := Lib.hid hr3
  have HB3 := Lib.hid (HB2.out.trans ((B3.out.trans (hb3.mono B3.out.size)).mono HB2.out.size))
  have HR1 := Lib.hid (HR1.out.up (B3.out.trans (hb3.mono B3.out.size)))
  clear hr3 hb3 C3 B3 HB2
  have C4 := Lib.hid (ints_any A3 (some ⟨w3.heap.size, 0, none⟩) c3 3 [0, 1, 2] [0, 1, 2] _ (HR3.out.up ((Below.refl _ _).alloc (Nat.le_refl _) (.cells (icells [0, 1, 2]).toArray 3))) ((ri_lit w3 [0, 1, 2]).le (by simp)) (by decide) (by decide))
  have B4 := Lib.hid ((Below.refl w3.heap.size w3).alloc (Nat.le_refl _) (.cells (icells [0, 1, 2]).toArray 3))
  rw [decide_eq_true (rfl : ([0, 1, 2] : List Int) = [0, 1, 2])] at C4
  go_wp2_with fail
  refine C4.out.mono ?_
  rintro e w4 ⟨rfl, hb4⟩
  have HB4 := Lib.hid (HB3.out.trans ((B4.out.trans (hb4.mono B4.out.size)).mono HB3.out.size))
  have HR1 := Lib.hid (HR1.out.up (B4.out.trans (hb4.mono B4.out.size)))
  clear hb4 C4 B4 HB3 HR3
  have C5 := Lib.hid (ints_any A1 (some ⟨w4.heap.size, 0, none⟩) c1 3 [0, 2, 1] [0, 2, 1] _ (HR1.out.up ((Below.refl _ _).alloc (Nat.le_refl _) (.cells (icells [0, 2, 1]).toArray 3))) ((ri_lit w4 [0, 2, 1]).le (by simp)) (by decide) (by decide))
  have B5 := Lib.hid ((Below.refl w4.heap.size w4).alloc (Nat.le_refl _) (.cells (icells [0, 2, 1]).toArray 3))
  rw [decide_eq_true (rfl : ([0, 2, 1] : List Int) = [0, 2, 1])] at C5
  go_wp2_with fail
  refine C5.out.mono ?_
  rintro e w5 ⟨rfl, hb5⟩
  have HB5 := Lib.hid (HB4.out.trans ((B5.out.trans (hb5.mono B5.out.size)).mono HB4.out.size))
  clear hb5 C5 B5 HB4 HR1
  have C6 := Lib.hid (by
    have h := pdist_any (some ⟨w5.heap.size + 1 + 1 + 1, 0, none⟩) 3 [[1], [2], [0]] 1 _ (rg_grow (rg_lit3 w5 [1] [2] [0]) (by simp)) (by decide) (by decide)
    rw [dists_a] at h
    exact h)
  have B6 := Lib.hid (((((Below.refl w5.heap.size w5).alloc (Nat.le_refl _) (.cells #[.int .i64 1] 3)).alloc (by simp) (.cells #[.int .i64 2] 3)).alloc (by simp; omega) (.cells #[.int .i64 0] 3)).alloc (by simp; omega) (.cells #[.slice (some ⟨w5.heap.size, 0, none⟩) 1 1, .slice (some ⟨w5.heap.size + 1, 0, none⟩) 1 1, .slice (some ⟨w5.heap.size + 1 + 1, 0, none⟩) 1 1] 23))
  go_wp2_with fail
  refine C6.out.mono ?_
  rintro e w6 ⟨A6, c6, rfl, hr6, hb6⟩
  have HR6 := Lib.hid hr6
  have HB6 := Lib.hid (HB5.out.trans ((B6.out.trans (hb6.mono B6.out.size)).mono HB5.out.size))
  clear hr6 hb6 C6 B6 HB5
  have C7 := Lib.hid (ints_any A6 (some ⟨w6.heap.size, 0, none⟩) c6 3 [2, 0, 1] [2, 0, 1] _ (HR6.out.up ((Below.refl _ _).alloc (Nat.le_refl _) (.cells (icells [2, 0, 1]).toArray 3))) ((ri_lit w6 [2, 0, 1]).le (by simp)) (by decide) (by decide))
  have B7 := Lib.hid ((Below.refl w6.heap.size w6).alloc (Nat.le_refl _) (.cells (icells [2, 0, 1]).toArray 3))
  rw [decide_eq_true (rfl : ([2, 0, 1] : List Int) = [2, 0, 1])] at C7
  go_wp2_with fail
  refine C7.out.mono ?_
  rintro e w7 ⟨rfl, hb7⟩
  have HB7 := Lib.hid (HB6.out.trans ((B7.out.trans (hb7.mono B7.out.size)).mono HB6.out.size))
  clear hb7 C7 B7 HB6 HR6
  have C8 := Lib.hid (by
    have h := pcomp_any (some ⟨w7.heap.size + 1 + 1 + 1, 0, none⟩) 3 [[], [2], [1]] _ (rg_grow (rg_lit3 w7 [] [2] [1]) (by simp)) (by decide) (by decide)
    rw [comps_a] at h
    exact h)
  have B8 := Lib.hid (((((Below.refl w7.heap.size w7).alloc (Nat.le_refl _) (.cells #[] 3)).alloc (by simp) (.cells #[.int .i64 2] 3)).alloc (by simp; omega) (.cells #[.int .i64 1] 3)).alloc (by simp; omega) (.cells #[.slice (some ⟨w7.heap.size, 0, none⟩) 0 0, .slice (some ⟨w7.heap.size + 1, 0, none⟩) 1 1, .slice (some ⟨w7.heap.size + 1 + 1, 0, none⟩) 1 1] 23))
  go_wp2_with fail
  refine C8.out.mono ?_
  rintro e w8 ⟨A8, c8, rfl, hr8, hb8⟩
  have HR8 := Lib.hid hr8
  have HB8 := Lib.hid (HB7.out.trans ((B8.out.trans (hb8.mono B8.out.size)).mono HB7.out.size))
  clear hr8 hb8 C8 B8 HB7
  have C9 := Lib.hid (ints_any A8 (some ⟨w8.heap.size, 0, none⟩) c8 3 [0, 1, 1] [0, 1, 1] _ (HR8.out.up ((Below.refl _ _).alloc (Nat.le_refl _) (.cells (icells [0, 1, 1]).toArray 3))) ((ri_lit w8 [0, 1, 1]).le (by simp)) (by decide) (by decide))
  have B9 := Lib.hid ((Below.refl w8.heap.size w8).alloc (Nat.le_refl _) (.cells (icells [0, 1, 1]).toArray 3))
  rw [decide_eq_true (rfl : ([0, 1, 1] : List Int) = [0, 1, 1])] at C9
  go_wp2_with fail
  refine C9.out.mono ?_
  rintro e w9 ⟨rfl, hb9⟩
  have HB9 := Lib.hid (HB8.out.trans ((B9.out.trans (hb9.mono B9.out.size)).mono HB8.out.size))
  clear hb9 C9 B9 HB8 HR8
  go_wp2_with fail
  go_ret
  exact ⟨rfl, HB9.out⟩
end Go.Proofs.Ythgfomjmkmkhkaa
