import Derived.Test.YtelchjgpfpccnaaDoorE
namespace Go.Proofs.YtelchjgpfpccnaaDoor
open Go.RowKit
set_option linter.unusedSimpArgs false
set_option linter.unusedVariables false
theorem atoi_ex (s : ByteArray) (n : Int) (hl : s.size ≤ 18) (h : Lib.atoi s.data.toList = some n) (w : World) :
    Calls Tryd.prog 38 #[.string s] w fun e w' => e = .returned (.tuple #[.int .i64 n, .nilIface]) ∧ Below w.heap.size w w' :=
  (Tryd.strconv_Atoi s n hl h w).mono fun _ _ ⟨he, t, hw⟩ => ⟨he, by rw [hw]; exact Lib.bytesWorld_below _ _ _⟩
theorem atoi01 (w : World) : Calls Tryd.prog 38 #[.string ⟨#[48, 49]⟩] w fun e w' => e = .returned (.tuple #[.int .i64 1, .nilIface]) ∧ Below w.heap.size w w' := atoi_ex _ 1 (by decide) (by kernel_rfl) w
theorem atoi2 (w : World) : Calls Tryd.prog 38 #[.string ⟨#[50]⟩] w fun e w' => e = .returned (.tuple #[.int .i64 2, .nilIface]) ∧ Below w.heap.size w w' := atoi_ex _ 2 (by decide) (by kernel_rfl) w
theorem atoi3 (w : World) : Calls Tryd.prog 38 #[.string ⟨#[51]⟩] w fun e w' => e = .returned (.tuple #[.int .i64 3, .nilIface]) ∧ Below w.heap.size w w' := atoi_ex _ 3 (by decide) (by kernel_rfl) w

/-- the rows of the reading: the result, the pieces, the numbers -/
structure RS (w : World) (z s a : Nat) (x0 x1 x2 : Int) : Prop where
  zero : Row3 w z 0 0 0
  p0 : w.cell? ⟨s, 0, none⟩ = some (.string ⟨#[48, 49]⟩)
  p1 : w.cell? ⟨s, 1, none⟩ = some (.string ⟨#[50]⟩)
  p2 : w.cell? ⟨s, 2, none⟩ = some (.string ⟨#[51]⟩)
  arr : Row3 w a x0 x1 x2
theorem RS.keep {w w' : World} {z s a : Nat} {x0 x1 x2 : Int} (h : RS w z s a x0 x1 x2) (hb : Below w.heap.size w w') : RS w' z s a x0 x1 x2 :=
  ⟨h.zero.keep hb, cell_keep h.p0 hb, cell_keep h.p1 hb, cell_keep h.p2 hb, h.arr.keep hb⟩
theorem cso {w : World} {a b : Addr} (v : Value) (h : a ≠ b) : (w.setCell a v).cell? b = w.cell? b := by
  apply World.cell?_setCell_other; exact h
theorem Row3.set_other {w : World} {g b i : Nat} {x0 x1 x2 : Int} (h : Row3 w g x0 x1 x2) (v : Value) (hb : b ≠ g) : Row3 (w.setCell ⟨b, i, none⟩ v) g x0 x1 x2 := by
  have e : ∀ j, (⟨b, i, none⟩ : Addr) ≠ ⟨g, j, none⟩ := fun j k => hb (by injection k)
  refine ⟨by simpa using h.size, ?_, ?_, ?_, ?_, ?_, ?_⟩
  · rw [cso v (e _)]; exact h.c0
  · rw [cso v (e _)]; exact h.c1
  · rw [cso v (e _)]; exact h.c2
  · rw [World.frozen?_setCell]; exact h.f0
  · rw [World.frozen?_setCell]; exact h.f1
  · rw [World.frozen?_setCell]; exact h.f2
theorem Row3.set0 {w : World} {g : Nat} {x0 x1 x2 : Int} (h : Row3 w g x0 x1 x2) (v : Int) : Row3 (w.setCell ⟨g, 0, none⟩ (.int .i64 v)) g v x1 x2 := by
  obtain ⟨z, c0, c1, c2, f0, f1, f2⟩ := h
  refine ⟨by simpa using z, ?_, ?_, ?_, ?_, ?_, ?_⟩ <;> (go_simp; done)
theorem Row3.set1 {w : World} {g : Nat} {x0 x1 x2 : Int} (h : Row3 w g x0 x1 x2) (v : Int) : Row3 (w.setCell ⟨g, 1, none⟩ (.int .i64 v)) g x0 v x2 := by
  obtain ⟨z, c0, c1, c2, f0, f1, f2⟩ := h
  refine ⟨by simpa using z, ?_, ?_, ?_, ?_, ?_, ?_⟩ <;> (go_simp; done)
theorem Row3.set2 {w : World} {g : Nat} {x0 x1 x2 : Int} (h : Row3 w g x0 x1 x2) (v : Int) : Row3 (w.setCell ⟨g, 2, none⟩ (.int .i64 v)) g x0 x1 v := by
  obtain ⟨z, c0, c1, c2, f0, f1, f2⟩ := h
  refine ⟨by simpa using z, ?_, ?_, ?_, ?_, ?_, ?_⟩ <;> (go_simp; done)
theorem RS.put {w : World} {z s a i : Nat} {x0 x1 x2 y0 y1 y2 : Int} {v : Value} (h : RS w z s a x0 x1 x2) (hz : a ≠ z) (hs : a ≠ s) (hr : Row3 (w.setCell ⟨a, i, none⟩ v) a y0 y1 y2) :
    RS (w.setCell ⟨a, i, none⟩ v) z s a y0 y1 y2 := by
  have e : ∀ j, (⟨a, i, none⟩ : Addr) ≠ ⟨s, j, none⟩ := fun j k => hs (by injection k)
  exact ⟨h.zero.set_other v hz, by rw [cso v (e _)]; exact h.p0, by rw [cso v (e _)]; exact h.p1, by rw [cso v (e _)]; exact h.p2, hr⟩

set_option maxRecDepth 100000 in
set_option maxHeartbeats 2000000 in
theorem read_ex (w : World) (hM : Mx w) :
    Calls Tryd.prog 28 #[.string ⟨#[118, 48, 49, 46, 50, 46, 51]⟩] w fun e w' => e = .returned (.tuple #[vv 1 2 3, .bool true]) ∧ Below w.heap.size w w' := by
  have HM := Lib.hid hM
  clear hM
  go_enter Tryd.func28, Tryd.ntmps28
  go_wp2_with fail
  refine (trim_ex _).mono ?_
  rintro e w1 ⟨rfl, rfl⟩
  go_wp2_with fail
  refine (split_ex _ (HM.out.keep ((Below.refl w.heap.size _).alloc (Nat.le_refl _) _) HM.out.1)).mono ?_
  rintro e w1 ⟨rfl, rfl⟩
  have hR : RS ((((w.alloc (.cells #[.int .i64 0, .int .i64 0, .int .i64 0] 23)).alloc (.cells #[.string ⟨#[48, 49]⟩, .string ⟨#[50]⟩, .string ⟨#[51]⟩] 9)).alloc (.cells #[.int .i64 0, .int .i64 0, .int .i64 0] 36))) w.heap.size (w.heap.size + 1) (w.heap.size + 1 + 1) 0 0 0 :=
    ⟨((Row3.new w 0 0 0 23 _ rfl).alloc _).alloc _, by go_simp, by go_simp, by go_simp, Row3.new _ 0 0 0 36 _ (by simp)⟩
  have hB : Below w.heap.size w ((((w.alloc (.cells #[.int .i64 0, .int .i64 0, .int .i64 0] 23)).alloc (.cells #[.string ⟨#[48, 49]⟩, .string ⟨#[50]⟩, .string ⟨#[51]⟩] 9)).alloc (.cells #[.int .i64 0, .int .i64 0, .int .i64 0] 36))) :=
    (((Below.refl _ _).alloc (Nat.le_refl _) _).alloc (by simp) _).alloc (by simp; omega) _
  have HR := Lib.hid hR
  have HB := Lib.hid hB
  clear hR hB HM
  go_wp2_with fail
  refine wp_loop_rounds 4 ?_
  rw [rounds_succ]; go_wp2_with fail
  refine (atoi01 _).mono ?_
  rintro e w1 ⟨rfl, hb1⟩
  replace HR := Lib.hid (HR.out.keep hb1)
  replace HB := Lib.hid (HB.out.trans (hb1.mono HB.out.size))
  clear hb1
  obtain ⟨⟨z1, d0, d1, d2, g0, g1, g2⟩, p0, p1, p2, ⟨y1, c0, c1, c2, f0, f1, f2⟩⟩ := HR.out
  go_wp2_with fail
  replace HR := Lib.hid (HR.out.put (i := 0) (v := .int .i64 1) (by omega) (by omega) (HR.out.arr.set0 1))
  replace HB := Lib.hid (HB.out.setCell (p := ⟨w.heap.size + 1 + 1, 0, none⟩) (by simp; omega) (.int .i64 1))
  clear z1 d0 d1 d2 g0 g1 g2 p0 p1 p2 y1 c0 c1 c2 f0 f1 f2
  obtain ⟨⟨z1, d0, d1, d2, g0, g1, g2⟩, p0, p1, p2, ⟨y1, c0, c1, c2, f0, f1, f2⟩⟩ := HR.out
  rw [rounds_succ]; go_wp2_with fail
  refine (atoi2 _).mono ?_
  rintro e w2 ⟨rfl, hb2⟩
  replace HR := Lib.hid (HR.out.keep hb2)
  replace HB := Lib.hid (HB.out.trans (hb2.mono HB.out.size))
  clear hb2 z1 d0 d1 d2 g0 g1 g2 p0 p1 p2 y1 c0 c1 c2 f0 f1 f2
  obtain ⟨⟨z1, d0, d1, d2, g0, g1, g2⟩, p0, p1, p2, ⟨y1, c0, c1, c2, f0, f1, f2⟩⟩ := HR.out
  go_wp2_with fail
  replace HR := Lib.hid (HR.out.put (i := 1) (v := .int .i64 2) (by omega) (by omega) (HR.out.arr.set1 2))
  replace HB := Lib.hid (HB.out.setCell (p := ⟨w.heap.size + 1 + 1, 1, none⟩) (by simp; omega) (.int .i64 2))
  clear z1 d0 d1 d2 g0 g1 g2 p0 p1 p2 y1 c0 c1 c2 f0 f1 f2
  obtain ⟨⟨z1, d0, d1, d2, g0, g1, g2⟩, p0, p1, p2, ⟨y1, c0, c1, c2, f0, f1, f2⟩⟩ := HR.out
  rw [rounds_succ]; go_wp2_with fail
  refine (atoi3 _).mono ?_
  rintro e w3 ⟨rfl, hb3⟩
  replace HR := Lib.hid (HR.out.keep hb3)
  replace HB := Lib.hid (HB.out.trans (hb3.mono HB.out.size))
  clear hb3 z1 d0 d1 d2 g0 g1 g2 p0 p1 p2 y1 c0 c1 c2 f0 f1 f2
  obtain ⟨⟨z1, d0, d1, d2, g0, g1, g2⟩, p0, p1, p2, ⟨y1, c0, c1, c2, f0, f1, f2⟩⟩ := HR.out
  go_wp2_with fail
  replace HR := Lib.hid (HR.out.put (i := 2) (v := .int .i64 3) (by omega) (by omega) (HR.out.arr.set2 3))
  replace HB := Lib.hid (HB.out.setCell (p := ⟨w.heap.size + 1 + 1, 2, none⟩) (by simp; omega) (.int .i64 3))
  clear z1 d0 d1 d2 g0 g1 g2 p0 p1 p2 y1 c0 c1 c2 f0 f1 f2
  obtain ⟨⟨z1, d0, d1, d2, g0, g1, g2⟩, p0, p1, p2, ⟨y1, c0, c1, c2, f0, f1, f2⟩⟩ := HR.out
  rw [rounds_succ]; go_wp2_with fail
  refine (version_any _ _ _ _).mono ?_
  rintro e w4 ⟨rfl, hb4⟩
  replace HR := Lib.hid (HR.out.keep hb4)
  replace HB := Lib.hid (HB.out.trans (hb4.mono HB.out.size))
  clear hb4 z1 d0 d1 d2 g0 g1 g2 p0 p1 p2 y1 c0 c1 c2 f0 f1 f2
  obtain ⟨⟨z1, d0, d1, d2, g0, g1, g2⟩, p0, p1, p2, ⟨y1, c0, c1, c2, f0, f1, f2⟩⟩ := HR.out
  go_wp2_with fail
  refine bodyPost_ret (v := .tuple #[vv 1 2 3, .bool true]) (by simp [results, Tryd.results28, go_sem, d0, d1, d2, z1]) rfl ⟨rfl, ?_⟩
  exact (((HB.out.setCell (by simp) _).setCell (by simp) _).setCell (by simp) _)
end Go.Proofs.YtelchjgpfpccnaaDoor
