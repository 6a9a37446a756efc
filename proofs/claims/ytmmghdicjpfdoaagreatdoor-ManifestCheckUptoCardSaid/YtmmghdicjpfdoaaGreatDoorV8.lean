/-
  Reading any text ends with some numbers, or fails. Conditions: internal/bytealg.MaxLen holds some number, the two error variables of strconv hold interface values.
-/
import Derived.Test.YtmmghdicjpfdoaaGreatDoorV7
import Derived.Lib.CutLaws
namespace Go.Proofs.YtmmghdicjpfdoaaGreatDoor
open Go.RowKit
set_option linter.unusedSimpArgs false
set_option linter.unnecessarySimpa false
set_option linter.unusedVariables false
/-
  Reading any text ends with some numbers, or fails. Conditions: internal/bytealg.MaxLen holds some number, the two error variables of strconv hold interface values.
-/
def IsErr (v : Value) : Prop := v = .nilIface ∨ ∃ te pe, v = .iface te pe
/-- the two error variables hold interface values -/
def Er (w : World) : Prop := 5 < w.heap.size ∧ (∃ v, w.cell? ⟨4, 0, none⟩ = some v ∧ IsErr v) ∧ ∃ v, w.cell? ⟨5, 0, none⟩ = some v ∧ IsErr v
theorem Er.keep {w w' : World} {N : Nat} (h : Er w) (hb : Below N w w') (hN : 5 < N) : Er w' :=
  ⟨Nat.lt_of_lt_of_le h.1 hb.size, h.2.1.elim fun v hv => ⟨v, by rw [hb.cell (p := ⟨4, 0, none⟩) (by show 4 < N; omega)]; exact hv.1, hv.2⟩, h.2.2.elim fun v hv => ⟨v, by rw [hb.cell (p := ⟨5, 0, none⟩) (by show 5 < N; omega)]; exact hv.1, hv.2⟩⟩
theorem Er.put {w : World} {a : Addr} (h : Er w) (ha : 5 < a.block) (v : Value) : Er (w.setCell a v) := by
  have e : ∀ j, j ≤ 5 → a ≠ (⟨j, 0, none⟩ : Addr) := fun j hj k => by subst k; simp only [] at ha; omega
  refine ⟨by simpa using h.1, h.2.1.elim fun u hu => ⟨u, by rw [cso v (e 4 (by omega))]; exact hu.1, hu.2⟩, h.2.2.elim fun u hu => ⟨u, by rw [cso v (e 5 (by omega))]; exact hu.1, hu.2⟩⟩
theorem atoi_weak (s : ByteArray) (hs : s.size ≤ 100000) (w : World) (hE : Er w) :
    Calls Tryz.prog 108 #[.string s] w fun e w' => (∃ n ev, e = .returned (.tuple #[.int .i64 n, ev]) ∧ (ev = .nilIface ∨ ∃ te pe, ev = .iface te pe)) ∧ Below w.heap.size w w' := by
  obtain ⟨_, ⟨e1, h1, k1⟩, e2, h2, k2⟩ := hE
  cases h : Lib.atoiAll s.data.toList with
  | ok v =>
    refine (Tryz.strconv_Atoi_ok s (by omega) v h w).mono ?_
    rintro e w' ⟨rfl, hw⟩
    refine ⟨⟨v, .nilIface, rfl, .inl rfl⟩, ?_⟩
    rcases hw with rfl | ⟨t, rfl⟩
    · exact Below.refl _ _
    · exact Lib.bytesWorld_below _ _ _
  | range =>
    refine (Tryz.strconv_Atoi_range s (by omega) h e2 w h2 k2).mono ?_
    rintro e w' ⟨M, rfl, _, _, hb⟩
    exact ⟨⟨_, _, rfl, .inr ⟨_, _, rfl⟩⟩, hb⟩
  | _ =>
    refine (Any.strconv_Atoi_syntax Tryz.laysC172 s (by omega) h e1 w h1 k1).mono ?_
    rintro e w' ⟨M, rfl, _, _, hb⟩
    exact ⟨⟨_, _, rfl, .inr ⟨_, _, rfl⟩⟩, hb⟩
theorem piece_size (sep : ByteArray) : ∀ (k : Nat) (s : ByteArray) (x : ByteArray), x ∈ Lib.splitB sep 0 k s → x.size ≤ s.size
  | 0, s, x, h => by rw [Lib.splitB_zero] at h; simp at h; subst h; exact Nat.le_refl _
  | k + 1, s, x, h => by
    rcases Lib.indexB_cases s sep with hm | ⟨i, hi, hle⟩
    · rw [Lib.splitB_miss sep 0 (k + 1) s hm] at h; simp at h; subst h; exact Nat.le_refl _
    · rw [Lib.splitB_hit sep 0 k s i hi] at h
      rcases List.mem_cons.1 h with rfl | h
      · simp only [ByteArray.size_extract]; omega
      · have := piece_size sep k _ x h
        simp only [ByteArray.size_extract] at this
        omega
/-- what the split gives: three pieces, or another number of them -/
theorem split_any (s : ByteArray) (hs : s.size ≤ 100000) (w : World) (h : Mx w) :
    Calls Tryz.prog 106 #[.string s, .string ⟨#[46]⟩, .int .i64 3] w fun e w' =>
    (∃ (n c : Nat) (o : Obj), n ≤ 3 ∧ n ≠ 3 ∧ e = .returned (.slice (some ⟨w.heap.size, 0, none⟩) n c) ∧ w' = w.alloc o) ∨
    (∃ A B C : ByteArray, A.size ≤ 100000 ∧ B.size ≤ 100000 ∧ C.size ≤ 100000 ∧ e = .returned (.slice (some ⟨w.heap.size, 0, none⟩) 3 3) ∧ w' = w.alloc (.cells #[.string A, .string B, .string C] 9)) := by
  obtain ⟨_, m, hm⟩ := h
  refine (Tryz.strings_SplitN s ⟨#[46]⟩ 3 m w (by omega) hm (by decide) (by decide) (by decide)).mono fun _ _ ⟨he, hw⟩ => ?_
  have hlen := Lib.splitB_length_le ⟨#[46]⟩ 0 (min 3 (s.size + 1) - 1) s
  have hmem := piece_size ⟨#[46]⟩ (min 3 (s.size + 1) - 1) s
  by_cases h3 : (Lib.splitB ⟨#[46]⟩ 0 (min 3 (s.size + 1) - 1) s).length = 3
  · have hc : min 3 (s.size + 1) = 3 := by omega
    rw [hc] at he hw hmem h3
    generalize Lib.splitB ⟨#[46]⟩ 0 (3 - 1) s = l at *
    match l, h3, hmem, he, hw with
    | [A, B, C], _, hmem, he, hw =>
      refine .inr ⟨A, B, C, ?_, ?_, ?_, he, hw⟩
      · exact Nat.le_trans (hmem A (by simp)) hs
      · exact Nat.le_trans (hmem B (by simp)) hs
      · exact Nat.le_trans (hmem C (by simp)) hs
  · exact .inl ⟨_, _, _, by omega, h3, he, hw⟩
theorem trim_any (s : ByteArray) (hs : s.size ≤ 100000) (w : World) : Calls Tryz.prog 107 #[.string s, .string ⟨#[118]⟩] w fun e w' => (∃ t : ByteArray, t.size ≤ 100000 ∧ e = .returned (.string t)) ∧ w = w' :=
  (Tryz.strings_TrimPrefix s ⟨#[118]⟩ w).mono fun _ _ ⟨he, hw⟩ => ⟨⟨_, by
    have : (Lib.trimPrefix s.data.toList (⟨#[118]⟩ : ByteArray).data.toList).length ≤ s.data.toList.length := by
      unfold Lib.trimPrefix; split <;> simp
    simp only [ByteArray.size, List.size_toArray] at *
    simp only [Array.length_toList] at this
    omega, he⟩, hw.symm⟩
set_option maxRecDepth 100000 in
set_option maxHeartbeats 4000000 in
theorem read_any (s : ByteArray) (hs : s.size ≤ 100000) (w : World) (hM : Mx w) (hE : Er w) :
    Calls Tryz.prog 86 #[.string s] w fun e w' => (∃ a b c ok, e = .returned (.tuple #[vv a b c, .bool ok])) ∧ Below w.heap.size w w' := by
  have hb0 := (Below.refl w.heap.size w).alloc (Nat.le_refl _) (.cells #[.int .i64 0, .int .i64 0, .int .i64 0] 23)
  have hsz : 5 < w.heap.size := hE.1
  have HZ := Lib.hid hsz
  clear hsz
  have HM := Lib.hid (hM.keep hb0 hM.1)
  have HE := Lib.hid (hE.keep hb0 hE.1)
  have HB := Lib.hid hb0
  clear hM hE hb0
  go_enter Tryz.func86, Tryz.ntmps86
  go_wp2_with fail
  refine (trim_any s hs _).mono ?_
  rintro e w1 ⟨⟨t, ht, rfl⟩, rfl⟩
  have HT := Lib.hid ht
  clear ht hs
  go_wp2_with fail
  refine (split_any t HT.out _ HM.out).mono ?_
  rintro e w1 (⟨n, c, o, hn, h3, rfl, rfl⟩ | ⟨A, B, C, hA, hBB, hC, rfl, rfl⟩)
  · have hR : Row3 ((((w.alloc (.cells #[.int .i64 0, .int .i64 0, .int .i64 0] 23)).alloc o).alloc (.cells #[.int .i64 0, .int .i64 0, .int .i64 0] 85))) w.heap.size 0 0 0 := ((Row3.new w 0 0 0 23 _ rfl).alloc _).alloc _
    have hB : Below w.heap.size w ((((w.alloc (.cells #[.int .i64 0, .int .i64 0, .int .i64 0] 23)).alloc o).alloc (.cells #[.int .i64 0, .int .i64 0, .int .i64 0] 85))) :=
      (((Below.refl _ _).alloc (Nat.le_refl _) _).alloc (by simp) _).alloc (by simp; omega) _
    have HB2 := Lib.hid hB
    obtain ⟨z1, d0, d1, d2, g0, g1, g2⟩ := hR
    have hne : ((n : Int) == 3) = false := by rw [beq_eq_false_iff_ne]; omega
    have hne' : ¬ ((n : Int) = 3) := by omega
    clear hB HB HM HE
    go_wp2_with fail
    refine bodyPost_ret (v := .tuple #[vv 0 0 0, .bool false]) (by simp [results, Tryz.results86, go_sem, d0, d1, d2, z1]) rfl ⟨⟨0, 0, 0, false, rfl⟩, ?_⟩
    first | exact HB2.out | exact (((HB2.out.setCell (by simp) _).setCell (by simp) _).setCell (by simp) _)
  · have hR : RG A B C ((((w.alloc (.cells #[.int .i64 0, .int .i64 0, .int .i64 0] 23)).alloc (.cells #[.string A, .string B, .string C] 9)).alloc (.cells #[.int .i64 0, .int .i64 0, .int .i64 0] 85))) w.heap.size (w.heap.size + 1) (w.heap.size + 1 + 1) 0 0 0 :=
      ⟨((Row3.new w 0 0 0 23 _ rfl).alloc _).alloc _, by go_simp, by go_simp, by go_simp, Row3.new _ 0 0 0 85 _ (by simp)⟩
    have hB : Below w.heap.size w ((((w.alloc (.cells #[.int .i64 0, .int .i64 0, .int .i64 0] 23)).alloc (.cells #[.string A, .string B, .string C] 9)).alloc (.cells #[.int .i64 0, .int .i64 0, .int .i64 0] 85))) :=
      (((Below.refl _ _).alloc (Nat.le_refl _) _).alloc (by simp) _).alloc (by simp; omega) _
    have hbb : Below (w.alloc (.cells #[.int .i64 0, .int .i64 0, .int .i64 0] 23)).heap.size (w.alloc (.cells #[.int .i64 0, .int .i64 0, .int .i64 0] 23)) ((((w.alloc (.cells #[.int .i64 0, .int .i64 0, .int .i64 0] 23)).alloc (.cells #[.string A, .string B, .string C] 9)).alloc (.cells #[.int .i64 0, .int .i64 0, .int .i64 0] 85))) :=
      (((Below.refl _ _).alloc (Nat.le_refl _) _).alloc (by simp) _)
    replace HE := Lib.hid (HE.out.keep hbb HE.out.1)
    have CA := Lib.hid (fun w h => atoi_weak A hA w h)
    have CB := Lib.hid (fun w h => atoi_weak B hBB w h)
    have CC := Lib.hid (fun w h => atoi_weak C hC w h)
    have HR := Lib.hid hR
    replace HB := Lib.hid hB
    clear hR hB HM hbb hA hBB hC
    go_wp2_with fail
    refine wp_loop_rounds 4 ?_
    rw [rounds_succ]; go_wp2_with fail
    refine (CA.out _ HE.out).mono ?_
    rintro e w1 ⟨⟨x0, ev0, rfl, hev0⟩, hb0⟩
    replace HE := Lib.hid (HE.out.keep hb0 HE.out.1)
    replace HR := Lib.hid (HR.out.keep hb0)
    replace HB := Lib.hid (HB.out.trans (hb0.mono HB.out.size))
    clear hb0
    obtain ⟨⟨z1, d0, d1, d2, g0, g1, g2⟩, p0, p1, p2, ⟨y1, c0, c1, c2, f0, f1, f2⟩⟩ := HR.out
    rcases hev0 with rfl | ⟨te, pe, rfl⟩
    rotate_left
    · go_wp2_with fail
      refine bodyPost_ret (v := .tuple #[vv 0 0 0, .bool false]) (by simp [results, Tryz.results86, go_sem, d0, d1, d2, z1]) rfl ⟨⟨0, 0, 0, false, rfl⟩, ?_⟩
      exact (((HB.out.setCell (by simp) _).setCell (by simp) _).setCell (by simp) _)
    go_wp2_with fail
    have hE0 : Er (World.setCell _ ⟨w.heap.size + 1 + 1, 0, none⟩ (.int .i64 x0)) := HE.out.put (by have := HZ.out; simp only []; omega) _
    replace HE := Lib.hid hE0
    clear hE0
    replace HR := Lib.hid (HR.out.put (i := 0) (v := .int .i64 x0) (by omega) (by omega) (HR.out.arr.set0 x0))
    replace HB := Lib.hid (HB.out.setCell (p := ⟨w.heap.size + 1 + 1, 0, none⟩) (by simp; omega) (.int .i64 x0))
    clear z1 d0 d1 d2 g0 g1 g2 p0 p1 p2 y1 c0 c1 c2 f0 f1 f2
    obtain ⟨⟨z1, d0, d1, d2, g0, g1, g2⟩, p0, p1, p2, ⟨y1, c0, c1, c2, f0, f1, f2⟩⟩ := HR.out
    rw [rounds_succ]; go_wp2_with fail
    refine (CB.out _ HE.out).mono ?_
    rintro e w2 ⟨⟨x1, ev1, rfl, hev1⟩, hb1⟩
    clear z1 d0 d1 d2 g0 g1 g2 p0 p1 p2 y1 c0 c1 c2 f0 f1 f2
    replace HE := Lib.hid (HE.out.keep hb1 HE.out.1)
    replace HR := Lib.hid (HR.out.keep hb1)
    replace HB := Lib.hid (HB.out.trans (hb1.mono HB.out.size))
    clear hb1
    obtain ⟨⟨z1, d0, d1, d2, g0, g1, g2⟩, p0, p1, p2, ⟨y1, c0, c1, c2, f0, f1, f2⟩⟩ := HR.out
    rcases hev1 with rfl | ⟨te, pe, rfl⟩
    rotate_left
    · go_wp2_with fail
      refine bodyPost_ret (v := .tuple #[vv 0 0 0, .bool false]) (by simp [results, Tryz.results86, go_sem, d0, d1, d2, z1]) rfl ⟨⟨0, 0, 0, false, rfl⟩, ?_⟩
      exact (((HB.out.setCell (by simp) _).setCell (by simp) _).setCell (by simp) _)
    go_wp2_with fail
    have hE1 : Er (World.setCell _ ⟨w.heap.size + 1 + 1, 1, none⟩ (.int .i64 x1)) := HE.out.put (by have := HZ.out; simp only []; omega) _
    replace HE := Lib.hid hE1
    clear hE1
    replace HR := Lib.hid (HR.out.put (i := 1) (v := .int .i64 x1) (by omega) (by omega) (HR.out.arr.set1 x1))
    replace HB := Lib.hid (HB.out.setCell (p := ⟨w.heap.size + 1 + 1, 1, none⟩) (by simp; omega) (.int .i64 x1))
    clear z1 d0 d1 d2 g0 g1 g2 p0 p1 p2 y1 c0 c1 c2 f0 f1 f2
    obtain ⟨⟨z1, d0, d1, d2, g0, g1, g2⟩, p0, p1, p2, ⟨y1, c0, c1, c2, f0, f1, f2⟩⟩ := HR.out
    rw [rounds_succ]; go_wp2_with fail
    refine (CC.out _ HE.out).mono ?_
    rintro e w3 ⟨⟨x2, ev2, rfl, hev2⟩, hb2⟩
    clear z1 d0 d1 d2 g0 g1 g2 p0 p1 p2 y1 c0 c1 c2 f0 f1 f2
    replace HE := Lib.hid (HE.out.keep hb2 HE.out.1)
    replace HR := Lib.hid (HR.out.keep hb2)
    replace HB := Lib.hid (HB.out.trans (hb2.mono HB.out.size))
    clear hb2
    obtain ⟨⟨z1, d0, d1, d2, g0, g1, g2⟩, p0, p1, p2, ⟨y1, c0, c1, c2, f0, f1, f2⟩⟩ := HR.out
    rcases hev2 with rfl | ⟨te, pe, rfl⟩
    rotate_left
    · go_wp2_with fail
      refine bodyPost_ret (v := .tuple #[vv 0 0 0, .bool false]) (by simp [results, Tryz.results86, go_sem, d0, d1, d2, z1]) rfl ⟨⟨0, 0, 0, false, rfl⟩, ?_⟩
      exact (((HB.out.setCell (by simp) _).setCell (by simp) _).setCell (by simp) _)
    go_wp2_with fail
    have hE2 : Er (World.setCell _ ⟨w.heap.size + 1 + 1, 2, none⟩ (.int .i64 x2)) := HE.out.put (by have := HZ.out; simp only []; omega) _
    replace HE := Lib.hid hE2
    clear hE2
    replace HR := Lib.hid (HR.out.put (i := 2) (v := .int .i64 x2) (by omega) (by omega) (HR.out.arr.set2 x2))
    replace HB := Lib.hid (HB.out.setCell (p := ⟨w.heap.size + 1 + 1, 2, none⟩) (by simp; omega) (.int .i64 x2))
    clear z1 d0 d1 d2 g0 g1 g2 p0 p1 p2 y1 c0 c1 c2 f0 f1 f2
    obtain ⟨⟨z1, d0, d1, d2, g0, g1, g2⟩, p0, p1, p2, ⟨y1, c0, c1, c2, f0, f1, f2⟩⟩ := HR.out
    rw [rounds_succ]; go_wp2_with fail
    refine (version_any _ _ _ _).mono ?_
    rintro e w4 ⟨rfl, hb4⟩
    replace HR := Lib.hid (HR.out.keep hb4)
    replace HB := Lib.hid (HB.out.trans (hb4.mono HB.out.size))
    clear hb4 z1 d0 d1 d2 g0 g1 g2 p0 p1 p2 y1 c0 c1 c2 f0 f1 f2
    obtain ⟨⟨z1, d0, d1, d2, g0, g1, g2⟩, p0, p1, p2, ⟨y1, c0, c1, c2, f0, f1, f2⟩⟩ := HR.out
    go_wp2_with fail
    refine bodyPost_ret (v := .tuple #[vv x0 x1 x2, .bool true]) (by simp [results, Tryz.results86, go_sem, d0, d1, d2, z1]) rfl ⟨⟨x0, x1, x2, true, rfl⟩, ?_⟩
    exact (((HB.out.setCell (by simp) _).setCell (by simp) _).setCell (by simp) _)
end Go.Proofs.YtmmghdicjpfdoaaGreatDoor
