/-
  Reading the text of a valid version. Condition: internal/bytealg.MaxLen holds some number.
-/
import Derived.Test.YtmmghdicjpfdoaaGreatDoorV5
import Derived.Test.YtmmghdicjpfdoaaGreatDoorZ3
namespace Go.Proofs.YtmmghdicjpfdoaaGreatDoor
open Go.RowKit
set_option linter.unusedSimpArgs false
set_option linter.unnecessarySimpa false
set_option linter.unusedVariables false
/-
  Reading the text of a valid version gives the version. Condition: internal/bytealg.MaxLen holds some number.
-/
def bodyS (a b c : Int) : ByteArray := istr a ++ (⟨#[46]⟩ : ByteArray) ++ istr b ++ (⟨#[46]⟩ : ByteArray) ++ istr c
theorem txt_body (a b c : Int) : txtS a b c = (⟨#[118]⟩ : ByteArray) ++ bodyS a b c := by
  apply ByteArray.ext; apply Array.ext'; simp [txtS, bodyS]
theorem istr_dec {n : Int} (h : 0 ≤ n) : (istr n).data.toList = Lib.decDigits n.toNat := by
  show Lib.itoa n = _
  unfold Lib.itoa; rw [if_neg (by omega)]
theorem dec_len : ∀ (k u : Nat), u < 10 ^ (k + 1) → (Lib.decDigits u).length ≤ k + 1
  | 0, u, h => by rw [Lib.decDigits_one (by simpa using h)]; simp
  | k + 1, u, h => by
    by_cases h1 : u < 10
    · rw [Lib.decDigits_one h1]; simp
    · rw [dec_more h1, List.length_append, List.length_singleton]
      have := dec_len k (u / 10) (by rw [Nat.pow_succ] at h; omega)
      omega
theorem atoi_istr (n : Int) (h0 : 0 ≤ n) (h1 : n ≤ 9999) (w : World) :
    Calls Tryz.prog 108 #[.string (istr n)] w fun e w' => e = .returned (.tuple #[.int .i64 n, .nilIface]) ∧ Below w.heap.size w w' := by
  have hl := dec_len 3 n.toNat (by omega)
  refine atoi_ex _ n ?_ ?_ w
  · have : (istr n).size = (istr n).data.toList.length := by simp
    rw [this, istr_dec h0]; omega
  · rw [istr_dec h0, ZSemverMath.atoi_dec]
    congr 1; omega
theorem nodot {n : Int} (h : 0 ≤ n) : (46 : UInt8) ∉ (istr n).data.toList := by rw [istr_dec h]; exact ZSemverMath.dec_nodot _
theorem trim_txt (a b c : Int) (w : World) : Calls Tryz.prog 107 #[.string (txtS a b c), .string ⟨#[118]⟩] w fun e w' => e = .returned (.string (bodyS a b c)) ∧ w = w' :=
  (Tryz.strings_TrimPrefix (txtS a b c) ⟨#[118]⟩ w).mono fun _ _ ⟨he, hw⟩ => ⟨he.trans (by
    rw [txt_body]
    have : Lib.trimPrefix ((⟨#[118]⟩ : ByteArray) ++ bodyS a b c).data.toList (⟨#[118]⟩ : ByteArray).data.toList = (bodyS a b c).data.toList := by
      rw [show ((⟨#[118]⟩ : ByteArray) ++ bodyS a b c).data.toList = 118 :: (bodyS a b c).data.toList by simp]
      simp [Lib.trimPrefix, Lib.hasPrefix, List.isPrefixOf]
    rw [this]), hw.symm⟩
theorem body_size (a b c : Int) : 2 ≤ (bodyS a b c).size := by
  have e : (⟨#[46]⟩ : ByteArray).size = 1 := rfl
  simp only [bodyS, ByteArray.size_append, e]; omega
theorem body_le (a b c : Int) (a0 : 0 ≤ a) (a1 : a ≤ 9999) (b0 : 0 ≤ b) (b1 : b ≤ 9999) (c0 : 0 ≤ c) (c1 : c ≤ 9999) : (bodyS a b c).size ≤ 65 := by
  have := istr_size a a0 a1; have := istr_size b b0 b1; have := istr_size c c0 c1
  have e : (⟨#[46]⟩ : ByteArray).size = 1 := rfl
  simp only [bodyS, ByteArray.size_append, e]; omega
theorem split_txt (a b c : Int) (a0 : 0 ≤ a) (a1 : a ≤ 9999) (b0 : 0 ≤ b) (b1 : b ≤ 9999) (c0 : 0 ≤ c) (c1 : c ≤ 9999) (w : World) (h : Mx w) :
    Calls Tryz.prog 106 #[.string (bodyS a b c), .string ⟨#[46]⟩, .int .i64 3] w fun e w' =>
    e = .returned (.slice (some ⟨w.heap.size, 0, none⟩) 3 3) ∧ w.alloc (.cells #[.string (istr a), .string (istr b), .string (istr c)] 9) = w' := by
  obtain ⟨_, m, hm⟩ := h
  have hz := body_size a b c
  have hl := body_le a b c a0 a1 b0 b1 c0 c1
  have hmin : min 3 ((bodyS a b c).size + 1) = 3 := by omega
  have hsp : Lib.splitB ⟨#[46]⟩ 0 2 (bodyS a b c) = [istr a, istr b, istr c] := ZSemverMath.split_three _ _ _ (nodot a0) (nodot b0)
  refine (Tryz.strings_SplitN (bodyS a b c) ⟨#[46]⟩ 3 m w (by omega) hm (by decide) (by decide) (by decide)).mono fun _ _ ⟨he, hw⟩ => ⟨he.trans ?_, ?_⟩
  · rw [hmin, hsp]; rfl
  · rw [hw, hmin, hsp]; rfl
/-- the rows of the reading: the result, the pieces, the numbers -/
structure RG (A B C : ByteArray) (w : World) (z s a : Nat) (x0 x1 x2 : Int) : Prop where
  zero : Row3 w z 0 0 0
  p0 : w.cell? ⟨s, 0, none⟩ = some (.string A)
  p1 : w.cell? ⟨s, 1, none⟩ = some (.string B)
  p2 : w.cell? ⟨s, 2, none⟩ = some (.string C)
  arr : Row3 w a x0 x1 x2
theorem RG.keep {A B C : ByteArray} {w w' : World} {z s a : Nat} {x0 x1 x2 : Int} (h : RG A B C w z s a x0 x1 x2) (hb : Below w.heap.size w w') : RG A B C w' z s a x0 x1 x2 :=
  ⟨h.zero.keep hb, cell_keep h.p0 hb, cell_keep h.p1 hb, cell_keep h.p2 hb, h.arr.keep hb⟩
theorem RG.put {A B C : ByteArray} {w : World} {z s a i : Nat} {x0 x1 x2 y0 y1 y2 : Int} {v : Value} (h : RG A B C w z s a x0 x1 x2) (hz : a ≠ z) (hs : a ≠ s) (hr : Row3 (w.setCell ⟨a, i, none⟩ v) a y0 y1 y2) :
    RG A B C (w.setCell ⟨a, i, none⟩ v) z s a y0 y1 y2 := by
  have e : ∀ j, (⟨a, i, none⟩ : Addr) ≠ ⟨s, j, none⟩ := fun j k => hs (by injection k)
  exact ⟨h.zero.set_other v hz, by rw [cso v (e _)]; exact h.p0, by rw [cso v (e _)]; exact h.p1, by rw [cso v (e _)]; exact h.p2, hr⟩
set_option maxRecDepth 100000 in
set_option maxHeartbeats 2000000 in
theorem read_txt (a b c : Int) (ho : okV a b c = true) (w : World) (hM : Mx w) :
    Calls Tryz.prog 86 #[.string (txtS a b c)] w fun e w' => e = .returned (.tuple #[vv a b c, .bool true]) ∧ Below w.heap.size w w' := by
  have HM := Lib.hid hM
  obtain ⟨⟨a0, a1⟩, ⟨b0, b1⟩, ⟨c0, c1⟩⟩ := okV_parts ho
  have CA := Lib.hid (fun w => atoi_istr a a0 a1 w)
  have CB := Lib.hid (fun w => atoi_istr b b0 b1 w)
  have CC := Lib.hid (fun w => atoi_istr c c0 c1 w)
  have CT := Lib.hid (fun w => trim_txt a b c w)
  have CS := Lib.hid (fun w hM => split_txt a b c a0 a1 b0 b1 c0 c1 w hM)
  clear hM ho a0 a1 b0 b1 c0 c1
  generalize bodyS a b c = D at *
  generalize txtS a b c = T at *
  generalize istr a = A at *
  generalize istr b = B at *
  generalize istr c = C at *
  go_enter Tryz.func86, Tryz.ntmps86
  go_wp2_with fail
  refine (CT.out _).mono ?_
  rintro e w1 ⟨rfl, rfl⟩
  go_wp2_with fail
  refine (CS.out _ (HM.out.keep ((Below.refl w.heap.size _).alloc (Nat.le_refl _) _) HM.out.1)).mono ?_
  rintro e w1 ⟨rfl, rfl⟩
  have hR : RG A B C ((((w.alloc (.cells #[.int .i64 0, .int .i64 0, .int .i64 0] 23)).alloc (.cells #[.string A, .string B, .string C] 9)).alloc (.cells #[.int .i64 0, .int .i64 0, .int .i64 0] 85))) w.heap.size (w.heap.size + 1) (w.heap.size + 1 + 1) 0 0 0 :=
    ⟨((Row3.new w 0 0 0 23 _ rfl).alloc _).alloc _, by go_simp, by go_simp, by go_simp, Row3.new _ 0 0 0 85 _ (by simp)⟩
  have hB : Below w.heap.size w ((((w.alloc (.cells #[.int .i64 0, .int .i64 0, .int .i64 0] 23)).alloc (.cells #[.string A, .string B, .string C] 9)).alloc (.cells #[.int .i64 0, .int .i64 0, .int .i64 0] 85))) :=
    (((Below.refl _ _).alloc (Nat.le_refl _) _).alloc (by simp) _).alloc (by simp; omega) _
  have HR := Lib.hid hR
  have HB := Lib.hid hB
  clear hR hB HM
  go_wp2_with fail
  refine wp_loop_rounds 4 ?_
  rw [rounds_succ]; go_wp2_with fail
  refine (CA.out _).mono ?_
  rintro e w1 ⟨rfl, hb1⟩
  replace HR := Lib.hid (HR.out.keep hb1)
  replace HB := Lib.hid (HB.out.trans (hb1.mono HB.out.size))
  clear hb1
  obtain ⟨⟨z1, d0, d1, d2, g0, g1, g2⟩, p0, p1, p2, ⟨y1, c0, c1, c2, f0, f1, f2⟩⟩ := HR.out
  go_wp2_with fail
  replace HR := Lib.hid (HR.out.put (i := 0) (v := .int .i64 a) (by omega) (by omega) (HR.out.arr.set0 a))
  replace HB := Lib.hid (HB.out.setCell (p := ⟨w.heap.size + 1 + 1, 0, none⟩) (by simp; omega) (.int .i64 a))
  clear z1 d0 d1 d2 g0 g1 g2 p0 p1 p2 y1 c0 c1 c2 f0 f1 f2
  obtain ⟨⟨z1, d0, d1, d2, g0, g1, g2⟩, p0, p1, p2, ⟨y1, c0, c1, c2, f0, f1, f2⟩⟩ := HR.out
  rw [rounds_succ]; go_wp2_with fail
  refine (CB.out _).mono ?_
  rintro e w2 ⟨rfl, hb2⟩
  replace HR := Lib.hid (HR.out.keep hb2)
  replace HB := Lib.hid (HB.out.trans (hb2.mono HB.out.size))
  clear hb2 z1 d0 d1 d2 g0 g1 g2 p0 p1 p2 y1 c0 c1 c2 f0 f1 f2
  obtain ⟨⟨z1, d0, d1, d2, g0, g1, g2⟩, p0, p1, p2, ⟨y1, c0, c1, c2, f0, f1, f2⟩⟩ := HR.out
  go_wp2_with fail
  replace HR := Lib.hid (HR.out.put (i := 1) (v := .int .i64 b) (by omega) (by omega) (HR.out.arr.set1 b))
  replace HB := Lib.hid (HB.out.setCell (p := ⟨w.heap.size + 1 + 1, 1, none⟩) (by simp; omega) (.int .i64 b))
  clear z1 d0 d1 d2 g0 g1 g2 p0 p1 p2 y1 c0 c1 c2 f0 f1 f2
  obtain ⟨⟨z1, d0, d1, d2, g0, g1, g2⟩, p0, p1, p2, ⟨y1, c0, c1, c2, f0, f1, f2⟩⟩ := HR.out
  rw [rounds_succ]; go_wp2_with fail
  refine (CC.out _).mono ?_
  rintro e w3 ⟨rfl, hb3⟩
  replace HR := Lib.hid (HR.out.keep hb3)
  replace HB := Lib.hid (HB.out.trans (hb3.mono HB.out.size))
  clear hb3 z1 d0 d1 d2 g0 g1 g2 p0 p1 p2 y1 c0 c1 c2 f0 f1 f2
  obtain ⟨⟨z1, d0, d1, d2, g0, g1, g2⟩, p0, p1, p2, ⟨y1, c0, c1, c2, f0, f1, f2⟩⟩ := HR.out
  go_wp2_with fail
  replace HR := Lib.hid (HR.out.put (i := 2) (v := .int .i64 c) (by omega) (by omega) (HR.out.arr.set2 c))
  replace HB := Lib.hid (HB.out.setCell (p := ⟨w.heap.size + 1 + 1, 2, none⟩) (by simp; omega) (.int .i64 c))
  clear z1 d0 d1 d2 g0 g1 g2 p0 p1 p2 y1 c0 c1 c2 f0 f1 f2
  obtain ⟨⟨z1, d0, d1, d2, g0, g1, g2⟩, p0, p1, p2, ⟨y1, c0, c1, c2, f0, f1, f2⟩⟩ := HR.out
  rw [rounds_succ]; go_wp2_with fail
  refine (version_any _ _ _ _).mono ?_
  rintro e w4 ⟨rfl, hb4⟩
  replace HR := Lib.hid (HR.out.keep hb4)
  replace HB := Lib.hid (HB.out.trans (hb4.mono HB.out.size))
  clear hb4 z1 d0 d1 d2 g0 g1 g2 p0 p1 p2 y1 c0 c1 c2 f0 f1 f2
  obtain ⟨⟨z1, d0, d1, d2, g0, g1, g2⟩, p0, p1, p2, ⟨y1, c0, c1, c2, f0, f1, f2⟩⟩ := HR.out
  go_wp2_with fail
  refine bodyPost_ret (v := .tuple #[vv a b c, .bool true]) (by simp [results, Tryz.results86, go_sem, d0, d1, d2, z1]) rfl ⟨rfl, ?_⟩
  exact (((HB.out.setCell (by simp) _).setCell (by simp) _).setCell (by simp) _)
end Go.Proofs.YtmmghdicjpfdoaaGreatDoor
