/-
  Reading the text of a valid version. Condition: internal/bytealg.MaxLen holds some number.
-/
import Derived.Test.YtaeideimlagheaaGreatDoorVA
import Derived.Test.YtaeideimlagheaaGreatDoorZ
import Derived.Lib.CutLaws
namespace Go.Proofs.YtaeideimlagheaaGreatDoor
open Go.RowKit
set_option linter.unusedSimpArgs false
set_option linter.unnecessarySimpa false
set_option linter.unusedVariables false
/-
  Reading the text of a valid version gives the version. Condition: internal/bytealg.MaxLen holds some number.
-/
def bodyS (a b c : Int) : ByteArray := istr a ++ (⟨#[46]⟩ : ByteArray) ++ istr b ++ (⟨#[46]⟩ : ByteArray) ++ istr c
theorem txt_body (a b c : Int) : txtS a b c = (⟨#[118]⟩ : ByteArray) ++ bodyS a b c := by
  apply ByteArray.ext; apply Array.ext'; simp [txtS, bodyS]
theorem istr_dec {n : Int} (h : 0 ≤ n) : (istr n).data.toList = Lib.decDigits n.toNat := by
  show Lib.itoa n = _
  unfold Lib.itoa; rw [if_neg (by omega)]
theorem dec_len : ∀ (k u : Nat), u < 10 ^ (k + 1) → (Lib.decDigits u).length ≤ k + 1
  | 0, u, h => by rw [Lib.decDigits_one (by simpa using h)]; simp
  | k + 1, u, h => by
    by_cases h1 : u < 10
    · rw [Lib.decDigits_one h1]; simp
    · rw [dec_more h1, List.length_append, List.length_singleton]
      have := dec_len k (u / 10) (by rw [Nat.pow_succ] at h; omega)
      omega
theorem atoi_istr (n : Int) (h0 : 0 ≤ n) (h1 : n ≤ 9999) (w : World) :
    Calls Tryz.prog 108 #[.string (istr n)] w fun e w' => e = .returned (.tuple #[.int .i64 n, .nilIface]) ∧ Below w.heap.size w w' := by
  have hl := dec_len 3 n.toNat (by omega)
  refine atoi_ex _ n ?_ ?_ w
  · have : (istr n).size = (istr n).data.toList.length := by simp
    rw [this, istr_dec h0]; omega
  · rw [istr_dec h0, ZSemverMath.atoi_dec]
    congr 1; omega
theorem nodot {n : Int} (h : 0 ≤ n) : (46 : UInt8) ∉ (istr n).data.toList := by rw [istr_dec h]; exact ZSemverMath.dec_nodot _
theorem trim_txt (a b c : Int) (w : World) : Calls Tryz.prog 107 #[.string (txtS a b c), .string ⟨#[118]⟩] w fun e w' => e = .returned (.string (bodyS a b c)) ∧ w = w' :=
  (Tryz.strings_TrimPrefix (txtS a b c) ⟨#[118]⟩ w).mono fun _ _ ⟨he, hw⟩ => ⟨he.trans (by
    rw [txt_body]
    have : Lib.trimPrefix ((⟨#[118]⟩ : ByteArray) ++ bodyS a b c).data.toList (⟨#[118]⟩ : ByteArray).data.toList = (bodyS a b c).data.toList := by
      rw [show ((⟨#[118]⟩ : ByteArray) ++ bodyS a b c).data.toList = 118 :: (bodyS a b c).data.toList by simp]
      simp [Lib.trimPrefix, Lib.hasPrefix, List.isPrefixOf]
    rw [this]), hw.symm⟩
theorem body_size (a b c : Int) : 2 ≤ (bodyS a b c).size := by
  have e : (⟨#[46]⟩ : ByteArray).size = 1 := rfl
  simp only [bodyS, ByteArray.size_append, e]; omega
theorem body_le (a b c : Int) (a0 : 0 ≤ a) (a1 : a ≤ 9999) (b0 : 0 ≤ b) (b1 : b ≤ 9999) (c0 : 0 ≤ c) (c1 : c ≤ 9999) : (bodyS a b c).size ≤ 65 := by
  have := istr_size a a0 a1; have := istr_size b b0 b1; have := istr_size c c0 c1
  have e : (⟨#[46]⟩ : ByteArray).size = 1 := rfl
  simp only [bodyS, ByteArray.size_append, e]; omega
theorem split_txt (a b c : Int) (a0 : 0 ≤ a) (a1 : a ≤ 9999) (b0 : 0 ≤ b) (b1 : b ≤ 9999) (c0 : 0 ≤ c) (c1 : c ≤ 9999) (w : World) (h : Mx w) :
    Calls Tryz.prog 106 #[.string (bodyS a b c), .string ⟨#[46]⟩, .int .i64 3] w fun e w' =>
    e = .returned (.slice (some ⟨w.heap.size, 0, none⟩) 3 3) ∧ w.alloc (.cells #[.string (istr a), .string (istr b), .string (istr c)] 9) = w' := by
  obtain ⟨_, m, hm⟩ := h
  have hz := body_size a b c
  have hl := body_le a b c a0 a1 b0 b1 c0 c1
  have hmin : min 3 ((bodyS a b c).size + 1) = 3 := by omega
  have hsp : Lib.splitB ⟨#[46]⟩ 0 2 (bodyS a b c) = [istr a, istr b, istr c] := ZSemverMath.split_three _ _ _ (nodot a0) (nodot b0)
  refine (Tryz.strings_SplitN (bodyS a b c) ⟨#[46]⟩ 3 m w (by omega) hm (by decide) (by decide) (by decide)).mono fun _ _ ⟨he, hw⟩ => ⟨he.trans ?_, ?_⟩
  · rw [hmin, hsp]; rfl
  · rw [hw, hmin, hsp]; rfl
/-- the rows of the reading: the result, the pieces, the numbers -/
structure RG (A B C : ByteArray) (w : World) (z s a : Nat) (x0 x1 x2 : Int) : Prop where
  zero : Row3 w z 0 0 0
  p0 : w.cell? ⟨s, 0, none⟩ = some (.string A)
  p1 : w.cell? ⟨s, 1, none⟩ = some (.string B)
  p2 : w.cell? ⟨s, 2, none⟩ = some (.string C)
  arr : Row3 w a x0 x1 x2
theorem RG.keep {A B C : ByteArray} {w w' : World} {z s a : Nat} {x0 x1 x2 : Int} (h : RG A B C w z s a x0 x1 x2) (hb : Below w.heap.size w w') : RG A B C w' z s a x0 x1 x2 :=
  ⟨h.zero.keep hb, cell_keep h.p0 hb, cell_keep h.p1 hb, cell_keep h.p2 hb, h.arr.keep hb⟩
theorem RG.put {A B C : ByteArray} {w : World} {z s a i : Nat} {x0 x1 x2 y0 y1 y2 : Int} {v : Value} (h : RG A B C w z s a x0 x1 x2) (hz : a ≠ z) (hs : a ≠ s) (hr : Row3 (w.setCell ⟨a, i, none⟩ v) a y0 y1 y2) :
    RG A B C (w.setCell ⟨a, i, none⟩ v) z s a y0 y1 y2 := by
  have e : ∀ j, (⟨a, i, none⟩ : Addr) ≠ ⟨s, j, none⟩ := fun j k => hs (by injection k)
  exact ⟨h.zero.set_other v hz, by rw [cso v (e _)]; exact h.p0, by rw [cso v (e _)]; exact h.p1, by rw [cso v (e _)]; exact h.p2, hr⟩
set_option maxRecDepth 100000 in
set_option maxHeartbeats 2000000 in
theorem read_txt (a b c : Int) (ho : okV a b c = true) (w : World) (hM : Mx w) :
    Calls Tryz.prog 86 #[.string (txtS a b c)] w fun e w' => e = .returned (.tuple #[vv a b c, .bool true]) ∧ Below w.heap.size w w' := by
  have HM := Lib.hid hM
  obtain ⟨⟨a0, a1⟩, ⟨b0, b1⟩, ⟨c0, c1⟩⟩ := okV_parts ho
  have CA := Lib.hid (fun w => atoi_istr a a0 a1 w)
  have CB := Lib.hid (fun w => atoi_istr b b0 b1 w)
  have CC := Lib.hid (fun w => atoi_istr c c0 c1 w)
  have CT := Lib.hid (fun w => trim_txt a b c w)
  have CS := Lib.hid (fun w hM => split_txt a b c a0 a1 b0 b1 c0 c1 w hM)
  clear hM ho a0 a1 b0 b1 c0 c1
  generalize bodyS a b c = D at *
  generalize txtS a b c = T at *
  generalize istr a = A at *
  generalize istr b = B at *
  generalize istr c = C at *
  go_enter Tryz.func86, Tryz.ntmps86
  go_wp2_with fail
  refine (CT.out _).mono ?_
  rintro e w1 ⟨rfl, rfl⟩
  go_wp2_with fail
  refine (CS.out _ (HM.out.keep ((Below.refl w.heap.size _).alloc (Nat.le_refl _) _) HM.out.1)).mono ?_
  rintro e w1 ⟨rfl, rfl⟩
  have hR : RG A B C ((((w.alloc (.cells #[.int .i64 0, .int .i64 0, .int .i64 0] 23)).alloc (.cells #[.string A, .string B, .string C] 9)).alloc (.cells #[.int .i64 0, .int .i64 0, .int .i64 0] 85))) w.heap.size (w.heap.size + 1) (w.heap.size + 1 + 1) 0 0 0 :=
    ⟨((Row3.new w 0 0 0 23 _ rfl).alloc _).alloc _, by go_simp, by go_simp, by go_simp, Row3.new _ 0 0 0 85 _ (by simp)⟩
  have hB : Below w.heap.size w ((((w.alloc (.cells #[.int .i64 0, .int .i64 0, .int .i64 0] 23)).alloc (.cells #[.string A, .string B, .string C] 9)).alloc (.cells #[.int .i64 0, .int .i64 0, .int .i64 0] 85))) :=
    (((Below.refl _ _).alloc (Nat.le_refl _) _).alloc (by simp) _).alloc (by simp; omega) _
  have HR := Lib.hid hR
  have HB := Lib.hid hB
  clear hR hB HM
  go_wp2_with fail
  refine wp_loop_rounds 4 ?_
  rw [rounds_succ]; go_wp2_with fail
  refine (CA.out _).mono ?_
  rintro e w1 ⟨rfl, hb1⟩
  replace HR := Lib.hid (HR.out.keep hb1)
  replace HB := Lib.hid (HB.out.trans (hb1.mono HB.out.size))
  clear hb1
  obtain ⟨⟨z1, d0, d1, d2, g0, g1, g2⟩, p0, p1, p2, ⟨y1, c0, c1, c2, f0, f1, f2⟩⟩ := HR.out
  go_wp2_with fail
  replace HR := Lib.hid (HR.out.put (i := 0) (v := .int .i64 a) (by omega) (by omega) (HR.out.arr.set0 a))
  replace HB := Lib.hid (HB.out.setCell (p := ⟨w.heap.size + 1 + 1, 0, none⟩) (by simp; omega) (.int .i64 a))
  clear z1 d0 d1 d2 g0 g1 g2 p0 p1 p2 y1 c0 c1 c2 f0 f1 f2
  obtain ⟨⟨z1, d0, d1, d2, g0, g1, g2⟩, p0, p1, p2, ⟨y1, c0, c1, c2, f0, f1, f2⟩⟩ := HR.out
  rw [rounds_succ]; go_wp2_with fail
  refine (CB.out _).mono ?_
  rintro e w2 ⟨rfl, hb2⟩
  replace HR := Lib.hid (HR.out.keep hb2)
  replace HB := Lib.hid (HB.out.trans (hb2.mono HB.out.size))
  clear hb2 z1 d0 d1 d2 g0 g1 g2 p0 p1 p2 y1 c0 c1 c2 f0 f1 f2
  obtain ⟨⟨z1, d0, d1, d2, g0, g1, g2⟩, p0, p1, p2, ⟨y1, c0, c1, c2, f0, f1, f2⟩⟩ := HR.out
  go_wp2_with fail
  replace HR := Lib.hid (HR.out.put (i := 1) (v := .int .i64 b) (by omega) (by omega) (HR.out.arr.set1 b))
  replace HB := Lib.hid (HB.out.setCell (p := ⟨w.heap.size + 1 + 1, 1, none⟩) (by simp; omega) (.int .i64 b))
  clear z1 d0 d1 d2 g0 g1 g2 p0 p1 p2 y1 c0 c1 c2 f0 f1 f2
  obtain ⟨⟨z1, d0, d1, d2, g0, g1, g2⟩, p0, p1, p2, ⟨y1, c0, c1, c2, f0, f1, f2⟩⟩ := HR.out
  rw [rounds_succ]; go_wp2_with fail
  refine (CC.out _).mono ?_
  rintro e w3 ⟨rfl, hb3⟩
  replace HR := Lib.hid (HR.out.keep hb3)
  replace HB := Lib.hid (HB.out.trans (hb3.mono HB.out.size))
  clear hb3 z1 d0 d1 d2 g0 g1 g2 p0 p1 p2 y1 c0 c1 c2 f0 f1 f2
  obtain ⟨⟨z1, d0, d1, d2, g0, g1, g2⟩, p0, p1, p2, ⟨y1, c0, c1, c2, f0, f1, f2⟩⟩ := HR.out
  go_wp2_with fail
  replace HR := Lib.hid (HR.out.put (i := 2) (v := .int .i64 c) (by omega) (by omega) (HR.out.arr.set2 c))
  replace HB := Lib.hid (HB.out.setCell (p := ⟨w.heap.size + 1 + 1, 2, none⟩) (by simp; omega) (.int .i64 c))
  clear z1 d0 d1 d2 g0 g1 g2 p0 p1 p2 y1 c0 c1 c2 f0 f1 f2
  obtain ⟨⟨z1, d0, d1, d2, g0, g1, g2⟩, p0, p1, p2, ⟨y1, c0, c1, c2, f0, f1, f2⟩⟩ := HR.out
  rw [rounds_succ]; go_wp2_with fail
  refine (version_any _ _ _ _).mono ?_
  rintro e w4 ⟨rfl, hb4⟩
  replace HR := Lib.hid (HR.out.keep hb4)
  replace HB := Lib.hid (HB.out.trans (hb4.mono HB.out.size))
  clear hb4 z1 d0 d1 d2 g0 g1 g2 p0 p1 p2 y1 c0 c1 c2 f0 f1 f2
  obtain ⟨⟨z1, d0, d1, d2, g0, g1, g2⟩, p0, p1, p2, ⟨y1, c0, c1, c2, f0, f1, f2⟩⟩ := HR.out
  go_wp2_with fail
  refine bodyPost_ret (v := .tuple #[vv a b c, .bool true]) (by simp [results, Tryz.results86, go_sem, d0, d1, d2, z1]) rfl ⟨rfl, ?_⟩
  exact (((HB.out.setCell (by simp) _).setCell (by simp) _).setCell (by simp) _)
end Go.Proofs.YtaeideimlagheaaGreatDoor
namespace Go.Proofs.YtaeideimlagheaaGreatDoor
open Go.RowKit
set_option linter.unusedSimpArgs false
set_option linter.unnecessarySimpa false
set_option linter.unusedVariables false
/-
  Parse of the text of a valid version gives it back; Parse of the text of no version fails. Conditions: the table of powers of ten, and that internal/bytealg.MaxLen holds some number.
-/
set_option maxRecDepth 100000 in
set_option maxHeartbeats 2000000 in
theorem parse_txt (a b c : Int) (ho : okV a b c = true) (w : World) (hT : P10 w) (hM : Mx w) :
    Calls Tryz.prog 71 #[.string (txtS a b c)] w fun e w' => e = .returned (.tuple #[vv a b c, .int .i64 0]) ∧ Below w.heap.size w w' := by
  have hb0 := (Below.refl w.heap.size w).alloc (Nat.le_refl _) (.cells #[.int .i64 0, .int .i64 0, .int .i64 0] 23)
  have HM := Lib.hid (hM.keep hb0 hM.1)
  have HT := Lib.hid (P10.keep hT hb0)
  have HB := Lib.hid hb0
  have CR := Lib.hid (fun w hM => read_txt a b c ho w hM)
  have CX := Lib.hid (fun w hT => text_ok a b c ho w hT)
  clear hM hT hb0 ho
  generalize txtS a b c = T at *
  go_enter Tryz.func71, Tryz.ntmps71
  go_wp2_with fail
  refine (CR.out _ HM.out).mono ?_
  rintro e w1 ⟨rfl, hb1⟩
  have Z1 : Row3 w1 w.heap.size 0 0 0 := (Row3.new w 0 0 0 23 _ rfl).keep hb1
  have B1 : Below w.heap.size w w1 := HB.out.trans (hb1.mono HB.out.size)
  have T1 : P10 (w1.alloc (.cells #[.int .i64 a, .int .i64 b, .int .i64 c] 23)) := P10.keep (P10.keep HT.out hb1) ((Below.refl _ _).alloc (Nat.le_refl _) _)
  have HT1 := Lib.hid T1
  clear hb1 HB HM HT T1
  go_wp2_with fail
  refine (CX.out _ HT1.out).mono ?_
  rintro e w2 ⟨rfl, hb2⟩
  have Z2 := (Z1.alloc (.cells #[.int .i64 a, .int .i64 b, .int .i64 c] 23)).keep hb2
  have N2 := (Row3.new w1 a b c 23 _ rfl).keep hb2
  have B2 : Below w.heap.size w w2 := (B1.alloc B1.size (.cells #[.int .i64 a, .int .i64 b, .int .i64 c] 23)).trans (hb2.mono (by have := B1.size; simp; omega))
  clear hb2 Z1 B1 HT1
  obtain ⟨y1, d0, d1, d2, g0, g1, g2⟩ := Z2
  obtain ⟨y2, n0, n1, n2, _, _, _⟩ := N2
  have HB2 := Lib.hid B2
  clear B2
  go_wp2_with fail
  refine bodyPost_ret (v := .tuple #[vv a b c, .int .i64 0]) (by simp [results, Tryz.results71, go_sem, d0, d1, d2, y1]) rfl ⟨rfl, ?_⟩
  exact (((HB2.out.setCell (by simp) _).setCell (by simp) _).setCell (by simp) _)
theorem trim_q (w : World) : Calls Tryz.prog 107 #[.string ⟨#[63]⟩, .string ⟨#[118]⟩] w fun e w' => e = .returned (.string ⟨#[63]⟩) ∧ w = w' :=
  (Tryz.strings_TrimPrefix ⟨#[63]⟩ ⟨#[118]⟩ w).mono fun _ _ ⟨he, hw⟩ => ⟨he.trans (by kernel_rfl), hw.symm⟩
theorem split_q (w : World) (h : Mx w) : Calls Tryz.prog 106 #[.string ⟨#[63]⟩, .string ⟨#[46]⟩, .int .i64 3] w fun e w' =>
    e = .returned (.slice (some ⟨w.heap.size, 0, none⟩) 1 2) ∧ w.alloc (.cells #[.string ⟨#[63]⟩, .string ⟨#[]⟩] 9) = w' := by
  obtain ⟨_, m, hm⟩ := h
  refine (Tryz.strings_SplitN ⟨#[63]⟩ ⟨#[46]⟩ 3 m w (by decide) hm (by decide) (by decide) (by decide)).mono fun _ _ ⟨he, hw⟩ => ⟨he.trans ?_, ?_⟩
  · kernel_rfl
  · rw [hw]; kernel_rfl
set_option maxRecDepth 100000 in
set_option maxHeartbeats 2000000 in
theorem read_q (w : World) (hM : Mx w) :
    Calls Tryz.prog 86 #[.string ⟨#[63]⟩] w fun e w' => e = .returned (.tuple #[vv 0 0 0, .bool false]) ∧ Below w.heap.size w w' := by
  have HM := Lib.hid hM
  clear hM
  go_enter Tryz.func86, Tryz.ntmps86
  go_wp2_with fail
  refine (trim_q _).mono ?_
  rintro e w1 ⟨rfl, rfl⟩
  go_wp2_with fail
  refine (split_q _ (HM.out.keep ((Below.refl w.heap.size _).alloc (Nat.le_refl _) _) HM.out.1)).mono ?_
  rintro e w1 ⟨rfl, rfl⟩
  have hR : Row3 ((((w.alloc (.cells #[.int .i64 0, .int .i64 0, .int .i64 0] 23)).alloc (.cells #[.string ⟨#[63]⟩, .string ⟨#[]⟩] 9)).alloc (.cells #[.int .i64 0, .int .i64 0, .int .i64 0] 85))) w.heap.size 0 0 0 := ((Row3.new w 0 0 0 23 _ rfl).alloc _).alloc _
  have hB : Below w.heap.size w ((((w.alloc (.cells #[.int .i64 0, .int .i64 0, .int .i64 0] 23)).alloc (.cells #[.string ⟨#[63]⟩, .string ⟨#[]⟩] 9)).alloc (.cells #[.int .i64 0, .int .i64 0, .int .i64 0] 85))) :=
    (((Below.refl _ _).alloc (Nat.le_refl _) _).alloc (by simp) _).alloc (by simp; omega) _
  have HB := Lib.hid hB
  clear hB HM
  obtain ⟨z1, d0, d1, d2, g0, g1, g2⟩ := hR
  go_wp2_with fail
  refine bodyPost_ret (v := .tuple #[vv 0 0 0, .bool false]) (by simp [results, Tryz.results86, go_sem, d0, d1, d2, z1]) rfl ⟨rfl, ?_⟩
  exact HB.out
set_option maxRecDepth 100000 in
set_option maxHeartbeats 2000000 in
theorem parse_q (w : World) (hM : Mx w) :
    Calls Tryz.prog 71 #[.string ⟨#[63]⟩] w fun e w' => e = .returned (.tuple #[vv 0 0 0, .int .i64 8]) ∧ Below w.heap.size w w' := by
  have hb0 := (Below.refl w.heap.size w).alloc (Nat.le_refl _) (.cells #[.int .i64 0, .int .i64 0, .int .i64 0] 23)
  have HM := Lib.hid (hM.keep hb0 hM.1)
  have HB := Lib.hid hb0
  clear hM hb0
  go_enter Tryz.func71, Tryz.ntmps71
  go_wp2_with fail
  refine (read_q _ HM.out).mono ?_
  rintro e w1 ⟨rfl, hb1⟩
  have Z1 : Row3 w1 w.heap.size 0 0 0 := (Row3.new w 0 0 0 23 _ rfl).keep hb1
  have Z2 := Z1.alloc (.cells #[.int .i64 0, .int .i64 0, .int .i64 0] 23)
  have B1 : Below w.heap.size w w1 := HB.out.trans (hb1.mono HB.out.size)
  have HB2 := Lib.hid (B1.alloc B1.size (.cells #[.int .i64 0, .int .i64 0, .int .i64 0] 23))
  clear hb1 HB HM Z1 B1
  obtain ⟨y1, d0, d1, d2, g0, g1, g2⟩ := Z2
  go_wp2_with fail
  refine bodyPost_ret (v := .tuple #[vv 0 0 0, .int .i64 8]) (by simp [results, Tryz.results71, go_sem, d0, d1, d2, y1]) rfl ⟨rfl, ?_⟩
  exact (((HB2.out.setCell (by simp) _).setCell (by simp) _).setCell (by simp) _)
end Go.Proofs.YtaeideimlagheaaGreatDoor
namespace Go.Proofs.YtaeideimlagheaaGreatDoor
open Go.RowKit
set_option linter.unusedSimpArgs false
set_option linter.unnecessarySimpa false
set_option linter.unusedVariables false
/-
  Reading any text ends with some numbers, or fails. Conditions: internal/bytealg.MaxLen holds some number, the two error variables of strconv hold interface values.
-/
def IsErr (v : Value) : Prop := v = .nilIface ∨ ∃ te pe, v = .iface te pe
/-- the two error variables hold interface values -/
def Er (w : World) : Prop := 5 < w.heap.size ∧ (∃ v, w.cell? ⟨4, 0, none⟩ = some v ∧ IsErr v) ∧ ∃ v, w.cell? ⟨5, 0, none⟩ = some v ∧ IsErr v
theorem Er.keep {w w' : World} {N : Nat} (h : Er w) (hb : Below N w w') (hN : 5 < N) : Er w' :=
  ⟨Nat.lt_of_lt_of_le h.1 hb.size, h.2.1.elim fun v hv => ⟨v, by rw [hb.cell (p := ⟨4, 0, none⟩) (by show 4 < N; omega)]; exact hv.1, hv.2⟩, h.2.2.elim fun v hv => ⟨v, by rw [hb.cell (p := ⟨5, 0, none⟩) (by show 5 < N; omega)]; exact hv.1, hv.2⟩⟩
theorem Er.put {w : World} {a : Addr} (h : Er w) (ha : 5 < a.block) (v : Value) : Er (w.setCell a v) := by
  have e : ∀ j, j ≤ 5 → a ≠ (⟨j, 0, none⟩ : Addr) := fun j hj k => by subst k; simp only [] at ha; omega
  refine ⟨by simpa using h.1, h.2.1.elim fun u hu => ⟨u, by rw [cso v (e 4 (by omega))]; exact hu.1, hu.2⟩, h.2.2.elim fun u hu => ⟨u, by rw [cso v (e 5 (by omega))]; exact hu.1, hu.2⟩⟩
theorem atoi_weak (s : ByteArray) (hs : s.size ≤ 100000) (w : World) (hE : Er w) :
    Calls Tryz.prog 108 #[.string s] w fun e w' => (∃ n ev, e = .returned (.tuple #[.int .i64 n, ev]) ∧ (ev = .nilIface ∨ ∃ te pe, ev = .iface te pe)) ∧ Below w.heap.size w w' := by
  obtain ⟨_, ⟨e1, h1, k1⟩, e2, h2, k2⟩ := hE
  cases h : Lib.atoiAll s.data.toList with
  | ok v =>
    refine (Tryz.strconv_Atoi_ok s (by omega) v h w).mono ?_
    rintro e w' ⟨rfl, hw⟩
    refine ⟨⟨v, .nilIface, rfl, .inl rfl⟩, ?_⟩
    rcases hw with rfl | ⟨t, rfl⟩
    · exact Below.refl _ _
    · exact Lib.bytesWorld_below _ _ _
  | range =>
    refine (Tryz.strconv_Atoi_range s (by omega) h e2 w h2 k2).mono ?_
    rintro e w' ⟨M, rfl, _, _, hb⟩
    exact ⟨⟨_, _, rfl, .inr ⟨_, _, rfl⟩⟩, hb⟩
  | _ =>
    refine (Any.strconv_Atoi_syntax Tryz.laysC172 s (by omega) h e1 w h1 k1).mono ?_
    rintro e w' ⟨M, rfl, _, _, hb⟩
    exact ⟨⟨_, _, rfl, .inr ⟨_, _, rfl⟩⟩, hb⟩
theorem piece_size (sep : ByteArray) : ∀ (k : Nat) (s : ByteArray) (x : ByteArray), x ∈ Lib.splitB sep 0 k s → x.size ≤ s.size
  | 0, s, x, h => by rw [Lib.splitB_zero] at h; simp at h; subst h; exact Nat.le_refl _
  | k + 1, s, x, h => by
    rcases Lib.indexB_cases s sep with hm | ⟨i, hi, hle⟩
    · rw [Lib.splitB_miss sep 0 (k + 1) s hm] at h; simp at h; subst h; exact Nat.le_refl _
    · rw [Lib.splitB_hit sep 0 k s i hi] at h
      rcases List.mem_cons.1 h with rfl | h
      · simp only [ByteArray.size_extract]; omega
      · have := piece_size sep k _ x h
        simp only [ByteArray.size_extract] at this
        omega
/-- what the split gives: three pieces, or another number of them -/
theorem split_any (s : ByteArray) (hs : s.size ≤ 100000) (w : World) (h : Mx w) :
    Calls Tryz.prog 106 #[.string s, .string ⟨#[46]⟩, .int .i64 3] w fun e w' =>
    (∃ (n c : Nat) (o : Obj), n ≤ 3 ∧ n ≠ 3 ∧ e = .returned (.slice (some ⟨w.heap.size, 0, none⟩) n c) ∧ w' = w.alloc o) ∨
    (∃ A B C : ByteArray, A.size ≤ 100000 ∧ B.size ≤ 100000 ∧ C.size ≤ 100000 ∧ e = .returned (.slice (some ⟨w.heap.size, 0, none⟩) 3 3) ∧ w' = w.alloc (.cells #[.string A, .string B, .string C] 9)) := by
  obtain ⟨_, m, hm⟩ := h
  refine (Tryz.strings_SplitN s ⟨#[46]⟩ 3 m w (by omega) hm (by decide) (by decide) (by decide)).mono fun _ _ ⟨he, hw⟩ => ?_
  have hlen := Lib.splitB_length_le ⟨#[46]⟩ 0 (min 3 (s.size + 1) - 1) s
  have hmem := piece_size ⟨#[46]⟩ (min 3 (s.size + 1) - 1) s
  by_cases h3 : (Lib.splitB ⟨#[46]⟩ 0 (min 3 (s.size + 1) - 1) s).length = 3
  · have hc : min 3 (s.size + 1) = 3 := by omega
    rw [hc] at he hw hmem h3
    generalize Lib.splitB ⟨#[46]⟩ 0 (3 - 1) s = l at *
    match l, h3, hmem, he, hw with
    | [A, B, C], _, hmem, he, hw =>
      refine .inr ⟨A, B, C, ?_, ?_, ?_, he, hw⟩
      · exact Nat.le_trans (hmem A (by simp)) hs
      · exact Nat.le_trans (hmem B (by simp)) hs
      · exact Nat.le_trans (hmem C (by simp)) hs
  · exact .inl ⟨_, _, _, by omega, h3, he, hw⟩
theorem trim_any (s : ByteArray) (hs : s.size ≤ 100000) (w : World) : Calls Tryz.prog 107 #[.string s, .string ⟨#[118]⟩] w fun e w' => (∃ t : ByteArray, t.size ≤ 100000 ∧ e = .returned (.string t)) ∧ w = w' :=
  (Tryz.strings_TrimPrefix s ⟨#[118]⟩ w).mono fun _ _ ⟨he, hw⟩ => ⟨⟨_, by
    have : (Lib.trimPrefix s.data.toList (⟨#[118]⟩ : ByteArray).data.toList).length ≤ s.data.toList.length := by
      unfold Lib.trimPrefix; split <;> simp
    simp only [ByteArray.size, List.size_toArray] at *
    simp only [Array.length_toList] at this
    omega, he⟩, hw.symm⟩
set_option maxRecDepth 100000 in
set_option maxHeartbeats 4000000 in
theorem read_any (s : ByteArray) (hs : s.size ≤ 100000) (w : World) (hM : Mx w) (hE : Er w) :
    Calls Tryz.prog 86 #[.string s] w fun e w' => (∃ a b c ok, e = .returned (.tuple #[vv a b c, .bool ok])) ∧ Below w.heap.size w w' := by
  have hb0 := (Below.refl w.heap.size w).alloc (Nat.le_refl _) (.cells #[.int .i64 0, .int .i64 0, .int .i64 0] 23)
  have hsz : 5 < w.heap.size := hE.1
  have HZ := Lib.hid hsz
  clear hsz
  have HM := Lib.hid (hM.keep hb0 hM.1)
  have HE := Lib.hid (hE.keep hb0 hE.1)
  have HB := Lib.hid hb0
  clear hM hE hb0
  go_enter Tryz.func86, Tryz.ntmps86
  go_wp2_with fail
  refine (trim_any s hs _).mono ?_
  rintro e w1 ⟨⟨t, ht, rfl⟩, rfl⟩
  have HT := Lib.hid ht
  clear ht hs
  go_wp2_with fail
  refine (split_any t HT.out _ HM.out).mono ?_
  rintro e w1 (⟨n, c, o, hn, h3, rfl, rfl⟩ | ⟨A, B, C, hA, hBB, hC, rfl, rfl⟩)
  · have hR : Row3 ((((w.alloc (.cells #[.int .i64 0, .int .i64 0, .int .i64 0] 23)).alloc o).alloc (.cells #[.int .i64 0, .int .i64 0, .int .i64 0] 85))) w.heap.size 0 0 0 := ((Row3.new w 0 0 0 23 _ rfl).alloc _).alloc _
    have hB : Below w.heap.size w ((((w.alloc (.cells #[.int .i64 0, .int .i64 0, .int .i64 0] 23)).alloc o).alloc (.cells #[.int .i64 0, .int .i64 0, .int .i64 0] 85))) :=
      (((Below.refl _ _).alloc (Nat.le_refl _) _).alloc (by simp) _).alloc (by simp; omega) _
    have HB2 := Lib.hid hB
    obtain ⟨z1, d0, d1, d2, g0, g1, g2⟩ := hR
    have hne : ((n : Int) == 3) = false := by rw [beq_eq_false_iff_ne]; omega
    have hne' : ¬ ((n : Int) = 3) := by omega
    clear hB HB HM HE
    go_wp2_with fail
    refine bodyPost_ret (v := .tuple #[vv 0 0 0, .bool false]) (by simp [results, Tryz.results86, go_sem, d0, d1, d2, z1]) rfl ⟨⟨0, 0, 0, false, rfl⟩, ?_⟩
    first | exact HB2.out | exact (((HB2.out.setCell (by simp) _).setCell (by simp) _).setCell (by simp) _)
  · have hR : RG A B C ((((w.alloc (.cells #[.int .i64 0, .int .i64 0, .int .i64 0] 23)).alloc (.cells #[.string A, .string B, .string C] 9)).alloc (.cells #[.int .i64 0, .int .i64 0, .int .i64 0] 85))) w.heap.size (w.heap.size + 1) (w.heap.size + 1 + 1) 0 0 0 :=
      ⟨((Row3.new w 0 0 0 23 _ rfl).alloc _).alloc _, by go_simp, by go_simp, by go_simp, Row3.new _ 0 0 0 85 _ (by simp)⟩
    have hB : Below w.heap.size w ((((w.alloc (.cells #[.int .i64 0, .int .i64 0, .int .i64 0] 23)).alloc (.cells #[.string A, .string B, .string C] 9)).alloc (.cells #[.int .i64 0, .int .i64 0, .int .i64 0] 85))) :=
      (((Below.refl _ _).alloc (Nat.le_refl _) _).alloc (by simp) _).alloc (by simp; omega) _
    have hbb : Below (w.alloc (.cells #[.int .i64 0, .int .i64 0, .int .i64 0] 23)).heap.size (w.alloc (.cells #[.int .i64 0, .int .i64 0, .int .i64 0] 23)) ((((w.alloc (.cells #[.int .i64 0, .int .i64 0, .int .i64 0] 23)).alloc (.cells #[.string A, .string B, .string C] 9)).alloc (.cells #[.int .i64 0, .int .i64 0, .int .i64 0] 85))) :=
      (((Below.refl _ _).alloc (Nat.le_refl _) _).alloc (by simp) _)
    replace HE := Lib.hid (HE.out.keep hbb HE.out.1)
    have CA := Lib.hid (fun w h => atoi_weak A hA w h)
    have CB := Lib.hid (fun w h => atoi_weak B hBB w h)
    have CC := Lib.hid (fun w h => atoi_weak C hC w h)
    have HR := Lib.hid hR
    replace HB := Lib.hid hB
    clear hR hB HM hbb hA hBB hC
    go_wp2_with fail
    refine wp_loop_rounds 4 ?_
    rw [rounds_succ]; go_wp2_with fail
    refine (CA.out _ HE.out).mono ?_
    rintro e w1 ⟨⟨x0, ev0, rfl, hev0⟩, hb0⟩
    replace HE := Lib.hid (HE.out.keep hb0 HE.out.1)
    replace HR := Lib.hid (HR.out.keep hb0)
    replace HB := Lib.hid (HB.out.trans (hb0.mono HB.out.size))
    clear hb0
    obtain ⟨⟨z1, d0, d1, d2, g0, g1, g2⟩, p0, p1, p2, ⟨y1, c0, c1, c2, f0, f1, f2⟩⟩ := HR.out
    rcases hev0 with rfl | ⟨te, pe, rfl⟩
    rotate_left
    · go_wp2_with fail
      refine bodyPost_ret (v := .tuple #[vv 0 0 0, .bool false]) (by simp [results, Tryz.results86, go_sem, d0, d1, d2, z1]) rfl ⟨⟨0, 0, 0, false, rfl⟩, ?_⟩
      exact (((HB.out.setCell (by simp) _).setCell (by simp) _).setCell (by simp) _)
    go_wp2_with fail
    have hE0 : Er (World.setCell _ ⟨w.heap.size + 1 + 1, 0, none⟩ (.int .i64 x0)) := HE.out.put (by have := HZ.out; simp only []; omega) _
    replace HE := Lib.hid hE0
    clear hE0
    replace HR := Lib.hid (HR.out.put (i := 0) (v := .int .i64 x0) (by omega) (by omega) (HR.out.arr.set0 x0))
    replace HB := Lib.hid (HB.out.setCell (p := ⟨w.heap.size + 1 + 1, 0, none⟩) (by simp; omega) (.int .i64 x0))
    clear z1 d0 d1 d2 g0 g1 g2 p0 p1 p2 y1 c0 c1 c2 f0 f1 f2
    obtain ⟨⟨z1, d0, d1, d2, g0, g1, g2⟩, p0, p1, p2, ⟨y1, c0, c1, c2, f0, f1, f2⟩⟩ := HR.out
    rw [rounds_succ]; go_wp2_with fail
    refine (CB.out _ HE.out).mono ?_
    rintro e w2 ⟨⟨x1, ev1, rfl, hev1⟩, hb1⟩
    clear z1 d0 d1 d2 g0 g1 g2 p0 p1 p2 y1 c0 c1 c2 f0 f1 f2
    replace HE := Lib.hid (HE.out.keep hb1 HE.out.1)
    replace HR := Lib.hid (HR.out.keep hb1)
    replace HB := Lib.hid (HB.out.trans (hb1.mono HB.out.size))
    clear hb1
    obtain ⟨⟨z1, d0, d1, d2, g0, g1, g2⟩, p0, p1, p2, ⟨y1, c0, c1, c2, f0, f1, f2⟩⟩ := HR.out
    rcases hev1 with rfl | ⟨te, pe, rfl⟩
    rotate_left
    · go_wp2_with fail
      refine bodyPost_ret (v := .tuple #[vv 0 0 0, .bool false]) (by simp [results, Tryz.results86, go_sem, d0, d1, d2, z1]) rfl ⟨⟨0, 0, 0, false, rfl⟩, ?_⟩
      exact (((HB.out.setCell (by simp) _).setCell (by simp) _).setCell (by simp) _)
    go_wp2_with fail
    have hE1 : Er (World.setCell _ ⟨w.heap.size + 1 + 1, 1, none⟩ (.int .i64 x1)) := HE.out.put (by have := HZ.out; simp only []; omega) _
    replace HE := Lib.hid hE1
    clear hE1
    replace HR := Lib.hid (HR.out.put (i := 1) (v := .int .i64 x1) (by omega) (by omega) (HR.out.arr.set1 x1))
    replace HB := Lib.hid (HB.out.setCell (p := ⟨w.heap.size + 1 + 1, 1, none⟩) (by simp; omega) (.int .i64 x1))
    clear z1 d0 d1 d2 g0 g1 g2 p0 p1 p2 y1 c0 c1 c2 f0 f1 f2
    obtain ⟨⟨z1, d0, d1, d2, g0, g1, g2⟩, p0, p1, p2, ⟨y1, c0, c1, c2, f0, f1, f2⟩⟩ := HR.out
    rw [rounds_succ]; go_wp2_with fail
    refine (CC.out _ HE.out).mono ?_
    rintro e w3 ⟨⟨x2, ev2, rfl, hev2⟩, hb2⟩
    clear z1 d0 d1 d2 g0 g1 g2 p0 p1 p2 y1 c0 c1 c2 f0 f1 f2
    replace HE := Lib.hid (HE.out.keep hb2 HE.out.1)
    replace HR := Lib.hid (HR.out.keep hb2)
    replace HB := Lib.hid (HB.out.trans (hb2.mono HB.out.size))
    clear hb2
    obtain ⟨⟨z1, d0, d1, d2, g0, g1, g2⟩, p0, p1, p2, ⟨y1, c0, c1, c2, f0, f1, f2⟩⟩ := HR.out
    rcases hev2 with rfl | ⟨te, pe, rfl⟩
    rotate_left
    · go_wp2_with fail
      refine bodyPost_ret (v := .tuple #[vv 0 0 0, .bool false]) (by simp [results, Tryz.results86, go_sem, d0, d1, d2, z1]) rfl ⟨⟨0, 0, 0, false, rfl⟩, ?_⟩
      exact (((HB.out.setCell (by simp) _).setCell (by simp) _).setCell (by simp) _)
    go_wp2_with fail
    have hE2 : Er (World.setCell _ ⟨w.heap.size + 1 + 1, 2, none⟩ (.int .i64 x2)) := HE.out.put (by have := HZ.out; simp only []; omega) _
    replace HE := Lib.hid hE2
    clear hE2
    replace HR := Lib.hid (HR.out.put (i := 2) (v := .int .i64 x2) (by omega) (by omega) (HR.out.arr.set2 x2))
    replace HB := Lib.hid (HB.out.setCell (p := ⟨w.heap.size + 1 + 1, 2, none⟩) (by simp; omega) (.int .i64 x2))
    clear z1 d0 d1 d2 g0 g1 g2 p0 p1 p2 y1 c0 c1 c2 f0 f1 f2
    obtain ⟨⟨z1, d0, d1, d2, g0, g1, g2⟩, p0, p1, p2, ⟨y1, c0, c1, c2, f0, f1, f2⟩⟩ := HR.out
    rw [rounds_succ]; go_wp2_with fail
    refine (version_any _ _ _ _).mono ?_
    rintro e w4 ⟨rfl, hb4⟩
    replace HR := Lib.hid (HR.out.keep hb4)
    replace HB := Lib.hid (HB.out.trans (hb4.mono HB.out.size))
    clear hb4 z1 d0 d1 d2 g0 g1 g2 p0 p1 p2 y1 c0 c1 c2 f0 f1 f2
    obtain ⟨⟨z1, d0, d1, d2, g0, g1, g2⟩, p0, p1, p2, ⟨y1, c0, c1, c2, f0, f1, f2⟩⟩ := HR.out
    go_wp2_with fail
    refine bodyPost_ret (v := .tuple #[vv x0 x1 x2, .bool true]) (by simp [results, Tryz.results86, go_sem, d0, d1, d2, z1]) rfl ⟨⟨x0, x1, x2, true, rfl⟩, ?_⟩
    exact (((HB.out.setCell (by simp) _).setCell (by simp) _).setCell (by simp) _)
end Go.Proofs.YtaeideimlagheaaGreatDoor
namespace Go.Proofs.YtaeideimlagheaaGreatDoor
open Go.RowKit
set_option linter.unusedSimpArgs false
set_option linter.unnecessarySimpa false
set_option linter.unusedVariables false
/-
  Parse of a text that is the text of no version fails. Conditions: the table of powers of ten, internal/bytealg.MaxLen holds some number, the two error variables of strconv hold interface values.
-/
set_option maxRecDepth 100000 in
set_option maxHeartbeats 4000000 in
theorem parse_no (s : ByteArray) (hs : s.size ≤ 100000) (hN : ∀ a b c, txt a b c ≠ s) (w : World) (hT : P10 w) (hM : Mx w) (hE : Er w) :
    Calls Tryz.prog 71 #[.string s] w fun e w' => e = .returned (.tuple #[vv 0 0 0, .int .i64 8]) ∧ Below w.heap.size w w' := by
  have hb0 := (Below.refl w.heap.size w).alloc (Nat.le_refl _) (.cells #[.int .i64 0, .int .i64 0, .int .i64 0] 23)
  have HM := Lib.hid (hM.keep hb0 hM.1)
  have HE := Lib.hid (hE.keep hb0 hE.1)
  have HT := Lib.hid (P10.keep hT hb0)
  have HB := Lib.hid hb0
  have HN := Lib.hid hN
  clear hT hM hE hb0 hN
  go_enter Tryz.func71, Tryz.ntmps71
  go_wp2_with fail
  refine (read_any s hs _ HM.out HE.out).mono ?_
  rintro e w1 ⟨⟨a, b, c, ok, rfl⟩, hb1⟩
  have Z1 : Row3 w1 w.heap.size 0 0 0 := (Row3.new w 0 0 0 23 _ rfl).keep hb1
  have B1 : Below w.heap.size w w1 := HB.out.trans (hb1.mono HB.out.size)
  have T1 : P10 (w1.alloc (.cells #[.int .i64 a, .int .i64 b, .int .i64 c] 23)) := P10.keep (P10.keep HT.out hb1) ((Below.refl _ _).alloc (Nat.le_refl _) _)
  have HT1 := Lib.hid T1
  clear hb1 HB HM HT HE T1
  cases ok with
  | false =>
    have Z2 := Z1.alloc (.cells #[.int .i64 a, .int .i64 b, .int .i64 c] 23)
    have HB2 := Lib.hid (B1.alloc B1.size (.cells #[.int .i64 a, .int .i64 b, .int .i64 c] 23))
    clear Z1 B1 HT1
    obtain ⟨y1, d0, d1, d2, g0, g1, g2⟩ := Z2
    go_wp2_with fail
    refine bodyPost_ret (v := .tuple #[vv 0 0 0, .int .i64 8]) (by simp [results, Tryz.results71, go_sem, d0, d1, d2, y1]) rfl ⟨rfl, ?_⟩
    exact (((HB2.out.setCell (by simp) _).setCell (by simp) _).setCell (by simp) _)
  | true =>
    obtain ⟨X, hX⟩ : ∃ X, txt a b c = X := ⟨_, rfl⟩
    have hne : (X.toList == s.toList) = false := by
      rw [beq_eq_false_iff_ne]
      intro h
      rw [Go.ByteArray.toList_eq, Go.ByteArray.toList_eq] at h
      exact HN.out a b c (hX.trans (ByteArray.ext (Array.ext' h)))
    have CX := Lib.hid (fun w hT => text_at a b c X hX w hT)
    have HNE := Lib.hid hne
    clear hX hne HN
    go_wp2_with fail
    refine (CX.out _ HT1.out).mono ?_
    rintro e w2 ⟨rfl, hb2⟩
    have Z2 := (Z1.alloc (.cells #[.int .i64 a, .int .i64 b, .int .i64 c] 23)).keep hb2
    have B2 : Below w.heap.size w w2 := (B1.alloc B1.size (.cells #[.int .i64 a, .int .i64 b, .int .i64 c] 23)).trans (hb2.mono (by have := B1.size; simp; omega))
    clear hb2 Z1 B1 HT1 CX
    obtain ⟨y1, d0, d1, d2, g0, g1, g2⟩ := Z2
    have HB2 := Lib.hid B2
    clear B2
    have hne := HNE.out
    go_wp2_with fail
    refine bodyPost_ret (v := .tuple #[vv 0 0 0, .int .i64 8]) (by simp [results, Tryz.results71, go_sem, d0, d1, d2, y1]) rfl ⟨rfl, ?_⟩
    exact (((HB2.out.setCell (by simp) _).setCell (by simp) _).setCell (by simp) _)
end Go.Proofs.YtaeideimlagheaaGreatDoor
