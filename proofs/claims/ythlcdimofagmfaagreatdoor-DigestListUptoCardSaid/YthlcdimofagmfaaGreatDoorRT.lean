/-
  The specification's Text: at most 80 requirements with paths of at most 2000000 bytes. No other condition.
-/
import Derived.Test.YthlcdimofagmfaaGreatDoorSRW
import Derived.Test.YthlcdimofagmfaaGreatDoorT
import Derived.Test.YthlcdimofagmfaaGreatDoorOC
namespace Go.Proofs.YthlcdimofagmfaaGreatDoor
open Go.RowKit Go.Sort Go.Lib Go.Shelf Go.Proofs
set_option linter.unusedSimpArgs false
set_option linter.unnecessarySimpa false
set_option linter.unusedVariables false
set_option maxRecDepth 100000 in
set_option maxHeartbeats 4000000 in
theorem rtext_no (x : Md) (A : Option Addr) (c : Nat) (l : List Md) (n : Int) (w : World) (hR : RM w w.heap.size A l) (hf : Plane A c) (hl : l.length ≤ 80) (hp : ∀ y ∈ x :: l, y.1.size ≤ 2000000) (hc : chkM x l = n) (hn : n ≠ 0) :
    Calls Tryz.prog 37 #[mf x A l.length c] w (TextIs ⟨#[]⟩ n w) := by
  have hb0 := bal w (mblk x A l.length c 37)
  have K := Lib.hid (rcheck_any x A c l _ (hR.up hb0) hf (by omega) hp)
  rw [hc] at K
  have HB0 := Lib.hid hb0
  have q1 : (n != 0) = true := by simp [hn]
  clear hb0 hR hf hl hc hn hp
  unfold mf at *
  unfold mblk at *
  go_enter Tryz.func37, Tryz.ntmps37
  go_wp2_with fail
  refine K.out.mono ?_
  rintro e w1 ⟨rfl, hb1⟩
  have HB1 := Lib.hid (HB0.out.trans (hb1.mono HB0.out.size))
  clear hb1
  go_wp2_with fail
  go_ret2
  exact ⟨rfl, HB1.out⟩
/-- a manifest in its box -/
structure B5x (w : World) (p : Nat) (x : Md) (A : Option Addr) (n c : Nat) : Prop where
  c0 : w.cell? ⟨p, 0, none⟩ = some (.string x.1)
  c1 : w.cell? ⟨p, 1, none⟩ = some (.int .i64 x.2.1)
  c2 : w.cell? ⟨p, 2, none⟩ = some (.int .i64 x.2.2.1)
  c3 : w.cell? ⟨p, 3, none⟩ = some (.int .i64 x.2.2.2)
  c4 : w.cell? ⟨p, 4, none⟩ = some (.slice A n c)
theorem B5x.keep {w w' : World} {p : Nat} {x : Md} {A : Option Addr} {n c : Nat} (h : B5x w p x A n c) (hb : Below w.heap.size w w') : B5x w' p x A n c :=
  ⟨cell_keep h.c0 hb, cell_keep h.c1 hb, cell_keep h.c2 hb, cell_keep h.c3 hb, cell_keep h.c4 hb⟩
def accS (x : Md) (S : List Md) : ByteArray := ⟨(textL x S).toArray⟩
theorem accS_nil (x : Md) : accS x [] = lineB kM x := by
  apply ByteArray.ext; apply Array.ext'
  simp [accS, textL]
theorem accS_snoc (x : Md) (S : List Md) (y : Md) : accS x (S ++ [y]) = accS x S ++ lineB kR y := by
  apply ByteArray.ext; apply Array.ext'
  simp [accS, textL, ByteArray.data_append]
theorem accS_size {x : Md} {S : List Md} (hx : x.1.size ≤ 60) (hS : ∀ y ∈ S, y.1.size ≤ 60) : (accS x S).size ≤ 100 + S.length * 100 := by
  have h1 := flat_bound kR (by decide) S hS
  have h2 := line_le kM (by decide) x hx
  have h3 : (lineB kM x).data.toList.length = (lineB kM x).size := by simp
  have : (accS x S).size = (textL x S).length := by
    show (textL x S).toArray.size = _
    rw [List.size_toArray]
  rw [this]
  unfold textL
  rw [List.length_append]; omega
theorem line_r (y : Md) (hy : y.1.size ≤ 100000) (w : World) : Calls Tryz.prog 63 #[.string ⟨#[114, 101, 113, 117, 105, 114, 101]⟩, md y] w fun e w' => e = .returned (.string (lineB kR y)) ∧ Below w.heap.size w w' := rline_any kR y (by decide) hy w
set_option maxRecDepth 100000 in
set_option maxHeartbeats 4000000 in
theorem rtext_yes (x : Md) (A : Option Addr) (c : Nat) (l : List Md) (w : World) (hR : RM w w.heap.size A l) (hf : Plane A c) (hl : l.length ≤ 80) (hc : chkM x l = 0) :
    Calls Tryz.prog 37 #[mf x A l.length c] w (TextIs (accS x (sortM l)) 0 w) := by
  have hb0 := bal w (mblk x A l.length c 37)
  have hpl := chk_path hc
  have K := Lib.hid (rcheck_any x A c l _ (hR.up hb0) hf (by omega) (fun y hy => Nat.le_trans (hpl y hy) (by omega)))
  rw [hc] at K
  have hxp : x.1.size ≤ 60 := hpl x (by simp)
  have HPS := Lib.hid (show ∀ y ∈ sortM l, y.1.size ≤ 60 from fun y hy => hpl y (by simp [(sortM_perm l).mem_iff.1 hy]))
  have HB0 := Lib.hid hb0
  have HX := Lib.hid (show B5x (w.alloc (mblk x A l.length c 37)) w.heap.size x A l.length c from ⟨by simp, by simp, by simp, by simp, by simp⟩)
  have HRF := Lib.hid (And.intro (hR.up hb0) hl)
  have hsl := sortM_length l
  have HTI : Hid (∀ e w', e = .returned (.tuple #[.string (accS x (sortM l)), .int .i64 0]) → Below w.heap.size w w' → TextIs (accS x (sortM l)) 0 w e w') := Lib.hid (fun e w' h1 h2 => ⟨h1, h2⟩)
  have HSO := Lib.hid (fun W (hR : RM W W.heap.size A l) => rsorted_any A c l W hR (by omega))
  obtain ⟨S, hS⟩ : ∃ S, S = sortM l := ⟨_, rfl⟩
  rw [← hS] at HPS hsl HTI HSO ⊢
  have hS80 : S.length ≤ 80 := by omega
  have hlk := line_le kM (by decide) x hxp
  have KL := Lib.hid (fun w => rline_any kM x (by decide) (by omega) w)
  clear hb0 hR hf hl hc hpl hS hsl
  unfold mf at *
  unfold mblk at *
  go_enter Tryz.func37, Tryz.ntmps37
  go_wp2_with fail
  refine K.out.mono ?_
  rintro e w1 ⟨rfl, hb1⟩
  have HB1 := Lib.hid (HB0.out.trans (hb1.mono HB0.out.size))
  have HR1 := Lib.hid (HRF.out.1.up hb1)
  obtain ⟨x0, x1, x2, x3, x4⟩ := HX.out.keep hb1
  clear hb1 K HB0 HX HRF
  go_wp2_with fail
  refine (KL.out _).mono ?_
  rintro e w2 ⟨rfl, hb2⟩
  have HB2 := Lib.hid (HB1.out.trans (hb2.mono HB1.out.size))
  have HR2 := Lib.hid (HR1.out.up hb2)
  have y4 := cell_keep x4 hb2
  clear hb2 KL HB1 HR1 x0 x1 x2 x3 x4
  go_wp2_with fail
  refine (HSO.out _ HR2.out).mono ?_
  rintro e w3 ⟨A1, c1, rfl, hre, _, hb3⟩
  have HB3 := Lib.hid (HB2.out.trans (hb3.mono HB2.out.size))
  have HRE := Lib.hid hre
  clear hre hb3 HB2 HR2 HSO y4
  rw [← accS_nil x]
  go_wp2_with fail
  go_loopw [5, 7, 20] (fun s5 _ s20 wr => ∃ k : Nat, s20 = .int .i64 (k : Int) ∧ s5 = .string (accS x (S.take k)) ∧ k ≤ S.length ∧ Hid (Below w3.heap.size w3 wr)) (fun _ _ s20 _ => (S.length - intOf s20).toNat)
  case atStart => exact ⟨0, rfl, rfl, by omega, Lib.hid (Below.refl _ _)⟩
  case round =>
    obtain ⟨k, rfl, rfl, hk, HB⟩ := hrel
    by_cases hlt : k < S.length
    · obtain ⟨g, o, hA, hgl, c0, c1, c2, c3⟩ := HRE.out.four k hlt
      subst hA
      rw [← HB.out.cell (p := ⟨g, o + k * 4, none⟩) hgl] at c0
      rw [← HB.out.cell (p := ⟨g, o + k * 4 + 1, none⟩) hgl] at c1
      rw [← HB.out.cell (p := ⟨g, o + k * 4 + 2, none⟩) hgl] at c2
      rw [← HB.out.cell (p := ⟨g, o + k * 4 + 3, none⟩) hgl] at c3
      have hkl : (k : Int) < (S.length : Int) := by omega
      have hyp := HPS.out S[k] (List.getElem_mem hlt)
      have HAC := Lib.hid (show accS x (S.take (k + 1)) = accS x (S.take k) ++ lineB kR S[k] by rw [← List.take_append_getElem hlt, accS_snoc])
      have hsz := accS_size hxp (S := S.take k) (fun y hy => HPS.out y (List.mem_of_mem_take hy))
      have htl : (S.take k).length ≤ 80 := by simp; omega
      generalize accS x (S.take k) = acc at *
      obtain ⟨y, hy⟩ : ∃ y, y = S[k] := ⟨_, rfl⟩
      rw [← hy] at c0 c1 c2 c3 hyp HAC
      have hl2 := line_le kR (by decide) y hyp
      have hfit : ¬ (9223372036854775807 < acc.size + (lineB kR y).size) := by omega
      have KL := Lib.hid (fun w => line_r y (by omega) w)
      have HB7 := Lib.hid (HB.out.alloc HB.out.size (.cells #[.string y.1, .int .i64 y.2.1, .int .i64 y.2.2.1, .int .i64 y.2.2.2] 34))
      have HK := Lib.hid (show k + 1 ≤ S.length by omega)
      generalize lineB kR y = ln at *
      clear hy HB hyp hsz htl hl2 hlt
      go_wp2_with fail
      refine (KL.out _).mono ?_
      rintro e w8 ⟨rfl, hb8⟩
      have HB8 := Lib.hid (HB7.out.trans (hb8.mono HB7.out.size))
      clear hb8 KL c0 c1 c2 c3
      go_wp2_with fail
      go_roundw
      case rel => exact ⟨k + 1, by go_num, by rw [HAC.out], HK.out, HB8⟩
      case measure => have := HK.out; first | (simp [intOf]; done) | (simp [intOf]; omega)
    · obtain rfl : k = S.length := by omega
      rw [List.take_length]
      have HE := Lib.hid (HTI.out _ wr rfl (HB3.out.trans (HB.out.mono HB3.out.size)))
      clear HB HTI hlt
      go_wp2_with fail
      go_ret2
      exact HE.out
theorem rtext_any (x : Md) (A : Option Addr) (c : Nat) (l : List Md) (w : World) (hR : RM w w.heap.size A l) (hf : Plane A c) (hl : l.length ≤ 80) (hp : ∀ y ∈ x :: l, y.1.size ≤ 2000000) :
    Calls Tryz.prog 37 #[mf x A l.length c] w (TextIs (textB x l) (chkM x l) w) := by
  unfold textB
  by_cases h : chkM x l = 0
  · rw [if_pos h, h]; exact rtext_yes x A c l w hR hf hl h
  · rw [if_neg h]; exact rtext_no x A c l _ w hR hf hl hp rfl h
end Go.Proofs.YthlcdimofagmfaaGreatDoor
