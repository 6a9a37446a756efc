/-
  The specification's Parse: its walk. Texts of at most 65536 bytes. No other condition.
-/
import Derived.Test.YtaeideimlagheaaGreatDoorRP
namespace Go.Proofs.YtaeideimlagheaaGreatDoor
open Go.RowKit Go.Sort Go.Lib Go.Shelf Go.Proofs
set_option linter.unusedSimpArgs false
set_option linter.unnecessarySimpa false
set_option linter.unusedVariables false
/-- the two results, as they lie -/
structure Res (W : World) (b : Nat) : Prop where
  lt : b < W.heap.size
  lt1 : b + 1 < W.heap.size
  c0 : W.cell? ⟨b, 0, none⟩ = some (.string ⟨#[]⟩)
  c1 : W.cell? ⟨b, 1, none⟩ = some (.int .i64 0)
  c2 : W.cell? ⟨b, 2, none⟩ = some (.int .i64 0)
  c3 : W.cell? ⟨b, 3, none⟩ = some (.int .i64 0)
  c4 : W.cell? ⟨b, 4, none⟩ = some (.slice none 0 0)
  d0 : W.cell? ⟨b + 1, 0, none⟩ = some (.int .i64 0)
  d1 : W.cell? ⟨b + 1, 1, none⟩ = some (.int .i64 0)
  f0 : W.frozen? ⟨b, 0, none⟩ = false
  f1 : W.frozen? ⟨b, 1, none⟩ = false
  f2 : W.frozen? ⟨b, 2, none⟩ = false
  f3 : W.frozen? ⟨b, 3, none⟩ = false
  f4 : W.frozen? ⟨b, 4, none⟩ = false
  e0 : W.frozen? ⟨b + 1, 0, none⟩ = false
  e1 : W.frozen? ⟨b + 1, 1, none⟩ = false
theorem PR.res {w w1 W : World} {x : Md} {v : Value} {R : List Md} (h : PR w w1 x v R W) : Res W w.heap.size :=
  ⟨h.r2.lt, h.r3.lt, h.r2.cell 0, h.r2.cell 1, h.r2.cell 2, h.r2.cell 3, h.r2.cell 4, h.r3.cell 0, h.r3.cell 1, h.r2.frozen 0, h.r2.frozen 1, h.r2.frozen 2, h.r2.frozen 3, h.r2.frozen 4, h.r3.frozen 0, h.r3.frozen 1⟩
/-- the box of the manifest, as it lies -/
structure OutB (W : World) (b : Nat) (x : Md) (v : Value) : Prop where
  lt : b < W.heap.size
  c0 : W.cell? ⟨b, 0, none⟩ = some (.string x.1)
  c1 : W.cell? ⟨b, 1, none⟩ = some (.int .i64 x.2.1)
  c2 : W.cell? ⟨b, 2, none⟩ = some (.int .i64 x.2.2.1)
  c3 : W.cell? ⟨b, 3, none⟩ = some (.int .i64 x.2.2.2)
  c4 : W.cell? ⟨b, 4, none⟩ = some v
  f0 : W.frozen? ⟨b, 0, none⟩ = false
  f1 : W.frozen? ⟨b, 1, none⟩ = false
  f2 : W.frozen? ⟨b, 2, none⟩ = false
  f3 : W.frozen? ⟨b, 3, none⟩ = false
  f4 : W.frozen? ⟨b, 4, none⟩ = false
theorem PR.box {w w1 W : World} {x : Md} {v : Value} {R : List Md} (h : PR w w1 x v R W) : OutB W (w.heap.size + 1 + 1) x v :=
  ⟨h.r4.lt, h.r4.cell 0, h.r4.cell 1, h.r4.cell 2, h.r4.cell 3, h.r4.cell 4, h.r4.frozen 0, h.r4.frozen 1, h.r4.frozen 2, h.r4.frozen 3, h.r4.frozen 4⟩
theorem below_res {w W : World} (h : Below w.heap.size w W) (u0 u1 u2 u3 u4 u5 u6 : Value) : Below w.heap.size w (((((((W.setCell ⟨w.heap.size, 0, none⟩ u0).setCell ⟨w.heap.size, 1, none⟩ u1).setCell ⟨w.heap.size, 2, none⟩ u2).setCell ⟨w.heap.size, 3, none⟩ u3).setCell ⟨w.heap.size, 4, none⟩ u4).setCell ⟨w.heap.size + 1, 0, none⟩ u5).setCell ⟨w.heap.size + 1, 1, none⟩ u6) :=
  ((((((h.setCell (p := ⟨w.heap.size, 0, none⟩) (Nat.le_refl _) _).setCell (p := ⟨w.heap.size, 1, none⟩) (Nat.le_refl _) _).setCell (p := ⟨w.heap.size, 2, none⟩) (Nat.le_refl _) _).setCell (p := ⟨w.heap.size, 3, none⟩) (Nat.le_refl _) _).setCell (p := ⟨w.heap.size, 4, none⟩) (Nat.le_refl _) _).setCell (p := ⟨w.heap.size + 1, 0, none⟩) (by show w.heap.size ≤ w.heap.size + 1; omega) _).setCell (p := ⟨w.heap.size + 1, 1, none⟩) (by show w.heap.size ≤ w.heap.size + 1; omega) _
theorem rm_oneg (w : World) (x : Md) (g : Nat) (hg : g = w.heap.size) : RM (w.alloc (.cells #[.string x.1, .int .i64 x.2.1, .int .i64 x.2.2.1, .int .i64 x.2.2.2] 25)) (w.alloc (.cells #[.string x.1, .int .i64 x.2.1, .int .i64 x.2.2.1, .int .i64 x.2.2.2] 25)).heap.size (some ⟨g, 0, none⟩) [x] := by
  subst hg; exact rm_one w x
theorem PR.app_box {w w1 W W2 : World} {x : Md} {v : Value} {R : List Md} {o : Obj} (h : PR w w1 x v R W) (hg : (W.alloc o).grownBy W2 v.ownBlock) : OutB W2 (w.heap.size + 1 + 1) x v := by
  have hB2 : Below w1.heap.size W W2 := ((Below.refl _ _).alloc h.sz o).grown hg (by have := h.sz; simp; omega) (fun k hk => (h.row.lt k hk).1)
  have hlo := h.lo
  have r4' : RowT W2 (w.heap.size + 1 + 1) #[.string x.1, .int .i64 x.2.1, .int .i64 x.2.2.1, .int .i64 x.2.2.2, v] 28 := h.r4.up hB2 (by omega)
  exact ⟨r4'.lt, r4'.cell 0, r4'.cell 1, r4'.cell 2, r4'.cell 3, r4'.cell 4, r4'.frozen 0, r4'.frozen 1, r4'.frozen 2, r4'.frozen 3, r4'.frozen 4⟩
set_option maxRecDepth 100000 in
set_option maxHeartbeats 4000000 in
theorem rparse_loop (s : ByteArray) (hs : s.size ≤ 65536) (w : World) : Calls Tryz.prog 21 #[.string s] w (ParseIs s w) := by
  have hns : ¬ (65536 : Int) < (s.size : Int) := by omega
  have HSL := Lib.hid (show s.data.toList.length ≤ 65536 by simpa using hs)
  have KL := Lib.hid (fun w => rlines_any s (by omega) w)
  have HFAIL : Hid (∀ n a e w', parseL verV s.data.toList = .inl (n, a) → e = .returned (.tuple #[mf zeroMd none 0 0, .agg #[.int .i64 n, .int .i64 a]]) → Below w.heap.size w w' → ParseIs s w e w') := Lib.hid (fun n a e w' h he hb => by unfold ParseIs; rw [h]; exact ⟨he, hb⟩)
  have HGOOD : Hid (∀ m R e w', parseL verV s.data.toList = .inr (m, R) → (∃ A c, e = .returned (.tuple #[mf m A R.length c, .agg #[.int .i64 0, .int .i64 0]]) ∧ RM w' w'.heap.size A R ∧ (Plain A c ∧ Hi w.heap.size A)) → Below w.heap.size w w' → ParseIs s w e w') := Lib.hid (fun m R e w' h he hb => by unfold ParseIs; rw [h]; exact ⟨he, hb⟩)
  have HP0 : Hid (PR w (((w.alloc (.cells z28 28)).alloc (.cells z38 38)).alloc (.cells z28 28)) zeroMd (.slice none 0 0) [] (((w.alloc (.cells z28 28)).alloc (.cells z38 38)).alloc (.cells z28 28))) := Lib.hid (by
    have b2 := bal (w.alloc (.cells z28 28)) (.cells z38 38)
    have b3 := bal ((w.alloc (.cells z28 28)).alloc (.cells z38 38)) (.cells z28 28)
    have h1 : (w.alloc (.cells z28 28)).heap.size = w.heap.size + 1 := by simp
    have h2 : ((w.alloc (.cells z28 28)).alloc (.cells z38 38)).heap.size = w.heap.size + 1 + 1 := by simp
    refine ⟨((bal w _).trans (b2.mono (by omega))).trans (b3.mono (by omega)), ?_, ?_, ?_, World.ownsRow_nil _ _ _ _, Nat.le_refl _, by simp, fun _ _ _ => rfl⟩
    · exact RowT.up (RowT.up (World.alloc_heap_new w _) b2 (by omega)) b3 (by omega)
    · rw [← h1]; exact RowT.up (World.alloc_heap_new _ _) b3 (by omega)
    · rw [← h2]; exact World.alloc_heap_new _ _)
  clear hs
  go_enter Tryz.func21, Tryz.ntmps21
  go_wp2_with fail
  refine (KL.out _).mono ?_
  rintro e w1 ⟨L, hL, hlen, A, c, rfl, hR, ⟨_, hhi⟩, hb⟩
  have hPR0 := HP0.out.up hb
  have HPR : Hid (PR w w1 zeroMd (.slice none 0 0) [] w1) := Lib.hid ⟨hPR0.bel, hPR0.r2, hPR0.r3, hPR0.r4, World.ownsRow_nil _ _ _ _, Nat.le_refl _, by have := hb.size; simp at this; omega, fun _ _ _ => rfl⟩
  have HHI := Lib.hid hhi
  have HR := Lib.hid hR
  have HL := Lib.hid hL
  have HLN := Lib.hid (show L.length ≤ 65537 by have := HSL.out; simp at this; omega)
  have HSZ := Lib.hid (show ∀ y ∈ L, y.size ≤ 65536 by
    intro y hy
    have := linesL_len s.data.toList y.data.toList (by rw [← hL]; exact List.mem_map.2 ⟨y, hy, rfl⟩)
    have h2 := HSL.out
    have : y.data.toList.length = y.size := by simp
    omega)
  clear hb hR hL hlen hhi KL HP0 hPR0
  have HST := Lib.hid (ScI.start L)
  go_wp2_with fail
  go_loopw [5, 7, 8, 9, 10, 11, 12, 23] (fun s5 _ _ _ _ _ _ s23 wr => ∃ (k : Nat) (x : Md) (v : Value) (R : List Md) (f : Bool), s23 = .int .i64 (k : Int) ∧ s5 = .bool f ∧ k ≤ L.length ∧ Hid (ScI L k f x R) ∧ Hid (PR w w1 x v R wr)) (fun _ _ _ _ _ _ _ s23 _ => (L.length - intOf s23).toNat)
  case atStart => exact ⟨0, _, _, _, false, rfl, rfl, by omega, HST, HPR⟩
  case round =>
    clear HST HPR
    obtain ⟨k, x, v, R, f, rfl, rfl, hk, HSC, HP⟩ := hrel
    by_cases hlt : k < L.length
    · have hkl : (k : Int) < (L.length : Int) := by omega
      obtain ⟨g, o, hA, hgl, c0⟩ := HR.out.at_ k hlt
      subst hA
      have hgh : w.heap.size + 1 + 1 + 1 ≤ g := by have := HHI.out g o rfl; simpa using this
      rw [← HP.out.cell (g := g) (o := o + k) hgh hgl] at c0
      have KW := Lib.hid (fun w => rwords_any L[k] (by have := HSZ.out _ (List.getElem_mem hlt); omega) w)
      have HXZ := Lib.hid (HSZ.out _ (List.getElem_mem hlt))
      have HBL := Lib.hid (fun hw => HSC.out.blank hlt hw)
      have HFI := Lib.hid (fun (h : f = false) (m : Md) hw hm => ScI.first (m := m) (h ▸ HSC.out) hlt hw hm)
      have HMO := Lib.hid (fun (h : f = true) (m : Md) hw hm => ScI.more (m := m) (h ▸ HSC.out) hlt hw hm)
      have HBA := Lib.hid (fun hw hm => HSC.out.bad hlt HL.out HSL.out hw hm)
      have HFE := Lib.hid (show R.length ≤ 65537 by have := HSC.out.few; have := HLN.out; omega)
      have HK1 := Lib.hid (show k + 1 ≤ L.length by omega)
      have hkn : k ≤ 65537 := by have := HLN.out; omega
      generalize L[k] = ln at *
      clear hlt
      go_wp2_with fail
      refine (KW.out _).mono ?_
      rintro e w2 ⟨W, hW, Aw, cw, rfl, hRw, _, hb2⟩
      have HP2 := Lib.hid (HP.out.up hb2)
      have HRW := Lib.hid hRw
      have HWL := Lib.hid hW
      clear hb2 hRw hW KW HP c0
      by_cases hw0 : W.length = 0
      · have hwi : ((W.length : Int) == 0) = true := by simp [hw0]
        have hww : wordsC ln.data.toList = [] := by rw [← HWL.out, List.eq_nil_of_length_eq_zero hw0]; rfl
        have HSC2 := Lib.hid (HBL.out hww)
        clear hw0 hww
        go_wp2_with fail
        go_roundw
        case rel => exact ⟨k + 1, x, v, R, f, by go_num, rfl, HK1.out, HSC2, HP2⟩
        case measure => have := HK1.out; first | (simp [intOf]; done) | (simp [intOf]; omega)
      · have hwi : ((W.length : Int) == 0) = false := by rw [beq_eq_false_iff_ne]; omega
        have hww : wordsC ln.data.toList ≠ [] := by rw [← HWL.out]; intro h; exact hw0 (by simpa using h)
        have HWW := Lib.hid hww
        have HWS := Lib.hid (show ∀ y ∈ W, y.size ≤ 2000000 by
          intro y hy
          have := words_len (s := ln.data.toList) (x := y.data.toList) (by rw [← HWL.out]; exact List.mem_map.2 ⟨y, hy, rfl⟩)
          have h2 := HXZ.out
          have h3 : ln.data.toList.length = ln.size := by simp
          have : y.data.toList.length = y.size := by simp
          omega)
        have KM := Lib.hid (fun kw W2 (h : RS W2 W2.heap.size Aw W) => rmodule_any kw Aw cw W W2 h HWS.out)
        obtain ⟨P, hPd⟩ : ∃ P, P = rdS (kwF f) W := ⟨_, rfl⟩
        have HPD := Lib.hid (show P = readL verV (kwF f).data.toList (wordsC ln.data.toList) by rw [hPd]; unfold rdS; rw [HWL.out])
        have HPD2 := Lib.hid hPd
        clear hw0 hww hPd
        cases f with
        | false =>
          have K2 := Lib.hid (KM.out ⟨#[109, 111, 100, 117, 108, 101]⟩ w2 HRW.out)
          rw [show rdS ⟨#[109, 111, 100, 117, 108, 101]⟩ W = P from HPD2.out.symm] at K2
          clear KM
          cases P with
          | none =>
            have HE := Lib.hid (HBA.out HWW.out HPD.out.symm)
            go_wp2_with fail
            refine K2.out.mono ?_
            rintro e w3 ⟨⟨m, rfl, _⟩, hb3⟩
            have HP3 := Lib.hid ((HP2.out.up hb3).up (bal w3 (.cells #[.string m.1, .int .i64 m.2.1, .int .i64 m.2.2.1, .int .i64 m.2.2.2] 25)))
            clear hb3 K2 HP2
            obtain ⟨z0, z1, a0, a1, a2, a3, a4, b0, b1, f0, f1, f2, f3, f4, e0, e1⟩ := HP3.out.res
            go_wp2_with fail
            refine bodyPost_ret (v := .tuple #[mf zeroMd none 0 0, .agg #[.int .i64 8, .int .i64 ((k : Int) + 1)]]) (by simp [results, Tryz.results21, go_sem, a0, a1, a2, a3, a4, b0, b1, z0, z1]) rfl ?_
            exact HFAIL.out 8 ((k : Int) + 1) _ _ (by simpa using HE.out) rfl (below_res HP3.out.bel _ _ _ _ _ _ _)
          | some m =>
            have HSC2 := Lib.hid (HFI.out rfl m HWW.out HPD.out.symm)
            go_wp2_with fail
            refine K2.out.mono ?_
            rintro e w3 ⟨⟨m', rfl, hm'⟩, hb3⟩
            obtain rfl := hm' m rfl
            have HP3 := Lib.hid ((HP2.out.up hb3).up (bal w3 (.cells #[.string m'.1, .int .i64 m'.2.1, .int .i64 m'.2.2.1, .int .i64 m'.2.2.2] 25)))
            have HN := Lib.hid (C4.new w3 m' 25)
            clear hb3 K2 HP2 hm'
            obtain ⟨z0, a0, a1, a2, a3, a4, f0, f1, f2, f3, f4⟩ := HP3.out.box
            obtain ⟨n0, n1, n2, n3⟩ := HN.out
            go_wp2_with fail
            have HP4 := Lib.hid (HP3.out.put (m := m'))
            have HR0 := Lib.hid (show R = [] from (HSC.out.2 rfl).2)
            go_roundw
            case rel => exact ⟨k + 1, m', v, [], true, by go_num, rfl, HK1.out, HSC2, by have := HP4.out; rw [HR0.out] at this; exact Lib.hid this⟩
            case measure => have := HK1.out; first | (simp [intOf]; done) | (simp [intOf]; omega)
        | true =>
          have K2 := Lib.hid (KM.out ⟨#[114, 101, 113, 117, 105, 114, 101]⟩ w2 HRW.out)
          rw [show rdS ⟨#[114, 101, 113, 117, 105, 114, 101]⟩ W = P from HPD2.out.symm] at K2
          clear KM
          cases P with
          | none =>
            have HE := Lib.hid (HBA.out HWW.out HPD.out.symm)
            go_wp2_with fail
            refine K2.out.mono ?_
            rintro e w3 ⟨⟨m, rfl, _⟩, hb3⟩
            have HP3 := Lib.hid ((HP2.out.up hb3).up (bal w3 (.cells #[.string m.1, .int .i64 m.2.1, .int .i64 m.2.2.1, .int .i64 m.2.2.2] 25)))
            clear hb3 K2 HP2
            obtain ⟨z0, z1, a0, a1, a2, a3, a4, b0, b1, f0, f1, f2, f3, f4, e0, e1⟩ := HP3.out.res
            go_wp2_with fail
            refine bodyPost_ret (v := .tuple #[mf zeroMd none 0 0, .agg #[.int .i64 8, .int .i64 ((k : Int) + 1)]]) (by simp [results, Tryz.results21, go_sem, a0, a1, a2, a3, a4, b0, b1, z0, z1]) rfl ?_
            exact HFAIL.out 8 ((k : Int) + 1) _ _ (by simpa using HE.out) rfl (below_res HP3.out.bel _ _ _ _ _ _ _)
          | some m =>
            have HSC2 := Lib.hid (HMO.out rfl m HWW.out HPD.out.symm)
            go_wp2_with fail
            refine K2.out.mono ?_
            rintro e w3 ⟨⟨m', rfl, hm'⟩, hb3⟩
            obtain rfl := hm' m rfl
            have HP3 := Lib.hid ((HP2.out.up hb3).up (bal w3 (.cells #[.string m'.1, .int .i64 m'.2.1, .int .i64 m'.2.2.1, .int .i64 m'.2.2.2] 25)))
            have HN := Lib.hid (C4.new w3 m' 25)
            clear hb3 K2 HP2 hm'
            obtain ⟨z0, a0, a1, a2, a3, a4, f0, f1, f2, f3, f4⟩ := HP3.out.box
            obtain ⟨n0, n1, n2, n3⟩ := HN.out
            have hown := HP3.out.row
            have hone := rm_oneg (w3.alloc (.cells #[.string m'.1, .int .i64 m'.2.1, .int .i64 m'.2.2.1, .int .i64 m'.2.2.2] 25)) m' (w3.heap.size + 1) (by simp)
            have hown1 := hown.alloc (.cells #[.string m'.1, .int .i64 m'.2.1, .int .i64 m'.2.2.1, .int .i64 m'.2.2.2] 25)
            go_wp2_with (at_builtin; refine wpList_append_rm rfl _ _ rfl w1.heap.size _ _ R.length _ rfl hown1 (some ⟨w3.heap.size + 1, 0, none⟩) 1 [m'] rfl hone (.inr ⟨_, _, rfl⟩) ?_ ?_ ?_)
            · have := HFE.out; simp; omega
            · have := HP3.out.sz; simp at this ⊢; omega
            intro v9 w9 h9 g9
            obtain ⟨q9, d9, rfl⟩ : ∃ q d, v9 = .slice (some ⟨q, 0, none⟩) (R.length + 1) d := by
              rcases own_cell h9 with ⟨_, e⟩ | ⟨q, d, e, _⟩
              · simp at e
              · exact ⟨q, d, by simpa using e⟩
            have HP9 := Lib.hid (HP3.out.app (m := m') g9 h9)
            have HO9 := Lib.hid (HP3.out.app_box g9)
            clear h9 g9 hown hone hown1 n0 n1 n2 n3 z0 a0 a1 a2 a3 a4 f0 f1 f2 f3 f4 HP3 HN
            obtain ⟨z0, a0, a1, a2, a3, a4, f0, f1, f2, f3, f4⟩ := HO9.out
            go_wp2_with fail
            go_roundw
            case rel => exact ⟨k + 1, x, _, R ++ [m'], true, by go_num, rfl, HK1.out, HSC2, HP9⟩
            case measure => have := HK1.out; first | (simp [intOf]; done) | (simp [intOf]; omega)
    · have hkl : ¬ (k : Int) < (L.length : Int) := by omega
      obtain rfl : k = L.length := by omega
      have hLL : L.length ≤ 65537 := HLN.out
      have t1 : IntKind.i64.wrap ((L.length : Int) + 1) = (L.length : Int) + 1 := IntWalk.i64_in _ (by omega)
      cases f with
      | false =>
        have HE := Lib.hid (HSC.out.none HL.out HSL.out)
        obtain ⟨z0, z1, a0, a1, a2, a3, a4, b0, b1, f0, f1, f2, f3, f4, e0, e1⟩ := HP.out.res
        clear hlt hk
        go_wp2_with fail
        refine bodyPost_ret (v := .tuple #[mf zeroMd none 0 0, .agg #[.int .i64 8, .int .i64 ((L.length : Int) + 1)]]) (by simp [results, Tryz.results21, go_sem, a0, a1, a2, a3, a4, b0, b1, z0, z1]) rfl ?_
        exact HFAIL.out 8 ((L.length : Int) + 1) _ _ (by simpa using HE.out) rfl (below_res HP.out.bel _ _ _ _ _ _ _)
      | true =>
        have HE := Lib.hid (HSC.out.done HL.out HSL.out)
        have HPT := Lib.hid (show ∀ y ∈ x :: R, y.1.size ≤ 2000000 from fun y hy => Nat.le_trans (ScI.paths HSC.out y hy) (by omega))
        obtain ⟨A9, c9, rfl, hm, hpl, hh9, hty⟩ := rm_of_own HP.out.row
        have HM := Lib.hid hm
        have HPL := Lib.hid hpl
        have HFE := Lib.hid (show R.length ≤ 65537 by have := HSC.out.few; omega)
        obtain ⟨z0, a0, a1, a2, a3, a4, f0, f1, f2, f3, f4⟩ := HP.out.box
        obtain ⟨n, hn⟩ : ∃ n, n = chkM x R := ⟨_, rfl⟩
        have KC := Lib.hid (fun W2 (h : RM W2 W2.heap.size A9 R) => rcheck_any x A9 c9 R W2 h hpl (by have := HFE.out; omega) HPT.out)
        rw [← hn] at HE
        simp only [← hn] at KC
        clear hlt hk hm hpl hh9 hty hn
        go_wp2_with fail
        refine (KC.out _ HM.out).mono ?_
        rintro e w5 ⟨rfl, hb5⟩
        have HP5 := Lib.hid (HP.out.up hb5)
        have HM5 := Lib.hid (HM.out.up hb5)
        have hb5s : w.heap.size + 1 + 1 < w5.heap.size := HP5.out.r4.lt
        clear hb5 HM KC HP z0 a0 a1 a2 a3 a4 f0 f1 f2 f3 f4
        by_cases hn : n = 0
        · have hq : (n != 0) = false := by simp [hn]
          have HE2 := Lib.hid (HE.out.trans (if_neg (by simp [hn])))
          have KS := Lib.hid (rsorted_any A9 c9 R w5 HM5.out (by have := HFE.out; omega))
          obtain ⟨z0, a0, a1, a2, a3, a4, f0, f1, f2, f3, f4⟩ := HP5.out.box
          clear hn
          go_wp2_with fail
          refine KS.out.mono ?_
          rintro e w6 ⟨A6, c6, rfl, hm6, ⟨hp6, hh6, hty6⟩, hb6⟩
          have HP6 := Lib.hid (HP5.out.up hb6)
          clear z0 a0 a1 a2 a3 a4 f0 f1 f2 f3 f4 HP5 KS
          obtain ⟨z0, z1, x0, x1, x2, x3, x4, y0, y1, g0, g1, g2, g3, g4, e0, e1⟩ := HP6.out.res
          obtain ⟨z2, a0, a1, a2, a3, a4, f0, f1, f2, f3, f4⟩ := HP6.out.box
          have H6 := Lib.hid (And.intro hm6 (And.intro hp6 hh6))
          have HS5 := Lib.hid (And.intro HP6.out.bel (And.intro hb5s hb6.size))
          clear hm6 hp6 hh6 hty6 hb6
          go_wp2_with fail
          refine bodyPost_ret (v := .tuple #[mf x A6 (sortM R).length c6, .agg #[.int .i64 0, .int .i64 0]]) (by simp [results, Tryz.results21, go_sem, x0, x1, x2, x3, x4, y0, y1, z0, z1, z2]) rfl ?_
          refine HGOOD.out x (sortM R) _ _ HE2.out ⟨A6, c6, rfl, ?_, H6.out.2.1, H6.out.2.2.le ?_⟩ (below_res (HS5.out.1.setCell (p := ⟨w.heap.size + 1 + 1, 4, none⟩) (by show w.heap.size ≤ w.heap.size + 1 + 1; omega) _) _ _ _ _ _ _ _)
          · have hlt5 := HS5.out.2.1
            have h := H6.out.1
            have hsz : ∀ u u0 u1 u2 u3 u4 u5 u6 : Value, ((((((((w6.setCell ⟨w.heap.size + 1 + 1, 4, none⟩ u).setCell ⟨w.heap.size, 0, none⟩ u0).setCell ⟨w.heap.size, 1, none⟩ u1).setCell ⟨w.heap.size, 2, none⟩ u2).setCell ⟨w.heap.size, 3, none⟩ u3).setCell ⟨w.heap.size, 4, none⟩ u4).setCell ⟨w.heap.size + 1, 0, none⟩ u5).setCell ⟨w.heap.size + 1, 1, none⟩ u6).heap.size = w6.heap.size := by intros; simp
            rw [hsz]
            refine rm_hi h H6.out.2.2 (fun q hq => ?_)
            rw [setCell_block _ (by omega), setCell_block _ (by omega), setCell_block _ (by omega), setCell_block _ (by omega), setCell_block _ (by omega), setCell_block _ (by omega), setCell_block _ (by omega), setCell_block _ (by omega)]
          · have := HS5.out.2.1; omega
        · have hq : (n != 0) = true := by simp [hn]
          have HE2 := Lib.hid (HE.out.trans (if_pos hn))
          obtain ⟨z0, z1, a0, a1, a2, a3, a4, b0, b1, f0, f1, f2, f3, f4, e0, e1⟩ := HP5.out.res
          clear hn
          go_wp2_with fail
          refine bodyPost_ret (v := .tuple #[mf zeroMd none 0 0, .agg #[.int .i64 n, .int .i64 0]]) (by simp [results, Tryz.results21, go_sem, a0, a1, a2, a3, a4, b0, b1, z0, z1]) rfl ?_
          exact HFAIL.out n 0 _ _ HE2.out rfl (below_res HP5.out.bel _ _ _ _ _ _ _)
set_option maxRecDepth 100000 in
set_option maxHeartbeats 1000000 in
theorem rparse_big (s : ByteArray) (hs : 65536 < s.size) (w : World) : Calls Tryz.prog 21 #[.string s] w (ParseIs s w) := by
  have hns : (65536 : Int) < (s.size : Int) := by omega
  have HE := Lib.hid (show parseL verV s.data.toList = .inl (2, 0) by unfold parseL; rw [if_pos (by simpa using hs)])
  go_enter Tryz.func21, Tryz.ntmps21
  go_wp2_with fail
  refine bodyPost_ret (v := .tuple #[mf zeroMd none 0 0, .agg #[.int .i64 2, .int .i64 0]]) (by simp [results, Tryz.results21, go_sem]) rfl ?_
  unfold ParseIs; rw [HE.out]
  first | exact ⟨rfl, ((Below.refl _ _).alloc (Nat.le_refl _) _).alloc (by simp) _⟩ | exact ⟨rfl, (((Below.refl _ _).alloc (Nat.le_refl _) _).alloc (by simp) _).alloc (by simp; omega) _⟩
theorem rparse_any44 (s : ByteArray) (w : World) : Calls Tryz.prog 21 #[.string s] w (ParseIs s w) := by
  by_cases h : s.size ≤ 65536
  · exact rparse_loop s h w
  · exact rparse_big s (by omega) w
end Go.Proofs.YtaeideimlagheaaGreatDoor
