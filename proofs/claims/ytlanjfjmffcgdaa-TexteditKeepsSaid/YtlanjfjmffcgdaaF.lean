/-
  Apply of the program: the walk. Conditions: the slice reads as a list of at most 20 edits with texts of at most 1000 bytes; the text has at most 100000 bytes.
-/
import Derived.Test.YtlanjfjmffcgdaaE
namespace Go.Proofs.Ytlanjfjmffcgdaa
open Go.RowKit
set_option linter.unusedSimpArgs false
set_option linter.unusedVariables false
theorem box_new (w : World) (f t : Int) (s : ByteArray) : BX (w.alloc (.cells #[.int .i64 f, .int .i64 t, .string s] 35)) w.heap.size f t s := (MapKept.heap_alloc w _).1
theorem gb_undrew {w w' : World} {r : Option Nat} (h : w.drew.grownBy w' r) : w.grownBy w' r := ⟨h.os, h.tape, h.output, h.size, h.block⟩
theorem below_grown {B g : Nat} {w0 w w' : World} (h : Below B w0 w) (hg : w.grownBy w' (some g)) (hB : B ≤ g) (hw : B ≤ w.heap.size) : Below B w0 w' :=
  ⟨hg.os.trans h.os, hg.tape.trans h.tape, hg.output.trans h.output, Nat.le_trans h.size hg.size, fun i hi => (hg.block i (by omega) (by intro e; injection e with e; omega)).trans (h.block i hi)⟩
set_option maxRecDepth 100000 in
set_option maxHeartbeats 4000000 in
theorem apply_err (s : ByteArray) (A : Option Addr) (c : Nat) (xs : List Ed) (hx : xs.length ≤ 20) (hz : chkL (s.size : Int) xs ≠ 0) (w : World) (h : Re w w.heap.size A xs) :
    Calls Try.prog 13 #[.string s, .slice A xs.length c] w fun e w' => e = .returned (.tuple #[.string ⟨#[]⟩, .int .i64 (chkL (s.size : Int) xs)]) ∧ Below w.heap.size w w' := by
  have C0 := Lib.hid (Check_any s A c xs (by omega) w h)
  have q2 : (chkL (s.size : Int) xs != 0) = true := by simp [hz]
  generalize chkL (s.size : Int) xs = E at *
  clear hz h
  go_enter Try.func13, Try.ntmps13
  go_wp2_with fail
  refine C0.out.mono ?_
  rintro e w1 ⟨rfl, hb1⟩
  go_wp2_with fail
  go_ret2
  exact ⟨rfl, hb1⟩
set_option maxRecDepth 100000 in
set_option maxHeartbeats 8000000 in
theorem apply_ok (s : ByteArray) (A : Option Addr) (c : Nat) (xs : List Ed) (hs : s.size ≤ 100000) (hx : xs.length ≤ 20) (ht : ∀ x ∈ xs, x.2.2.size ≤ 1000) (hz : chkL (s.size : Int) xs = 0) (w : World) (h : Re w w.heap.size A xs) :
    Calls Try.prog 13 #[.string s, .slice A xs.length c] w fun e w' => e = .returned (.tuple #[.string (appS s xs), .int .i64 (appE s xs)]) ∧ Below w.heap.size w w' := by
  have C0 := Lib.hid (Check_any s A c xs (by omega) w h)
  rw [hz] at C0
  have H := Lib.hid h
  obtain ⟨z1, z2⟩ := chk_zero hz
  have HI : Hid (∀ k (hk : k < xs.length), 0 ≤ xs[k].1 ∧ xs[k].1 ≤ xs[k].2.1 ∧ xs[k].2.1 ≤ (s.size : Int) ∧ xs[k].2.2.size ≤ 1000) := Lib.hid fun k hk => by
    obtain ⟨e0, e1, e2⟩ := insA_mem z1 hk
    exact ⟨e0, e1, e2, ht _ (List.getElem_mem hk)⟩
  have HO : Hid (∀ k (hk : k + 1 < xs.length), xs[k].2.1 ≤ xs[k + 1].1) := Lib.hid fun k hk => ordB_mem z2 hk
  have HL := Lib.hid (aply_size hz)
  have HE2 := Lib.hid (appE_2 hz)
  have HE3 := Lib.hid (appE_3 hz)
  have HG : Hid (sumG (xs.drop 0) = sumG xs) := by show sumG (xs.drop 0) = sumG xs; simp
  have HT : Hid ((aply s xs).size = (appL s.data.toList 0 xs).length) := Lib.hid (by simp [aply, ByteArray.size])
  have HT2 : Hid (aply s xs = ⟨(appL s.data.toList 0 xs).toArray⟩) := Lib.hid rfl
  have HTV : Hid (totV s xs = (s.size : Int) + sumG xs) := Lib.hid rfl
  clear hz z1 z2 h ht
  generalize totV s xs = TV at *
  generalize appE s xs = RE at *
  generalize appS s xs = RS at *
  go_enter Try.func13, Try.ntmps13
  go_wp2_with fail
  refine C0.out.mono ?_
  rintro e w1 ⟨rfl, hb1⟩
  have HB1 := Lib.hid hb1
  clear hb1 C0
  go_wp2_with fail
  go_loopw [7, 25] (fun z i wr => ∃ (k : Nat) (b : Int), i = .int .i64 (k : Int) ∧ z = .int .i64 b ∧ k ≤ xs.length ∧ -((k : Int) * 100000) ≤ b ∧ b ≤ (k : Int) * 1000 + 100000 ∧ Hid (b + sumG (xs.drop k) = TV) ∧ Hid (Below w.heap.size w wr)) (fun _ i _ => xs.length - (intOf i).toNat)
  case atStart => exact ⟨0, s.size, rfl, rfl, by omega, by omega, by omega, Lib.hid (by rw [HG.out, HTV.out]), HB1⟩
  case round =>
    obtain ⟨k, b, rfl, rfl, hk, hb0, hb1, HS, HB⟩ := hrel
    by_cases hlt : k < xs.length
    · obtain ⟨ad, rfl, hl, c0, c1, c2⟩ := (H.out.below HB.out).at_ k hlt
      obtain ⟨i0, i1, i2, i3⟩ := HI.out k hlt
      rw [sumG_at hlt] at HS
      generalize xs[k] = x at *
      obtain ⟨f, t, u⟩ := x
      simp only at i0 i1 i2 i3 c0 c1 c2
      have q8 : (k : Int) < (xs.length : Int) := by omega
      have HB2 := Lib.hid (HB.out.alloc HB.out.size (.cells #[.int .i64 f, .int .i64 t, .string u] 35))
      have CG : Hid (∀ W, Calls Try.prog 27 #[.agg #[.int .i64 f, .int .i64 t, .string u]] W fun e w' => e = .returned (.int .i64 ((u.size : Int) - (t - f))) ∧ Below W.heap.size W w') := Lib.hid fun W => growth_any f t u W i0 i1 (by omega) (by omega)
      obtain ⟨gr, hgr⟩ : ∃ gr, gr = (u.size : Int) - (t - f) := ⟨_, rfl⟩
      have g1 : -100000 ≤ gr := by omega
      have g2 : gr ≤ 1000 := by omega
      have HS2 : Hid (b + gr + sumG (xs.drop (k + 1)) = TV) := Lib.hid (by have := HS.out; unfold grw at this; simp only at this; omega)
      rw [← hgr] at CG
      clear hgr HS
      go_wp2_with fail
      refine (CG.out _).mono ?_
      rintro e w2 ⟨rfl, hb2⟩
      have HB3 := Lib.hid (HB2.out.trans (hb2.mono HB2.out.size))
      clear hb2 CG
      go_wp2_with fail
      go_roundw
      case rel => exact ⟨k + 1, b + gr, by go_num, rfl, by omega, by omega, by omega, HS2, HB3⟩
      case measure => simp [intOf]; omega
    · obtain rfl : k = xs.length := by omega
      have HX : Hid (b = TV) := Lib.hid (by have := HS.out; rw [sumG_end (Nat.le_refl _)] at this; omega)
      obtain rfl := HX.out
      clear HS
      by_cases hbig : 65536 < b
      · have HV := Lib.hid (HE2.out hbig)
        have q1 : decide ((65536 : Int) < b) = true := decide_eq_true hbig
        clear hbig HE2 HE3 HL HT HT2
        go_wp2_with fail
        go_ret2
        exact ⟨by rw [HV.out.1, HV.out.2]; rfl, HB.out⟩
      · have HV := Lib.hid (HE3.out (by omega))
        have q1 : decide ((65536 : Int) < b) = false := decide_eq_false hbig
        obtain ⟨m, rfl⟩ : ∃ m : Nat, b = (m : Int) := ⟨b.toNat, by have := HL.out; omega⟩
        have hm : m ≤ 65536 := by omega
        have HN : Hid ((appL s.data.toList 0 xs).length = m) := Lib.hid (by have := HL.out; have := HT.out; omega)
        have hmk := Try.make43 m (by omega)
        have HR := Lib.hid (row_new wr m)
        have HB2 := Lib.hid (HB.out.alloc HB.out.size (.cells (madeCells #[.int .u8 0] m) 5))
        have HgB : Hid (w.heap.size ≤ wr.heap.size) := Lib.hid HB.out.size
        generalize madeCells #[.int .u8 0] m = X at *
        clear hbig HE2 HE3 HL HT HG HTV HX HB
        go_wp2_with fail
        obtain ⟨g, hG⟩ : ∃ g : Nat, wr.heap.size = g := ⟨_, rfl⟩
        rw [hG] at HR HgB ⊢
        generalize wr.alloc (.cells X 5) = w3 at *
        clear hG
        have HTT : Hid (([] : List UInt8) ++ appL s.data.toList 0 (xs.drop 0) = appL s.data.toList 0 xs) := Lib.hid (by simp)
        generalize appL s.data.toList 0 xs = T at *
        go_loopw [11, 12, 40] (fun n a i wr => ∃ (k p nd : Nat) (D J : List UInt8), i = .int .i64 (k : Int) ∧ a = .int .i64 (p : Int) ∧ n = .int .i64 (nd : Int) ∧ k ≤ xs.length ∧ p ≤ s.size ∧ nd ≤ m ∧ Hid (∀ hk : k < xs.length, (p : Int) ≤ xs[k].1) ∧ Hid (D.length = nd) ∧ Hid (nd + J.length = m) ∧ Hid (D ++ appL s.data.toList p (xs.drop k) = T) ∧ Hid (Row wr g (D ++ J)) ∧ Hid (Below w.heap.size w wr)) (fun _ _ i _ => xs.length - (intOf i).toNat)
        case atStart => exact ⟨0, 0, 0, [], List.replicate m 0, rfl, rfl, rfl, by omega, by omega, by omega, Lib.hid (fun hk => by have := (HI.out 0 hk).1; omega), Lib.hid rfl, Lib.hid (by simp), HTT, HR, HB2⟩
        case round =>
          obtain ⟨k, p, nd, D, J, rfl, rfl, rfl, hk, hp, hnd, HP, HD, HJ, HS, HR, HB⟩ := hrel
          by_cases hlt : k < xs.length
          · obtain ⟨ad, rfl, hl, c0, c1, c2⟩ := (H.out.below HB.out).at_ k hlt
            obtain ⟨i0, i1, i2, i3⟩ := HI.out k hlt
            have hp2 := HP.out hlt
            have HP2 : Hid (∀ hk : k + 1 < xs.length, (xs[k].2.1) ≤ xs[k + 1].1) := Lib.hid fun hk => HO.out k hk
            rw [appL_at hlt] at HS
            generalize xs[k] = x at *
            obtain ⟨f, t, u⟩ := x
            simp only at i0 i1 i2 i3 c0 c1 c2 hp2 HP2
            obtain ⟨f, rfl⟩ := Int.eq_ofNat_of_zero_le i0
            obtain ⟨t, rfl⟩ := Int.eq_ofNat_of_zero_le (show 0 ≤ t by omega)
            simp only [Int.toNat_natCast] at HS
            have HBX := Lib.hid (box_new wr f t u)
            have HRx : Hid (Row (wr.alloc (.cells #[.int .i64 (f : Int), .int .i64 (t : Int), .string u] 35)) g (D ++ J)) := Lib.hid (HR.out.below ((Below.refl _ _).alloc (Nat.le_refl _) _))
            have HBB := Lib.hid (HB.out.alloc HB.out.size (.cells #[.int .i64 (f : Int), .int .i64 (t : Int), .string u] 35))
            have q8 : (k : Int) < (xs.length : Int) := by omega
            have Hgb : Hid (g < wr.heap.size) := Lib.hid HR.out.lt
            clear HR HB HP i0
            go_wp2_with fail
            obtain ⟨b, hGb⟩ : ∃ b : Nat, wr.heap.size = b := ⟨_, rfl⟩
            rw [hGb] at HBX Hgb ⊢
            generalize wr.alloc (.cells #[.int .i64 (f : Int), .int .i64 (t : Int), .string u] 35) = w4 at *
            clear hGb c0 c1 c2
            have HSz := Lib.hid (ext_size s p f (by omega))
            have HSl := Lib.hid (ext_list s p f (by omega))
            obtain ⟨z, hz⟩ : ∃ z, (s.extract p f).size = z := ⟨_, rfl⟩
            have HZ := Lib.hid hz
            have HLT : Hid (nd + z + u.size + (appL s.data.toList t (xs.drop (k + 1))).length = m) := Lib.hid (by
              have e := congrArg List.length HS.out
              rw [HN.out] at e
              have e1 : ((s.data.toList.drop p).take (f - p)).length = z := by rw [← HSl.out, str_len]; exact hz
              simp only [List.length_append, e1, str_len, HD.out] at e
              omega)
            obtain ⟨nd2, hnd2⟩ : ∃ nd2, nd2 = nd + z := ⟨_, rfl⟩
            have hnd2m : nd2 ≤ m := by have := HLT.out; omega
            have HNZ := Lib.hid hnd2
            have e2 : (nd : Int) + (z : Int) = (nd2 : Int) := by omega
            have e3 : IntKind.i64.wrap (nd2 : Int) = (nd2 : Int) := IntWalk.i64_in _ (by omega)
            obtain ⟨dp, HDP, hsl⟩ := cut43 g m nd hnd
            have HDP' := Lib.hid HDP
            obtain ⟨z0, x0, x1, x2⟩ := HBX.out.facts
            have q5 : (p : Int) ≤ (f : Int) := hp2
            have q6 : (f : Int) ≤ (s.size : Int) := by omega
            clear hnd2 HDP
            go_region_law (first | (refine step_copy_str rfl (.tmp 47) (.tmp 52) rfl dp (m - nd) (m - nd) (s.extract p f) rfl rfl g nd D J HRx.out HD.out (by have := HLT.out; have := HZ.out; omega) (by have := HLT.out; have := HZ.out; have := HJ.out; omega) (fun h => HDP'.out (by have := HLT.out; have := HZ.out; omega)) ?_; intro w5 HR5 hg5))
            have hg5 := gb_undrew hg5
            have HD2 : Hid ((D ++ (s.extract p f).data.toList).length = nd2) := Lib.hid (by rw [List.length_append, HD.out, str_len, HNZ.out, HZ.out])
            have HJ2 : Hid (nd2 + (J.drop (s.extract p f).size).length = m) := Lib.hid (by have := HJ.out; have := HLT.out; rw [List.length_drop, HZ.out, HNZ.out]; omega)
            have HS2 : Hid ((D ++ (s.extract p f).data.toList) ++ (u.data.toList ++ appL s.data.toList t (xs.drop (k + 1))) = T) := Lib.hid (by rw [← HS.out, HSl.out]; simp)
            have HBX5 := Lib.hid (HBX.out.grown hg5 (by have := Hgb.out; omega))
            have HB5 := Lib.hid (below_grown HBB.out hg5 HgB.out HBB.out.size)
            have HLT2 : Hid (nd2 + u.size ≤ m) := Lib.hid (by have := HLT.out; have := HNZ.out; omega)
            clear hg5 e2 e3 hsl x0 x1 x2 z0 HS HSl HSz hz HZ HRx HBB HBX HD HJ HNZ HLT HDP' q5 q6
            generalize (s.extract p f).size = z1 at *
            generalize D ++ (s.extract p f).data.toList = D2 at *
            generalize J.drop z1 = J2 at *
            obtain ⟨z0, x0, x1, x2⟩ := HBX5.out.facts
            obtain ⟨dp2, HDP2, hsl2⟩ := cut43 g m nd2 hnd2m
            have HDP2' := Lib.hid HDP2
            obtain ⟨nd3, hnd3⟩ : ∃ nd3, nd3 = nd2 + u.size := ⟨_, rfl⟩
            have HN3 := Lib.hid hnd3
            have e2 : (nd2 : Int) + (u.size : Int) = (nd3 : Int) := by omega
            have e3 : IntKind.i64.wrap (nd3 : Int) = (nd3 : Int) := IntWalk.i64_in _ (by have := HLT2.out; omega)
            have hnd3m : nd3 ≤ m := by have := HLT2.out; omega
            clear hnd3 HDP2
            go_wp2_with fail
            go_region_law (first | (refine step_copy_str rfl (.tmp 58) (.tmp 60) rfl dp2 (m - nd2) (m - nd2) u rfl rfl g nd2 D2 J2 HR5.out HD2.out (by have := HLT2.out; omega) (by have := HLT2.out; have := HJ2.out; omega) (fun h => HDP2'.out (by have := HLT2.out; omega)) ?_; intro w6 HR6 hg6))
            have hg6 := gb_undrew hg6
            have HD3 : Hid ((D2 ++ u.data.toList).length = nd3) := Lib.hid (by rw [List.length_append, HD2.out, str_len, HN3.out])
            have HJ3 : Hid (nd3 + (J2.drop u.size).length = m) := Lib.hid (by have := HJ2.out; have := HLT2.out; rw [List.length_drop, HN3.out]; omega)
            have HS3 : Hid ((D2 ++ u.data.toList) ++ appL s.data.toList t (xs.drop (k + 1)) = T) := Lib.hid (by rw [← HS2.out]; simp)
            have HBX6 := Lib.hid (HBX5.out.grown hg6 (by have := Hgb.out; omega))
            have HB6 := Lib.hid (below_grown HB5.out hg6 HgB.out HB5.out.size)
            clear hg6 e2 e3 hsl2 x0 x1 x2 z0 HS2 HR5 HB5 HBX5 HD2 HJ2 HN3 HLT2 HDP2'
            generalize J2.drop u.size = J3 at *
            generalize D2 ++ u.data.toList = D3 at *
            obtain ⟨z0, x0, x1, x2⟩ := HBX6.out.facts
            go_wp2_with fail
            go_roundw
            case rel => exact ⟨k + 1, t, nd3, D3, J3, by go_num, rfl, rfl, by omega, by omega, by omega, HP2, HD3, HJ3, HS3, HR6, HB6⟩
            case measure => simp [intOf]; omega
          · obtain rfl : k = xs.length := by omega
            rw [appL_end (Nat.le_refl _)] at HS
            have HSz := Lib.hid (ext_size s p s.size (Nat.le_refl _))
            have HSl := Lib.hid (ext_list s p s.size (Nat.le_refl _))
            have HSe : Hid ((s.extract p s.size).data.toList = s.data.toList.drop p) := Lib.hid (by rw [HSl.out, List.take_of_length_le (by rw [List.length_drop, str_len]; omega)])
            have HLT : Hid (nd + (s.extract p s.size).size = m) := Lib.hid (by
              have e := congrArg List.length HS.out
              rw [HN.out, ← HSe.out] at e
              simp only [List.length_append, str_len, HD.out] at e
              omega)
            have HTe : Hid ((D ++ (s.extract p s.size).data.toList) ++ J.drop (s.extract p s.size).size = T) := Lib.hid (by
              rw [HSe.out, HS.out, List.drop_eq_nil_of_le (by have := HJ.out; have := HLT.out; omega)]; simp)
            obtain ⟨dp, HDP, hsl⟩ := cut43 g m nd hnd
            have HDP' := Lib.hid HDP
            have q6 : (p : Int) ≤ (s.size : Int) := by omega
            clear HDP HS HP HSl HSe
            go_wp2_with fail
            go_region_law (first | (refine step_copy_str rfl (.tmp 68) (.tmp 71) rfl dp (m - nd) (m - nd) (s.extract p s.size) rfl rfl g nd D J HR.out HD.out (by have := HLT.out; omega) (by have := HLT.out; have := HJ.out; omega) (fun h => HDP'.out (by have := HLT.out; omega)) ?_; intro w5 HR5 hg5))
            have hg5 := gb_undrew hg5
            have HB5 := Lib.hid (below_grown HB.out hg5 HgB.out HB.out.size)
            rw [HTe.out] at HR5
            have hcv := row_str HR5.out HN.out
            have HV2 : Hid (RE = 0 ∧ RS = ⟨T.toArray⟩) := Lib.hid ⟨HV.out.1, by rw [HV.out.2, HT2.out]⟩
            clear hg5 hsl HSz HTe HLT HR HB HDP' q6 HD HJ
            go_wp2_with fail
            go_ret2
            exact ⟨by rw [HV2.out.1, HV2.out.2]; rfl, HB5.out⟩
theorem apply_any (s : ByteArray) (A : Option Addr) (c : Nat) (xs : List Ed) (hs : s.size ≤ 100000) (hx : xs.length ≤ 20) (ht : ∀ x ∈ xs, x.2.2.size ≤ 1000) (w : World) (h : Re w w.heap.size A xs) :
    Calls Try.prog 13 #[.string s, .slice A xs.length c] w fun e w' => e = .returned (.tuple #[.string (appS s xs), .int .i64 (appE s xs)]) ∧ Below w.heap.size w w' := by
  by_cases hz : chkL (s.size : Int) xs = 0
  · exact apply_ok s A c xs hs hx ht hz w h
  · rw [(appE_1 hz).1, (appE_1 hz).2]
    exact apply_err s A c xs hx hz w h
