/-
  Apply of the specification. Conditions: the slice reads as a list of at most 20 edits with texts of at most 60 bytes; the text has at most 100000 bytes.
-/
import Derived.Test.YtlanjfjmffcgdaaF
namespace Go.Proofs.Ytlanjfjmffcgdaa
open Go.RowKit
set_option linter.unusedSimpArgs false
set_option linter.unusedVariables false
theorem cat_list (a b : ByteArray) : (a ++ b).data.toList = a.data.toList ++ b.data.toList := by simp
theorem cat_size (a b : ByteArray) : (a ++ b).size = a.size + b.size := by simp
theorem str_of (a : ByteArray) (l : List UInt8) (h : a.data.toList = l) : a = ⟨l.toArray⟩ := by
  subst h; apply ByteArray.ext; simp
set_option maxRecDepth 100000 in
set_option maxHeartbeats 4000000 in
theorem rapply_err (s : ByteArray) (A : Option Addr) (c : Nat) (xs : List Ed) (hx : xs.length ≤ 20) (hz : chkL (s.size : Int) xs ≠ 0) (w : World) (h : Re w w.heap.size A xs) :
    Calls Try.prog 14 #[.string s, .slice A xs.length c] w fun e w' => e = .returned (.tuple #[.string ⟨#[]⟩, .int .i64 (chkL (s.size : Int) xs)]) ∧ Below w.heap.size w w' := by
  have C0 := Lib.hid (rCheck_any s A c xs (by omega) w h)
  have q2 : (chkL (s.size : Int) xs != 0) = true := by simp [hz]
  generalize chkL (s.size : Int) xs = E at *
  clear hz h
  go_enter Try.func14, Try.ntmps14
  go_wp2_with fail
  refine C0.out.mono ?_
  rintro e w1 ⟨rfl, hb1⟩
  go_wp2_with fail
  go_ret2
  exact ⟨rfl, hb1⟩
set_option maxRecDepth 100000 in
set_option maxHeartbeats 8000000 in
theorem rapply_ok (s : ByteArray) (A : Option Addr) (c : Nat) (xs : List Ed) (hs : s.size ≤ 100000) (hx : xs.length ≤ 20) (ht : ∀ x ∈ xs, x.2.2.size ≤ 60) (hz : chkL (s.size : Int) xs = 0) (w : World) (h : Re w w.heap.size A xs) :
    Calls Try.prog 14 #[.string s, .slice A xs.length c] w fun e w' => e = .returned (.tuple #[.string (appS s xs), .int .i64 (appE s xs)]) ∧ Below w.heap.size w w' := by
  have C0 := Lib.hid (rCheck_any s A c xs (by omega) w h)
  rw [hz] at C0
  have H := Lib.hid h
  obtain ⟨z1, z2⟩ := chk_zero hz
  have HI : Hid (∀ k (hk : k < xs.length), 0 ≤ xs[k].1 ∧ xs[k].1 ≤ xs[k].2.1 ∧ xs[k].2.1 ≤ (s.size : Int) ∧ xs[k].2.2.size ≤ 60) := Lib.hid fun k hk => by
    obtain ⟨e0, e1, e2⟩ := insA_mem z1 hk
    exact ⟨e0, e1, e2, ht _ (List.getElem_mem hk)⟩
  have HO : Hid (∀ k (hk : k + 1 < xs.length), xs[k].2.1 ≤ xs[k + 1].1) := Lib.hid fun k hk => ordB_mem z2 hk
  have HL := Lib.hid (aply_size hz)
  have HE2 := Lib.hid (appE_2 hz)
  have HE3 := Lib.hid (appE_3 hz)
  have HG : Hid (sumG (xs.drop 0) = sumG xs) := by show sumG (xs.drop 0) = sumG xs; simp
  have HT : Hid ((aply s xs).size = (appL s.data.toList 0 xs).length) := Lib.hid (by simp [aply, ByteArray.size])
  have HT2 : Hid (aply s xs = ⟨(appL s.data.toList 0 xs).toArray⟩) := Lib.hid rfl
  have HTV : Hid (totV s xs = (s.size : Int) + sumG xs) := Lib.hid rfl
  clear hz z1 z2 h ht
  generalize totV s xs = TV at *
  generalize appE s xs = RE at *
  generalize appS s xs = RS at *
  go_enter Try.func14, Try.ntmps14
  go_wp2_with fail
  refine C0.out.mono ?_
  rintro e w1 ⟨rfl, hb1⟩
  have HB1 := Lib.hid hb1
  clear hb1 C0
  go_wp2_with fail
  go_loopw [7, 8] (fun z i wr => ∃ (k : Nat) (b : Int), i = .int .i64 (k : Int) ∧ z = .int .i64 b ∧ k ≤ xs.length ∧ -((k : Int) * 100000) ≤ b ∧ b ≤ (k : Int) * 60 + 100000 ∧ Hid (b + sumG (xs.drop k) = TV) ∧ Hid (Below w.heap.size w wr)) (fun _ i _ => xs.length - (intOf i).toNat)
  case atStart => exact ⟨0, s.size, rfl, rfl, by omega, by omega, by omega, Lib.hid (by rw [HG.out, HTV.out]), HB1⟩
  case round =>
    obtain ⟨k, b, rfl, rfl, hk, hb0, hb1, HS, HB⟩ := hrel
    by_cases hlt : k < xs.length
    · obtain ⟨ad, rfl, hl, c0, c1, c2⟩ := (H.out.below HB.out).at_ k hlt
      obtain ⟨i0, i1, i2, i3⟩ := HI.out k hlt
      rw [sumG_at hlt] at HS
      generalize xs[k] = x at *
      obtain ⟨f, t, u⟩ := x
      simp only at i0 i1 i2 i3 c0 c1 c2
      have q8 : (k : Int) < (xs.length : Int) := by omega
      have w1' : IntKind.i64.wrap (b + (u.size : Int)) = b + (u.size : Int) := IntWalk.i64_in _ (by omega)
      have w2' : IntKind.i64.wrap (t - f) = t - f := IntWalk.i64_in _ (by omega)
      have w3' : IntKind.i64.wrap (b + (u.size : Int) - (t - f)) = b + (u.size : Int) - (t - f) := IntWalk.i64_in _ (by omega)
      have HBd : Hid (-(((k + 1 : Nat) : Int) * 100000) ≤ b + (u.size : Int) - (t - f) ∧ b + (u.size : Int) - (t - f) ≤ ((k + 1 : Nat) : Int) * 60 + 100000) := Lib.hid (by omega)
      have HS2 : Hid (b + (u.size : Int) - (t - f) + sumG (xs.drop (k + 1)) = TV) := Lib.hid (by have := HS.out; unfold grw at this; simp only at this; omega)
      clear HS
      go_wp2_with fail
      go_quiet (fail)
      have B1 := Lib.hid (bdrewN HB.out nq)
      clear w1' w2' w3'
      generalize wr.drewN nq = w3 at *
      go_wp2_with fail
      go_roundw
      case rel => exact ⟨k + 1, _, by go_num, rfl, by omega, HBd.out.1, HBd.out.2, HS2, B1⟩
      case measure => simp [intOf]; omega
    · obtain rfl : k = xs.length := by omega
      have HX : Hid (b = TV) := Lib.hid (by have := HS.out; rw [sumG_end (Nat.le_refl _)] at this; omega)
      obtain rfl := HX.out
      clear HS
      by_cases hbig : 65536 < b
      · have HV := Lib.hid (HE2.out hbig)
        have q1 : decide ((65536 : Int) < b) = true := decide_eq_true hbig
        clear hbig HE2 HE3 HL HT HT2
        go_wp2_with fail
        go_ret2
        exact ⟨by rw [HV.out.1, HV.out.2]; rfl, HB.out⟩
      · have HV := Lib.hid (HE3.out (by omega))
        have q1 : decide ((65536 : Int) < b) = false := decide_eq_false hbig
        obtain ⟨m, rfl⟩ : ∃ m : Nat, b = (m : Int) := ⟨b.toNat, by have := HL.out; omega⟩
        have hm : m ≤ 65536 := by omega
        have HN : Hid ((appL s.data.toList 0 xs).length = m) := Lib.hid (by have := HL.out; have := HT.out; omega)
        clear hbig HE2 HE3 HL HT HG HTV HX
        go_wp2_with fail
        have HTT : Hid (((⟨#[]⟩ : ByteArray)).data.toList ++ appL s.data.toList 0 (xs.drop 0) = appL s.data.toList 0 xs) := Lib.hid (by simp)
        generalize appL s.data.toList 0 xs = T at *
        go_loopw [9, 10, 11] (fun n a i wr => ∃ (k p : Nat) (O : ByteArray), i = .int .i64 (k : Int) ∧ a = .int .i64 (p : Int) ∧ n = .string O ∧ k ≤ xs.length ∧ p ≤ s.size ∧ Hid (∀ hk : k < xs.length, (p : Int) ≤ xs[k].1) ∧ Hid (O.data.toList ++ appL s.data.toList p (xs.drop k) = T) ∧ Hid (Below w.heap.size w wr)) (fun _ _ i _ => xs.length - (intOf i).toNat)
        case atStart => exact ⟨0, 0, ⟨#[]⟩, rfl, rfl, rfl, by omega, by omega, Lib.hid (fun hk => by have := (HI.out 0 hk).1; omega), HTT, HB⟩
        case round =>
          obtain ⟨k, p, O, rfl, rfl, rfl, hk, hp, HP, HS, HB⟩ := hrel
          by_cases hlt : k < xs.length
          · obtain ⟨ad, rfl, hl, c0, c1, c2⟩ := (H.out.below HB.out).at_ k hlt
            obtain ⟨i0, i1, i2, i3⟩ := HI.out k hlt
            have hp2 := HP.out hlt
            have HP2 : Hid (∀ hk : k + 1 < xs.length, (xs[k].2.1) ≤ xs[k + 1].1) := Lib.hid fun hk => HO.out k hk
            rw [appL_at hlt] at HS
            generalize xs[k] = x at *
            obtain ⟨f, t, u⟩ := x
            simp only at i0 i1 i2 i3 c0 c1 c2 hp2 HP2
            obtain ⟨f, rfl⟩ := Int.eq_ofNat_of_zero_le i0
            obtain ⟨t, rfl⟩ := Int.eq_ofNat_of_zero_le (show 0 ≤ t by omega)
            simp only [Int.toNat_natCast] at HS
            have q8 : (k : Int) < (xs.length : Int) := by omega
            have HSz := Lib.hid (ext_size s p f (by omega))
            have HSl := Lib.hid (ext_list s p f (by omega))
            have HLT : Hid (O.size + (s.extract p f).size + u.size ≤ 65536) := Lib.hid (by
              have e := congrArg List.length HS.out
              rw [HN.out, ← HSl.out] at e
              simp only [List.length_append, str_len] at e
              omega)
            have q5 : (p : Int) ≤ (f : Int) := hp2
            have q6 : (f : Int) ≤ (s.size : Int) := by omega
            have n1 : ∀ W, (Op.stringOp .add O (s.extract p f)).run Try.prog W = .ok (.string (O ++ s.extract p f)) W := fun W => run_string_add_sum W _ _ (by have := HLT.out; omega)
            have n2 : ∀ W, (Op.stringOp .add (O ++ s.extract p f) u).run Try.prog W = .ok (.string (O ++ s.extract p f ++ u)) W := fun W => run_string_add_sum W _ _ (by rw [cat_size]; have := HLT.out; omega)
            have HS2 : Hid ((O ++ s.extract p f ++ u).data.toList ++ appL s.data.toList t (xs.drop (k + 1)) = T) := Lib.hid (by rw [cat_list, cat_list, HSl.out, ← HS.out]; simp)
            clear HP i0 HS HSz HSl HLT
            go_wp2_with fail
            go_quiet (fail)
            have B1 := Lib.hid (bdrewN HB.out nq)
            have d1 : (wr.drewN nq).cell? ⟨(ad.add (k * 3)).block, (ad.add (k * 3)).off + 1, none⟩ = some (.int .i64 (t : Int)) := c1
            clear c0 c1 c2 n1 n2
            generalize O ++ s.extract p f ++ u = O2 at *
            generalize wr.drewN nq = w3 at *
            go_wp2_with fail
            go_roundw
            case rel => exact ⟨k + 1, t, O2, by go_num, rfl, rfl, by omega, by omega, HP2, HS2, B1⟩
            case measure => simp [intOf]; omega
          · obtain rfl : k = xs.length := by omega
            rw [appL_end (Nat.le_refl _)] at HS
            have HSl := Lib.hid (ext_list s p s.size (Nat.le_refl _))
            have HSe : Hid ((s.extract p s.size).data.toList = s.data.toList.drop p) := Lib.hid (by rw [HSl.out, List.take_of_length_le (by rw [List.length_drop, str_len]; omega)])
            have HS2 : Hid (O ++ s.extract p s.size = ⟨T.toArray⟩) := Lib.hid (str_of _ _ (by rw [cat_list, HSe.out, HS.out]))
            have n1 : ¬ (9223372036854775807 < O.size + (s.extract p s.size).size) := by
              have e := congrArg List.length HS.out
              rw [HN.out, ← HSe.out] at e
              simp only [List.length_append, str_len] at e
              omega
            have q6 : (p : Int) ≤ (s.size : Int) := by omega
            have HV2 : Hid (RE = 0 ∧ RS = ⟨T.toArray⟩) := Lib.hid ⟨HV.out.1, by rw [HV.out.2, HT2.out]⟩
            clear HS HP HSl HSe
            go_wp2_with fail
            go_ret2
            exact ⟨by rw [HV2.out.1, HV2.out.2, ← HS2.out]; rfl, HB.out⟩
theorem rapply_any (s : ByteArray) (A : Option Addr) (c : Nat) (xs : List Ed) (hs : s.size ≤ 100000) (hx : xs.length ≤ 20) (ht : ∀ x ∈ xs, x.2.2.size ≤ 60) (w : World) (h : Re w w.heap.size A xs) :
    Calls Try.prog 14 #[.string s, .slice A xs.length c] w fun e w' => e = .returned (.tuple #[.string (appS s xs), .int .i64 (appE s xs)]) ∧ Below w.heap.size w w' := by
  by_cases hz : chkL (s.size : Int) xs = 0
  · exact rapply_ok s A c xs hs hx ht hz w h
  · rw [(appE_1 hz).1, (appE_1 hz).2]
    exact rapply_err s A c xs hx hz w h
