/-
  The laws DigestParse and DigestBack, out of a contract for alive that the premise gives.
-/
import Derived.Test.YthlcdimofagmfaaGreatDoorPR
import Derived.Test.YthlcdimofagmfaaGreatDoorPV
import Derived.Test.YthlcdimofagmfaaGreatDoorD5
namespace Go.Proofs.YthlcdimofagmfaaGreatDoor.Dg
open Go.RowKit
set_option linter.unusedSimpArgs false
set_option linter.unnecessarySimpa false
set_option linter.unusedVariables false
set_option maxRecDepth 100000 in
set_option maxHeartbeats 4000000 in
theorem law_parse (n : Nat) (hn : n < 18446744073709551616) (s : ByteArray) (w : World) (HA : Alive w) :
    Calls Tryz.prog 4 #[.int .u64 (n : Int), .string s] w fun e w' => e = .returned (.bool true) ∧ Below w.heap.size w w' := by
  have HAL := Lib.hid HA
  clear HA
  by_cases hs : s.size ≤ 200
  · have h1 : ¬ (200 : Int) < (s.size : Int) := by omega
    have C1 := Lib.hid (fun w => parse_any s w)
    have C2 := Lib.hid (fun w => rparse_any s (by omega) w)
    have C3 := Lib.hid (fun w => text_any n hn w)
    have C4 := Lib.hid (fun w => rtext_any n hn w)
    generalize numP s.data.toList = z at *
    generalize errP s.data.toList = q at *
    generalize txtH n = T at *
    clear hs hn
    go_enter Tryz.func4, Tryz.ntmps4
    go_wp2_with fail
    refine (C1.out _).mono ?_
    rintro e w1 ⟨rfl, hb1⟩
    have B1 := Lib.hid hb1
    clear hb1
    go_wp2_with fail
    refine (C2.out _).mono ?_
    rintro e w2 ⟨rfl, hb2⟩
    have B2 := Lib.hid (B1.out.trans (hb2.mono B1.out.size))
    clear hb2 B1
    go_wp2_with fail
    refine (C3.out _).mono ?_
    rintro e w3 ⟨rfl, hb3⟩
    have B3 := Lib.hid (B2.out.trans (hb3.mono B2.out.size))
    clear hb3 B2
    go_wp2_with fail
    refine (C4.out _).mono ?_
    rintro e w4 ⟨rfl, rfl⟩
    go_wp2_with fail
    refine (HAL.out _ B3.out).mono ?_
    rintro e w6 ⟨rfl, hb6⟩
    have B6 := Lib.hid (B3.out.trans (hb6.mono B3.out.size))
    clear hb6
    go_wp2_with fail
    go_ret
    exact ⟨rfl, B6.out⟩
  · have h1 : (200 : Int) < (s.size : Int) := by omega
    clear hs
    go_enter Tryz.func4, Tryz.ntmps4
    go_wp2_with fail
    refine (HAL.out _ (Below.refl _ _)).mono ?_
    rintro e w6 ⟨rfl, hb6⟩
    have B6 := Lib.hid hb6
    clear hb6
    go_wp2_with fail
    go_ret
    exact ⟨rfl, B6.out⟩
theorem errP_of (L : List UInt8) : (errP L = 0 ∧ txtL (numP L) 16 = L) ∨ (errP L = 8 ∧ numP L = 0) := by
  unfold errP numP
  by_cases h : okP L = true
  · rw [if_pos h, if_pos h]; exact .inl ⟨rfl, (okP_text h).1⟩
  · rw [if_neg h, if_neg h]; exact .inr ⟨rfl, rfl⟩
theorem back_of (n : Nat) (hn : n < 18446744073709551616) : errP (txtH n).data.toList = 0 ∧ numP (txtH n).data.toList = n := by
  have e : (txtH n).data.toList = txtL n 16 := by simp [txtH]
  rw [e]
  obtain ⟨h1, h2⟩ := text_okP n hn
  unfold errP numP
  rw [if_pos h1, if_pos h1]
  exact ⟨rfl, h2⟩
theorem txtH_size (n : Nat) : (txtH n).size = 18 := by
  show (txtL n 16).toArray.size = 18
  rw [List.size_toArray, txtL_len]
set_option maxRecDepth 100000 in
set_option maxHeartbeats 4000000 in
theorem law_back (n : Nat) (hn : n < 18446744073709551616) (s : ByteArray) (w : World) (HA : Alive w) :
    Calls Tryz.prog 5 #[.int .u64 (n : Int), .string s] w fun e w' => e = .returned (.bool true) ∧ Below w.heap.size w w' := by
  have HAL := Lib.hid HA
  clear HA
  by_cases hs : s.size ≤ 200
  · have h1 : ¬ (200 : Int) < (s.size : Int) := by omega
    have hbk := back_of n hn
    have hsz := txtH_size n
    have C0 := Lib.hid (fun w => text_any n hn w)
    have C1 := Lib.hid (fun w => parse_any (txtH n) w)
    rw [hbk.1, hbk.2] at C1
    have C2 := Lib.hid (fun w => parse_any s w)
    have hz := numP_lt s.data.toList
    have hcs := errP_of s.data.toList
    have C3 := Lib.hid (fun w => text_any (numP s.data.toList) hz w)
    have hsz' : ((txtH n).size : Int) = 18 := by rw [hsz]; rfl
    clear hz hbk hs hn hsz
    generalize hzz : numP s.data.toList = z at *
    generalize errP s.data.toList = q at *
    generalize txtH n = T at *
    rcases hcs with ⟨rfl, ht⟩ | ⟨rfl, rfl⟩
    · have hT2 : txtH z = s := by unfold txtH; rw [ht]
      rw [hT2] at C3
      clear hT2 ht hzz
      go_enter Tryz.func5, Tryz.ntmps5
      go_wp2_with fail
      refine (C0.out _).mono ?_
      rintro e w1 ⟨rfl, hb1⟩
      have B1 := Lib.hid hb1
      clear hb1
      go_wp2_with fail
      refine (C1.out _).mono ?_
      rintro e w2 ⟨rfl, hb2⟩
      have B2 := Lib.hid (B1.out.trans (hb2.mono B1.out.size))
      clear hb2 B1
      go_wp2_with fail
      refine (C2.out _).mono ?_
      rintro e w3 ⟨rfl, hb3⟩
      have B3 := Lib.hid (B2.out.trans (hb3.mono B2.out.size))
      clear hb3 B2
      go_wp2_with fail
      refine (C3.out _).mono ?_
      rintro e w4 ⟨rfl, hb4⟩
      have B4 := Lib.hid (B3.out.trans (hb4.mono B3.out.size))
      clear hb4 B3
      go_wp2_with fail
      refine (HAL.out _ B4.out).mono ?_
      rintro e w6 ⟨rfl, hb6⟩
      have B6 := Lib.hid (B4.out.trans (hb6.mono B4.out.size))
      clear hb6
      go_wp2_with fail
      go_ret
      exact ⟨rfl, B6.out⟩
    · clear C3 hzz
      go_enter Tryz.func5, Tryz.ntmps5
      go_wp2_with fail
      refine (C0.out _).mono ?_
      rintro e w1 ⟨rfl, hb1⟩
      have B1 := Lib.hid hb1
      clear hb1
      go_wp2_with fail
      refine (C1.out _).mono ?_
      rintro e w2 ⟨rfl, hb2⟩
      have B2 := Lib.hid (B1.out.trans (hb2.mono B1.out.size))
      clear hb2 B1
      go_wp2_with fail
      refine (C2.out _).mono ?_
      rintro e w3 ⟨rfl, hb3⟩
      have B3 := Lib.hid (B2.out.trans (hb3.mono B2.out.size))
      clear hb3 B2
      go_wp2_with fail
      refine (HAL.out _ B3.out).mono ?_
      rintro e w6 ⟨rfl, hb6⟩
      have B6 := Lib.hid (B3.out.trans (hb6.mono B3.out.size))
      clear hb6
      go_wp2_with fail
      go_ret
      exact ⟨rfl, B6.out⟩
  · have h1 : (200 : Int) < (s.size : Int) := by omega
    clear hs
    go_enter Tryz.func5, Tryz.ntmps5
    go_wp2_with fail
    refine (HAL.out _ (Below.refl _ _)).mono ?_
    rintro e w6 ⟨rfl, hb6⟩
    have B6 := Lib.hid hb6
    clear hb6
    go_wp2_with fail
    go_ret
    exact ⟨rfl, B6.out⟩
end Go.Proofs.YthlcdimofagmfaaGreatDoor.Dg
