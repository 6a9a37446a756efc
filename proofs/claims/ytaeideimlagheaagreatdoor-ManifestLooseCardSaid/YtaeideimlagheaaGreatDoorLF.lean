/-
  The law's loose: a line with its blanks doubled, padded, with a note. At most 1000 bytes each. No other condition.
-/
import Derived.Test.YtaeideimlagheaaGreatDoorM8
import Derived.Test.YtaeideimlagheaaGreatDoorRW
namespace Go.Proofs.YtaeideimlagheaaGreatDoor
open Go.RowKit Go.Sort Go.Lib Go.Shelf Go.Proofs
set_option linter.unusedSimpArgs false
set_option linter.unnecessarySimpa false
set_option linter.unusedVariables false
def dblA (w : Bool) (s : ByteArray) (k : Nat) : ByteArray := bA (dblL w (s.data.toList.take k))
theorem bA_app (a b : List UInt8) : bA (a ++ b) = bA a ++ bA b := by
  apply ByteArray.ext; apply Array.ext'
  simp [bA, ByteArray.data_append]
theorem bA_list (l : List UInt8) : (bA l).data.toList = l := by simp [bA]
theorem bA_of (s : ByteArray) : bA s.data.toList = s := by
  apply ByteArray.ext; apply Array.ext'; simp [bA]
theorem bA_size (l : List UInt8) : (bA l).size = l.length := by show l.toArray.size = _; rw [List.size_toArray]
theorem take_byte {s : ByteArray} {k : Nat} (h : k < s.size) : s.data.toList.take (k + 1) = s.data.toList.take k ++ [s[k]] := by
  have hl : k < s.data.toList.length := by simpa using h
  rw [← List.take_append_getElem hl]; rfl
theorem byte_one {s : ByteArray} {k : Nat} (h : k < s.size) : s.extract k (k + 1) = bA [s[k]] := by
  apply ByteArray.ext; apply Array.ext'
  rw [ex_sl]
  unfold sl
  rw [drop_at' s k h]
  simp [bA]
theorem dblA_one {s : ByteArray} {k : Nat} {w : Bool} (h : k < s.size) (hb : ¬ (w = true ∧ s[k] = 32)) : dblA w s (k + 1) = dblA w s k ++ s.extract k (k + 1) := by
  unfold dblA
  rw [take_byte h, dblL_app, bA_app, byte_one h]
  congr 1
  unfold dblL
  simp [hb]
theorem dblA_three {s : ByteArray} {k : Nat} (h : k < s.size) (hb : s[k] = 32) : dblA true s (k + 1) = dblA true s k ++ (⟨#[32, 32]⟩ : ByteArray) ++ s.extract k (k + 1) := by
  unfold dblA
  rw [take_byte h, dblL_app, bA_app, byte_one h, hb, ByteArray.append_assoc]
  congr 1
theorem dblA_size (w : Bool) (s : ByteArray) (k : Nat) : (dblA w s k).size ≤ 3 * s.size := by
  unfold dblA
  rw [bA_size]
  have h1 := dblL_len w (s.data.toList.take k)
  have h2 : (s.data.toList.take k).length ≤ s.size := by rw [List.length_take]; simp; omega
  omega
theorem dblA_full (w : Bool) (s : ByteArray) : dblA w s s.size = bA (dblL w s.data.toList) := by
  unfold dblA
  rw [List.take_of_length_le (by simp)]
def padA (v : Nat) (a : ByteArray) : ByteArray := bA (padL v a.data.toList)
def looseA (s note : ByteArray) (v : Nat) : ByteArray := bA (looseL s.data.toList note.data.toList v)
set_option maxRecDepth 100000 in
set_option maxHeartbeats 4000000 in
theorem loose_any (s note : ByteArray) (v : Nat) (hs : s.size ≤ 1000) (hn : note.size ≤ 1000) (hv : v ≤ 255) (w : World) :
    Calls Tryz.prog 25 #[.string s, .string note, .int .u8 (v : Int)] w fun e w' => e = .returned (.string (looseA s note v)) ∧ w' = w := by
  have e2 : (v : Int).tmod 2 = ((v % 2 : Nat) : Int) := by rw [Int.tmod_eq_emod_of_nonneg (by omega)]; omega
  have e4 : (v : Int).tmod 4 = ((v % 4 : Nat) : Int) := by rw [Int.tmod_eq_emod_of_nonneg (by omega)]; omega
  have e8 : (v : Int).tmod 8 = ((v % 8 : Nat) : Int) := by rw [Int.tmod_eq_emod_of_nonneg (by omega)]; omega
  obtain ⟨v2, hv2⟩ : ∃ v2, v2 = v % 2 := ⟨_, rfl⟩
  obtain ⟨v4, hv4⟩ : ∃ v4, v4 = v % 4 := ⟨_, rfl⟩
  obtain ⟨v8, hv8⟩ : ∃ v8, v8 = v % 8 := ⟨_, rfl⟩
  have HV2 := Lib.hid hv2
  have HV4 := Lib.hid hv4
  have HV8 := Lib.hid hv8
  rw [← hv2] at e2
  rw [← hv4] at e4
  rw [← hv8] at e8
  have l2 : v2 ≤ 1 := by omega
  have l4 : v4 ≤ 3 := by omega
  have l8 : v8 ≤ 7 := by omega
  clear hv2 hv4 hv8
  have HFIN : Hid (∀ a b c : ByteArray, a = bA (dblL (wideN v) s.data.toList) → b = padA v a → c = bA (noteL v note.data.toList b.data.toList) → looseA s note v = c) := Lib.hid (by
    rintro a b c rfl rfl rfl
    unfold looseA looseL padA
    rw [bA_list, bA_list])
  have HS := Lib.hid hs
  have HNS := Lib.hid hn
  go_enter Tryz.func25, Tryz.ntmps25
  go_wp2_with fail
  go_loopw [7, 8] (fun s7 s8 wr => ∃ k : Nat, s8 = .int .i64 (k : Int) ∧ s7 = .string (dblA (wideN v) s k) ∧ k ≤ s.size ∧ wr = w) (fun _ s8 _ => (s.size - intOf s8).toNat)
  case atStart => exact ⟨0, rfl, rfl, by omega, rfl⟩
  case round =>
    obtain ⟨k, rfl, rfl, hk, rfl⟩ := hrel
    by_cases hlt : k < s.size
    · have hkl : (k : Int) < (s.size : Int) := by omega
      have HK1 := Lib.hid (show k + 1 ≤ s.size by omega)
      have hsz := dblA_size (wideN v) s k
      have hx1 : (s.extract k (k + 1)).size = 1 := by simp; omega
      have t1 : IntKind.i64.wrap ((k : Int) + 1) = (k : Int) + 1 := IntWalk.i64_in _ (by omega)
      have t2 : ((k : Int) + 1).toNat = k + 1 := by omega
      have b1 : (k : Int) + 1 ≤ (s.size : Int) := by omega
      have b2 : (k : Int) ≤ (k : Int) + 1 := by omega
      have b3 : (0 : Int) ≤ (k : Int) + 1 := by omega
      have HONE := Lib.hid (fun h => dblA_one (w := wideN v) hlt h)
      have H3 := Lib.hid (fun h => dblA_three hlt h)
      by_cases hb : s[k] = 32
      · have q1 : (((s[k]).toNat : Int) == 32) = true := by rw [hb]; rfl
        have q1p : ((s[k]).toNat : Int) = 32 := by rw [hb]; rfl
        by_cases hw : v2 = 1
        · have q2 : ((v2 : Int) == 1) = true := by simp [hw]
          have hww : wideN v = true := by unfold wideN; rw [← HV2.out, hw]; rfl
          have HN2 := Lib.hid (show dblA (wideN v) s (k + 1) = dblA (wideN v) s k ++ (⟨#[32, 32]⟩ : ByteArray) ++ s.extract k (k + 1) by rw [hww]; exact H3.out hb)
          have hf1 : ¬ 9223372036854775807 < (dblA (wideN v) s k).size + 2 := by omega
          have hf2 : ¬ 9223372036854775807 < (dblA (wideN v) s k).size + 2 + 1 := by omega
          clear hb hww H3 HONE hlt
          generalize dblA (wideN v) s k = acc at *
          clear q2
          subst hw
          go_wp2_with fail
          go_roundw
          case rel => exact ⟨k + 1, by go_num, by rw [HN2.out], HK1.out, trivial⟩
          case measure => have := HK1.out; first | (simp [intOf]; done) | (simp [intOf]; omega)
        · have q2 : ((v2 : Int) == 1) = false := by rw [beq_eq_false_iff_ne]; omega
          have hww : wideN v = false := by unfold wideN; rw [← HV2.out]; simp [hw]
          have HN2 := Lib.hid (HONE.out (by rw [hww]; simp))
          have hf1 : ¬ 9223372036854775807 < (dblA (wideN v) s k).size + 1 := by omega
          clear hb hww H3 HONE hlt
          generalize dblA (wideN v) s k = acc at *
          go_wp2_with fail
          go_roundw
          case rel => exact ⟨k + 1, by go_num, by rw [HN2.out], HK1.out, trivial⟩
          case measure => have := HK1.out; first | (simp [intOf]; done) | (simp [intOf]; omega)
      · have q1 : (((s[k]).toNat : Int) == 32) = false := by
          rw [beq_eq_false_iff_ne]; intro h; exact hb (UInt8.toNat_inj.1 (by simpa using (by omega : (s[k]).toNat = 32)))
        have HN2 := Lib.hid (HONE.out (fun h => hb h.2))
        have hf1 : ¬ 9223372036854775807 < (dblA (wideN v) s k).size + 1 := by omega
        clear hb H3 HONE hlt
        generalize dblA (wideN v) s k = acc at *
        go_wp2_with fail
        go_roundw
        case rel => exact ⟨k + 1, by go_num, by rw [HN2.out], HK1.out, trivial⟩
        case measure => have := HK1.out; first | (simp [intOf]; done) | (simp [intOf]; omega)
    · have hkl : ¬ (k : Int) < (s.size : Int) := by omega
      obtain rfl : k = s.size := by omega
      have hsz := dblA_size (wideN v) s s.size
      have HA := Lib.hid (dblA_full (wideN v) s)
      generalize dblA (wideN v) s s.size = a at *
      clear hlt hk
      by_cases h4 : 1 < v4
      · have i4 : (1 : Int) < (v4 : Int) := by omega
        have HB := Lib.hid (show (⟨#[32]⟩ : ByteArray) ++ a ++ (⟨#[32]⟩ : ByteArray) = padA v a by
          unfold padA padL
          rw [← HV4.out, if_pos h4, bA_app, bA_app, bA_of]; rfl)
        have g1 : ¬ 9223372036854775807 < 1 + a.size := by omega
        have g2 : ¬ 9223372036854775807 < 1 + a.size + 1 := by omega
        by_cases h8 : 3 < v8
        · have i8 : (3 : Int) < (v8 : Int) := by omega
          have HCC := Lib.hid (HFIN.out a _ ((⟨#[32]⟩ : ByteArray) ++ a ++ (⟨#[32]⟩ : ByteArray) ++ (⟨#[47, 47]⟩ : ByteArray) ++ note) HA.out HB.out (by unfold noteL; rw [← HV8.out, if_pos h8, bA_app, bA_app, bA_of, bA_of]; rfl))
          have g3 : ¬ 9223372036854775807 < 1 + a.size + 1 + 2 := by omega
          have g4 : ¬ 9223372036854775807 < 1 + a.size + 1 + 2 + note.size := by omega
          clear h4 h8
          go_wp2_with fail
          go_ret
          exact ⟨by rw [HCC.out]; rfl, rfl⟩
        · have i8 : ¬ (3 : Int) < (v8 : Int) := by omega
          have HCC := Lib.hid (HFIN.out a _ ((⟨#[32]⟩ : ByteArray) ++ a ++ (⟨#[32]⟩ : ByteArray)) HA.out HB.out (by unfold noteL; rw [← HV8.out, if_neg h8, bA_of]))
          clear h4 h8
          go_wp2_with fail
          go_ret
          exact ⟨by rw [HCC.out]; rfl, rfl⟩
      · have i4 : ¬ (1 : Int) < (v4 : Int) := by omega
        have HB := Lib.hid (show a = padA v a by unfold padA padL; rw [← HV4.out, if_neg h4, bA_of])
        by_cases h8 : 3 < v8
        · have i8 : (3 : Int) < (v8 : Int) := by omega
          have HCC := Lib.hid (HFIN.out a _ (a ++ (⟨#[47, 47]⟩ : ByteArray) ++ note) HA.out HB.out (by unfold noteL; rw [← HV8.out, if_pos h8, bA_app, bA_app, bA_of, bA_of]; rfl))
          have g3 : ¬ 9223372036854775807 < a.size + 2 := by omega
          have g4 : ¬ 9223372036854775807 < a.size + 2 + note.size := by omega
          clear h4 h8
          go_wp2_with fail
          go_ret
          exact ⟨by rw [HCC.out]; rfl, rfl⟩
        · have i8 : ¬ (3 : Int) < (v8 : Int) := by omega
          have HCC := Lib.hid (HFIN.out a _ a HA.out HB.out (by unfold noteL; rw [← HV8.out, if_neg h8, bA_of]))
          clear h4 h8
          go_wp2_with fail
          go_ret
          exact ⟨by rw [HCC.out]; rfl, rfl⟩
end Go.Proofs.YtaeideimlagheaaGreatDoor
