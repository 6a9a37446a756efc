/-
  The program's Parse of every text: its walk. No condition.
-/
import Derived.Test.YthlcdimofagmfaaGreatDoorPM
import Derived.Test.YthlcdimofagmfaaGreatDoorD4
import Derived.Deep.RegionWith
import Derived.Laws.Runes
import Derived.WalkMore
import Derived.Deep.RegionHeld3
namespace Go.Proofs.YthlcdimofagmfaaGreatDoor.Dg
open Go.RowKit Go.Proofs
set_option linter.unusedSimpArgs false
set_option linter.unnecessarySimpa false
set_option linter.unusedVariables false
theorem ixr_low (c : UInt8) (h : c.toNat < 128) (w : World) :
    Calls Tryz.prog 29 #[.string ⟨#[48, 49, 50, 51, 52, 53, 54, 55, 56, 57, 97, 98, 99, 100, 101, 102]⟩, .int .i32 (c.toNat : Int)] w fun e w' => e = .returned (.int .i64 (hexI c)) ∧ w' = w :=
  ixr (c.toNat : Int) (hexI c) (by omega) (by omega) (by
    have e : ((c.toNat : Int)).toNat.toUInt8 = c := by simp
    rw [e]; rfl) w
theorem hexI_high (c : UInt8) (h : 128 ≤ c.toNat) : hexI c = -1 := by
  revert c
  exact byte_all (by decide +kernel)
theorem tail_high (c : UInt8) : 128 ≤ c.toNat → Lib.indexByte [49, 50, 51, 52, 53, 54, 55, 56, 57, 97, 98, 99, 100, 101, 102] c = -1 ∧ Lib.indexByte [50, 51, 52, 53, 54, 55, 56, 57, 97, 98, 99, 100, 101, 102] c = -1 ∧ Lib.indexByte [51, 52, 53, 54, 55, 56, 57, 97, 98, 99, 100, 101, 102] c = -1 ∧ Lib.indexByte [52, 53, 54, 55, 56, 57, 97, 98, 99, 100, 101, 102] c = -1 := by
  revert c
  exact byte_all (by decide +kernel)
abbrev digsS : ByteArray := ⟨#[48, 49, 50, 51, 52, 53, 54, 55, 56, 57, 97, 98, 99, 100, 101, 102]⟩
theorem dec_digs (k : Nat) (h : k < 16) : (Utf8.decode digsS k).2 = 1 ∧ (Utf8.decode digsS k).1 < 128 := by
  have : ∀ k : Fin 16, (Utf8.decode digsS k.val).2 = 1 ∧ (Utf8.decode digsS k.val).1 < 128 := by decide +kernel
  exact this ⟨k, h⟩
set_option maxRecDepth 100000 in
set_option maxHeartbeats 4000000 in
theorem ixr_err (w : World) :
    Calls Tryz.prog 29 #[.string ⟨#[48, 49, 50, 51, 52, 53, 54, 55, 56, 57, 97, 98, 99, 100, 101, 102]⟩, .int .i32 65533] w fun e w' => e = .returned (.int .i64 (-1)) ∧ Below w.heap.size w w' := by
  go_enter Tryz.func29, Tryz.ntmps29
  go_wp2_with fail
  go_loopw [5, 6] (fun s5 s6 wr => ∃ k : Nat, wr = w.iter digsS k ∧ k ≤ 16) (fun _ _ wr => 16 - wr.iterPos w.heap.size)
  case atStart => exact ⟨0, rfl, by omega⟩
  case round =>
    obtain ⟨k, rfl, hk⟩ := hrel
    by_cases hlt : k < 16
    · have hnx := fun ty => run_next_any (P := Tryz.prog) w digsS k ty (show k < 16 from hlt)
      obtain ⟨d1, d2⟩ := dec_digs k hlt
      have hne : ¬ (((Utf8.decode digsS k).1 : Int) = 65533) := by omega
      generalize Utf8.decode digsS k = D at *
      obtain ⟨D1, D2⟩ := D
      simp only at d1 d2 hne
      subst d1
      go_wp2_with fail
      go_roundw
      case rel => exact ⟨k + 1, rfl, by omega⟩
      case measure => simp; omega
    · obtain rfl : k = 16 := by omega
      have hnx := fun ty => run_next_end (P := Tryz.prog) w digsS 16 ty (show ¬ 16 < 16 by omega)
      go_wp2_with fail
      go_ret
      exact ⟨rfl, below_iter _ _ _⟩
theorem vr_any (r : Int) (h0 : 128 ≤ r) (h1 : r ≤ 1114111) (v : Bool) (hv : decide (r < 55296 ∨ 57343 < r) = v) (w : World) : Calls Tryz.prog 47 #[.int .i32 r] w fun e w' => e = .returned (.bool v) ∧ w' = w := by
  subst hv
  have t0 : (0 : Int) ≤ r := by omega
  by_cases h2 : r < 55296
  · go_enter Tryz.func47, Tryz.ntmps47
    go_wp2_with fail
    go_ret
    exact ⟨by simp [h2], rfl⟩
  · by_cases h3 : 57343 < r
    · go_enter Tryz.func47, Tryz.ntmps47
      go_wp2_with fail
      go_ret
      exact ⟨by simp [h2, h3], rfl⟩
    · go_enter Tryz.func47, Tryz.ntmps47
      go_wp2_with fail
      go_ret
      exact ⟨by simp [h2, h3], rfl⟩
theorem ofNat_high (n : Nat) (h0 : 128 ≤ n) (h1 : n < 256) : 128 ≤ (UInt8.ofNat n).toNat := by
  rw [UInt8.toNat_ofNat']; omega
/-- the text of a rune that is no ASCII one: two to four bytes, the last one above 127 -/
theorem enc_high (r : Int) (h0 : 128 ≤ r) (h1 : r ≤ 1114111) (hv : r < 55296 ∨ 57343 < r) :
    (∃ a b, Utf8.encode r = ⟨#[a, b]⟩ ∧ 128 ≤ b.toNat) ∨ (∃ a b c, Utf8.encode r = ⟨#[a, b, c]⟩ ∧ 128 ≤ c.toNat) ∨ (∃ a b c d, Utf8.encode r = ⟨#[a, b, c, d]⟩ ∧ 128 ≤ d.toNat) := by
  obtain ⟨n, rfl⟩ : ∃ n : Nat, r = (n : Int) := ⟨r.toNat, by omega⟩
  have hval : Utf8.valid (n : Int) = true := by
    unfold Utf8.valid
    simp
    omega
  unfold Utf8.encode
  simp only [hval, if_true, Int.toNat_natCast]
  have e1 : ¬ n < 128 := by omega
  simp only [e1, if_false]
  by_cases h2 : n < 2048
  · simp only [h2, if_true]
    exact .inl ⟨_, _, rfl, ofNat_high _ (by omega) (by omega)⟩
  · by_cases h3 : n < 65536
    · simp only [h2, h3, if_false, if_true]
      exact .inr (.inl ⟨_, _, _, rfl, ofNat_high _ (by omega) (by omega)⟩)
    · simp only [h2, h3, if_false]
      exact .inr (.inr ⟨_, _, _, _, rfl, ofNat_high _ (by omega) (by omega)⟩)
set_option maxRecDepth 100000 in
set_option maxHeartbeats 4000000 in
theorem ixr_bad (r : Int) (h0 : 128 ≤ r) (h1 : r ≤ 1114111) (hr : ¬ r = 65533) (hv : ¬ (r < 55296 ∨ 57343 < r)) (w : World) :
    Calls Tryz.prog 29 #[.string ⟨#[48, 49, 50, 51, 52, 53, 54, 55, 56, 57, 97, 98, 99, 100, 101, 102]⟩, .int .i32 r] w fun e w' => e = .returned (.int .i64 (-1)) ∧ Below w.heap.size w w' := by
  have t1 : ¬ (r < 128) := by omega
  have t2 : (0 : Int) ≤ r := by omega
  have C := Lib.hid (fun w => vr_any r h0 h1 false (by simpa using hv) w)
  clear h0 h1 hv
  go_enter Tryz.func29, Tryz.ntmps29
  go_wp2_with fail
  refine (C.out _).mono ?_
  rintro e w1 ⟨rfl, rfl⟩
  go_wp2_with fail
  go_ret
  exact ⟨rfl, Below.refl _ _⟩
theorem ixb (s : ByteArray) (c : UInt8) (n : Int) (h : Lib.indexByte s.data.toList c = n) (w : World) : Calls Tryz.prog 46 #[.string s, .int .u8 (c.toNat : Int)] w fun e w' => e = .returned (.int .i64 n) ∧ w' = w :=
  (Any.strings_IndexByte { Tryz.lays152 with } s (c.toNat : Int) w).mono fun _ _ ⟨he, hw⟩ => ⟨he.trans (by
    have e : ((c.toNat : Int)).toNat.toUInt8 = c := by simp
    rw [e, h]), hw⟩
set_option maxRecDepth 100000 in
set_option maxHeartbeats 4000000 in
theorem ixr_two (r : Int) (h0 : 128 ≤ r) (h1 : r ≤ 1114111) (hr : ¬ r = 65533) (hv : r < 55296 ∨ 57343 < r) (a b : UInt8) (he : Utf8.encode r = ⟨#[a, b]⟩) (hb : 128 ≤ b.toNat) (w : World) :
    Calls Tryz.prog 29 #[.string ⟨#[48, 49, 50, 51, 52, 53, 54, 55, 56, 57, 97, 98, 99, 100, 101, 102]⟩, .int .i32 r] w fun e w' => e = .returned (.int .i64 (-1)) ∧ Below w.heap.size w w' := by
  have t1 : ¬ (r < 128) := by omega
  have t2 : (0 : Int) ≤ r := by omega
  have C := Lib.hid (fun w => vr_any r h0 h1 true (by simpa using hv) w)
  have T := tail_high b hb
  have tne : ¬ ((49 : Int) = (b.toNat : Int)) := by omega
  have tne2 : ((49 : Int) == (b.toNat : Int)) = false := by simpa using tne
  have hx : (⟨#[48, 49, 50, 51, 52, 53, 54, 55, 56, 57, 97, 98, 99, 100, 101, 102]⟩ : ByteArray).extract 2 16 = ⟨#[50, 51, 52, 53, 54, 55, 56, 57, 97, 98, 99, 100, 101, 102]⟩ := by kernel_rfl
  have C2 := Lib.hid (fun w => ixb ((⟨#[48, 49, 50, 51, 52, 53, 54, 55, 56, 57, 97, 98, 99, 100, 101, 102]⟩ : ByteArray).extract 2 16) b (-1) (by rw [hx]; exact T.2.1) w)
  clear hx
  have cv := fun w => (run_convert_int_string (P := Tryz.prog) w 21 9 .i32 r (by rw [Tryz.underlying21]; rfl) Tryz.underlying9).trans (by rw [he])
  have ix1 : ∀ W, (Instr.index 9 (.string ⟨#[48, 49, 50, 51, 52, 53, 54, 55, 56, 57, 97, 98, 99, 100, 101, 102]⟩) (.int .i64 1)).run Tryz.prog W = .ok (.int .u8 49) W := fun W => by go_simp; rfl
  have ix2 : ∀ W, (Instr.index 9 (.string ⟨#[a, b]⟩) (.int .i64 1)).run Tryz.prog W = .ok (.int .u8 (b.toNat : Int)) W := fun W => by go_simp; rfl
  clear h0 h1 hv T he
  go_enter Tryz.func29, Tryz.ntmps29
  go_wp2_with fail
  refine (C.out _).mono ?_
  rintro e w1 ⟨rfl, rfl⟩
  go_wp2_with fail
  go_step3
  go_wp2_with fail
  refine wp_loop_rounds 1 ?_
  rw [rounds_succ]
  go_wp2_with fail
  go_step3
  go_wp2_with fail
  go_region
  go_wp2_with fail
  have hbb := Lib.hid (Below.refl w1.heap.size w1).drew
  generalize w1.drew = w3 at *
  go_region_with (go_at_call 46; (with_reducible refine (C2.out _).mono ?_); rintro e w2 ⟨rfl, rfl⟩)
  all_goals
    go_wp2_with fail
    show bodyPost Tryz.prog Tryz.f29 (fun e w' => e = Ending.returned (Value.int IntKind.i64 (-1)) ∧ Below w1.heap.size w1 w') .ret _ _
    go_ret
    exact ⟨rfl, hbb.out.drew⟩
set_option maxRecDepth 100000 in
set_option maxHeartbeats 4000000 in
theorem ixr_three (r : Int) (h0 : 128 ≤ r) (h1 : r ≤ 1114111) (hr : ¬ r = 65533) (hv : r < 55296 ∨ 57343 < r) (a b c : UInt8) (he : Utf8.encode r = ⟨#[a, b, c]⟩) (hb : 128 ≤ c.toNat) (w : World) :
    Calls Tryz.prog 29 #[.string ⟨#[48, 49, 50, 51, 52, 53, 54, 55, 56, 57, 97, 98, 99, 100, 101, 102]⟩, .int .i32 r] w fun e w' => e = .returned (.int .i64 (-1)) ∧ Below w.heap.size w w' := by
  have t1 : ¬ (r < 128) := by omega
  have t2 : (0 : Int) ≤ r := by omega
  have C := Lib.hid (fun w => vr_any r h0 h1 true (by simpa using hv) w)
  have T := tail_high c hb
  have tne : ¬ ((50 : Int) = (c.toNat : Int)) := by omega
  have tne2 : ((50 : Int) == (c.toNat : Int)) = false := by simpa using tne
  have hx : (⟨#[48, 49, 50, 51, 52, 53, 54, 55, 56, 57, 97, 98, 99, 100, 101, 102]⟩ : ByteArray).extract 3 16 = ⟨#[51, 52, 53, 54, 55, 56, 57, 97, 98, 99, 100, 101, 102]⟩ := by kernel_rfl
  have C2 := Lib.hid (fun w => ixb ((⟨#[48, 49, 50, 51, 52, 53, 54, 55, 56, 57, 97, 98, 99, 100, 101, 102]⟩ : ByteArray).extract 3 16) c (-1) (by rw [hx]; exact T.2.2.1) w)
  clear hx
  have cv := fun w => (run_convert_int_string (P := Tryz.prog) w 21 9 .i32 r (by rw [Tryz.underlying21]; rfl) Tryz.underlying9).trans (by rw [he])
  have ix1 : ∀ W, (Instr.index 9 (.string ⟨#[48, 49, 50, 51, 52, 53, 54, 55, 56, 57, 97, 98, 99, 100, 101, 102]⟩) (.int .i64 2)).run Tryz.prog W = .ok (.int .u8 50) W := fun W => by go_simp; rfl
  have ix2 : ∀ W, (Instr.index 9 (.string ⟨#[a, b, c]⟩) (.int .i64 2)).run Tryz.prog W = .ok (.int .u8 (c.toNat : Int)) W := fun W => by go_simp; rfl
  clear h0 h1 hv T he
  go_enter Tryz.func29, Tryz.ntmps29
  go_wp2_with fail
  refine (C.out _).mono ?_
  rintro e w1 ⟨rfl, rfl⟩
  go_wp2_with fail
  go_step3
  go_wp2_with fail
  refine wp_loop_rounds 1 ?_
  rw [rounds_succ]
  go_wp2_with fail
  go_step3
  go_wp2_with fail
  go_region
  go_wp2_with fail
  have hbb := Lib.hid (Below.refl w1.heap.size w1).drew
  generalize w1.drew = w3 at *
  go_region_with (go_at_call 46; (with_reducible refine (C2.out _).mono ?_); rintro e w2 ⟨rfl, rfl⟩)
  all_goals
    go_wp2_with fail
    show bodyPost Tryz.prog Tryz.f29 (fun e w' => e = Ending.returned (Value.int IntKind.i64 (-1)) ∧ Below w1.heap.size w1 w') .ret _ _
    go_ret
    exact ⟨rfl, hbb.out.drew⟩
set_option maxRecDepth 100000 in
set_option maxHeartbeats 4000000 in
theorem ixr_four (r : Int) (h0 : 128 ≤ r) (h1 : r ≤ 1114111) (hr : ¬ r = 65533) (hv : r < 55296 ∨ 57343 < r) (a b c d : UInt8) (he : Utf8.encode r = ⟨#[a, b, c, d]⟩) (hb : 128 ≤ d.toNat) (w : World) :
    Calls Tryz.prog 29 #[.string ⟨#[48, 49, 50, 51, 52, 53, 54, 55, 56, 57, 97, 98, 99, 100, 101, 102]⟩, .int .i32 r] w fun e w' => e = .returned (.int .i64 (-1)) ∧ Below w.heap.size w w' := by
  have t1 : ¬ (r < 128) := by omega
  have t2 : (0 : Int) ≤ r := by omega
  have C := Lib.hid (fun w => vr_any r h0 h1 true (by simpa using hv) w)
  have T := tail_high d hb
  have tne : ¬ ((51 : Int) = (d.toNat : Int)) := by omega
  have tne2 : ((51 : Int) == (d.toNat : Int)) = false := by simpa using tne
  have hx : (⟨#[48, 49, 50, 51, 52, 53, 54, 55, 56, 57, 97, 98, 99, 100, 101, 102]⟩ : ByteArray).extract 4 16 = ⟨#[52, 53, 54, 55, 56, 57, 97, 98, 99, 100, 101, 102]⟩ := by kernel_rfl
  have C2 := Lib.hid (fun w => ixb ((⟨#[48, 49, 50, 51, 52, 53, 54, 55, 56, 57, 97, 98, 99, 100, 101, 102]⟩ : ByteArray).extract 4 16) d (-1) (by rw [hx]; exact T.2.2.2) w)
  clear hx
  have cv := fun w => (run_convert_int_string (P := Tryz.prog) w 21 9 .i32 r (by rw [Tryz.underlying21]; rfl) Tryz.underlying9).trans (by rw [he])
  have ix1 : ∀ W, (Instr.index 9 (.string ⟨#[48, 49, 50, 51, 52, 53, 54, 55, 56, 57, 97, 98, 99, 100, 101, 102]⟩) (.int .i64 3)).run Tryz.prog W = .ok (.int .u8 51) W := fun W => by go_simp; rfl
  have ix2 : ∀ W, (Instr.index 9 (.string ⟨#[a, b, c, d]⟩) (.int .i64 3)).run Tryz.prog W = .ok (.int .u8 (d.toNat : Int)) W := fun W => by go_simp; rfl
  clear h0 h1 hv T he
  go_enter Tryz.func29, Tryz.ntmps29
  go_wp2_with fail
  refine (C.out _).mono ?_
  rintro e w1 ⟨rfl, rfl⟩
  go_wp2_with fail
  go_step3
  go_wp2_with fail
  refine wp_loop_rounds 1 ?_
  rw [rounds_succ]
  go_wp2_with fail
  go_step3
  go_wp2_with fail
  go_region
  go_wp2_with fail
  have hbb := Lib.hid (Below.refl w1.heap.size w1).drew
  generalize w1.drew = w3 at *
  go_region_with (go_at_call 46; (with_reducible refine (C2.out _).mono ?_); rintro e w2 ⟨rfl, rfl⟩)
  all_goals
    go_wp2_with fail
    show bodyPost Tryz.prog Tryz.f29 (fun e w' => e = Ending.returned (Value.int IntKind.i64 (-1)) ∧ Below w1.heap.size w1 w') .ret _ _
    go_ret
    exact ⟨rfl, hbb.out.drew⟩
theorem ixr_high (r : Int) (h0 : 128 ≤ r) (h1 : r ≤ 1114111) (w : World) :
    Calls Tryz.prog 29 #[.string ⟨#[48, 49, 50, 51, 52, 53, 54, 55, 56, 57, 97, 98, 99, 100, 101, 102]⟩, .int .i32 r] w fun e w' => e = .returned (.int .i64 (-1)) ∧ Below w.heap.size w w' := by
  by_cases hr : r = 65533
  · subst hr; exact ixr_err w
  · by_cases hv : r < 55296 ∨ 57343 < r
    · rcases enc_high r h0 h1 hv with ⟨a, b, he, hb⟩ | ⟨a, b, c, he, hb⟩ | ⟨a, b, c, d, he, hb⟩
      · exact ixr_two r h0 h1 hr hv a b he hb w
      · exact ixr_three r h0 h1 hr hv a b c he hb w
      · exact ixr_four r h0 h1 hr hv a b c d he hb w
    · exact ixr_bad r h0 h1 hr hv w
end Go.Proofs.YthlcdimofagmfaaGreatDoor.Dg
