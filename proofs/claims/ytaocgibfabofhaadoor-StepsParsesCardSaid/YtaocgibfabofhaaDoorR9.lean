/-
  Parse returns what 'parS' says of its text, for every text. No condition.
-/
import Derived.Test.YtaocgibfabofhaaDoorR8
namespace Go.Proofs.YtaocgibfabofhaaDoor
open Go.RowKit
set_option linter.unusedSimpArgs false
set_option linter.unusedVariables false
theorem parP_nil {w w' : World} {R : List St × Nat × Nat} (a b : Nat) (h : R = ([], a, b)) (hb : Below w.heap.size w w') :
    ParP w R (.returned (.tuple #[.slice none 0 0, .agg #[.int .i64 (a : Int), .int .i64 (b : Int)]])) w' := by
  subst h
  exact ⟨_, rfl, World.ownsRow_nil _ _ _ _, hb⟩
theorem pfx_iff (s : ByteArray) : Lib.hasPrefix s.data.toList [46] = decide (ch s 0 = 46) := by
  unfold Lib.hasPrefix ch
  cases s.data.toList with
  | nil => decide
  | cons c t =>
    rw [Bool.eq_iff_iff]
    simp
    constructor
    · rintro rfl; rfl
    · intro h; exact UInt8.toNat_inj.1 h.symm
set_option maxRecDepth 100000 in
set_option maxHeartbeats 4000000 in
theorem parse_any (s : ByteArray) (w : World) : Calls Tryd.prog 17 #[.string s] w (ParP w (parS s)) := by
  by_cases hbig : 65536 < s.size
  · have HV : Hid (parS s = ([], 2, 0)) := by show parS s = _; unfold parS; rw [if_pos hbig]
    have q1 : decide ((65536 : Int) < (s.size : Int)) = true := decide_eq_true (by omega)
    have B4 := Lib.hid (((Below.refl w.heap.size w).alloc (Nat.le_refl _) (.cells #[.int .i64 2, .int .i64 0] 28)))
    clear hbig
    go_enter Tryd.func17, Tryd.ntmps17
    go_wp2_with fail
    go_step3
    go_wp2_with fail
    rw [Exit.noGoto_ret]
    refine bodyPost_ret (v := .tuple #[.slice none 0 0, .agg #[.int .i64 2, .int .i64 0]]) (by simp [results, Tryd.results17, go_sem]) rfl (parP_nil 2 0 HV.out B4.out)
  have q1 : decide ((65536 : Int) < (s.size : Int)) = false := decide_eq_false (by omega)
  by_cases hdot : s = ⟨#[46]⟩
  · subst hdot
    have HV : Hid (parS ⟨#[46]⟩ = ([], 0, 0)) := Lib.hid (by decide +kernel)
    have B4 := Lib.hid (((Below.refl w.heap.size w).alloc (Nat.le_refl _) (.cells #[.int .i64 0, .int .i64 0] 28)))
    clear hbig q1
    go_enter Tryd.func17, Tryd.ntmps17
    go_wp2_with fail
    go_step3
    go_wp2_with fail
    rw [Exit.noGoto_ret]
    refine bodyPost_ret (v := .tuple #[.slice none 0 0, .agg #[.int .i64 0, .int .i64 0]]) (by simp [results, Tryd.results17, go_sem]) rfl (parP_nil 0 0 HV.out B4.out)
  have hne : (s.toList == [46]) = false := by
    have := toList_beq hdot
    simpa using this
  by_cases hpf : ch s 0 = 46
  · have HV : Hid (parS s = ([], 8, 1)) := by show parS s = _; unfold parS; rw [if_neg hbig, if_neg hdot, if_pos hpf]
    have CP := Lib.hid (Tryd.strings_HasPrefix s ⟨#[46]⟩)
    rw [show (⟨#[46]⟩ : ByteArray).data.toList = [46] from rfl, pfx_iff, decide_eq_true hpf] at CP
    have B4 := Lib.hid (((Below.refl w.heap.size w).alloc (Nat.le_refl _) (.cells #[.int .i64 8, .int .i64 1] 28)))
    clear hbig hdot hpf
    go_enter Tryd.func17, Tryd.ntmps17
    go_wp2_with fail
    go_step3
    go_wp2_with fail
    refine (CP.out _).mono ?_
    rintro e w1 ⟨rfl, rfl⟩
    go_wp2_with fail
    rw [Exit.noGoto_ret]
    refine bodyPost_ret (v := .tuple #[.slice none 0 0, .agg #[.int .i64 8, .int .i64 1]]) (by simp [results, Tryd.results17, go_sem]) rfl (parP_nil 8 1 HV.out B4.out)
  have hp' : Lib.hasPrefix s.data.toList [46] = false := by rw [pfx_iff]; exact decide_eq_false hpf
  by_cases h91 : ch s 0 = 91
  · refine parse_idx s (by omega) hne hp' w h91 _ (Lib.hid ?_)
    unfold parS; rw [if_neg hbig, if_neg hdot, if_neg hpf, h91]; rfl
  · refine parse_lab s (by omega) hne hp' w h91 _ (Lib.hid ?_)
    unfold parS; rw [if_neg hbig, if_neg hdot, if_neg hpf, beq_eq_false_iff_ne.2 h91]
end Go.Proofs.YtaocgibfabofhaaDoor
