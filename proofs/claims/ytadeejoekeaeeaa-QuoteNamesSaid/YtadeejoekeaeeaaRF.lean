/-
  The statements' own Label and Unlabel. No condition but a bound on the length for Label.
-/
import Derived.Test.YtadeejoekeaeeaaRE
import Derived.Test.YtadeejoekeaeeaaLWrites
namespace Go.Proofs.Ytadeejoekeaeeaa
open Go.RowKit
set_option linter.unusedSimpArgs false
set_option linter.unusedVariables false
theorem rident_at (s : ByteArray) (v : Bool) (h : identB s = v) (w : World) : Calls Try.prog 20 #[.string s] w fun e w' => e = .returned (.bool v) ∧ Below w.heap.size w w' := by subst h; exact rident_any s w
set_option maxHeartbeats 1000000 in
theorem rlabel_any (s : ByteArray) (hs : s.size ≤ 1099511627776) (w : World) :
    Calls Try.prog 22 #[.string s] w fun e w' => e = .returned (.string (labelV s)) ∧ Below w.heap.size w w' := by
  unfold labelV
  cases h : identB s with
  | true =>
    rw [if_pos rfl]
    have H := Lib.hid h
    clear h
    go_enter Try.func22, Try.ntmps22
    go_wp2_with fail
    refine (rident_at s true H.out _).mono ?_
    rintro e w1 ⟨rfl, hb1⟩
    have HB := Lib.hid hb1
    clear hb1
    go_wp2_with fail
    go_ret
    exact ⟨rfl, HB.out⟩
  | false =>
    rw [if_neg (by simp)]
    have H := Lib.hid h
    clear h
    go_enter Try.func22, Try.ntmps22
    go_wp2_with fail
    refine (rident_at s false H.out _).mono ?_
    rintro e w1 ⟨rfl, hb1⟩
    go_wp2_with fail
    refine (rquote_any s hs _).mono ?_
    rintro e w2 ⟨rfl, hb⟩
    have HB := Lib.hid (hb1.trans (hb.mono hb1.size))
    clear hb hb1
    go_wp2_with fail
    go_ret
    exact ⟨rfl, HB.out⟩
theorem rlabel_at (s r : ByteArray) (hs : s.size ≤ 1099511627776) (h : labelV s = r) (w : World) :
    Calls Try.prog 22 #[.string s] w fun e w' => e = .returned (.string r) ∧ Below w.heap.size w w' := by subst h; exact rlabel_any s hs w
set_option maxRecDepth 100000 in
set_option maxHeartbeats 1000000 in
theorem runlabel_any (s : ByteArray) (w : World) :
    Calls Try.prog 18 #[.string s] w fun e w' => e = .returned (uv (unl s)) ∧ Below w.heap.size w w' := by
  unfold unl
  cases h : identB s with
  | true =>
    rw [if_pos rfl]
    have H := Lib.hid h
    clear h
    unfold uv
    go_enter Try.func18, Try.ntmps18
    go_wp2_with fail
    refine (rident_at s true H.out _).mono ?_
    rintro e w1 ⟨rfl, hb⟩
    have hrc := res_keep (World.alloc_heap_new w (.cells #[.int .i64 0, .int .i64 0] 27)) hb
    obtain ⟨z9, c0, c1, f0, f1⟩ := res_facts hrc
    have hB := ((Below.refl w.heap.size w).alloc (Nat.le_refl _) (.cells #[.int .i64 0, .int .i64 0] 27)).trans (hb.mono (by simp))
    have HB := Lib.hid ((hB.setCell (p := ⟨w.heap.size, 0, none⟩) (Nat.le_refl _) (.int .i64 0)).setCell (p := ⟨w.heap.size, 1, none⟩) (Nat.le_refl _) (.int .i64 0))
    clear hb hB hrc
    go_wp2_with fail
    refine bodyPost_ret (v := .tuple #[.string s, .agg #[.int .i64 0, .int .i64 0]]) (by simp [results, Try.results18, go_sem, c0, c1, z9]) rfl ⟨by rw [ba_of rfl]; rfl, HB.out⟩
  | false =>
    rw [if_neg (by simp)]
    have H := Lib.hid h
    clear h
    have hu := runquote_any s
    unfold uv at hu ⊢
    generalize unq s.data.toList = R at *
    obtain ⟨r1, r2, r3⟩ := R
    have HU := Lib.hid hu
    clear hu
    go_enter Try.func18, Try.ntmps18
    go_wp2_with fail
    refine (rident_at s false H.out _).mono ?_
    rintro e w1 ⟨rfl, hb1⟩
    have hrc1 := res_keep (World.alloc_heap_new w (.cells #[.int .i64 0, .int .i64 0] 27)) hb1
    have hB1 := ((Below.refl w.heap.size w).alloc (Nat.le_refl _) (.cells #[.int .i64 0, .int .i64 0] 27)).trans (hb1.mono (by simp))
    clear hb1
    go_wp2_with fail
    refine (HU.out _).mono ?_
    rintro e w2 ⟨rfl, hb⟩
    have hrc := res_keep hrc1 hb
    obtain ⟨z9, c0, c1, f0, f1⟩ := res_facts hrc
    have hB := hB1.trans (hb.mono hB1.size)
    have HB := Lib.hid ((hB.setCell (p := ⟨w.heap.size, 0, none⟩) (Nat.le_refl _) (.int .i64 (r2 : Int))).setCell (p := ⟨w.heap.size, 1, none⟩) (Nat.le_refl _) (.int .i64 (r3 : Int)))
    clear hb hB hrc hrc1 hB1
    go_wp2_with fail
    refine bodyPost_ret (v := .tuple #[.string ⟨r1.toArray⟩, .agg #[.int .i64 (r2 : Int), .int .i64 (r3 : Int)]]) (by simp [results, Try.results18, go_sem, c0, c1, z9]) rfl ⟨rfl, HB.out⟩
theorem runlabel_at (s r : ByteArray) (n at_ : Nat) (h : unl s = (r.data.toList, n, at_)) (w : World) :
    Calls Try.prog 18 #[.string s] w fun e w' => e = .returned (.tuple #[.string r, .agg #[.int .i64 (n : Int), .int .i64 (at_ : Int)]]) ∧ Below w.heap.size w w' := by
  have := runlabel_any s w
  rw [h] at this
  exact this
end Go.Proofs.Ytadeejoekeaeeaa
