/-
  The statements' own Label and Unlabel. No condition but a bound on the length for Label.
-/
import Derived.Test.YtaocgibfabofhaaDoorRE
import Derived.Test.YtaocgibfabofhaaDoorRA
namespace Go.Proofs.YtaocgibfabofhaaDoor
open Go.RowKit
set_option linter.unusedSimpArgs false
set_option linter.unusedVariables false
theorem rquote_at (s r : ByteArray) (hs : s.size ≤ 1099511627776) (h : quoteL s.data.toList = r.data.toList) (w : World) :
    Calls Tryd.prog 45 #[.string s] w fun e w' => e = .returned (.string r) ∧ Below w.heap.size w w' := by
  have := rquote_any s hs w
  rw [ba_of h.symm] at this
  exact this
theorem rident_at (s : ByteArray) (v : Bool) (h : identB s = v) (w : World) : Calls Tryd.prog 44 #[.string s] w fun e w' => e = .returned (.bool v) ∧ Below w.heap.size w w' := by subst h; exact rident_any s w
set_option maxHeartbeats 1000000 in
theorem rlabel_any (s : ByteArray) (hs : s.size ≤ 1099511627776) (w : World) :
    Calls Tryd.prog 30 #[.string s] w fun e w' => e = .returned (.string (labelV s)) ∧ Below w.heap.size w w' := by
  unfold labelV
  cases h : identB s with
  | true =>
    rw [if_pos rfl]
    have H := Lib.hid h
    clear h
    go_enter Tryd.func30, Tryd.ntmps30
    go_wp2_with fail
    refine (rident_at s true H.out _).mono ?_
    rintro e w1 ⟨rfl, hb1⟩
    have HB := Lib.hid hb1
    clear hb1
    go_wp2_with fail
    go_ret
    exact ⟨rfl, HB.out⟩
  | false =>
    rw [if_neg (by simp)]
    have H := Lib.hid h
    clear h
    go_enter Tryd.func30, Tryd.ntmps30
    go_wp2_with fail
    refine (rident_at s false H.out _).mono ?_
    rintro e w1 ⟨rfl, hb1⟩
    go_wp2_with fail
    refine (rquote_any s hs _).mono ?_
    rintro e w2 ⟨rfl, hb⟩
    have HB := Lib.hid (hb1.trans (hb.mono hb1.size))
    clear hb hb1
    go_wp2_with fail
    go_ret
    exact ⟨rfl, HB.out⟩
theorem rlabel_at (s r : ByteArray) (hs : s.size ≤ 1099511627776) (h : labelV s = r) (w : World) :
    Calls Tryd.prog 30 #[.string s] w fun e w' => e = .returned (.string r) ∧ Below w.heap.size w w' := by subst h; exact rlabel_any s hs w
end Go.Proofs.YtaocgibfabofhaaDoor
