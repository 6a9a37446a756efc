/-
  The specification's Parse returns what 'parS' says of its text. Condition: the text has at most 400 bytes.
-/
import Derived.Test.YtaocgibfabofhaaDoorQ10
namespace Go.Proofs.YtaocgibfabofhaaDoor
open Go.RowKit
set_option linter.unusedSimpArgs false
set_option linter.unusedVariables false
set_option maxRecDepth 100000 in
set_option maxHeartbeats 4000000 in
theorem rparse_any (s : ByteArray) (hs : s.size ≤ 400) (w : World) : Calls Tryd.prog 18 #[.string s] w (ParP w (parS s)) := by
  have q1 : decide ((65536 : Int) < (s.size : Int)) = false := decide_eq_false (by omega)
  by_cases hdot : s = ⟨#[46]⟩
  · subst hdot
    have HV : Hid (parS ⟨#[46]⟩ = ([], 0, 0)) := Lib.hid (by decide +kernel)
    have B4 := Lib.hid (((Below.refl w.heap.size w).alloc (Nat.le_refl _) (.cells #[.int .i64 0, .int .i64 0] 28)))
    clear q1
    go_enter Tryd.func18, Tryd.ntmps18
    go_wp2_with fail
    refine bodyPost_ret (v := .tuple #[.slice none 0 0, .agg #[.int .i64 0, .int .i64 0]]) (by simp [results, Tryd.results18, go_sem]) rfl (parP_nil 0 0 HV.out B4.out)
  have hne : (s.toList == [46]) = false := by
    have := toList_beq hdot
    simpa using this
  obtain ⟨R, hR⟩ : ∃ R, parS s = R := ⟨_, rfl⟩
  rw [hR]
  have HR : Hid ((if ch s 0 = 46 then ([], 8, 1) else parF s (s.size + 1) (ch s 0 == 91) 0 []) = R) := Lib.hid (by rw [← hR, parS, if_neg (show ¬ 65536 < s.size by omega), if_neg hdot])
  have CP := Lib.hid (fun g W h => path_any g s W h hs R HR)
  clear hdot hR
  have R0 : Hid (Rq ((w.alloc (.cells #[.int .i64 0, .int .i64 0] 28)).alloc (.cells #[.string s, .int .i64 0, .bool false] 60)) (w.heap.size + 1) s 0 false) := by
    have := World.alloc_heap_new (w.alloc (.cells #[.int .i64 0, .int .i64 0] 28)) (.cells #[.string s, .int .i64 0, .bool false] 60)
    rw [World.size_alloc] at this
    exact Lib.hid this
  have F0 : Hid (FR ((w.alloc (.cells #[.int .i64 0, .int .i64 0] 28)).alloc (.cells #[.string s, .int .i64 0, .bool false] 60)) w.heap.size) := by
    refine Lib.hid ?_
    unfold FR
    rw [Below.heap_alloc _ _ _ (by simp)]
    exact World.alloc_heap_new w _
  have B0 : Hid (Below w.heap.size w ((w.alloc (.cells #[.int .i64 0, .int .i64 0] 28)).alloc (.cells #[.string s, .int .i64 0, .bool false] 60))) := Lib.hid (((Below.refl _ _).alloc (Nat.le_refl _) _).alloc (by simp) _)
  have Z0 : w.heap.size + 2 = ((w.alloc (.cells #[.int .i64 0, .int .i64 0] 28)).alloc (.cells #[.string s, .int .i64 0, .bool false] 60)).heap.size := by simp
  go_enter Tryd.func18, Tryd.ntmps18
  go_wp2_with fail
  generalize (w.alloc (.cells #[.int .i64 0, .int .i64 0] 28)).alloc (.cells #[.string s, .int .i64 0, .bool false] 60) = w0 at *
  refine (CP.out _ _ R0.out).mono ?_
  rintro e w1 ⟨v, rfl, hP⟩
  rcases hP with ⟨hR2, q, hp, hown⟩ | ⟨q, hR2, hp⟩
  · have F1 := Lib.hid (F0.out.keep hp.1 (by omega))
    have B1 := Lib.hid (B0.out.trans (below_gb hp.1 B0.out.size (by omega)))
    have O1 := Lib.hid (own_mono hown (Nat.le_of_eq Z0))
    have HR2 := Lib.hid hR2
    obtain ⟨z, c0, c1, c2, f1, f2⟩ := hp.2.facts
    obtain ⟨z5, b0, b1, bf0, bf1⟩ := F1.out.facts
    have B5 := Lib.hid ((B1.out.setCell (p := ⟨w.heap.size, 0, none⟩) (Nat.le_refl _) (.int .i64 0)).setCell (p := ⟨w.heap.size, 1, none⟩) (Nat.le_refl _) (.int .i64 0))
    have O5 := Lib.hid (own_set2 O1.out (b := w.heap.size) (by omega) (.int .i64 0) (.int .i64 0))
    clear hR2 hp hown Z0 R0 F0 B0 CP HR
    go_wp2_with fail
    refine bodyPost_ret (v := .tuple #[v, .agg #[.int .i64 0, .int .i64 0]]) (by simp [results, Tryd.results18, go_sem, z5, b0, b1]) rfl ⟨v, by rw [HR2.out]; rfl, own_mono O5.out (by omega), B5.out⟩
  · have F1 := Lib.hid (F0.out.keep hp.1 (by omega))
    have B1 := Lib.hid (B0.out.trans (below_gb hp.1 B0.out.size (by omega)))
    have HR2 := Lib.hid hR2
    obtain ⟨z, c0, c1, c2, f1, f2⟩ := hp.2.facts
    obtain ⟨z5, b0, b1, bf0, bf1⟩ := F1.out.facts
    have B4 : Hid (Below w.heap.size w ((w1.setCell ⟨w.heap.size, 0, none⟩ (.int .i64 8)).setCell ⟨w.heap.size, 1, none⟩ (.int .i64 (q : Int)))) := Lib.hid ((B1.out.setCell (p := ⟨w.heap.size, 0, none⟩) (Nat.le_refl _) (.int .i64 8)).setCell (p := ⟨w.heap.size, 1, none⟩) (Nat.le_refl _) (.int .i64 (q : Int)))
    clear hR2 hp Z0 R0 F0 B0 CP HR
    go_wp2_with fail
    go_region
    all_goals
      go_wp2_with fail
      refine bodyPost_ret (v := .tuple #[.slice none 0 0, .agg #[.int .i64 8, .int .i64 (q : Int)]]) (by simp [results, Tryd.results18, go_sem, z5, b0, b1]) rfl ⟨.slice none 0 0, by rw [HR2.out]; rfl, by rw [HR2.out]; exact World.ownsRow_nil _ _ _ _, B4.out.drew⟩
end Go.Proofs.YtaocgibfabofhaaDoor
