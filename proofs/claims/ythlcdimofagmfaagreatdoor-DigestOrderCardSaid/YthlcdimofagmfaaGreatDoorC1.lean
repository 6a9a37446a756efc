/-
  The order of modules: the program's, and the specification's. No condition.
-/
import Derived.Test.YthlcdimofagmfaaGreatDoorVA
import Derived.Test.YthlcdimofagmfaaGreatDoorR1
namespace Go.Proofs.YthlcdimofagmfaaGreatDoor
open Go.RowKit Go.Sort
set_option linter.unusedSimpArgs false
set_option linter.unnecessarySimpa false
set_option linter.unusedVariables false
def orI (p q : Int) : Int := if p ≠ 0 then p else q
set_option maxRecDepth 100000 in
set_option maxHeartbeats 4000000 in
theorem or_any (b : Nat) (p q : Int) (w : World) (h0 : w.cell? ⟨b, 0, none⟩ = some (.int .i64 p)) (h1 : w.cell? ⟨b, 1, none⟩ = some (.int .i64 q)) :
    Calls Tryz.prog 43 #[.slice (some ⟨b, 0, none⟩) 2 2] w fun e w' => e = .returned (.int .i64 (orI p q)) ∧ w = w' := by
  by_cases hp : p = 0
  · have hV := Lib.hid (show orI p q = q by unfold orI; rw [if_neg (by simp [hp])])
    by_cases hq : q = 0
    · subst hp hq
      go_enter Tryz.func43, Tryz.ntmps43
      go_wp2_with fail
      refine wp_loop_rounds 3 ?_
      rw [rounds_succ]; go_wp2_with fail
      rw [rounds_succ]; go_wp2_with fail
      rw [rounds_succ]; go_wp2_with fail
      go_ret
      exact ⟨ret_int hV.out.symm, rfl⟩
    · subst hp
      have q1 : (q != 0) = true := by simp [hq]
      go_enter Tryz.func43, Tryz.ntmps43
      go_wp2_with fail
      refine wp_loop_rounds 2 ?_
      rw [rounds_succ]; go_wp2_with fail
      rw [rounds_succ]; go_wp2_with fail
      go_ret
      exact ⟨ret_int hV.out.symm, rfl⟩
  · have hV := Lib.hid (show orI p q = p by unfold orI; rw [if_pos hp])
    have q1 : (p != 0) = true := by simp [hp]
    go_enter Tryz.func43, Tryz.ntmps43
    go_wp2_with fail
    refine wp_loop_rounds 1 ?_
    rw [rounds_succ]; go_wp2_with fail
    go_ret
    exact ⟨ret_int hV.out.symm, rfl⟩
theorem md_ext {x y : Md} (h0 : x.1 = y.1) (h1 : x.2.1 = y.2.1) (h2 : x.2.2.1 = y.2.2.1) (h3 : x.2.2.2 = y.2.2.2) : x = y :=
  Prod.ext h0 (Prod.ext h1 (Prod.ext h2 h3))
theorem eqMd (x y : Md) (w : World) : (Op.equalIn 10000 34 (md x) (md y)).run Tryz.prog w = .ok (decide (x = y)) w := by
  go_simp
  have e : x.1.toList = y.1.toList ↔ x.1 = y.1 := by
    rw [Go.ByteArray.toList_eq, Go.ByteArray.toList_eq]
    exact ⟨fun h => ByteArray.ext (Array.ext' h), fun h => by rw [h]⟩
  by_cases h : x = y
  · subst h; simp
  · rw [decide_eq_false h]
    by_cases h0 : x.1 = y.1 <;> by_cases h1 : x.2.1 = y.2.1 <;> by_cases h2 : x.2.2.1 = y.2.2.1 <;> by_cases h3 : x.2.2.2 = y.2.2.2 <;> first | exact absurd (md_ext h0 h1 h2 h3) h | simp [h0, h1, h2, h3, e]
/-- two modules in two blocks -/
abbrev C4 (w : World) (p : Nat) (x : Md) : Prop :=
  w.cell? ⟨p, 0, none⟩ = some (.string x.1) ∧ w.cell? ⟨p, 1, none⟩ = some (.int .i64 x.2.1) ∧ w.cell? ⟨p, 2, none⟩ = some (.int .i64 x.2.2.1) ∧ w.cell? ⟨p, 3, none⟩ = some (.int .i64 x.2.2.2)
theorem C4.keep {w w' : World} {p : Nat} {x : Md} (h : C4 w p x) (hb : Below w.heap.size w w') : C4 w' p x := ⟨cell_keep h.1 hb, cell_keep h.2.1 hb, cell_keep h.2.2.1 hb, cell_keep h.2.2.2 hb⟩
theorem C4.new (w : World) (x : Md) (T : TypeId) : C4 (w.alloc (.cells #[.string x.1, .int .i64 x.2.1, .int .i64 x.2.2.1, .int .i64 x.2.2.2] T)) w.heap.size x := ⟨by simp, by simp, by simp, by simp⟩
abbrev I4 (w0 : World) (p q : Nat) (x y : Md) (w : World) : Prop := Gr w0 w ∧ C4 w p x ∧ C4 w q y
theorem I4.keep {w0 w w' : World} {p q : Nat} {x y : Md} (h : I4 w0 p q x y w) (hg : Gr w w') : I4 w0 p q x y w' := ⟨h.1.trans hg, C4.keep h.2.1 hg.below, C4.keep h.2.2 hg.below⟩
theorem scmp_q (a b : ByteArray) (n : Int) (h : cmpB a b = n) (w : World) : Calls Tryz.prog 35 #[.string a, .string b] w fun e w' => e = .returned (.int .i64 n) ∧ w = w' :=
  (Tryz.strings_Compare a b w).mono fun _ _ ⟨he, hw⟩ => ⟨by rw [he, ← h]; rfl, hw.symm⟩
theorem vcmp_q (x y : Md) (n : Int) (h : cmp3 x.2.1 x.2.2.1 x.2.2.2 y.2.1 y.2.2.1 y.2.2.2 = n) (w : World) :
    Calls Tryz.prog 44 #[vv x.2.1 x.2.2.1 x.2.2.2, vv y.2.1 y.2.2.1 y.2.2.2] w fun e w' => e = .returned (.int .i64 n) ∧ Gr w w' :=
  (compare_gr _ _ _ _ _ _ w).mono fun _ _ ⟨he, hg⟩ => ⟨by rw [he, h], hg⟩
set_option maxRecDepth 100000 in
set_option maxHeartbeats 4000000 in
theorem mcompare_gr (x y : Md) (w : World) : Calls Tryz.prog 25 #[md x, md y] w fun e w' => e = .returned (.int .i64 (cmpM x y)) ∧ Gr w w' := by
  have q := fun w => eqMd x y w
  have hS0 : I4 w w.heap.size (w.heap.size + 1) x y ((w.alloc (.cells #[.string x.1, .int .i64 x.2.1, .int .i64 x.2.2.1, .int .i64 x.2.2.2] 34)).alloc (.cells #[.string y.1, .int .i64 y.2.1, .int .i64 y.2.2.1, .int .i64 y.2.2.2] 34)) :=
    ⟨((Gr.refl _).alloc _).alloc _, (C4.new w x 34).keep (bal _ _), by simpa using C4.new (w.alloc (.cells #[.string x.1, .int .i64 x.2.1, .int .i64 x.2.2.1, .int .i64 x.2.2.2] 34)) y 34⟩
  by_cases hxy : x = y
  · have hV := Lib.hid (show cmpM x y = 0 by rw [hxy]; exact cmpM_ok.self y)
    rw [decide_eq_true hxy] at q
    have HG := Lib.hid hS0.1
    clear hxy hS0
    unfold md at *
    go_enter Tryz.func25, Tryz.ntmps25
    go_wp2_with fail
    go_ret
    exact ⟨ret_int hV.out.symm, HG.out⟩
  · rw [decide_eq_false hxy] at q
    obtain ⟨p1, hp1⟩ : ∃ p1, cmpB x.1 y.1 = p1 := ⟨_, rfl⟩
    obtain ⟨p2, hp2⟩ : ∃ p2, cmp3 x.2.1 x.2.2.1 x.2.2.2 y.2.1 y.2.2.1 y.2.2.2 = p2 := ⟨_, rfl⟩
    have hV := Lib.hid (show cmpM x y = orI p1 p2 by rw [cmpM_eq, hp1, hp2]; rfl)
    have K1 := Lib.hid (fun w => scmp_q x.1 y.1 p1 hp1 w)
    have K2 := Lib.hid (fun w => vcmp_q x y p2 hp2 w)
    clear hxy hp1 hp2
    have HS := Lib.hid hS0
    clear hS0
    unfold md at *
    go_enter Tryz.func25, Tryz.ntmps25
    go_wp2_with fail
    have hS := HS.out
    generalize ((w.alloc (.cells #[.string x.1, .int .i64 x.2.1, .int .i64 x.2.2.1, .int .i64 x.2.2.2] 34)).alloc (.cells #[.string y.1, .int .i64 y.2.1, .int .i64 y.2.2.1, .int .i64 y.2.2.2] 34)) = W at *
    clear q
    go_region_held3 (fun w' => I4 w w.heap.size (w.heap.size + 1) x y w') (first | assumption | exact I4.keep (by assumption) ((Gr.refl _).drew) | exact I4.keep (by assumption) (by assumption) | exact I4.keep (by assumption) ((Gr.refl _).alloc _))
      (first | (go_at_call 35; ((with_reducible refine (K1.out _).mono ?_)); rintro e w' ⟨rfl, rfl⟩) | (go_at_call 44; ((with_reducible refine (K2.out _).mono ?_)); rintro e w' ⟨rfl, hg⟩) | (go_at_call 43; ((with_reducible refine (or_any _ p1 p2 _ (by go_simp) (by go_simp)).mono ?_)); rintro e w' ⟨rfl, rfl⟩))
    all_goals
      go_wp2_with fail
      go_ret
      exact ⟨ret_int hV.out.symm, (show I4 w w.heap.size (w.heap.size + 1) x y _ by assumption).1⟩
theorem mcompare_any (x y : Md) (n : Int) (h : cmpM x y = n) (w : World) : Calls Tryz.prog 25 #[md x, md y] w fun e w' => e = .returned (.int .i64 n) ∧ Below w.heap.size w w' := by
  subst h
  exact (mcompare_gr x y w).mono fun _ _ ⟨he, hg⟩ => ⟨he, hg.below⟩
theorem cmpB_lt {a b : ByteArray} : cmpB a b = -1 ↔ a.data.toList < b.data.toList := by
  unfold cmpB cmpL
  generalize a.data.toList = l
  generalize b.data.toList = m
  induction l generalizing m with
  | nil => cases m with
    | nil => simp [Lib.compareBytes]
    | cons c t => simp [Lib.compareBytes]
  | cons c t ih => cases m with
    | nil => simp [Lib.compareBytes]
    | cons d u =>
      show (if c < d then (-1 : Int) else if d < c then 1 else Lib.compareBytes t u) = -1 ↔ _
      rw [List.cons_lt_cons_iff]
      by_cases h1 : c < d
      · simp [h1]
      · by_cases h2 : d < c
        · have : ¬ c = d := fun e => by rw [e] at h2; exact UInt8.lt_irrefl _ h2
          simp [h1, h2, this]
        · have : c = d := by
            apply UInt8.toNat_inj.1
            simp only [UInt8.lt_iff_toNat_lt] at h1 h2; omega
          simp [h1, h2, this, ih]
end Go.Proofs.YthlcdimofagmfaaGreatDoor
