import Derived.Test.YtcdogfaiaddkcaaDoorSets
namespace Go.Proofs.YtcdogfaiaddkcaaDoor
open Go.RowKit

/-- the words of a set as a new block -/
abbrev blk (s : BS) : Obj := .cells #[.int .u64 (wd 0 s), .int .u64 (wd 1 s), .int .u64 (wd 2 s), .int .u64 (wd 3 s)] 24
theorem Row4.new' (w : World) (s : BS) (n : Nat) (hn : n = w.heap.size) : Row4 (w.alloc (blk s)) n s := by subst hn; exact Row4.new w s
theorem Row4.alloc {w : World} {b : Nat} {s : BS} (h : Row4 w b s) (o : Obj) : Row4 (w.alloc o) b s :=
  h.below (N := w.heap.size) ((Below.refl _ _).alloc (Nat.le_refl _) o) h.size
theorem blk_zero : blk 0#256 = .cells #[.int .u64 0, .int .u64 0, .int .u64 0, .int .u64 0] 24 := by
  unfold blk; rw [wd_zero, wd_zero, wd_zero, wd_zero]

set_option maxRecDepth 100000 in
set_option maxHeartbeats 16000000 in
theorem law_algebra (a b c : BS) (w : World) (hT : Tab w) :
    Calls Tryd.prog 9 #[st a, st b, st c] w fun e w' => e = .returned (.bool true) ∧ Below w.heap.size w w' := by
  have HT := Lib.hid hT
  have h0 := hT.1
  clear hT
  have q1 : ∀ w, (Op.equalIn 10000 24 (st (a ||| b)) (st (b ||| a))).run Tryd.prog w = .ok true w := fun w => by rw [eqS, BitVec.or_comm]; simp
  have q2 : ∀ w, (Op.equalIn 10000 24 (st (a &&& b)) (st (b &&& a))).run Tryd.prog w = .ok true w := fun w => by rw [eqS, BitVec.and_comm]; simp
  have q3 : ∀ w, (Op.equalIn 10000 24 (st (a ||| (b ||| c))) (st ((a ||| b) ||| c))).run Tryd.prog w = .ok true w := fun w => by rw [eqS, BitVec.or_assoc]; simp
  have q4 : ∀ w, (Op.equalIn 10000 24 (st (a &&& (b &&& c))) (st ((a &&& b) &&& c))).run Tryd.prog w = .ok true w := fun w => by rw [eqS, BitVec.and_assoc]; simp
  have q5 : ∀ w, (Op.equalIn 10000 24 (st (a &&& (b ||| c))) (st ((a &&& b) ||| (a &&& c)))).run Tryd.prog w = .ok true w := fun w => by
    rw [eqS]; congr 1; rw [beq_iff_eq]; ext i hi; simp [Bool.and_or_distrib_left]
  have q6 : ∀ w, (Op.equalIn 10000 24 (st (a ||| (a &&& b))) (st a)).run Tryd.prog w = .ok true w := fun w => by
    rw [eqS]; congr 1; rw [beq_iff_eq]; ext i hi; simp; intros; assumption
  have q7 : ∀ w, (Op.equalIn 10000 24 (st (a ||| ~~~a)) (st fullS)).run Tryd.prog w = .ok true w := fun w => by
    rw [eqS, ← full_not]; congr 1; rw [beq_iff_eq]; ext i hi; simp
  have q8 : ∀ w, (Op.equalIn 10000 24 (st (a &&& ~~~a)) (st 0#256)).run Tryd.prog w = .ok true w := fun w => by
    rw [eqS]; congr 1; rw [beq_iff_eq]; ext i hi; simp
  have q9 : ∀ w, (Op.equalIn 10000 24 (st (~~~(~~~a))) (st a)).run Tryd.prog w = .ok true w := fun w => by rw [eqS]; simp
  have q10 : ∀ w, (Op.equalIn 10000 24 (st (~~~(a ||| b))) (st (~~~a &&& ~~~b))).run Tryd.prog w = .ok true w := fun w => by
    rw [eqS]; congr 1; rw [beq_iff_eq]; ext i hi; simp
  have q11 : ∀ w, (Op.equalIn 10000 24 (st 115792089237316195423570985008687907853269984665640564039457584007913129639935#256) (st fullS)).run Tryd.prog w = .ok true w := fun w => by
    rw [eqS, ← full_not]; congr 1
  have q12 : ∀ w, (Op.equalIn 10000 24 (st 0#256) (st 0#256)).run Tryd.prog w = .ok true w := fun w => by rw [eqS]; simp
  have q13 : ∀ w, (Op.equalIn 10000 24 (st a) (st a)).run Tryd.prog w = .ok true w := fun w => by rw [eqS]; simp
  unfold st at q1 q2 q3 q4 q5 q6 q7 q8 q9 q10 q11 q12 q13 ⊢
  go_enter Tryd.func9, Tryd.ntmps9
  go_wp2_with fail
  refine (not_zero _).mono ?_
  rintro e w1 ⟨rfl, hb1⟩
  have R1 : Row4 w1 w.heap.size a := (((Row4.new w a).alloc (blk b)).alloc (blk c)).below hb1 (by simp; omega)
  have R2 : Row4 w1 (w.heap.size + 1) b := ((Row4.new' (w.alloc (blk a)) b _ (by simp)).alloc (blk c)).below hb1 (by simp)
  have R3 : Row4 w1 (w.heap.size + 1 + 1) c := (Row4.new' ((w.alloc (blk a)).alloc (blk b)) c _ (by simp)).below hb1 (by simp)
  have B1 : Below w.heap.size w w1 := (((((Below.refl w.heap.size w).alloc (Nat.le_refl _) (blk a)).alloc (by simp) (blk b)).alloc (by simp; omega) (blk c))).trans (hb1.mono (by simp; omega))
  obtain ⟨w0, hw0⟩ : ∃ w0, w0 = (w1.alloc (blk 0#256)).alloc (blk fullS) := ⟨_, rfl⟩
  have hS : In5 w0 w.heap.size (w.heap.size + 1) (w.heap.size + 1 + 1) w1.heap.size (w1.heap.size + 1) a b c 0#256 fullS w0 := by
    subst hw0
    exact ⟨Below.refl _ _, ((R1.alloc _).alloc _).c4, ((R2.alloc _).alloc _).c4, ((R3.alloc _).alloc _).c4, ((Row4.new w1 0#256).alloc _).c4, (Row4.new' _ _ _ (by simp)).c4⟩
  have hB : Below w.heap.size w w0 := by rw [hw0]; exact (B1.alloc B1.size _).alloc (by have := B1.size; simp; omega) _
  replace HT := Lib.hid (HT.out.below hB h0)
  have HB := Lib.hid hB
  rw [blk_zero] at hw0
  unfold blk at hw0
  have Hw := Lib.hid hw0
  clear hb1 R1 R2 R3 B1 hB hw0 h0
  go_wp2_with fail
  rw [← Hw.out]
  clear Hw
  go_region_held3 (fun w' => In5 w0 w.heap.size (w.heap.size + 1) (w.heap.size + 1 + 1) w1.heap.size (w1.heap.size + 1) a b c 0#256 fullS w') (first | exact In5.keep hS ((Below.refl _ _).drew) | exact In5.keep (by assumption) (by assumption))
    (first | (go_at_call 17; refine (or_any _ _ _).mono ?_; rintro e w' ⟨rfl, hbN⟩) | (go_at_call 19; refine (and_any _ _ _).mono ?_; rintro e w' ⟨rfl, hbN⟩))
  go_wp2_with fail
  go_region_held3 (fun w' => In5 w0 w.heap.size (w.heap.size + 1) (w.heap.size + 1 + 1) w1.heap.size (w1.heap.size + 1) a b c 0#256 fullS w') (first | exact In5.keep (by assumption) ((Below.refl _ _).drew) | exact In5.keep (by assumption) (by assumption))
    (first | (go_at_call 17; refine (or_any _ _ _).mono ?_; rintro e w' ⟨rfl, hbN⟩) | (go_at_call 19; refine (and_any _ _ _).mono ?_; rintro e w' ⟨rfl, hbN⟩) | (go_at_call 21; refine (not_any _ _).mono ?_; rintro e w' ⟨rfl, hbN⟩) | (go_at_call 14; refine (awake_any _ (tab5 HT.out (by assumption))).mono ?_; rintro e w' ⟨rfl, hbN⟩))
  go_wp2_with fail
  go_region_held3 (fun w' => In5 w0 w.heap.size (w.heap.size + 1) (w.heap.size + 1 + 1) w1.heap.size (w1.heap.size + 1) a b c 0#256 fullS w') (first | exact In5.keep (by assumption) ((Below.refl _ _).drew) | exact In5.keep (by assumption) (by assumption))
    (first | (go_at_call 17; refine (or_any _ _ _).mono ?_; rintro e w' ⟨rfl, hbN⟩) | (go_at_call 19; refine (and_any _ _ _).mono ?_; rintro e w' ⟨rfl, hbN⟩) | (go_at_call 21; refine (not_any _ _).mono ?_; rintro e w' ⟨rfl, hbN⟩) | (go_at_call 14; refine (awake_any _ (tab5 HT.out (by assumption))).mono ?_; rintro e w' ⟨rfl, hbN⟩))
  go_wp2_with fail
  go_region_held3 (fun w' => In5 w0 w.heap.size (w.heap.size + 1) (w.heap.size + 1 + 1) w1.heap.size (w1.heap.size + 1) a b c 0#256 fullS w') (first | exact In5.keep (by assumption) ((Below.refl _ _).drew) | exact In5.keep (by assumption) (by assumption))
    (first | (go_at_call 17; refine (or_any _ _ _).mono ?_; rintro e w' ⟨rfl, hbN⟩) | (go_at_call 19; refine (and_any _ _ _).mono ?_; rintro e w' ⟨rfl, hbN⟩) | (go_at_call 21; refine (not_any _ _).mono ?_; rintro e w' ⟨rfl, hbN⟩) | (go_at_call 14; refine (awake_any _ (tab5 HT.out (by assumption))).mono ?_; rintro e w' ⟨rfl, hbN⟩))
  go_wp2_with fail
  go_ret
  exact ⟨rfl, from5 HB.out (by assumption)⟩
end Go.Proofs.YtcdogfaiaddkcaaDoor
