/-
  The ranges of a set of bytes, united, are the set; they are ascending and do not touch: the law BytesetUnites. Condition: the table math/bits.deBruijn64tab holds what its text says.
-/
import Derived.Test.YtcdogfaiaddkcaaDoorOnes
import Derived.Test.YtcdogfaiaddkcaaDoorWRanges
import Derived.Deep.RegionWith
import Derived.BigQuiet
namespace Go.Proofs.YtcdogfaiaddkcaaDoor
open Go.RowKit
set_option linter.unusedSimpArgs false
set_option linter.unusedVariables false
theorem len_isU (s : BS) (n : Nat) (h : (els s 256).length = n) (w : World) :
    Calls Tryd.prog 25 #[st s] w fun e w' => e = .returned (.int .i64 (n : Int)) ∧ Below w.heap.size w w' := by subst h; exact len_any s w
theorem ranges_is (s : BS) (w : World) :
    Calls Tryd.prog 26 #[st s] w fun e w' => ∃ a c, e = .returned (.slice a (rr s 256).length c) ∧ w'.ownsRow (w.heap.size + 1) 43 2 (.slice a (rr s 256).length c) (rr s 256).length (flat (rr s 256)) ∧ Below w.heap.size w w' := by
  refine (ranges_any s w).mono ?_
  rintro e w' ⟨v, rfl, hown, hb⟩
  obtain ⟨a, c, rfl⟩ := own_shape hown
  exact ⟨a, c, rfl, hown, hb⟩
theorem of_nat (lo hi : Nat) (h0 : lo < 256) (h1 : hi < 256) (w : World) :
    Calls Tryd.prog 12 #[.int .u8 (lo : Int), .int .u8 (hi : Int)] w fun e w' => e = .returned (st (rgo lo hi)) ∧ Below w.heap.size w w' :=
  of_any lo hi (by omega) (by omega) (by omega) (by omega) w
theorem wrap_small (x : Int) (h0 : -9223372036854775808 ≤ x) (h1 : x ≤ 9223372036854775807) : IntKind.i64.wrap x = x := by simp [IntKind.wrap, IntKind.bits, IntKind.signed]; omega
/-- the two cells of range number k -/
theorem rr_cells {wr : World} {s : BS} {g c k : Nat} {p : Nat × Nat} (ho : wr.ownsRow 0 43 2 (.slice (some ⟨g, 0, none⟩) (rr s 256).length c) (rr s 256).length (flat (rr s 256))) (hp : (rr s 256).reverse[k]? = some p) :
    wr.cell? ⟨g, k * 2, none⟩ = some (.int .u8 (p.1 : Int)) ∧ wr.cell? ⟨g, k * 2 + 1, none⟩ = some (.int .u8 (p.2 : Int)) := by
  have hlt : k < (rr s 256).length := by have := (List.getElem?_eq_some_iff.1 hp).1; simpa using this
  obtain ⟨q1, q2⟩ := flatMap2 pv (fun p => .int .u8 (p.1 : Int)) (fun p => .int .u8 (p.2 : Int)) (fun _ => rfl) (rr s 256).reverse k p hp
  exact ⟨(ho.cellAt (k * 2) (by omega)).trans q1, (ho.cellAt (k * 2 + 1) (by omega)).trans q2⟩
theorem own_belowN {B N : Nat} {e : TypeId} {k : Nat} {v : Value} {n : Nat} {xs : List Value} {w w' : World} (h : w.ownsRow B e k v n xs) (hb : Below N w w') (hN : ∀ j, v.ownBlock = some j → j < N) : w'.ownsRow B e k v n xs := by
  refine ⟨h.1, ?_⟩
  rcases h.2 with h' | ⟨g, cap, cur, hv, hbg, hg, r⟩
  · exact .inl h'
  · exact .inr ⟨g, cap, cur, hv, hbg, by rw [hb.block g (hN g (by rw [hv]; rfl))]; exact hg, r⟩
set_option maxRecDepth 100000 in
set_option maxHeartbeats 4000000 in
theorem law_unites (s : BS) (w : World) (hT : Tab w) :
    Calls Tryd.prog 10 #[st s] w fun e w' => e = .returned (.bool true) ∧ Below w.heap.size w w' := by
  have HT := Lib.hid hT
  have h0 := hT.1
  clear hT
  unfold st
  go_enter Tryd.func10, Tryd.ntmps10
  go_wp2_with fail
  refine (ranges_is s _).mono ?_
  rintro e w1 ⟨a, c, rfl, hown, hb1⟩
  have R1 := (Row4.new w s).below hb1 (by simp)
  have B1 : Below w.heap.size w w1 := ((Below.refl w.heap.size w).alloc (Nat.le_refl _) _).trans (hb1.mono (by simp))
  have hln := rr_len s 256
  replace hown := Joins.ownsRow_le hown (Nat.zero_le _)
  have zz := R1.size
  have hga : ∀ j, Value.ownBlock (.slice a (rr s 256).length c) = some j → j < w1.heap.size := fun j hj => (hown.lt j hj).2
  have HGA := Lib.hid hga
  clear hga
  clear hb1
  go_wp2_with fail
  obtain ⟨L, hL⟩ : ∃ L, L = (rr s 256).length := ⟨_, rfl⟩
  have z1 := B1.size
  go_loopw [5, 6] (fun n i wr => ∃ k : Nat, i = .int .i64 (k : Int) ∧ k ≤ (rr s 256).length ∧ n = .int .i64 (smT s k : Int) ∧ wr.ownsRow 0 43 2 (.slice a (rr s 256).length c) (rr s 256).length (flat (rr s 256)) ∧ Below w.heap.size w wr ∧ Row4 wr w.heap.size s ∧ Row4 wr w1.heap.size (unT s k)) (fun _ i _ => (256 - intOf i).toNat)
  case atStart =>
    refine ⟨0, rfl, by omega, rfl, ?_, ?_, ?_, ?_⟩
    · exact hown.alloc _
    · exact B1.alloc z1 _
    · exact R1.below (N := w1.heap.size) ((Below.refl _ _).alloc (Nat.le_refl _) _) R1.size
    · have := Row4.new w1 0#256
      rw [wd_zero, wd_zero, wd_zero, wd_zero] at this
      rw [unT_zero]; exact this
  case round =>
    clear hown R1
    obtain ⟨k, rfl, hk, rfl, ho, hb, ra, rb⟩ := hrel
    by_cases hlt : k < (rr s 256).length
    · obtain ⟨g1, c1, e1⟩ := Joins.ownsRow_form ho (by omega)
      simp only [Value.slice.injEq, true_and] at e1
      obtain ⟨rfl, rfl⟩ := e1
      have hg1 : g1 < w1.heap.size := HGA.out g1 rfl
      obtain ⟨p, hp⟩ : ∃ p, (rr s 256).reverse[k]? = some p := ⟨_, List.getElem?_eq_getElem (by simpa using hlt)⟩
      obtain ⟨l1, l2⟩ := rr_cells ho hp
      obtain ⟨hp1, hp2⟩ := rrL_le hp
      have hun := unT_succ hp
      have hsm := smT_succ hp
      have hsl := smT_le s k
      have HUN := Lib.hid hun
      have HSM := Lib.hid hsm
      have HP := Lib.hid hp
      clear hun hsm hp
      have d1 : decide ((p.2 : Int) < (p.1 : Int)) = false := by simp; omega
      have e1 : IntKind.i64.wrap (p.1 : Int) = (p.1 : Int) := wrap_small _ (by omega) (by omega)
      have e2 : IntKind.i64.wrap (p.2 : Int) = (p.2 : Int) := wrap_small _ (by omega) (by omega)
      go_wp2_with fail
      have d1n : decide (p.2 < p.1) = false := by simp; omega
      by_cases hk0 : k = 0
      · have d2 : decide ((0 : Int) < (k : Int)) = false := by simp; omega
        have d2n : decide (0 < k) = false := by simp; omega
        clear hk0
        go_quiet (fail)
        clear d2 d2n
        go_wp2_with fail
        obtain ⟨W, hW⟩ : ∃ W, W = wr.drewN nq := ⟨_, rfl⟩
        have ra1 : Row4 W w.heap.size s := by rw [hW]; exact ra.below (N := wr.heap.size) belowN ra.size
        have rb1 : Row4 W w1.heap.size (unT s k) := by rw [hW]; exact rb.below (N := wr.heap.size) belowN rb.size
        have m1 : W.cell? ⟨g1, k * 2, none⟩ = some (.int .u8 (p.1 : Int)) := by rw [hW]; exact l1
        have m2 : W.cell? ⟨g1, k * 2 + 1, none⟩ = some (.int .u8 (p.2 : Int)) := by rw [hW]; exact l2
        have ho1 : W.ownsRow 0 43 2 (.slice (some ⟨g1, 0, none⟩) (rr s 256).length c) (rr s 256).length (flat (rr s 256)) := by rw [hW]; exact ho
        have hb1 : Below w.heap.size w W := by rw [hW]; exact hb.trans belowN
        rw [← hW]
        clear hW ra rb l1 l2 ho hb
        have rbD : Row4 W.drew w1.heap.size (unT s k) := rb1.below (N := W.heap.size) ((Below.refl _ _).drew) rb1.size
        obtain ⟨zb, b0, b1, b2, b3, fb0, fb1, fb2, fb3⟩ := id rb1
        go_region_with (first | (go_at_call 12; ((with_reducible refine (of_nat p.1 p.2 (by omega) (by omega) _).mono ?_)); rintro e w' ⟨rfl, hbN⟩; have rbE := rbD.below hbN rbD.size; obtain ⟨zc, b0, b1, b2, b3, fb0, fb1, fb2, fb3⟩ := id rbE) | (go_at_call 17; ((with_reducible refine (or_any (unT s k) (rgo p.1 p.2) _).mono ?_)); rintro e w'' ⟨rfl, hbM⟩; have rbF := rbE.below hbM rbE.size; obtain ⟨zd, b0, b1, b2, b3, fb0, fb1, fb2, fb3⟩ := id rbF))
        all_goals
          have BB : Below w1.heap.size W (put4 w'' w1.heap.size (unT s k ||| rgo p.1 p.2)) :=
            below_put4 ((((Below.refl W.heap.size W).drew.trans hbN).trans (hbM.mono hbN.size)).mono (Nat.le_of_lt zb)) (Nat.le_refl _) _
          have rb2 := rbF.put (unT s k ||| rgo p.1 p.2)
          have ra2 := ra1.below BB zz
          have n1 : (put4 w'' w1.heap.size (unT s k ||| rgo p.1 p.2)).cell? ⟨g1, k * 2, none⟩ = some (.int .u8 (p.1 : Int)) := by rw [BB.cell (p := ⟨g1, k * 2, none⟩) hg1]; exact m1
          have n2 : (put4 w'' w1.heap.size (unT s k ||| rgo p.1 p.2)).cell? ⟨g1, k * 2 + 1, none⟩ = some (.int .u8 (p.2 : Int)) := by rw [BB.cell (p := ⟨g1, k * 2 + 1, none⟩) hg1]; exact m2
          have ho2 := own_belowN ho1 BB HGA.out
          have hb2 := hb1.trans (BB.mono (Nat.le_of_lt zz))
          show Exit.then _ _ _ _ (put4 w'' w1.heap.size (unT s k ||| rgo p.1 p.2))
          clear BB rbF rbE rbD hbN hbM ra1 rb1 m1 m2 ho1 hb1 b0 b1 b2 b3 fb0 fb1 fb2 fb3 zd zc zb
          generalize put4 w'' w1.heap.size (unT s k ||| rgo p.1 p.2) = F at *
          have f1 : IntKind.i64.wrap ((smT s k : Int) + (p.2 : Int)) = (smT s k : Int) + (p.2 : Int) := wrap_small _ (by omega) (by omega)
          have f2 : IntKind.i64.wrap ((smT s k : Int) + (p.2 : Int) - (p.1 : Int)) = (smT s k : Int) + (p.2 : Int) - (p.1 : Int) := wrap_small _ (by omega) (by omega)
          have f3 : IntKind.i64.wrap ((smT s k : Int) + (p.2 : Int) - (p.1 : Int) + 1) = (smT s k : Int) + (p.2 : Int) - (p.1 : Int) + 1 := wrap_small _ (by omega) (by omega)
          go_wp2_with fail
          go_quiet (fail)
          clear f1 f2 f3
          go_wp2_with fail
          rw [← HUN.out] at rb2
          refine ⟨⟨k + 1, by go_num, by omega, ?_, ho2, hb2.trans belowN, ra2.below (N := F.heap.size) belowN ra2.size, rb2.below (N := F.heap.size) belowN rb2.size⟩, by simp [intOf]; omega⟩
          have := HSM.out
          congr 1
          omega
      · obtain ⟨m, hm⟩ : ∃ m, k = m + 1 := ⟨k - 1, by omega⟩
        obtain ⟨q, hq⟩ : ∃ q, (rr s 256).reverse[m]? = some q := ⟨_, List.getElem?_eq_getElem (by simp; omega)⟩
        obtain ⟨_, l3⟩ := rr_cells ho hq
        obtain ⟨hq1, hq2⟩ := rrL_le hq
        have hgap := rrL_gap hq (by rw [← hm]; exact HP.out)
        have d2 : decide ((0 : Int) < (k : Int)) = true := by simp; omega
        have d2n : 0 < k := by omega
        have d4n : decide (p.1 < q.2 + 2) = false := by simp; omega
        have e3 : IntKind.i64.wrap ((k : Int) - 1) = (m : Int) := by rw [wrap_small _ (by omega) (by omega)]; omega
        have e4 : IntKind.i64.wrap (q.2 : Int) = (q.2 : Int) := wrap_small _ (by omega) (by omega)
        have e5 : IntKind.i64.wrap ((q.2 : Int) + 2) = (q.2 : Int) + 2 := wrap_small _ (by omega) (by omega)
        have d4 : decide ((p.1 : Int) < (q.2 : Int) + 2) = false := by simp; omega
        have hml : m < (rr s 256).length := by omega
        clear hq hm hgap hq1 hq2
        go_quiet (fail)
        clear d2 d2n d4n e3 e4 e5 d4 hml l3
        go_wp2_with fail
        obtain ⟨W, hW⟩ : ∃ W, W = wr.drewN nq := ⟨_, rfl⟩
        have ra1 : Row4 W w.heap.size s := by rw [hW]; exact ra.below (N := wr.heap.size) belowN ra.size
        have rb1 : Row4 W w1.heap.size (unT s k) := by rw [hW]; exact rb.below (N := wr.heap.size) belowN rb.size
        have m1 : W.cell? ⟨g1, k * 2, none⟩ = some (.int .u8 (p.1 : Int)) := by rw [hW]; exact l1
        have m2 : W.cell? ⟨g1, k * 2 + 1, none⟩ = some (.int .u8 (p.2 : Int)) := by rw [hW]; exact l2
        have ho1 : W.ownsRow 0 43 2 (.slice (some ⟨g1, 0, none⟩) (rr s 256).length c) (rr s 256).length (flat (rr s 256)) := by rw [hW]; exact ho
        have hb1 : Below w.heap.size w W := by rw [hW]; exact hb.trans belowN
        rw [← hW]
        clear hW ra rb l1 l2 ho hb
        have rbD : Row4 W.drew w1.heap.size (unT s k) := rb1.below (N := W.heap.size) ((Below.refl _ _).drew) rb1.size
        obtain ⟨zb, b0, b1, b2, b3, fb0, fb1, fb2, fb3⟩ := id rb1
        go_region_with (first | (go_at_call 12; ((with_reducible refine (of_nat p.1 p.2 (by omega) (by omega) _).mono ?_)); rintro e w' ⟨rfl, hbN⟩; have rbE := rbD.below hbN rbD.size; obtain ⟨zc, b0, b1, b2, b3, fb0, fb1, fb2, fb3⟩ := id rbE) | (go_at_call 17; ((with_reducible refine (or_any (unT s k) (rgo p.1 p.2) _).mono ?_)); rintro e w'' ⟨rfl, hbM⟩; have rbF := rbE.below hbM rbE.size; obtain ⟨zd, b0, b1, b2, b3, fb0, fb1, fb2, fb3⟩ := id rbF))
        all_goals
          have BB : Below w1.heap.size W (put4 w'' w1.heap.size (unT s k ||| rgo p.1 p.2)) :=
            below_put4 ((((Below.refl W.heap.size W).drew.trans hbN).trans (hbM.mono hbN.size)).mono (Nat.le_of_lt zb)) (Nat.le_refl _) _
          have rb2 := rbF.put (unT s k ||| rgo p.1 p.2)
          have ra2 := ra1.below BB zz
          have n1 : (put4 w'' w1.heap.size (unT s k ||| rgo p.1 p.2)).cell? ⟨g1, k * 2, none⟩ = some (.int .u8 (p.1 : Int)) := by rw [BB.cell (p := ⟨g1, k * 2, none⟩) hg1]; exact m1
          have n2 : (put4 w'' w1.heap.size (unT s k ||| rgo p.1 p.2)).cell? ⟨g1, k * 2 + 1, none⟩ = some (.int .u8 (p.2 : Int)) := by rw [BB.cell (p := ⟨g1, k * 2 + 1, none⟩) hg1]; exact m2
          have ho2 := own_belowN ho1 BB HGA.out
          have hb2 := hb1.trans (BB.mono (Nat.le_of_lt zz))
          show Exit.then _ _ _ _ (put4 w'' w1.heap.size (unT s k ||| rgo p.1 p.2))
          clear BB rbF rbE rbD hbN hbM ra1 rb1 m1 m2 ho1 hb1 b0 b1 b2 b3 fb0 fb1 fb2 fb3 zd zc zb
          generalize put4 w'' w1.heap.size (unT s k ||| rgo p.1 p.2) = F at *
          have f1 : IntKind.i64.wrap ((smT s k : Int) + (p.2 : Int)) = (smT s k : Int) + (p.2 : Int) := wrap_small _ (by omega) (by omega)
          have f2 : IntKind.i64.wrap ((smT s k : Int) + (p.2 : Int) - (p.1 : Int)) = (smT s k : Int) + (p.2 : Int) - (p.1 : Int) := wrap_small _ (by omega) (by omega)
          have f3 : IntKind.i64.wrap ((smT s k : Int) + (p.2 : Int) - (p.1 : Int) + 1) = (smT s k : Int) + (p.2 : Int) - (p.1 : Int) + 1 := wrap_small _ (by omega) (by omega)
          go_wp2_with fail
          go_quiet (fail)
          clear f1 f2 f3
          go_wp2_with fail
          rw [← HUN.out] at rb2
          refine ⟨⟨k + 1, by go_num, by omega, ?_, ho2, hb2.trans belowN, ra2.below (N := F.heap.size) belowN ra2.size, rb2.below (N := F.heap.size) belowN rb2.size⟩, by simp [intOf]; omega⟩
          have := HSM.out
          congr 1
          omega
    · obtain rfl : k = (rr s 256).length := by omega
      rw [unT_all] at rb
      rw [smT_all]
      have q1 : ∀ w, (Op.equalIn 10000 24 (.agg #[.int .u64 (wd 0 s), .int .u64 (wd 1 s), .int .u64 (wd 2 s), .int .u64 (wd 3 s)]) (.agg #[.int .u64 (wd 0 s), .int .u64 (wd 1 s), .int .u64 (wd 2 s), .int .u64 (wd 3 s)])).run Tryd.prog w = .ok true w := fun w => by have := eqS s s w; unfold st at this; rw [this]; simp
      clear ho hL
      obtain ⟨N, hN⟩ : ∃ N, N = (els s 256).length := ⟨_, rfl⟩
      rw [← hN]
      have HN := Lib.hid hN
      clear hN
      obtain ⟨za, a0, a1, a2, a3, fa0, fa1, fa2, fa3⟩ := id ra
      obtain ⟨zb, b0, b1, b2, b3, fb0, fb1, fb2, fb3⟩ := id rb
      go_wp2_with fail
      refine (len_isU s N HN.out.symm _).mono ?_
      rintro e w5 ⟨rfl, hb5⟩
      have B5 := hb.trans (hb5.mono hb.size)
      clear hb5 q1
      go_wp2_with fail
      refine (awake_any _ (HT.out.below B5 h0)).mono ?_
      rintro e w6 ⟨rfl, hb6⟩
      have HB := Lib.hid (B5.trans (hb6.mono B5.size))
      clear hb6 B5
      go_wp2_with fail
      go_ret
      exact ⟨rfl, HB.out⟩
end Go.Proofs.YtcdogfaiaddkcaaDoor
