import Derived.Test.YtmkmbpiaolmncaaDoorRef1
namespace Go.Proofs.YtmkmbpiaolmncaaDoor
open Go.RowKit

theorem rhas_at (s : BS) (k : Nat) (hk : k < 256) (v : Bool) (h : s.getLsbD k = v) (w : World) :
    Calls Tryd.prog 33 #[st s, .int .i64 (k : Int)] w fun e w' => e = .returned (.bool v) ∧ Below w.heap.size w w' :=
  (rhas_in s k (by omega) (by omega) w).mono fun _ _ ⟨he, hb⟩ => ⟨by rw [he, Int.toNat_natCast, h], hb⟩
theorem with_at (s : BS) (k : Nat) (hk : k < 256) (w : World) :
    Calls Tryd.prog 32 #[st s, .int .i64 (k : Int)] w fun e w' => e = .returned (st (wth s k)) ∧ Below w.heap.size w w' :=
  (with_any s k (by omega) (by omega) w).mono fun _ _ ⟨he, hb⟩ => ⟨by rw [he, Int.toNat_natCast], hb⟩

set_option maxRecDepth 100000 in
set_option maxHeartbeats 2000000 in
theorem ror_any (a b : BS) (w : World) :
    Calls Tryd.prog 18 #[st a, st b] w fun e w' => e = .returned (st (a ||| b)) ∧ Below w.heap.size w w' := by
  unfold st
  go_enter Tryd.func18, Tryd.ntmps18
  go_wp2
  go_loopw [6] (fun i wr => ∃ (k : Nat) (x : BS), i = .int .i64 (k : Int) ∧ k ≤ 256 ∧ (∀ j, j < 256 → x.getLsbD j = ((a.getLsbD j || b.getLsbD j) && decide (j < k))) ∧ Below w.heap.size w wr ∧ Row4 wr w.heap.size a ∧ Row4 wr (w.heap.size + 1) b ∧ Row4 wr (w.heap.size + 2) 0#256 ∧ Row4 wr (w.heap.size + 3) x) (fun i _ => (256 - intOf i).toNat)
  case atStart =>
    refine ⟨0, 0#256, rfl, by omega, ?_, ?_, ?_, ?_, ?_, ?_⟩
    · intro j hj; simp
    · exact ((((Below.refl _ _).alloc (Nat.le_refl _) _).alloc (by simp) _).alloc (by simp; omega) _).alloc (by simp; omega) _
    all_goals (refine ⟨by simp <;> omega, ?_, ?_, ?_, ?_, ?_, ?_, ?_, ?_⟩ <;> first | (go_simp; done) | (simp only [wd_zero]; go_simp; done))
  case round =>
    obtain ⟨k, x, rfl, hk, hx, hb, ra, rb, rr, ro⟩ := hrel
    have Hx := Lib.hid hx
    clear hx
    obtain ⟨za, a0, a1, a2, a3, fa0, fa1, fa2, fa3⟩ := id ra
    obtain ⟨zb, b0, b1, b2, b3, fb0, fb1, fb2, fb3⟩ := id rb
    by_cases hlt : k < 256
    · cases ha : a.getLsbD k <;> cases hbb : b.getLsbD k
      · have Ha := Lib.hid ha
        have Hb := Lib.hid hbb
        clear ha hbb
        go_wp2_with fail
        refine (rhas_at a k hlt false Ha.out _).mono ?_
        rintro e w1 ⟨rfl, hb1⟩
        replace ra := ra.below hb1 ra.size
        replace rb := rb.below hb1 rb.size
        replace rr := rr.below hb1 rr.size
        replace ro := ro.below hb1 ro.size
        replace hb := hb.trans (hb1.mono hb.size)
        clear za a0 a1 a2 a3 fa0 fa1 fa2 fa3 zb b0 b1 b2 b3 fb0 fb1 fb2 fb3
        obtain ⟨za, a0, a1, a2, a3, fa0, fa1, fa2, fa3⟩ := id ra
        obtain ⟨zb, b0, b1, b2, b3, fb0, fb1, fb2, fb3⟩ := id rb
        go_wp2_with fail
        refine (rhas_at b k hlt false Hb.out _).mono ?_
        rintro e w2 ⟨rfl, hb2⟩
        replace ra := ra.below hb2 ra.size
        replace rb := rb.below hb2 rb.size
        replace rr := rr.below hb2 rr.size
        replace ro := ro.below hb2 ro.size
        replace hb := hb.trans (hb2.mono hb.size)
        clear za a0 a1 a2 a3 fa0 fa1 fa2 fa3 zb b0 b1 b2 b3 fb0 fb1 fb2 fb3
        obtain ⟨za, a0, a1, a2, a3, fa0, fa1, fa2, fa3⟩ := id ra
        obtain ⟨zb, b0, b1, b2, b3, fb0, fb1, fb2, fb3⟩ := id rb
        go_wp2_with fail
        go_roundw
        case rel =>
          refine ⟨k + 1, x, by go_num, by omega, ?_, hb, ra, rb, rr, ro⟩
          intro j hj
          rw [Hx.out j hj]
          have Ha := Ha.out
          have Hb := Hb.out
          by_cases hjk : j = k
          · subst hjk; simp [Ha, Hb]
          · rw [Bool.eq_iff_iff]; simp; intros; omega
        case measure => simp [intOf]; omega
      · have Ha := Lib.hid ha
        have Hb := Lib.hid hbb
        clear ha hbb
        go_wp2_with fail
        refine (rhas_at a k hlt false Ha.out _).mono ?_
        rintro e w1 ⟨rfl, hb1⟩
        replace ra := ra.below hb1 ra.size
        replace rb := rb.below hb1 rb.size
        replace rr := rr.below hb1 rr.size
        replace ro := ro.below hb1 ro.size
        replace hb := hb.trans (hb1.mono hb.size)
        clear za a0 a1 a2 a3 fa0 fa1 fa2 fa3 zb b0 b1 b2 b3 fb0 fb1 fb2 fb3
        obtain ⟨za, a0, a1, a2, a3, fa0, fa1, fa2, fa3⟩ := id ra
        obtain ⟨zb, b0, b1, b2, b3, fb0, fb1, fb2, fb3⟩ := id rb
        go_wp2_with fail
        refine (rhas_at b k hlt true Hb.out _).mono ?_
        rintro e w2 ⟨rfl, hb2⟩
        replace ra := ra.below hb2 ra.size
        replace rb := rb.below hb2 rb.size
        replace rr := rr.below hb2 rr.size
        replace ro := ro.below hb2 ro.size
        replace hb := hb.trans (hb2.mono hb.size)
        clear za a0 a1 a2 a3 fa0 fa1 fa2 fa3 zb b0 b1 b2 b3 fb0 fb1 fb2 fb3
        obtain ⟨za, a0, a1, a2, a3, fa0, fa1, fa2, fa3⟩ := id ra
        obtain ⟨zb, b0, b1, b2, b3, fb0, fb1, fb2, fb3⟩ := id rb
        obtain ⟨zo, o0, o1, o2, o3, fo0, fo1, fo2, fo3⟩ := id ro
        go_wp2_with fail
        refine (with_at x k hlt _).mono ?_
        rintro e w3 ⟨rfl, hb3⟩
        replace ra := ra.below hb3 ra.size
        replace rb := rb.below hb3 rb.size
        replace rr := rr.below hb3 rr.size
        replace ro := ro.below hb3 ro.size
        replace hb := hb.trans (hb3.mono hb.size)
        clear zo o0 o1 o2 o3 fo0 fo1 fo2 fo3
        obtain ⟨zo, o0, o1, o2, o3, fo0, fo1, fo2, fo3⟩ := id ro
        go_wp2_with fail
        go_roundw
        case rel =>
          refine ⟨k + 1, wth x k, by go_num, by omega, ?_, below_put4 hb (by omega) _, ra.put_other _ (by omega), rb.put_other _ (by omega), rr.put_other _ (by omega), ro.put _⟩
          intro j hj
          rw [mem_wth x k j hj, Hx.out j hj]
          have Ha := Ha.out
          have Hb := Hb.out
          by_cases hjk : j = k
          · subst hjk; simp [Ha, Hb]
          · rw [Bool.eq_iff_iff]; simp [hjk]; intros; omega
        case measure => simp [intOf]; omega
      · have Ha := Lib.hid ha
        have Hb := Lib.hid hbb
        clear ha hbb
        go_wp2_with fail
        refine (rhas_at a k hlt true Ha.out _).mono ?_
        rintro e w1 ⟨rfl, hb1⟩
        replace ra := ra.below hb1 ra.size
        replace rb := rb.below hb1 rb.size
        replace rr := rr.below hb1 rr.size
        replace ro := ro.below hb1 ro.size
        replace hb := hb.trans (hb1.mono hb.size)
        clear za a0 a1 a2 a3 fa0 fa1 fa2 fa3 zb b0 b1 b2 b3 fb0 fb1 fb2 fb3
        obtain ⟨za, a0, a1, a2, a3, fa0, fa1, fa2, fa3⟩ := id ra
        obtain ⟨zb, b0, b1, b2, b3, fb0, fb1, fb2, fb3⟩ := id rb
        obtain ⟨zo, o0, o1, o2, o3, fo0, fo1, fo2, fo3⟩ := id ro
        go_wp2_with fail
        refine (with_at x k hlt _).mono ?_
        rintro e w3 ⟨rfl, hb3⟩
        replace ra := ra.below hb3 ra.size
        replace rb := rb.below hb3 rb.size
        replace rr := rr.below hb3 rr.size
        replace ro := ro.below hb3 ro.size
        replace hb := hb.trans (hb3.mono hb.size)
        clear zo o0 o1 o2 o3 fo0 fo1 fo2 fo3
        obtain ⟨zo, o0, o1, o2, o3, fo0, fo1, fo2, fo3⟩ := id ro
        go_wp2_with fail
        go_roundw
        case rel =>
          refine ⟨k + 1, wth x k, by go_num, by omega, ?_, below_put4 hb (by omega) _, ra.put_other _ (by omega), rb.put_other _ (by omega), rr.put_other _ (by omega), ro.put _⟩
          intro j hj
          rw [mem_wth x k j hj, Hx.out j hj]
          have Ha := Ha.out
          have Hb := Hb.out
          by_cases hjk : j = k
          · subst hjk; simp [Ha, Hb]
          · rw [Bool.eq_iff_iff]; simp [hjk]; intros; omega
        case measure => simp [intOf]; omega
      · have Ha := Lib.hid ha
        have Hb := Lib.hid hbb
        clear ha hbb
        go_wp2_with fail
        refine (rhas_at a k hlt true Ha.out _).mono ?_
        rintro e w1 ⟨rfl, hb1⟩
        replace ra := ra.below hb1 ra.size
        replace rb := rb.below hb1 rb.size
        replace rr := rr.below hb1 rr.size
        replace ro := ro.below hb1 ro.size
        replace hb := hb.trans (hb1.mono hb.size)
        clear za a0 a1 a2 a3 fa0 fa1 fa2 fa3 zb b0 b1 b2 b3 fb0 fb1 fb2 fb3
        obtain ⟨za, a0, a1, a2, a3, fa0, fa1, fa2, fa3⟩ := id ra
        obtain ⟨zb, b0, b1, b2, b3, fb0, fb1, fb2, fb3⟩ := id rb
        obtain ⟨zo, o0, o1, o2, o3, fo0, fo1, fo2, fo3⟩ := id ro
        go_wp2_with fail
        refine (with_at x k hlt _).mono ?_
        rintro e w3 ⟨rfl, hb3⟩
        replace ra := ra.below hb3 ra.size
        replace rb := rb.below hb3 rb.size
        replace rr := rr.below hb3 rr.size
        replace ro := ro.below hb3 ro.size
        replace hb := hb.trans (hb3.mono hb.size)
        clear zo o0 o1 o2 o3 fo0 fo1 fo2 fo3
        obtain ⟨zo, o0, o1, o2, o3, fo0, fo1, fo2, fo3⟩ := id ro
        go_wp2_with fail
        go_roundw
        case rel =>
          refine ⟨k + 1, wth x k, by go_num, by omega, ?_, below_put4 hb (by omega) _, ra.put_other _ (by omega), rb.put_other _ (by omega), rr.put_other _ (by omega), ro.put _⟩
          intro j hj
          rw [mem_wth x k j hj, Hx.out j hj]
          have Ha := Ha.out
          have Hb := Hb.out
          by_cases hjk : j = k
          · subst hjk; simp [Ha, Hb]
          · rw [Bool.eq_iff_iff]; simp [hjk]; intros; omega
        case measure => simp [intOf]; omega
    · have e : x = a ||| b := by
        apply BitVec.eq_of_getLsbD_eq
        intro j hj
        rw [Hx.out j hj]
        have : j < k := by omega
        simp [this]
      subst e
      obtain ⟨zr, r0, r1, r2, r3, fr0, fr1, fr2, fr3⟩ := id rr
      obtain ⟨zo, o0, o1, o2, o3, fo0, fo1, fo2, fo3⟩ := id ro
      go_wp2_with fail
      refine bodyPost_ret (v := st (a ||| b)) (by simp [results, Tryd.results18, go_sem, r0, r1, r2, r3, zr]) rfl ⟨rfl, ?_⟩
      exact (((hb.setCell (by simp; omega) _).setCell (by simp; omega) _).setCell (by simp; omega) _).setCell (by simp; omega) _

set_option maxRecDepth 100000 in
set_option maxHeartbeats 2000000 in
theorem rand_any (a b : BS) (w : World) :
    Calls Tryd.prog 20 #[st a, st b] w fun e w' => e = .returned (st (a &&& b)) ∧ Below w.heap.size w w' := by
  unfold st
  go_enter Tryd.func20, Tryd.ntmps20
  go_wp2
  go_loopw [6] (fun i wr => ∃ (k : Nat) (x : BS), i = .int .i64 (k : Int) ∧ k ≤ 256 ∧ (∀ j, j < 256 → x.getLsbD j = ((a.getLsbD j && b.getLsbD j) && decide (j < k))) ∧ Below w.heap.size w wr ∧ Row4 wr w.heap.size a ∧ Row4 wr (w.heap.size + 1) b ∧ Row4 wr (w.heap.size + 2) 0#256 ∧ Row4 wr (w.heap.size + 3) x) (fun i _ => (256 - intOf i).toNat)
  case atStart =>
    refine ⟨0, 0#256, rfl, by omega, ?_, ?_, ?_, ?_, ?_, ?_⟩
    · intro j hj; simp
    · exact ((((Below.refl _ _).alloc (Nat.le_refl _) _).alloc (by simp) _).alloc (by simp; omega) _).alloc (by simp; omega) _
    all_goals (refine ⟨by simp <;> omega, ?_, ?_, ?_, ?_, ?_, ?_, ?_, ?_⟩ <;> first | (go_simp; done) | (simp only [wd_zero]; go_simp; done))
  case round =>
    obtain ⟨k, x, rfl, hk, hx, hb, ra, rb, rr, ro⟩ := hrel
    have Hx := Lib.hid hx
    clear hx
    obtain ⟨za, a0, a1, a2, a3, fa0, fa1, fa2, fa3⟩ := id ra
    obtain ⟨zb, b0, b1, b2, b3, fb0, fb1, fb2, fb3⟩ := id rb
    by_cases hlt : k < 256
    · cases ha : a.getLsbD k <;> cases hbb : b.getLsbD k
      · have Ha := Lib.hid ha
        have Hb := Lib.hid hbb
        clear ha hbb
        go_wp2_with fail
        refine (rhas_at a k hlt false Ha.out _).mono ?_
        rintro e w1 ⟨rfl, hb1⟩
        replace ra := ra.below hb1 ra.size
        replace rb := rb.below hb1 rb.size
        replace rr := rr.below hb1 rr.size
        replace ro := ro.below hb1 ro.size
        replace hb := hb.trans (hb1.mono hb.size)
        clear za a0 a1 a2 a3 fa0 fa1 fa2 fa3 zb b0 b1 b2 b3 fb0 fb1 fb2 fb3
        obtain ⟨za, a0, a1, a2, a3, fa0, fa1, fa2, fa3⟩ := id ra
        obtain ⟨zb, b0, b1, b2, b3, fb0, fb1, fb2, fb3⟩ := id rb
        go_wp2_with fail
        go_roundw
        case rel =>
          refine ⟨k + 1, x, by go_num, by omega, ?_, hb, ra, rb, rr, ro⟩
          intro j hj
          rw [Hx.out j hj]
          have Ha := Ha.out
          have Hb := Hb.out
          by_cases hjk : j = k
          · subst hjk; simp [Ha, Hb]
          · rw [Bool.eq_iff_iff]; simp; intros; omega
        case measure => simp [intOf]; omega
      · have Ha := Lib.hid ha
        have Hb := Lib.hid hbb
        clear ha hbb
        go_wp2_with fail
        refine (rhas_at a k hlt false Ha.out _).mono ?_
        rintro e w1 ⟨rfl, hb1⟩
        replace ra := ra.below hb1 ra.size
        replace rb := rb.below hb1 rb.size
        replace rr := rr.below hb1 rr.size
        replace ro := ro.below hb1 ro.size
        replace hb := hb.trans (hb1.mono hb.size)
        clear za a0 a1 a2 a3 fa0 fa1 fa2 fa3 zb b0 b1 b2 b3 fb0 fb1 fb2 fb3
        obtain ⟨za, a0, a1, a2, a3, fa0, fa1, fa2, fa3⟩ := id ra
        obtain ⟨zb, b0, b1, b2, b3, fb0, fb1, fb2, fb3⟩ := id rb
        go_wp2_with fail
        go_roundw
        case rel =>
          refine ⟨k + 1, x, by go_num, by omega, ?_, hb, ra, rb, rr, ro⟩
          intro j hj
          rw [Hx.out j hj]
          have Ha := Ha.out
          have Hb := Hb.out
          by_cases hjk : j = k
          · subst hjk; simp [Ha, Hb]
          · rw [Bool.eq_iff_iff]; simp; intros; omega
        case measure => simp [intOf]; omega
      · have Ha := Lib.hid ha
        have Hb := Lib.hid hbb
        clear ha hbb
        go_wp2_with fail
        refine (rhas_at a k hlt true Ha.out _).mono ?_
        rintro e w1 ⟨rfl, hb1⟩
        replace ra := ra.below hb1 ra.size
        replace rb := rb.below hb1 rb.size
        replace rr := rr.below hb1 rr.size
        replace ro := ro.below hb1 ro.size
        replace hb := hb.trans (hb1.mono hb.size)
        clear za a0 a1 a2 a3 fa0 fa1 fa2 fa3 zb b0 b1 b2 b3 fb0 fb1 fb2 fb3
        obtain ⟨za, a0, a1, a2, a3, fa0, fa1, fa2, fa3⟩ := id ra
        obtain ⟨zb, b0, b1, b2, b3, fb0, fb1, fb2, fb3⟩ := id rb
        go_wp2_with fail
        refine (rhas_at b k hlt false Hb.out _).mono ?_
        rintro e w2 ⟨rfl, hb2⟩
        replace ra := ra.below hb2 ra.size
        replace rb := rb.below hb2 rb.size
        replace rr := rr.below hb2 rr.size
        replace ro := ro.below hb2 ro.size
        replace hb := hb.trans (hb2.mono hb.size)
        clear za a0 a1 a2 a3 fa0 fa1 fa2 fa3 zb b0 b1 b2 b3 fb0 fb1 fb2 fb3
        obtain ⟨za, a0, a1, a2, a3, fa0, fa1, fa2, fa3⟩ := id ra
        obtain ⟨zb, b0, b1, b2, b3, fb0, fb1, fb2, fb3⟩ := id rb
        go_wp2_with fail
        go_roundw
        case rel =>
          refine ⟨k + 1, x, by go_num, by omega, ?_, hb, ra, rb, rr, ro⟩
          intro j hj
          rw [Hx.out j hj]
          have Ha := Ha.out
          have Hb := Hb.out
          by_cases hjk : j = k
          · subst hjk; simp [Ha, Hb]
          · rw [Bool.eq_iff_iff]; simp; intros; omega
        case measure => simp [intOf]; omega
      · have Ha := Lib.hid ha
        have Hb := Lib.hid hbb
        clear ha hbb
        go_wp2_with fail
        refine (rhas_at a k hlt true Ha.out _).mono ?_
        rintro e w1 ⟨rfl, hb1⟩
        replace ra := ra.below hb1 ra.size
        replace rb := rb.below hb1 rb.size
        replace rr := rr.below hb1 rr.size
        replace ro := ro.below hb1 ro.size
        replace hb := hb.trans (hb1.mono hb.size)
        clear za a0 a1 a2 a3 fa0 fa1 fa2 fa3 zb b0 b1 b2 b3 fb0 fb1 fb2 fb3
        obtain ⟨za, a0, a1, a2, a3, fa0, fa1, fa2, fa3⟩ := id ra
        obtain ⟨zb, b0, b1, b2, b3, fb0, fb1, fb2, fb3⟩ := id rb
        go_wp2_with fail
        refine (rhas_at b k hlt true Hb.out _).mono ?_
        rintro e w2 ⟨rfl, hb2⟩
        replace ra := ra.below hb2 ra.size
        replace rb := rb.below hb2 rb.size
        replace rr := rr.below hb2 rr.size
        replace ro := ro.below hb2 ro.size
        replace hb := hb.trans (hb2.mono hb.size)
        clear za a0 a1 a2 a3 fa0 fa1 fa2 fa3 zb b0 b1 b2 b3 fb0 fb1 fb2 fb3
        obtain ⟨za, a0, a1, a2, a3, fa0, fa1, fa2, fa3⟩ := id ra
        obtain ⟨zb, b0, b1, b2, b3, fb0, fb1, fb2, fb3⟩ := id rb
        obtain ⟨zo, o0, o1, o2, o3, fo0, fo1, fo2, fo3⟩ := id ro
        go_wp2_with fail
        refine (with_at x k hlt _).mono ?_
        rintro e w3 ⟨rfl, hb3⟩
        replace ra := ra.below hb3 ra.size
        replace rb := rb.below hb3 rb.size
        replace rr := rr.below hb3 rr.size
        replace ro := ro.below hb3 ro.size
        replace hb := hb.trans (hb3.mono hb.size)
        clear zo o0 o1 o2 o3 fo0 fo1 fo2 fo3
        obtain ⟨zo, o0, o1, o2, o3, fo0, fo1, fo2, fo3⟩ := id ro
        go_wp2_with fail
        go_roundw
        case rel =>
          refine ⟨k + 1, wth x k, by go_num, by omega, ?_, below_put4 hb (by omega) _, ra.put_other _ (by omega), rb.put_other _ (by omega), rr.put_other _ (by omega), ro.put _⟩
          intro j hj
          rw [mem_wth x k j hj, Hx.out j hj]
          have Ha := Ha.out
          have Hb := Hb.out
          by_cases hjk : j = k
          · subst hjk; simp [Ha, Hb]
          · rw [Bool.eq_iff_iff]; simp [hjk]; intros; omega
        case measure => simp [intOf]; omega
    · have e : x = a &&& b := by
        apply BitVec.eq_of_getLsbD_eq
        intro j hj
        rw [Hx.out j hj]
        have : j < k := by omega
        simp [this]
      subst e
      obtain ⟨zr, r0, r1, r2, r3, fr0, fr1, fr2, fr3⟩ := id rr
      obtain ⟨zo, o0, o1, o2, o3, fo0, fo1, fo2, fo3⟩ := id ro
      go_wp2_with fail
      refine bodyPost_ret (v := st (a &&& b)) (by simp [results, Tryd.results20, go_sem, r0, r1, r2, r3, zr]) rfl ⟨rfl, ?_⟩
      exact (((hb.setCell (by simp; omega) _).setCell (by simp; omega) _).setCell (by simp; omega) _).setCell (by simp; omega) _

set_option maxRecDepth 100000 in
set_option maxHeartbeats 2000000 in
theorem rnot_any (a : BS) (w : World) :
    Calls Tryd.prog 22 #[st a] w fun e w' => e = .returned (st (~~~a)) ∧ Below w.heap.size w w' := by
  unfold st
  go_enter Tryd.func22, Tryd.ntmps22
  go_wp2
  go_loopw [4] (fun i wr => ∃ (k : Nat) (x : BS), i = .int .i64 (k : Int) ∧ k ≤ 256 ∧ (∀ j, j < 256 → x.getLsbD j = (!a.getLsbD j && decide (j < k))) ∧ Below w.heap.size w wr ∧ Row4 wr w.heap.size a ∧ Row4 wr (w.heap.size + 1) 0#256 ∧ Row4 wr (w.heap.size + 2) x) (fun i _ => (256 - intOf i).toNat)
  case atStart =>
    refine ⟨0, 0#256, rfl, by omega, ?_, ?_, ?_, ?_, ?_⟩
    · intro j hj; simp
    · exact (((Below.refl _ _).alloc (Nat.le_refl _) _).alloc (by simp) _).alloc (by simp; omega) _
    all_goals (refine ⟨by simp <;> omega, ?_, ?_, ?_, ?_, ?_, ?_, ?_, ?_⟩ <;> first | (go_simp; done) | (simp only [wd_zero]; go_simp; done))
  case round =>
    obtain ⟨k, x, rfl, hk, hx, hb, ra, rr, ro⟩ := hrel
    have Hx := Lib.hid hx
    clear hx
    obtain ⟨za, a0, a1, a2, a3, fa0, fa1, fa2, fa3⟩ := id ra
    by_cases hlt : k < 256
    · cases ha : a.getLsbD k
      · have Ha := Lib.hid ha
        clear ha
        go_wp2_with fail
        refine (rhas_at a k hlt false Ha.out _).mono ?_
        rintro e w1 ⟨rfl, hb1⟩
        replace ra := ra.below hb1 ra.size
        replace rr := rr.below hb1 rr.size
        replace ro := ro.below hb1 ro.size
        replace hb := hb.trans (hb1.mono hb.size)
        clear za a0 a1 a2 a3 fa0 fa1 fa2 fa3
        obtain ⟨zo, o0, o1, o2, o3, fo0, fo1, fo2, fo3⟩ := id ro
        go_wp2_with fail
        refine (with_at x k hlt _).mono ?_
        rintro e w3 ⟨rfl, hb3⟩
        replace ra := ra.below hb3 ra.size
        replace rr := rr.below hb3 rr.size
        replace ro := ro.below hb3 ro.size
        replace hb := hb.trans (hb3.mono hb.size)
        clear zo o0 o1 o2 o3 fo0 fo1 fo2 fo3
        obtain ⟨zo, o0, o1, o2, o3, fo0, fo1, fo2, fo3⟩ := id ro
        go_wp2_with fail
        go_roundw
        case rel =>
          refine ⟨k + 1, wth x k, by go_num, by omega, ?_, below_put4 hb (by omega) _, ra.put_other _ (by omega), rr.put_other _ (by omega), ro.put _⟩
          intro j hj
          rw [mem_wth x k j hj, Hx.out j hj]
          have Ha := Ha.out
          by_cases hjk : j = k
          · subst hjk; simp [Ha]
          · rw [Bool.eq_iff_iff]; simp [hjk]; intros; omega
        case measure => simp [intOf]; omega
      · have Ha := Lib.hid ha
        clear ha
        go_wp2_with fail
        refine (rhas_at a k hlt true Ha.out _).mono ?_
        rintro e w1 ⟨rfl, hb1⟩
        replace ra := ra.below hb1 ra.size
        replace rr := rr.below hb1 rr.size
        replace ro := ro.below hb1 ro.size
        replace hb := hb.trans (hb1.mono hb.size)
        clear za a0 a1 a2 a3 fa0 fa1 fa2 fa3
        go_wp2_with fail
        go_roundw
        case rel =>
          refine ⟨k + 1, x, by go_num, by omega, ?_, hb, ra, rr, ro⟩
          intro j hj
          rw [Hx.out j hj]
          have Ha := Ha.out
          by_cases hjk : j = k
          · subst hjk; simp [Ha]
          · rw [Bool.eq_iff_iff]; simp; intros; omega
        case measure => simp [intOf]; omega
    · have e : x = ~~~a := by
        apply BitVec.eq_of_getLsbD_eq
        intro j hj
        rw [Hx.out j hj, BitVec.getLsbD_not]
        have : j < k := by omega
        simp [this, hj]
      subst e
      obtain ⟨zr, r0, r1, r2, r3, fr0, fr1, fr2, fr3⟩ := id rr
      obtain ⟨zo, o0, o1, o2, o3, fo0, fo1, fo2, fo3⟩ := id ro
      go_wp2_with fail
      refine bodyPost_ret (v := st (~~~a)) (by simp [results, Tryd.results22, go_sem, r0, r1, r2, r3, zr]) rfl ⟨rfl, ?_⟩
      exact (((hb.setCell (by simp) _).setCell (by simp) _).setCell (by simp) _).setCell (by simp) _

end Go.Proofs.YtmkmbpiaolmncaaDoor
