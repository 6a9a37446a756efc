/-
  NumsetMeasures out of what the law's alive gives.
-/
import Derived.Test.YteekccjfokoglaaAg
import Derived.Test.YteekccjfokoglaaNv
namespace Go.Proofs.Yteekccjfokoglaa
open Go.RowKit Go.Sort Go.Lib Go.Proofs
set_option linter.unusedSimpArgs false
set_option linter.unnecessarySimpa false
set_option linter.unusedVariables false
set_option maxRecDepth 100000 in
set_option maxHeartbeats 2000000 in
theorem measures_few (A1 A2 B1 B2 : Option Addr) (c1 c2 d1 d2 : Nat) (s t : NS) (w : World) (hs : Ns w A1 c1 A2 c2 s) (ht : Ns w B1 d1 B2 d2 t)
    (HAl : Hid (∀ W, Calls Try.prog 13 #[] W (EqIs true W)))
    (gs : okE s) (gt : okE t) : Calls Try.prog 6 #[nv A1 s.1.length c1 A2 s.2.length c2, nv B1 t.1.length d1 B2 t.2.length d2] w (EqIs true w) := by
  obtain ⟨hb0, hx1, hx2⟩ := box2 hs ht
  have HF := few2 A1 s.1.length c1 A2 s.2.length c2 B1 t.1.length d1 B2 t.2.length d2 (w2s w A1 s.1.length c1 A2 s.2.length c2 B1 t.1.length d1 B2 t.2.length d2)
  have hz : (w2s w A1 s.1.length c1 A2 s.2.length c2 B1 t.1.length d1 B2 t.2.length d2).heap.size = w.heap.size + 1 + 1 := by simp [w2s]
  have hbF := hb0.trans ((bal (w2s w A1 s.1.length c1 A2 s.2.length c2 B1 t.1.length d1 B2 t.2.length d2) (.cells #[.slice A1 s.1.length c1, .slice A2 s.2.length c2, .slice B1 t.1.length d1, .slice B2 t.2.length d2] 24)).mono hb0.size)
  have Xs := Lib.hid (hx1.up (bal _ (.cells #[.slice A1 s.1.length c1, .slice A2 s.2.length c2, .slice B1 t.1.length d1, .slice B2 t.2.length d2] 24)))
  have Xt := Lib.hid (hx2.up (bal _ (.cells #[.slice A1 s.1.length c1, .slice A2 s.2.length c2, .slice B1 t.1.length d1, .slice B2 t.2.length d2] 24)))
  rw [hz] at HF
  have HF' := Lib.hid HF
  clear HF
  have HB := Lib.hid hbF
  obtain ⟨fw, hfw⟩ : ∃ fw, fw = fewL [⟨A1, s.1.length, c1, A2, s.2.length, c2⟩, ⟨B1, t.1.length, d1, B2, t.2.length, d2⟩] := ⟨_, rfl⟩
  rw [← hfw] at HF'
  have HW := Lib.hid hfw
  unfold w2s at *
  clear hx1 hx2 hz hb0 hbF hfw hs ht
  go_enter Try.func6, Try.ntmps6
  go_wp2_with fail
  refine HF'.out.mono ?_
  rintro e w1 ⟨rfl, hb1⟩
  have Ys := Lib.hid (Xs.out.up hb1)
  have Yt := Lib.hid (Xt.out.up hb1)
  have HD := Lib.hid (HB.out.trans (hb1.mono HB.out.size))
  clear hb1 HB Xs Xt HF'
  cases fw
  · go_wp2_with fail
    refine (HAl.out _).mono ?_
    rintro e w2 ⟨rfl, hb2⟩
    go_wp2_with fail
    refine bodyPost_ret (v := .bool true) (by simp [results, Try.results6, go_sem]) rfl ?_
    exact ⟨rfl, HD.out.trans (hb2.mono HD.out.size)⟩
  · have hfw := HW.out
    have Os : okN 8 s := gs.few (A1 := A1) (c1 := c1) (A2 := A2) (c2 := c2) (List.all_eq_true.1 hfw.symm _ (by simp [sl2]))
    have Ot : okN 8 t := gt.few (A1 := B1) (c1 := d1) (A2 := B2) (c2 := d2) (List.all_eq_true.1 hfw.symm _ (by simp [sl2]))
    clear hfw gs gt HW
    have HO := Lib.hid (And.intro Os Ot)
    clear Os Ot
    have KP := Lib.hid (show ∀ W : World, Below w1.heap.size w1 W → W.cell? ⟨w.heap.size, 0, none⟩ = some (.slice A1 s.1.length c1) ∧ W.cell? ⟨w.heap.size, 1, none⟩ = some (.slice A2 s.2.length c2) ∧ W.cell? ⟨w.heap.size + 1, 0, none⟩ = some (.slice B1 t.1.length d1) ∧ W.cell? ⟨w.heap.size + 1, 1, none⟩ = some (.slice B2 t.2.length d2) ∧ Below w1.heap.size w1 W from fun W hb => ⟨(Ys.out.up hb).1, (Ys.out.up hb).2.1, (Yt.out.up hb).1, (Yt.out.up hb).2.1, hb⟩)
    obtain ⟨x, hx⟩ : ∃ x, x = lv (leastO s) := ⟨_, rfl⟩
    obtain ⟨p, hp⟩ : ∃ p, p = (leastO s).isSome := ⟨_, rfl⟩
    obtain ⟨y, hy⟩ : ∃ y, y = singV s := ⟨_, rfl⟩
    obtain ⟨q, hq⟩ : ∃ q, q = singB s := ⟨_, rfl⟩
    obtain ⟨n, hn⟩ : ∃ n, n = countS s := ⟨_, rfl⟩
    obtain ⟨c, hc⟩ : ∃ c, c = cmpS s t := ⟨_, rfl⟩
    have H1 := Lib.hid (show ∀ W : World, Ns W A1 c1 A2 c2 s → Calls Try.prog 39 #[nv A1 s.1.length c1 A2 s.2.length c2] W (fun e w' => e = .returned (.tuple #[.int .i64 x, .bool p]) ∧ Below W.heap.size W w') from fun W h => by
      have h := least_any A1 A2 c1 c2 s W h (HO.out.1.le (by omega)); unfold LeastIs at h; rw [← hx, ← hp] at h; exact h)
    have H2 := Lib.hid (show ∀ W : World, Ns W A1 c1 A2 c2 s → Calls Try.prog 40 #[nv A1 s.1.length c1 A2 s.2.length c2] W (fun e w' => e = .returned (.tuple #[.int .i64 x, .bool p]) ∧ Below W.heap.size W w') from fun W h => by
      have h := rleast_any A1 A2 c1 c2 s W h (HO.out.1.le (by omega)); unfold LeastIs at h; rw [← hx, ← hp] at h; exact h)
    have H3 := Lib.hid (show ∀ W : World, Ns W A1 c1 A2 c2 s → Calls Try.prog 41 #[nv A1 s.1.length c1 A2 s.2.length c2] W (fun e w' => e = .returned (.tuple #[.int .i64 y, .bool q]) ∧ Below W.heap.size W w') from fun W h => by
      have h := single_any A1 A2 c1 c2 s W h (HO.out.1.le (by omega)); unfold SingleIs at h; rw [← hy, ← hq] at h; exact h)
    have H4 := Lib.hid (show ∀ W : World, Ns W A1 c1 A2 c2 s → Calls Try.prog 42 #[nv A1 s.1.length c1 A2 s.2.length c2] W (fun e w' => e = .returned (.tuple #[.int .i64 y, .bool q]) ∧ Below W.heap.size W w') from fun W h => by
      have h := rsingle_any A1 A2 c1 c2 s W h (HO.out.1.le (by omega)); unfold SingleIs at h; rw [← hy, ← hq] at h; exact h)
    have H5 := Lib.hid (show ∀ W : World, Ns W A1 c1 A2 c2 s → Calls Try.prog 43 #[nv A1 s.1.length c1 A2 s.2.length c2] W (NumIs n W) from fun W h => by
      have h := count_any A1 A2 c1 c2 s W h (HO.out.1.le (by omega)); rw [← hn] at h; exact h)
    have H6 := Lib.hid (show ∀ W : World, Ns W A1 c1 A2 c2 s → Calls Try.prog 44 #[nv A1 s.1.length c1 A2 s.2.length c2] W (NumIs n W) from fun W h => by
      have h := rcount_any A1 A2 c1 c2 s W h (HO.out.1.le (by omega)); rw [← hn] at h; exact h)
    have H7 := Lib.hid (show ∀ W : World, Ns W A1 c1 A2 c2 s → Ns W B1 d1 B2 d2 t → Calls Try.prog 45 #[nv A1 s.1.length c1 A2 s.2.length c2, nv B1 t.1.length d1 B2 t.2.length d2] W (NumIs c W) from fun W h k => by
      have h := compare_any A1 A2 B1 B2 c1 c2 d1 d2 s t W h k (HO.out.1.le (by omega)) (HO.out.2.le (by omega)); rw [← hc] at h; exact h)
    have H8 := Lib.hid (show ∀ W : World, Ns W A1 c1 A2 c2 s → Ns W B1 d1 B2 d2 t → Calls Try.prog 46 #[nv A1 s.1.length c1 A2 s.2.length c2, nv B1 t.1.length d1 B2 t.2.length d2] W (NumIs c W) from fun W h k => by
      have h := rcompare_any A1 A2 B1 B2 c1 c2 d1 d2 s t W h k (HO.out.1.le (by omega)) (HO.out.2.le (by omega)); rw [← hc] at h; exact h)
    clear hx hp hy hq hn hc
    have gx : (x == x) = true := beq_self_eq_true x
    have gy : (y == y) = true := beq_self_eq_true y
    have gn : (n == n) = true := beq_self_eq_true n
    have gc : (c == c) = true := beq_self_eq_true c
    have HW1 := Lib.hid (drewB w1)
    obtain ⟨k0, k1, k2, k3, _⟩ := KP.out w1 (Below.refl _ _)
    have b0 : Below w1.heap.size w1 w1 := Below.refl _ _
    go_wp2_with fail
    refine (H1.out _ (Ys.out.up b0).ns).mono ?_
    rintro e v1 ⟨rfl, hb1⟩
    have b1 : Below w1.heap.size w1 v1 := b0.trans (hb1.mono b0.size)
    clear k0 k1 k2 k3 hb1
    obtain ⟨k0, k1, k2, k3, _⟩ := KP.out _ b1
    go_wp2_with fail
    refine (H2.out _ (Ys.out.up b1).ns).mono ?_
    rintro e v2 ⟨rfl, hb2⟩
    have b2 : Below w1.heap.size w1 v2 := b1.trans (hb2.mono b1.size)
    clear k0 k1 k2 k3 hb2
    obtain ⟨k0, k1, k2, k3, _⟩ := KP.out _ b2
    go_wp2_with fail
    refine (H3.out _ (Ys.out.up b2).ns).mono ?_
    rintro e v3 ⟨rfl, hb3⟩
    have b3 : Below w1.heap.size w1 v3 := b2.trans (hb3.mono b2.size)
    clear k0 k1 k2 k3 hb3
    obtain ⟨k0, k1, k2, k3, _⟩ := KP.out _ b3
    go_wp2_with fail
    refine (H4.out _ (Ys.out.up b3).ns).mono ?_
    rintro e v4 ⟨rfl, hb4⟩
    have b4 : Below w1.heap.size w1 v4 := b3.trans (hb4.mono b3.size)
    clear k0 k1 k2 k3 hb4
    obtain ⟨k0, k1, k2, k3, _⟩ := KP.out _ b4
    go_upto_region 7 with fail
    clear k0 k1 k2 k3
    have b5 : Below w1.heap.size w1 v4.drew := b4.trans ((drewB v4).mono b4.size)
    have Kb5 := KP.out _ b5
    cases p
    · cases q
      · go_region_held3 (fun w' => w'.cell? ⟨w.heap.size, 0, none⟩ = some (.slice A1 s.1.length c1) ∧ w'.cell? ⟨w.heap.size, 1, none⟩ = some (.slice A2 s.2.length c2) ∧ w'.cell? ⟨w.heap.size + 1, 0, none⟩ = some (.slice B1 t.1.length d1) ∧ w'.cell? ⟨w.heap.size + 1, 1, none⟩ = some (.slice B2 t.2.length d2) ∧ Below w1.heap.size w1 w')
          (first | assumption | exact KP.out _ (Below.refl _ _) | exact Kb10 | exact Kb9 | exact Kb8 | exact Kb7 | exact Kb6 | exact Kb5)
          (first
            | (go_at_call 13; (with_reducible refine (HAl.out _).mono ?_); rintro e v10 ⟨rfl, hb10⟩; have b10 : Below w1.heap.size w1 v10 := b9.trans (hb10.mono b9.size); have Kb10 := KP.out _ b10)
            | (go_at_call 46; (with_reducible refine (H8.out _ (Ys.out.up b8).ns (Yt.out.up b8).ns).mono ?_); rintro e v9 ⟨rfl, hb9⟩; have b9 : Below w1.heap.size w1 v9 := b8.trans (hb9.mono b8.size); have Kb9 := KP.out _ b9)
            | (go_at_call 45; (with_reducible refine (H7.out _ (Ys.out.up b7).ns (Yt.out.up b7).ns).mono ?_); rintro e v8 ⟨rfl, hb8⟩; have b8 : Below w1.heap.size w1 v8 := b7.trans (hb8.mono b7.size); have Kb8 := KP.out _ b8)
            | (go_at_call 44; (with_reducible refine (H6.out _ (Ys.out.up b6).ns).mono ?_); rintro e v7 ⟨rfl, hb7⟩; have b7 : Below w1.heap.size w1 v7 := b6.trans (hb7.mono b6.size); have Kb7 := KP.out _ b7)
            | (go_at_call 43; (with_reducible refine (H5.out _ (Ys.out.up b5).ns).mono ?_); rintro e v6 ⟨rfl, hb6⟩; have b6 : Below w1.heap.size w1 v6 := b5.trans (hb6.mono b5.size); have Kb6 := KP.out _ b6))
        go_wp2_with fail
        refine bodyPost_ret (v := .bool true) (by simp [results, Try.results6, go_sem]) rfl ?_
        exact ⟨rfl, HD.out.trans (b10.mono HD.out.size)⟩
      · go_region_held3 (fun w' => w'.cell? ⟨w.heap.size, 0, none⟩ = some (.slice A1 s.1.length c1) ∧ w'.cell? ⟨w.heap.size, 1, none⟩ = some (.slice A2 s.2.length c2) ∧ w'.cell? ⟨w.heap.size + 1, 0, none⟩ = some (.slice B1 t.1.length d1) ∧ w'.cell? ⟨w.heap.size + 1, 1, none⟩ = some (.slice B2 t.2.length d2) ∧ Below w1.heap.size w1 w')
          (first | assumption | exact KP.out _ (Below.refl _ _) | exact Kb10 | exact Kb9 | exact Kb8 | exact Kb7 | exact Kb6 | exact Kb5)
          (first
            | (go_at_call 13; (with_reducible refine (HAl.out _).mono ?_); rintro e v10 ⟨rfl, hb10⟩; have b10 : Below w1.heap.size w1 v10 := b9.trans (hb10.mono b9.size); have Kb10 := KP.out _ b10)
            | (go_at_call 46; (with_reducible refine (H8.out _ (Ys.out.up b8).ns (Yt.out.up b8).ns).mono ?_); rintro e v9 ⟨rfl, hb9⟩; have b9 : Below w1.heap.size w1 v9 := b8.trans (hb9.mono b8.size); have Kb9 := KP.out _ b9)
            | (go_at_call 45; (with_reducible refine (H7.out _ (Ys.out.up b7).ns (Yt.out.up b7).ns).mono ?_); rintro e v8 ⟨rfl, hb8⟩; have b8 : Below w1.heap.size w1 v8 := b7.trans (hb8.mono b7.size); have Kb8 := KP.out _ b8)
            | (go_at_call 44; (with_reducible refine (H6.out _ (Ys.out.up b6).ns).mono ?_); rintro e v7 ⟨rfl, hb7⟩; have b7 : Below w1.heap.size w1 v7 := b6.trans (hb7.mono b6.size); have Kb7 := KP.out _ b7)
            | (go_at_call 43; (with_reducible refine (H5.out _ (Ys.out.up b5).ns).mono ?_); rintro e v6 ⟨rfl, hb6⟩; have b6 : Below w1.heap.size w1 v6 := b5.trans (hb6.mono b5.size); have Kb6 := KP.out _ b6))
        go_wp2_with fail
        refine bodyPost_ret (v := .bool true) (by simp [results, Try.results6, go_sem]) rfl ?_
        exact ⟨rfl, HD.out.trans (b10.mono HD.out.size)⟩
    · cases q
      · go_region_held3 (fun w' => w'.cell? ⟨w.heap.size, 0, none⟩ = some (.slice A1 s.1.length c1) ∧ w'.cell? ⟨w.heap.size, 1, none⟩ = some (.slice A2 s.2.length c2) ∧ w'.cell? ⟨w.heap.size + 1, 0, none⟩ = some (.slice B1 t.1.length d1) ∧ w'.cell? ⟨w.heap.size + 1, 1, none⟩ = some (.slice B2 t.2.length d2) ∧ Below w1.heap.size w1 w')
          (first | assumption | exact KP.out _ (Below.refl _ _) | exact Kb10 | exact Kb9 | exact Kb8 | exact Kb7 | exact Kb6 | exact Kb5)
          (first
            | (go_at_call 13; (with_reducible refine (HAl.out _).mono ?_); rintro e v10 ⟨rfl, hb10⟩; have b10 : Below w1.heap.size w1 v10 := b9.trans (hb10.mono b9.size); have Kb10 := KP.out _ b10)
            | (go_at_call 46; (with_reducible refine (H8.out _ (Ys.out.up b8).ns (Yt.out.up b8).ns).mono ?_); rintro e v9 ⟨rfl, hb9⟩; have b9 : Below w1.heap.size w1 v9 := b8.trans (hb9.mono b8.size); have Kb9 := KP.out _ b9)
            | (go_at_call 45; (with_reducible refine (H7.out _ (Ys.out.up b7).ns (Yt.out.up b7).ns).mono ?_); rintro e v8 ⟨rfl, hb8⟩; have b8 : Below w1.heap.size w1 v8 := b7.trans (hb8.mono b7.size); have Kb8 := KP.out _ b8)
            | (go_at_call 44; (with_reducible refine (H6.out _ (Ys.out.up b6).ns).mono ?_); rintro e v7 ⟨rfl, hb7⟩; have b7 : Below w1.heap.size w1 v7 := b6.trans (hb7.mono b6.size); have Kb7 := KP.out _ b7)
            | (go_at_call 43; (with_reducible refine (H5.out _ (Ys.out.up b5).ns).mono ?_); rintro e v6 ⟨rfl, hb6⟩; have b6 : Below w1.heap.size w1 v6 := b5.trans (hb6.mono b5.size); have Kb6 := KP.out _ b6))
        go_wp2_with fail
        refine bodyPost_ret (v := .bool true) (by simp [results, Try.results6, go_sem]) rfl ?_
        exact ⟨rfl, HD.out.trans (b10.mono HD.out.size)⟩
      · go_region_held3 (fun w' => w'.cell? ⟨w.heap.size, 0, none⟩ = some (.slice A1 s.1.length c1) ∧ w'.cell? ⟨w.heap.size, 1, none⟩ = some (.slice A2 s.2.length c2) ∧ w'.cell? ⟨w.heap.size + 1, 0, none⟩ = some (.slice B1 t.1.length d1) ∧ w'.cell? ⟨w.heap.size + 1, 1, none⟩ = some (.slice B2 t.2.length d2) ∧ Below w1.heap.size w1 w')
          (first | assumption | exact KP.out _ (Below.refl _ _) | exact Kb10 | exact Kb9 | exact Kb8 | exact Kb7 | exact Kb6 | exact Kb5)
          (first
            | (go_at_call 13; (with_reducible refine (HAl.out _).mono ?_); rintro e v10 ⟨rfl, hb10⟩; have b10 : Below w1.heap.size w1 v10 := b9.trans (hb10.mono b9.size); have Kb10 := KP.out _ b10)
            | (go_at_call 46; (with_reducible refine (H8.out _ (Ys.out.up b8).ns (Yt.out.up b8).ns).mono ?_); rintro e v9 ⟨rfl, hb9⟩; have b9 : Below w1.heap.size w1 v9 := b8.trans (hb9.mono b8.size); have Kb9 := KP.out _ b9)
            | (go_at_call 45; (with_reducible refine (H7.out _ (Ys.out.up b7).ns (Yt.out.up b7).ns).mono ?_); rintro e v8 ⟨rfl, hb8⟩; have b8 : Below w1.heap.size w1 v8 := b7.trans (hb8.mono b7.size); have Kb8 := KP.out _ b8)
            | (go_at_call 44; (with_reducible refine (H6.out _ (Ys.out.up b6).ns).mono ?_); rintro e v7 ⟨rfl, hb7⟩; have b7 : Below w1.heap.size w1 v7 := b6.trans (hb7.mono b6.size); have Kb7 := KP.out _ b7)
            | (go_at_call 43; (with_reducible refine (H5.out _ (Ys.out.up b5).ns).mono ?_); rintro e v6 ⟨rfl, hb6⟩; have b6 : Below w1.heap.size w1 v6 := b5.trans (hb6.mono b5.size); have Kb6 := KP.out _ b6))
        go_wp2_with fail
        refine bodyPost_ret (v := .bool true) (by simp [results, Try.results6, go_sem]) rfl ?_
        exact ⟨rfl, HD.out.trans (b10.mono HD.out.size)⟩
end Go.Proofs.Yteekccjfokoglaa
