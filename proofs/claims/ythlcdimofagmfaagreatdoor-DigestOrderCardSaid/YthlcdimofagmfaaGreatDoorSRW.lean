/-
  Sorted of the specification: the mathematics of its insertion. No condition.
-/
import Derived.Test.YthlcdimofagmfaaGreatDoorC2
import Derived.Test.YthlcdimofagmfaaGreatDoorS
namespace Go.Proofs.YthlcdimofagmfaaGreatDoor
open Go.RowKit Go.Sort Go.Lib Go.Shelf Go.Proofs
set_option linter.unusedSimpArgs false
set_option linter.unnecessarySimpa false
set_option linter.unusedVariables false
theorem ins_at {S : List Md} {x : Md} {k : Nat} (hs : S.Pairwise LeM) (hd : ∀ y ∈ S.drop k, cmpM x y < 0) (ht : ∀ y ∈ S.take k, cmpM y x ≤ 0) : S.take k ++ x :: S.drop k = insM x S := by
  have hsplit : (S.take k ++ S.drop k).Pairwise LeM := by rw [List.take_append_drop]; exact hs
  rw [List.pairwise_append] at hsplit
  refine sorted_unique ?_ ?_ (insM_sorted x S hs)
  · have h1 : (S.take k ++ x :: S.drop k).Perm (x :: (S.take k ++ S.drop k)) := List.perm_middle
    rw [List.take_append_drop] at h1
    exact h1.trans (insM_perm x S).symm
  · rw [List.pairwise_append]
    refine ⟨hsplit.1, List.pairwise_cons.2 ⟨fun y hy => Int.le_of_lt (hd y hy), hsplit.2.1⟩, fun a ha b hb => ?_⟩
    rcases List.mem_cons.1 hb with rfl | hb
    · exact ht a ha
    · exact hsplit.2.2 a ha b hb
theorem take_low {S : List Md} {x : Md} {k : Nat} (hs : S.Pairwise LeM) (hk : k < S.length) (h : ¬ cmpM x S[k] < 0) : ∀ y ∈ S.take (k + 1), cmpM y x ≤ 0 := by
  intro y hy
  have hkx : cmpM S[k] x ≤ 0 := by have := cmpM_ok.anti x S[k]; omega
  rw [← List.take_append_getElem hk, List.mem_append] at hy
  rcases hy with hy | hy
  · obtain ⟨i, hi, rfl⟩ := List.getElem_of_mem hy
    rw [List.length_take] at hi
    rw [List.getElem_take]
    have := List.pairwise_iff_getElem.1 hs i k (by omega) hk (by omega)
    exact cmpM_ok.trans _ _ _ this hkx
  · simp only [List.mem_singleton] at hy
    subst hy; exact hkx
theorem drop_high {S : List Md} {x : Md} {k : Nat} (hk : k < S.length) (h : cmpM x S[k] < 0) (hd : ∀ y ∈ S.drop (k + 1), cmpM x y < 0) : ∀ y ∈ S.drop k, cmpM x y < 0 := by
  intro y hy
  rw [List.drop_eq_getElem_cons hk] at hy
  rcases List.mem_cons.1 hy with rfl | hy
  · exact h
  · exact hd y hy
theorem sort_take {l : List Md} {k : Nat} (h : k < l.length) : sortM (l.take (k + 1)) = insM l[k] (sortM (l.take k)) := by
  rw [← List.take_append_getElem h, sortM_snoc]
end Go.Proofs.YthlcdimofagmfaaGreatDoor
namespace Go.Proofs.YthlcdimofagmfaaGreatDoor
open Go.RowKit Go.Sort Go.Lib Go.Shelf Go.Proofs
set_option linter.unusedSimpArgs false
set_option linter.unnecessarySimpa false
set_option linter.unusedVariables false
/-- the module to place, and the element before the place -/
abbrev S8 (W0 : World) (p : Nat) (x : Md) (g o : Nat) (y : Md) (W : World) : Prop := Below W0.heap.size W0 W ∧ C4 W p x ∧ W.cell? ⟨g, o, none⟩ = some (.string y.1) ∧ W.cell? ⟨g, o + 1, none⟩ = some (.int .i64 y.2.1) ∧ W.cell? ⟨g, o + 2, none⟩ = some (.int .i64 y.2.2.1) ∧ W.cell? ⟨g, o + 3, none⟩ = some (.int .i64 y.2.2.2)
theorem S8.keep {W0 W W' : World} {p g o : Nat} {x y : Md} (h : S8 W0 p x g o y W) (hb : Below W.heap.size W W') : S8 W0 p x g o y W' :=
  ⟨h.1.trans (hb.mono h.1.size), C4.keep h.2.1 hb, cell_keep h.2.2.1 hb, cell_keep h.2.2.2.1 hb, cell_keep h.2.2.2.2.1 hb, cell_keep h.2.2.2.2.2 hb⟩
theorem own_empty (w : World) (g : Nat) (hg : g = w.heap.size) : (w.alloc (.cells #[] 34)).ownsRow g 34 4 (.slice (some ⟨g, 0, none⟩) 0 0) 0 [] :=
  ⟨rfl, .inr ⟨g, 0, _, rfl, Nat.le_refl _, by rw [hg]; exact heap_alloc_new w _, Nat.le_refl _, by unfold maxLen; omega, rfl, rfl⟩⟩
theorem rm_one (w : World) (x : Md) : RM (w.alloc (.cells #[.string x.1, .int .i64 x.2.1, .int .i64 x.2.2.1, .int .i64 x.2.2.2] 34)) (w.alloc (.cells #[.string x.1, .int .i64 x.2.1, .int .i64 x.2.2.1, .int .i64 x.2.2.2] 34)).heap.size (some ⟨w.heap.size, 0, none⟩) [x] := by
  obtain ⟨A, c, e, h, _⟩ := rm_of_own (l := [x]) (own_lit w w.heap.size w.heap.size x rfl (Nat.le_refl _))
  simp only [Value.slice.injEq] at e
  obtain ⟨rfl, _, rfl⟩ := e
  exact h
theorem RM.take {w : World} {B : Nat} {A : Option Addr} {l : List Md} (h : RM w B A l) (n : Nat) : RM w B A (l.take n) :=
  ⟨fun i hi => by
    have hi' : i < l.length := by simp at hi; omega
    obtain ⟨b, o, e, hl, c⟩ := h.at_ i hi'
    exact ⟨b, o, e, hl, by rw [List.getElem_take]; exact c⟩⟩
theorem RM.drop {w : World} {B b o : Nat} {l : List Md} (h : RM w B (some ⟨b, o, none⟩) l) (n : Nat) : RM w B (some ⟨b, o + n * 4, none⟩) (l.drop n) :=
  ⟨fun i hi => by
    have hi' : n + i < l.length := by simp at hi; omega
    obtain ⟨b', o', e, hl, c⟩ := h.at_ (n + i) hi'
    simp only [Option.some.injEq, Addr.mk.injEq] at e
    obtain ⟨rfl, rfl, _⟩ := e
    refine ⟨b, o + n * 4, rfl, hl, fun c' u hu => ?_⟩
    rw [List.getElem_drop] at hu
    have := c c' u hu
    rwa [show o + (n + i) * 4 = o + n * 4 + i * 4 by omega] at this⟩
set_option maxRecDepth 100000 in
set_option maxHeartbeats 4000000 in
theorem rsorted_any (A : Option Addr) (c : Nat) (l : List Md) (w : World) (hR : RM w w.heap.size A l) (hl : l.length ≤ 90000) : Calls Tryz.prog 41 #[.slice A l.length c] w (GivesM (sortM l) w) := by
  have HRE := Lib.hid hR
  have HB0 := Lib.hid (Below.refl w.heap.size w)
  clear hR
  go_enter Tryz.func41, Tryz.ntmps41
  go_wp2_with fail
  go_loopw [3, 5, 6, 7, 10] (fun s3 _ _ _ s10 wr => ∃ k : Nat, s10 = .int .i64 (k : Int) ∧ k ≤ l.length ∧ Hid (wr.ownsRow w.heap.size 34 4 s3 (sortM (l.take k)).length (flatM (sortM (l.take k)))) ∧ Hid (Below w.heap.size w wr)) (fun _ _ _ _ s10 _ => (l.length - intOf s10).toNat)
  case atStart => exact ⟨0, rfl, by omega, Lib.hid (World.ownsRow_nil _ _ _ _), HB0⟩
  case round =>
    obtain ⟨k, rfl, hk, HO, HW⟩ := hrel
    by_cases hlt : k < l.length
    · obtain ⟨g, o, hA, hgl, c0, c1, c2, c3⟩ := HRE.out.four k hlt
      subst hA
      rw [← HW.out.cell (p := ⟨g, o + k * 4, none⟩) hgl] at c0
      rw [← HW.out.cell (p := ⟨g, o + k * 4 + 1, none⟩) hgl] at c1
      rw [← HW.out.cell (p := ⟨g, o + k * 4 + 2, none⟩) hgl] at c2
      rw [← HW.out.cell (p := ⟨g, o + k * 4 + 3, none⟩) hgl] at c3
      have hkl : (k : Int) < (l.length : Int) := by omega
      obtain ⟨S, hS⟩ : ∃ S, S = sortM (l.take k) := ⟨_, rfl⟩
      have hSl : S.length = k := by rw [hS, sortM_length, List.length_take]; omega
      have HSS := Lib.hid (show S.Pairwise LeM by rw [hS]; exact sortM_sorted _)
      have HNX := Lib.hid (show sortM (l.take (k + 1)) = insM l[k] S by rw [hS]; exact sort_take hlt)
      rw [← hS] at HO
      have HSL := Lib.hid hSl
      obtain ⟨A3, c3', hs3, hm3, hp3, hh3, _⟩ := rm_of_own HO.out
      subst hs3
      have hcp : S.length ≤ c3' := by
        rcases own_cell HO.out with ⟨e1, e2⟩ | ⟨g0, c0', e, _, _, e1, _, _⟩
        · omega
        · simp only [Value.slice.injEq] at e
          obtain ⟨_, _, rfl⟩ := e
          exact e1
      have HM3 := Lib.hid (hm3.up (bal wr (.cells #[.string l[k].1, .int .i64 l[k].2.1, .int .i64 l[k].2.2.1, .int .i64 l[k].2.2.2] 34)))
      have HP3 := Lib.hid (And.intro hp3 hh3)
      have HB2 := Lib.hid (HW.out.alloc HW.out.size (.cells #[.string l[k].1, .int .i64 l[k].2.1, .int .i64 l[k].2.2.1, .int .i64 l[k].2.2.2] 34))
      have HN0 := Lib.hid (C4.new wr l[k] 34)
      clear hS hSl hm3 hp3 hh3 HO
      go_wp2_with fail
      clear c0 c1 c2 c3
      generalize wr.alloc (.cells #[.string l[k].1, .int .i64 l[k].2.1, .int .i64 l[k].2.2.1, .int .i64 l[k].2.2.2] 34) = W2 at *
      generalize wr.heap.size = b5 at *
      generalize l[k] = x at *
      go_loopw [6] (fun s6 wz => ∃ n : Nat, s6 = .int .i64 (n : Int) ∧ n ≤ S.length ∧ Hid (∀ y ∈ S.drop n, cmpM x y < 0) ∧ Hid (Below W2.heap.size W2 wz)) (fun s6 _ => (intOf s6).toNat)
      case atStart => exact ⟨S.length, rfl, Nat.le_refl _, Lib.hid (by rw [List.drop_length]; intro y hy; cases hy), Lib.hid (Below.refl _ _)⟩
      case round =>
        obtain ⟨n, rfl, hn, HD, HZ⟩ := hrel
        by_cases hn0 : 0 < n
        · have hni : (0 : Int) < (n : Int) := by omega
          obtain ⟨m, rfl⟩ : ∃ m, n = m + 1 := ⟨n - 1, by omega⟩
          have hml : m < S.length := by omega
          obtain ⟨g3, o3, hA3, hg3, d0, d1, d2, d3⟩ := HM3.out.four m hml
          subst hA3
          rw [← HZ.out.cell (p := ⟨g3, o3 + m * 4, none⟩) hg3] at d0
          rw [← HZ.out.cell (p := ⟨g3, o3 + m * 4 + 1, none⟩) hg3] at d1
          rw [← HZ.out.cell (p := ⟨g3, o3 + m * 4 + 2, none⟩) hg3] at d2
          rw [← HZ.out.cell (p := ⟨g3, o3 + m * 4 + 3, none⟩) hg3] at d3
          have hS8 : S8 wr b5 x g3 (o3 + m * 4) S[m] wr := ⟨Below.refl _ _, HN0.out.keep HZ.out, d0, d1, d2, d3⟩
          have hmi : (m : Int) < (S.length : Int) := by omega
          have hm0 : (0 : Int) ≤ (m : Int) := by omega
          have t1 : IntKind.i64.wrap (((m + 1 : Nat) : Int) - 1) = (m : Int) := by rw [show ((m + 1 : Nat) : Int) - 1 = (m : Int) by omega]; exact IntWalk.i64_in _ (by have := HSL.out; omega)
          have t1' : IntKind.i64.wrap ((m : Int) + 1 - 1) = (m : Int) := by rw [show (m : Int) + 1 - 1 = (m : Int) by omega]; exact IntWalk.i64_in _ (by have := HSL.out; omega)
          have t0 : IntKind.i64.wrap (m : Int) = (m : Int) := IntWalk.i64_in _ (by have := HSL.out; omega)
          have KC := Lib.hid (fun W => rmcompare_any x S[m] _ rfl W)
          obtain ⟨q, hq⟩ : ∃ q, q = cmpM x S[m] := ⟨_, rfl⟩
          have HQ := Lib.hid hq
          rw [← hq] at KC
          clear hq d0 d1 d2 d3
          generalize hy : S[m] = y at *
          have HY := Lib.hid hy
          clear hy
          by_cases hc : q < 0
          · have hdc : decide (q < 0) = true := by simpa using hc
            have HD2 := Lib.hid (show ∀ z ∈ S.drop m, cmpM x z < 0 from drop_high hml (by rw [HY.out, ← HQ.out]; exact hc) HD.out)
            clear HD
            go_wp2_with fail
            go_region_held3 (fun w' => S8 wr b5 x g3 (o3 + m * 4) y w') (first | (with_reducible assumption) | ((with_reducible refine S8.keep ?_ ((Below.refl _ _).drew)); with_reducible assumption) | ((with_reducible refine S8.keep ?_ (by with_reducible assumption)); with_reducible assumption))
              (first | (go_at_call 68; ((with_reducible refine (KC.out _).mono ?_)); rintro e w' ⟨rfl, hbN⟩))
            have HZ2 := Lib.hid (HZ.out.trans ((show S8 wr b5 x g3 (o3 + m * 4) y _ by assumption).1.mono HZ.out.size))
            go_wp2_with fail
            go_roundw
            case rel => exact ⟨m, by go_num, by omega, HD2, HZ2⟩
            case measure => first | (simp [intOf]; done) | (simp [intOf]; omega)
          · have hdc : decide (q < 0) = false := by simpa using hc
            have HTK := Lib.hid (take_low HSS.out hml (x := x) (by rw [HY.out, ← HQ.out]; exact hc))
            go_wp2_with fail
            go_region_held3 (fun w' => S8 wr b5 x g3 (o3 + m * 4) y w') (first | (with_reducible assumption) | ((with_reducible refine S8.keep ?_ ((Below.refl _ _).drew)); with_reducible assumption) | ((with_reducible refine S8.keep ?_ (by with_reducible assumption)); with_reducible assumption))
              (first | (go_at_call 68; ((with_reducible refine (KC.out _).mono ?_)); rintro e w' ⟨rfl, hbN⟩))
            have HZ2 := Lib.hid (HZ.out.trans ((show S8 wr b5 x g3 (o3 + m * 4) y _ by assumption).1.mono HZ.out.size))
            rename World => wz
            have HDD := HD
            have hlen : (S.take (m + 1)).length = (m + 1) := by rw [List.length_take]; omega
            have hlen2 : (S.drop (m + 1)).length = S.length - (m + 1) := List.length_drop
            have hm4 := HM3.out.up HZ2.out
            have hTK := (hm4.take (m + 1)).up (bal wz (.cells #[] 34))
            have hown := own_empty wz wz.heap.size rfl
            have HX4 := Lib.hid (HN0.out.keep HZ2.out)
            have HLN := Lib.hid (And.intro hlen hlen2)
            have HSZ := Lib.hid (show S.length ≤ 90000 by have := HSL.out; omega)
            have hnc : ((((m + 1) : Nat)) : Int) ≤ (c3' : Int) := by omega
            have hnS : ((((m + 1) : Nat)) : Int) ≤ (S.length : Int) := by omega
            clear hlen hlen2 HD
            go_wp2_with (at_builtin; refine wpList_append_rm rfl _ _ rfl wz.heap.size _ _ 0 [] rfl hown (some ⟨g3, o3, none⟩) c3' (S.take (m + 1)) (by rw [HLN.out.1]; rfl) hTK HP3.out.1 ?_ ?_ ?_)
            · rw [HLN.out.1]; have := HSZ.out; omega
            · simp
            intro v1 w1 h1 g1
            try rw [HLN.out.1] at h1
            have HO1 := Lib.hid (show w1.ownsRow wz.heap.size 34 4 v1 (m + 1) (flatM (S.take (m + 1))) by simpa using h1)
            have HB1 := Lib.hid (((Below.refl wz.heap.size wz).alloc (Nat.le_refl _) (.cells #[] 34)).grown g1 (by simp) (fun k hk => by simp [Value.ownBlock] at hk; subst hk; simp))
            clear h1 g1 hown hTK hm4
            obtain ⟨d0, d1, d2, d3⟩ := C4.keep HX4.out HB1.out
            have hone := rm_one w1 x
            have hown1 := HO1.out.alloc (.cells #[.string x.1, .int .i64 x.2.1, .int .i64 x.2.2.1, .int .i64 x.2.2.2] 34)
            go_wp2_with (at_builtin; refine wpList_append_rm rfl _ _ rfl wz.heap.size _ _ (m + 1) _ rfl hown1 (some ⟨w1.heap.size, 0, none⟩) 1 [x] rfl hone (.inr ⟨_, _, rfl⟩) ?_ ?_ ?_)
            · first | (simp; done) | (have := HSZ.out; simp; omega)
            · have := HB1.out.size; simp; omega
            intro v2 w2 h2 g2
            have HO2 := Lib.hid (show w2.ownsRow wz.heap.size 34 4 v2 ((m + 1) + 1) (flatM (S.take (m + 1)) ++ flatM [x]) from h2)
            have HB2z := Lib.hid ((HB1.out.alloc HB1.out.size (.cells #[.string x.1, .int .i64 x.2.1, .int .i64 x.2.2.1, .int .i64 x.2.2.2] 34)).grown g2 (by have := HB1.out.size; simp; omega) (fun k hk => (HO1.out.lt k hk).1))
            clear h2 g2 hown1 hone HO1 HB1 d0 d1 d2 d3
            have hown2 := HO2.out
            have hRM := (HM3.out.up (HZ2.out.trans (HB2z.out.mono HZ2.out.size)))
            by_cases hcn : c3' = (m + 1)
            ·
              have hDR9 : RM w2 w2.heap.size (some ⟨g3, o3, none⟩) (S.drop (m + 1)) := by
                rw [List.drop_eq_nil_of_le (by omega)]; exact rm_nil _ _ _
              have hpl9 : Plain (some ⟨g3, o3, none⟩) 0 := .inr ⟨_, _, rfl⟩
              go_wp2_with (at_builtin; refine wpList_append_rm rfl _ _ rfl wz.heap.size _ _ ((m + 1) + 1) _ rfl hown2 _ _ (S.drop (m + 1)) (by rw [HLN.out.2]; rfl) hDR9 hpl9 ?_ ?_ ?_)
              · rw [HLN.out.2]; have := HSZ.out; omega
              · exact HB2z.out.size
              intro v3 w3 h3 g3'
              have HO3 := Lib.hid (show w3.ownsRow w.heap.size 34 4 v3 (sortM (l.take (k + 1))).length (flatM (sortM (l.take (k + 1)))) by
                have hz : w.heap.size ≤ wz.heap.size := (HB2.out.trans (HZ2.out.mono HB2.out.size)).size
                rw [HNX.out, ← ins_at HSS.out HDD.out HTK.out, List.length_append, List.length_cons, flatM_append, flatM_cons, HLN.out.1]
                rw [HLN.out.2]
                refine own_le ?_ hz
                try rw [HLN.out.2] at h3
                have e : flatM [x] = mc x := by rw [flatM_cons, flatM_nil, List.append_nil]
                rw [e] at h3
                rw [show (m + 1) + (S.length - (m + 1) + 1) = (m + 1) + 1 + (S.length - (m + 1)) by omega]
                first | exact h3 | (rw [List.append_assoc] at h3; exact h3))
              have HB3 := Lib.hid ((HB2.out.trans (HZ2.out.mono HB2.out.size)).trans ((HB2z.out.grown g3' (by exact HB2z.out.size) (fun k hk => (HO2.out.lt k hk).1)).mono (HB2.out.trans (HZ2.out.mono HB2.out.size)).size))
              clear h3 g3' hown2 hRM hDR9 HO2 HB2z
              go_wp2_with fail
              go_roundw
              case rel => exact ⟨k + 1, by go_num, by omega, HO3, HB3⟩
              case measure => first | (simp [intOf]; done) | (simp [intOf]; omega)
            ·
              have hDR9 := hRM.drop (m + 1)
              have hpl9 : Plain (some ⟨g3, o3 + (m + 1) * 4, none⟩) (c3' - (m + 1)) := .inr ⟨_, _, rfl⟩
              go_wp2_with (at_builtin; refine wpList_append_rm rfl _ _ rfl wz.heap.size _ _ ((m + 1) + 1) _ rfl hown2 _ _ (S.drop (m + 1)) (by rw [HLN.out.2]; rfl) hDR9 hpl9 ?_ ?_ ?_)
              · rw [HLN.out.2]; have := HSZ.out; omega
              · exact HB2z.out.size
              intro v3 w3 h3 g3'
              have HO3 := Lib.hid (show w3.ownsRow w.heap.size 34 4 v3 (sortM (l.take (k + 1))).length (flatM (sortM (l.take (k + 1)))) by
                have hz : w.heap.size ≤ wz.heap.size := (HB2.out.trans (HZ2.out.mono HB2.out.size)).size
                rw [HNX.out, ← ins_at HSS.out HDD.out HTK.out, List.length_append, List.length_cons, flatM_append, flatM_cons, HLN.out.1]
                rw [HLN.out.2]
                refine own_le ?_ hz
                try rw [HLN.out.2] at h3
                have e : flatM [x] = mc x := by rw [flatM_cons, flatM_nil, List.append_nil]
                rw [e] at h3
                rw [show (m + 1) + (S.length - (m + 1) + 1) = (m + 1) + 1 + (S.length - (m + 1)) by omega]
                first | exact h3 | (rw [List.append_assoc] at h3; exact h3))
              have HB3 := Lib.hid ((HB2.out.trans (HZ2.out.mono HB2.out.size)).trans ((HB2z.out.grown g3' (by exact HB2z.out.size) (fun k hk => (HO2.out.lt k hk).1)).mono (HB2.out.trans (HZ2.out.mono HB2.out.size)).size))
              clear h3 g3' hown2 hRM hDR9 HO2 HB2z
              go_wp2_with fail
              go_roundw
              case rel => exact ⟨k + 1, by go_num, by omega, HO3, HB3⟩
              case measure => first | (simp [intOf]; done) | (simp [intOf]; omega)
        ·
          have hni : ¬ (0 : Int) < (n : Int) := by omega
          rename World => wz0
          have HDD := HD
          have HTK := Lib.hid (show ∀ y ∈ S.take n, cmpM y x ≤ 0 by rw [show n = 0 by omega]; intro y hy; cases hy)
          have HZ2 := Lib.hid HZ.out.drew
          clear HD
          go_wp2_with fail
          go_region
          clear HZ
          generalize wz0.drew = wz at *
          rcases HP3.out.1 with ⟨hA3, hc3⟩ | ⟨g3, o3, hA3⟩
          · subst hA3 hc3
            obtain rfl := rm_none HM3.out
            obtain rfl : n = 0 := by omega
            have hlen : (([] : List Md).take 0).length = 0 := by rw [List.length_take]; omega
            have hlen2 : (([] : List Md).drop 0).length = ([] : List Md).length - 0 := List.length_drop
            have hm4 := HM3.out.up HZ2.out
            have hTK := (hm4.take 0).up (bal wz (.cells #[] 34))
            have hown := own_empty wz wz.heap.size rfl
            have HX4 := Lib.hid (HN0.out.keep HZ2.out)
            have HLN := Lib.hid (And.intro hlen hlen2)
            have HSZ := Lib.hid (show ([] : List Md).length ≤ 90000 by have := HSL.out; omega)
            have hnc : (((0 : Nat)) : Int) ≤ (0 : Int) := by omega
            have hnS : (((0 : Nat)) : Int) ≤ (([] : List Md).length : Int) := by omega
            clear hlen hlen2
            go_wp2_with (at_builtin; refine wpList_append_rm rfl _ _ rfl wz.heap.size _ _ 0 [] rfl hown none 0 (([] : List Md).take 0) (by rw [HLN.out.1]; rfl) hTK HP3.out.1 ?_ ?_ ?_)
            · rw [HLN.out.1]; have := HSZ.out; omega
            · simp
            intro v1 w1 h1 g1
            try rw [HLN.out.1] at h1
            have HO1 := Lib.hid (show w1.ownsRow wz.heap.size 34 4 v1 0 (flatM (([] : List Md).take 0)) by simpa using h1)
            have HB1 := Lib.hid (((Below.refl wz.heap.size wz).alloc (Nat.le_refl _) (.cells #[] 34)).grown g1 (by simp) (fun k hk => by simp [Value.ownBlock] at hk; subst hk; simp))
            clear h1 g1 hown hTK hm4
            obtain ⟨d0, d1, d2, d3⟩ := C4.keep HX4.out HB1.out
            have hone := rm_one w1 x
            have hown1 := HO1.out.alloc (.cells #[.string x.1, .int .i64 x.2.1, .int .i64 x.2.2.1, .int .i64 x.2.2.2] 34)
            go_wp2_with (at_builtin; refine wpList_append_rm rfl _ _ rfl wz.heap.size _ _ 0 _ rfl hown1 (some ⟨w1.heap.size, 0, none⟩) 1 [x] rfl hone (.inr ⟨_, _, rfl⟩) ?_ ?_ ?_)
            · first | (simp; done) | (have := HSZ.out; simp; omega)
            · have := HB1.out.size; simp; omega
            intro v2 w2 h2 g2
            have HO2 := Lib.hid (show w2.ownsRow wz.heap.size 34 4 v2 (0 + 1) (flatM (([] : List Md).take 0) ++ flatM [x]) from h2)
            have HB2z := Lib.hid ((HB1.out.alloc HB1.out.size (.cells #[.string x.1, .int .i64 x.2.1, .int .i64 x.2.2.1, .int .i64 x.2.2.2] 34)).grown g2 (by have := HB1.out.size; simp; omega) (fun k hk => (HO1.out.lt k hk).1))
            clear h2 g2 hown1 hone HO1 HB1 d0 d1 d2 d3
            have hown2 := HO2.out
            have hRM := (HM3.out.up (HZ2.out.trans (HB2z.out.mono HZ2.out.size)))
            ·
              have hDR9 : RM w2 w2.heap.size none (([] : List Md).drop 0) := rm_nil _ _ _
              have hpl9 : Plain none 0 := .inl ⟨rfl, rfl⟩
              go_wp2_with (at_builtin; refine wpList_append_rm rfl _ _ rfl wz.heap.size _ _ (0 + 1) _ rfl hown2 _ _ (([] : List Md).drop 0) (by rw [HLN.out.2]; rfl) hDR9 hpl9 ?_ ?_ ?_)
              · rw [HLN.out.2]; have := HSZ.out; omega
              · exact HB2z.out.size
              intro v3 w3 h3 g3'
              have HO3 := Lib.hid (show w3.ownsRow w.heap.size 34 4 v3 (sortM (l.take (k + 1))).length (flatM (sortM (l.take (k + 1)))) by
                have hz : w.heap.size ≤ wz.heap.size := (HB2.out.trans (HZ2.out.mono HB2.out.size)).size
                rw [HNX.out, ← ins_at HSS.out HDD.out HTK.out, List.length_append, List.length_cons, flatM_append, flatM_cons, HLN.out.1]
                rw [HLN.out.2]
                refine own_le ?_ hz
                try rw [HLN.out.2] at h3
                have e : flatM [x] = mc x := by rw [flatM_cons, flatM_nil, List.append_nil]
                rw [e] at h3
                rw [show 0 + (([] : List Md).length - 0 + 1) = 0 + 1 + (([] : List Md).length - 0) by omega]
                first | exact h3 | (rw [List.append_assoc] at h3; exact h3))
              have HB3 := Lib.hid ((HB2.out.trans (HZ2.out.mono HB2.out.size)).trans ((HB2z.out.grown g3' (by exact HB2z.out.size) (fun k hk => (HO2.out.lt k hk).1)).mono (HB2.out.trans (HZ2.out.mono HB2.out.size)).size))
              clear h3 g3' hown2 hRM hDR9 HO2 HB2z
              go_wp2_with fail
              go_roundw
              case rel => exact ⟨k + 1, by go_num, by omega, HO3, HB3⟩
              case measure => first | (simp [intOf]; done) | (simp [intOf]; omega)
          · subst hA3
            have hlen : (S.take n).length = n := by rw [List.length_take]; omega
            have hlen2 : (S.drop n).length = S.length - n := List.length_drop
            have hm4 := HM3.out.up HZ2.out
            have hTK := (hm4.take n).up (bal wz (.cells #[] 34))
            have hown := own_empty wz wz.heap.size rfl
            have HX4 := Lib.hid (HN0.out.keep HZ2.out)
            have HLN := Lib.hid (And.intro hlen hlen2)
            have HSZ := Lib.hid (show S.length ≤ 90000 by have := HSL.out; omega)
            have hnc : (((n : Nat)) : Int) ≤ (c3' : Int) := by omega
            have hnS : (((n : Nat)) : Int) ≤ (S.length : Int) := by omega
            clear hlen hlen2
            go_wp2_with (at_builtin; refine wpList_append_rm rfl _ _ rfl wz.heap.size _ _ 0 [] rfl hown (some ⟨g3, o3, none⟩) c3' (S.take n) (by rw [HLN.out.1]; rfl) hTK HP3.out.1 ?_ ?_ ?_)
            · rw [HLN.out.1]; have := HSZ.out; omega
            · simp
            intro v1 w1 h1 g1
            try rw [HLN.out.1] at h1
            have HO1 := Lib.hid (show w1.ownsRow wz.heap.size 34 4 v1 n (flatM (S.take n)) by simpa using h1)
            have HB1 := Lib.hid (((Below.refl wz.heap.size wz).alloc (Nat.le_refl _) (.cells #[] 34)).grown g1 (by simp) (fun k hk => by simp [Value.ownBlock] at hk; subst hk; simp))
            clear h1 g1 hown hTK hm4
            obtain ⟨d0, d1, d2, d3⟩ := C4.keep HX4.out HB1.out
            have hone := rm_one w1 x
            have hown1 := HO1.out.alloc (.cells #[.string x.1, .int .i64 x.2.1, .int .i64 x.2.2.1, .int .i64 x.2.2.2] 34)
            go_wp2_with (at_builtin; refine wpList_append_rm rfl _ _ rfl wz.heap.size _ _ n _ rfl hown1 (some ⟨w1.heap.size, 0, none⟩) 1 [x] rfl hone (.inr ⟨_, _, rfl⟩) ?_ ?_ ?_)
            · first | (simp; done) | (have := HSZ.out; simp; omega)
            · have := HB1.out.size; simp; omega
            intro v2 w2 h2 g2
            have HO2 := Lib.hid (show w2.ownsRow wz.heap.size 34 4 v2 (n + 1) (flatM (S.take n) ++ flatM [x]) from h2)
            have HB2z := Lib.hid ((HB1.out.alloc HB1.out.size (.cells #[.string x.1, .int .i64 x.2.1, .int .i64 x.2.2.1, .int .i64 x.2.2.2] 34)).grown g2 (by have := HB1.out.size; simp; omega) (fun k hk => (HO1.out.lt k hk).1))
            clear h2 g2 hown1 hone HO1 HB1 d0 d1 d2 d3
            have hown2 := HO2.out
            have hRM := (HM3.out.up (HZ2.out.trans (HB2z.out.mono HZ2.out.size)))
            by_cases hcn : c3' = n
            ·
              have hDR9 : RM w2 w2.heap.size (some ⟨g3, o3, none⟩) (S.drop n) := by
                rw [List.drop_eq_nil_of_le (by omega)]; exact rm_nil _ _ _
              have hpl9 : Plain (some ⟨g3, o3, none⟩) 0 := .inr ⟨_, _, rfl⟩
              go_wp2_with (at_builtin; refine wpList_append_rm rfl _ _ rfl wz.heap.size _ _ (n + 1) _ rfl hown2 _ _ (S.drop n) (by rw [HLN.out.2]; rfl) hDR9 hpl9 ?_ ?_ ?_)
              · rw [HLN.out.2]; have := HSZ.out; omega
              · exact HB2z.out.size
              intro v3 w3 h3 g3'
              have HO3 := Lib.hid (show w3.ownsRow w.heap.size 34 4 v3 (sortM (l.take (k + 1))).length (flatM (sortM (l.take (k + 1)))) by
                have hz : w.heap.size ≤ wz.heap.size := (HB2.out.trans (HZ2.out.mono HB2.out.size)).size
                rw [HNX.out, ← ins_at HSS.out HDD.out HTK.out, List.length_append, List.length_cons, flatM_append, flatM_cons, HLN.out.1]
                rw [HLN.out.2]
                refine own_le ?_ hz
                try rw [HLN.out.2] at h3
                have e : flatM [x] = mc x := by rw [flatM_cons, flatM_nil, List.append_nil]
                rw [e] at h3
                rw [show n + (S.length - n + 1) = n + 1 + (S.length - n) by omega]
                first | exact h3 | (rw [List.append_assoc] at h3; exact h3))
              have HB3 := Lib.hid ((HB2.out.trans (HZ2.out.mono HB2.out.size)).trans ((HB2z.out.grown g3' (by exact HB2z.out.size) (fun k hk => (HO2.out.lt k hk).1)).mono (HB2.out.trans (HZ2.out.mono HB2.out.size)).size))
              clear h3 g3' hown2 hRM hDR9 HO2 HB2z
              go_wp2_with fail
              go_roundw
              case rel => exact ⟨k + 1, by go_num, by omega, HO3, HB3⟩
              case measure => first | (simp [intOf]; done) | (simp [intOf]; omega)
            ·
              have hDR9 := hRM.drop n
              have hpl9 : Plain (some ⟨g3, o3 + n * 4, none⟩) (c3' - n) := .inr ⟨_, _, rfl⟩
              go_wp2_with (at_builtin; refine wpList_append_rm rfl _ _ rfl wz.heap.size _ _ (n + 1) _ rfl hown2 _ _ (S.drop n) (by rw [HLN.out.2]; rfl) hDR9 hpl9 ?_ ?_ ?_)
              · rw [HLN.out.2]; have := HSZ.out; omega
              · exact HB2z.out.size
              intro v3 w3 h3 g3'
              have HO3 := Lib.hid (show w3.ownsRow w.heap.size 34 4 v3 (sortM (l.take (k + 1))).length (flatM (sortM (l.take (k + 1)))) by
                have hz : w.heap.size ≤ wz.heap.size := (HB2.out.trans (HZ2.out.mono HB2.out.size)).size
                rw [HNX.out, ← ins_at HSS.out HDD.out HTK.out, List.length_append, List.length_cons, flatM_append, flatM_cons, HLN.out.1]
                rw [HLN.out.2]
                refine own_le ?_ hz
                try rw [HLN.out.2] at h3
                have e : flatM [x] = mc x := by rw [flatM_cons, flatM_nil, List.append_nil]
                rw [e] at h3
                rw [show n + (S.length - n + 1) = n + 1 + (S.length - n) by omega]
                first | exact h3 | (rw [List.append_assoc] at h3; exact h3))
              have HB3 := Lib.hid ((HB2.out.trans (HZ2.out.mono HB2.out.size)).trans ((HB2z.out.grown g3' (by exact HB2z.out.size) (fun k hk => (HO2.out.lt k hk).1)).mono (HB2.out.trans (HZ2.out.mono HB2.out.size)).size))
              clear h3 g3' hown2 hRM hDR9 HO2 HB2z
              go_wp2_with fail
              go_roundw
              case rel => exact ⟨k + 1, by go_num, by omega, HO3, HB3⟩
              case measure => first | (simp [intOf]; done) | (simp [intOf]; omega)
    · obtain rfl : k = l.length := by omega
      rw [List.take_length] at HO
      obtain ⟨A9, c9, rfl, h1, h2, h3, h4⟩ := rm_of_own HO.out
      have HG := Lib.hid (show GivesM (sortM l) w (.returned (.slice A9 (sortM l).length c9)) wr from ⟨A9, c9, rfl, h1, ⟨h2, h3, h4⟩, HW.out⟩)
      clear h1 h2 h3 h4 HO hlt hk
      go_wp2_with fail
      go_ret
      exact HG.out
end Go.Proofs.YthlcdimofagmfaaGreatDoor
