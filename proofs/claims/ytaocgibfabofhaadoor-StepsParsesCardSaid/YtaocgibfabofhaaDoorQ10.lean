/-
  The specification's reader: all steps. Condition: the text has at most 400 bytes.
-/
import Derived.Test.YtaocgibfabofhaaDoorQ9
namespace Go.Proofs.YtaocgibfabofhaaDoor
open Go.RowKit
set_option linter.unusedSimpArgs false
set_option linter.unusedVariables false
theorem RqP.grown {g : Nat} {s : ByteArray} {p : Nat} {f : Bool} {w w3 w4 : World} {r : Option Nat} (h : RqP g s p f w w3) (k : w3.grownBy w4 r) (hr : ∀ j, r = some j → w.heap.size ≤ j) (hg : g < w.heap.size) : RqP g s p f w w4 := by
  have hz := h.1.size
  refine ⟨⟨k.os.trans h.1.os, k.tape.trans h.1.tape, k.output.trans h.1.output, Nat.le_trans h.1.size k.size, fun j hj hn => (k.block j (by omega) (fun e => by have := hr j e.symm; omega)).trans (h.1.block j hj hn)⟩, ?_⟩
  have h2 := h.2
  unfold Rq at h2 ⊢
  rw [k.block g (by omega) (fun e => by have := hr g e.symm; omega)]
  exact h2
/-- 0 where the reader has failed -/
def bitO : Option Value → Nat
  | some (.bool true) => 0
  | _ => 1
/-- where the reader stands, at the loop's head -/
def Hd (g : Nat) (s : ByteArray) (R : List St × Nat × Nat) (w : World) (l : Value) (wr : World) : Prop :=
  (∃ (f q L : Nat) (acc : List St) (A : Option Addr) (c : Nat), l = .slice A L c ∧ L ≤ q ∧ q ≤ s.size ∧ s.size < q + f ∧ Hid (acc.length = L) ∧ Hid (wr.ownsRow w.heap.size 37 2 l L (flat acc)) ∧ Hid (RqP g s q false w wr) ∧ ((acc = [] ∧ q = 0 ∧ L = 0 ∧ f = s.size + 1) ∨ (0 < L ∧ Hid (contF s f q acc = R)))) ∨
  (∃ q, Hid (R = ([], 8, q)) ∧ Hid (RqP g s q true w wr))
set_option maxRecDepth 100000 in
set_option maxHeartbeats 16000000 in
theorem path_any (g : Nat) (s : ByteArray) (w : World) (h : Rq w g s 0 false) (hs : s.size ≤ 400) (R : List St × Nat × Nat) (HR : Hid ((if ch s 0 = 46 then ([], 8, 1) else parF s (s.size + 1) (ch s 0 == 91) 0 []) = R)) :
    Calls Tryd.prog 35 #[.pointer (some ⟨g, 0, none⟩)] w (PathP g s R w) := by
  obtain ⟨i0, hi, hz0, hz1, hz2⟩ := info_parts Tryd.info37
  have hg := h.facts.1
  have P := Lib.hid (RqP.start h)
  have Y := Lib.hid (fun c q w h hq hc he => is_yes g s q c w h hq (by omega) hc he)
  have NO := Lib.hid (fun c q w h hq hc he => is_no g s q c w h hq (by omega) hc he)
  have CI := Lib.hid (fun p w h hp R HR => rindex_any g s (p + 1) w h hp (by omega) R HR)
  have CL := Lib.hid (fun p w h hp R HR => rlab_any g s p w h hp hs R HR)
  clear h
  go_enter Tryd.func35, Tryd.ntmps35
  go_wp2_with fail
  go_loopw [3] (fun l wr => Hd g s R w l wr) (fun _ wr => 2 * (s.size - (intOf ((wr.cell? ⟨g, 1, none⟩).getD undef)).toNat) + bitO (wr.cell? ⟨g, 2, none⟩))
  case atStart => exact .inl ⟨s.size + 1, 0, 0, [], none, 0, rfl, by omega, by omega, by omega, Lib.hid rfl, Lib.hid (World.ownsRow_nil _ _ _ _), P, .inl ⟨rfl, rfl, rfl, rfl⟩⟩
  case round =>
    clear P
    rcases hrel with ⟨f, q, L, acc, A, c, rfl, hacc, hq, hf, HL, OW, PR, HS⟩ | ⟨q, HF, PR⟩
    case inr =>
      clear Y NO CI CL HR
      obtain ⟨z, c0, c1, c2, f1, f2⟩ := PR.out.2.facts
      go_wp2_with fail
      go_quiet (fail)
      have PF := Lib.hid (PR.out.below (bdrewN (Below.refl _ _) nq))
      go_wp2_with fail
      go_ret
      exact ⟨_, rfl, .inr ⟨q, HF.out, PF.out⟩⟩
    case inl =>
      have hnn : L ≤ 400 := by omega
      obtain ⟨z, c0, c1, c2, f1, f2⟩ := PR.out.2.facts
      have m1 := c1
      have m2 := c2
      rcases HS with ⟨rfl, rfl, rfl, rfl⟩ | ⟨hpos, HS⟩
      · have q0 : (((0 : Nat) : Int) == 0) = true := rfl
        have q9 : decide ((0 : Int) < ((0 : Nat) : Int)) = false := rfl
        by_cases c91 : ch s 0 = 91
        · have hlt := ch_in (s := s) (p := 0) (by omega)
          have q1 : decide (0 < s.size) = true := decide_eq_true (by omega)
          have HS1 : Hid (parF s (s.size + 1) true 0 [] = R) := Lib.hid (by rw [← HR.out, if_neg (by omega), c91]; rfl)
          have HC91 := Lib.hid c91
          clear HR c91
          go_wp2_with fail
          go_quiet (fail)
          have PC := Lib.hid (PR.out.below (bdrewN (Below.refl _ _) nq))
          have OC := Lib.hid (own_bel OW.out (bdrewN (Below.refl _ _) nq))
          clear PR OW z c0 c1 c2 f1 f2
          generalize wr.drewN nq = wc at *
          go_wp2_with fail
          refine (Y.out 91 0 _ PC.out.2 hq (by omega) HC91.out).mono ?_
          rintro e w5 ⟨rfl, hb5⟩
          have P5 := Lib.hid (PC.out.trans hb5)
          have O5 := Lib.hid (own_kept OC.out hb5.1 hg)
          clear hb5 PC OC
          go_wp2_with fail
          have HGO := idxF_go (s := s) (a := 0 + 1) (s.size + 1) (0 + 1) 0 (by omega)
          have HGO : 0 ≤ (idxF s (0 + 1) (s.size + 1) (0 + 1) 0).2.2 ∧ (idxF s (0 + 1) (s.size + 1) (0 + 1) 0).2.2 ≤ s.size ∧ ((idxF s (0 + 1) (s.size + 1) (0 + 1) 0).1 = true → 0 < (idxF s (0 + 1) (s.size + 1) (0 + 1) 0).2.2) := ⟨by omega, HGO.2, fun _ => by omega⟩
          obtain ⟨r, n, q', HI⟩ : ∃ r n q', Hid (idxF s (0 + 1) (s.size + 1) (0 + 1) 0 = (r, n, q')) := ⟨_, _, _, Lib.hid rfl⟩
          rw [HI.out] at HGO
          have HP1 := Lib.hid (idx_go (f := s.size) (p := 0) (acc := ([] : List St)) r n q' HI.out)
          simp only at HGO
          refine (CI.out 0 _ P5.out.2 (by omega) (r, n, q') HI).mono ?_
          rintro e w8 ⟨⟨v, rfl, hv⟩, hb8⟩
          have P8 := Lib.hid (P5.out.trans hb8)
          have O8 := Lib.hid (own_kept O5.out hb8.1 hg)
          have HV := Lib.hid hv
          simp only at P8 HV
          clear hb8 P5 O5 HI hv CI CL Y NO
          have N8 := Lib.hid (World.alloc_heap_new w8 (.cells #[.string (⟨#[]⟩ : ByteArray), .int .i64 v] 37))
          have P9 := Lib.hid (P8.out.below ((Below.refl _ _).alloc (Nat.le_refl _) (.cells #[.string (⟨#[]⟩ : ByteArray), .int .i64 v] 37)))
          have O9 := Lib.hid (O8.out.alloc (.cells #[.string (⟨#[]⟩ : ByteArray), .int .i64 v] 37))
          have hz8 : w.heap.size ≤ w8.heap.size := P8.out.1.size
          clear P8 O8
          go_wp2_with (at_builtin; refine wpList_append_own _ rfl _ _ 22 rfl w.heap.size 37 i0 (.agg #[.string ⟨#[]⟩, .int .i64 0]) 2 24 Tryd.underlying22 hi hz0 hz1 hz2 rfl (by decide) _ _ _ rfl O9.out ⟨w8.heap.size, 0, none⟩ 1 1 [.string (⟨#[]⟩ : ByteArray), .int .i64 v] rfl rfl ?c1 ?c2 ?c3 ?c4 ?c5 ?_)
          case c1 => exact cells_new2 _ _ _ _ _ (by simp)
          case c2 => intro u hu; simp at hu; rcases hu with rfl | rfl <;> rfl
          case c3 => unfold maxLen; first | omega | (simp; omega) | simp
          case c4 => first | omega | (simp; omega) | simp
          case c5 => first | omega | (simp; omega) | simp
          intro v' w9 hown hgrow _
          have hrow := fun j hj => (O9.out.lt j hj).1
          have PX := Lib.hid (P9.out.grown hgrow hrow hg)
          have OX : Hid (w9.ownsRow w.heap.size 37 2 v' (0 + 1) (flat (([] : List St) ++ [(((⟨#[]⟩ : ByteArray), v) : St)]))) := Lib.hid (by rw [flat_snoc]; exact hown)
          obtain ⟨A', c', rfl⟩ := own_len OX.out
          clear hown hgrow hrow P9 O9 N8
          go_wp2_with fail
          go_roundw
          case rel =>
            cases r with
            | true =>
              obtain rfl := HV.out rfl
              refine .inl ⟨s.size, q', 0 + 1, ([] : List St) ++ [(((⟨#[]⟩ : ByteArray), (n : Int)) : St)], A', c', rfl, by have := HGO.2.2 rfl; omega, HGO.2.1, by have := HGO.2.2 rfl; omega, Lib.hid (by rw [List.length_append, HL.out]; rfl), OX, PX, .inr ⟨by omega, Lib.hid ((HP1.out.1 rfl).symm.trans HS1.out)⟩⟩
            | false => exact .inr ⟨q', Lib.hid (HS1.out.symm.trans (HP1.out.2 rfl)), PX⟩
          case measure =>
            cases r with
            | true =>
              obtain ⟨_, _, y1, y2, _, _⟩ := PX.out.2.facts
              have g1 := HGO.2.2 rfl
              have g2 := HGO.2.1
              simp [intOf, bitO, m1, m2, y1, y2]; omega
            | false =>
              obtain ⟨_, _, y1, y2, _, _⟩ := PX.out.2.facts
              have g1 := HGO.1
              have g2 := HGO.2.1
              simp [intOf, bitO, m1, m2, y1, y2]; omega
        have HC91 := Lib.hid c91
        by_cases c46 : ch s 0 = 46
        · have hlt := ch_in (s := s) (p := 0) (by omega)
          have q1 : decide (0 < s.size) = true := decide_eq_true (by omega)
          have HX : Hid (([], 8, 1) = R) := Lib.hid (by rw [← HR.out, if_pos c46])
          have HC46 := Lib.hid c46
          clear HR c91 c46
          go_wp2_with fail
          go_quiet (fail)
          have PC := Lib.hid (PR.out.below (bdrewN (Below.refl _ _) nq))
          have OC := Lib.hid (own_bel OW.out (bdrewN (Below.refl _ _) nq))
          clear PR OW z c0 c1 c2 f1 f2
          generalize wr.drewN nq = wc at *
          go_wp2_with fail
          refine (NO.out 91 0 _ PC.out.2 hq (by omega) HC91.out).mono ?_
          rintro e w5 ⟨rfl, hb5⟩
          have P5 := Lib.hid (PC.out.trans hb5)
          have O5 := Lib.hid (own_kept OC.out hb5.1 hg)
          clear hb5 PC OC
          go_wp2_with fail
          refine (Y.out 46 0 _ P5.out.2 hq (by omega) HC46.out).mono ?_
          rintro e w6 ⟨rfl, hb6⟩
          have P6 := Lib.hid (P5.out.trans hb6)
          have O6 := Lib.hid (own_kept O5.out hb6.1 hg)
          clear hb6 P5 O5
          obtain ⟨z, c0, c1, c2, f1, f2⟩ := P6.out.2.facts
          have PF := Lib.hid (P6.out.fail true)
          go_wp2_with fail
          go_ret
          exact ⟨_, rfl, .inr ⟨1, HX.out.symm, PF.out⟩⟩
        have HC46 := Lib.hid c46
        have HS1 : Hid (parF s (s.size + 1) false 0 [] = R) := Lib.hid (by rw [← HR.out, if_neg c46, beq_eq_false_iff_ne.2 c91])
        obtain ⟨b1, q1⟩ : ∃ b1, decide (0 < s.size) = b1 := ⟨_, rfl⟩
        clear HR c91 c46
        cases b1 with
        | true =>
          go_wp2_with fail
          go_quiet (fail)
          have PC := Lib.hid (PR.out.below (bdrewN (Below.refl _ _) nq))
          have OC := Lib.hid (own_bel OW.out (bdrewN (Below.refl _ _) nq))
          clear PR OW z c0 c1 c2 f1 f2
          generalize wr.drewN nq = wc at *
          go_wp2_with fail
          refine (NO.out 91 0 _ PC.out.2 hq (by omega) HC91.out).mono ?_
          rintro e w5 ⟨rfl, hb5⟩
          have P5 := Lib.hid (PC.out.trans hb5)
          have O5 := Lib.hid (own_kept OC.out hb5.1 hg)
          clear hb5 PC OC
          go_wp2_with fail
          refine (NO.out 46 0 _ P5.out.2 hq (by omega) HC46.out).mono ?_
          rintro e w6 ⟨rfl, hb6⟩
          have P6 := Lib.hid (P5.out.trans hb6)
          have O6 := Lib.hid (own_kept O5.out hb6.1 hg)
          clear hb6 P5 O5
          go_wp2_with fail
          have HGO := labX_go (s := s) (p := 0) (by omega)
          obtain ⟨r, n, q', HI⟩ : ∃ r n q', Hid (labX s (0) = (r, n, q')) := ⟨_, _, _, Lib.hid rfl⟩
          rw [HI.out] at HGO
          have HP1 := Lib.hid (lab_go (f := s.size) (p := 0) (acc := ([] : List St)) r n q' HI.out)
          simp only at HGO
          refine (CL.out 0 _ P6.out.2 (by omega) (r, n, q') HI).mono ?_
          rintro e w8 ⟨⟨v, rfl, hv⟩, hb8⟩
          have P8 := Lib.hid (P6.out.trans hb8)
          have O8 := Lib.hid (own_kept O6.out hb8.1 hg)
          have HV := Lib.hid hv
          simp only at P8 HV
          clear hb8 P6 O6 HI hv CI CL Y NO
          have N8 := Lib.hid (World.alloc_heap_new w8 (.cells #[.string v, .int .i64 (0 : Int)] 37))
          have P9 := Lib.hid (P8.out.below ((Below.refl _ _).alloc (Nat.le_refl _) (.cells #[.string v, .int .i64 (0 : Int)] 37)))
          have O9 := Lib.hid (O8.out.alloc (.cells #[.string v, .int .i64 (0 : Int)] 37))
          have hz8 : w.heap.size ≤ w8.heap.size := P8.out.1.size
          clear P8 O8
          go_wp2_with (at_builtin; refine wpList_append_own _ rfl _ _ 22 rfl w.heap.size 37 i0 (.agg #[.string ⟨#[]⟩, .int .i64 0]) 2 24 Tryd.underlying22 hi hz0 hz1 hz2 rfl (by decide) _ _ _ rfl O9.out ⟨w8.heap.size, 0, none⟩ 1 1 [.string v, .int .i64 (0 : Int)] rfl rfl ?c1 ?c2 ?c3 ?c4 ?c5 ?_)
          case c1 => exact cells_new2 _ _ _ _ _ (by simp)
          case c2 => intro u hu; simp at hu; rcases hu with rfl | rfl <;> rfl
          case c3 => unfold maxLen; first | omega | (simp; omega) | simp
          case c4 => first | omega | (simp; omega) | simp
          case c5 => first | omega | (simp; omega) | simp
          intro v' w9 hown hgrow _
          have hrow := fun j hj => (O9.out.lt j hj).1
          have PX := Lib.hid (P9.out.grown hgrow hrow hg)
          have OX : Hid (w9.ownsRow w.heap.size 37 2 v' (0 + 1) (flat (([] : List St) ++ [((v, (0 : Int)) : St)]))) := Lib.hid (by rw [flat_snoc]; exact hown)
          obtain ⟨A', c', rfl⟩ := own_len OX.out
          clear hown hgrow hrow P9 O9 N8
          go_wp2_with fail
          go_roundw
          case rel =>
            cases r with
            | true =>
              obtain rfl := HV.out rfl
              refine .inl ⟨s.size, q', 0 + 1, ([] : List St) ++ [((v, (0 : Int)) : St)], A', c', rfl, by have := HGO.2.2 rfl; omega, HGO.2.1, by have := HGO.2.2 rfl; omega, Lib.hid (by rw [List.length_append, HL.out]; rfl), OX, PX, .inr ⟨by omega, Lib.hid ((HP1.out.1 rfl).symm.trans HS1.out)⟩⟩
            | false => exact .inr ⟨q', Lib.hid (HS1.out.symm.trans (HP1.out.2 rfl)), PX⟩
          case measure =>
            cases r with
            | true =>
              obtain ⟨_, _, y1, y2, _, _⟩ := PX.out.2.facts
              have g1 := HGO.2.2 rfl
              have g2 := HGO.2.1
              simp [intOf, bitO, m1, m2, y1, y2]; omega
            | false =>
              obtain ⟨_, _, y1, y2, _, _⟩ := PX.out.2.facts
              have g1 := HGO.1
              have g2 := HGO.2.1
              simp [intOf, bitO, m1, m2, y1, y2]; omega
        | false =>
          go_wp2_with fail
          go_quiet (fail)
          have PC := Lib.hid (PR.out.below (bdrewN (Below.refl _ _) nq))
          have OC := Lib.hid (own_bel OW.out (bdrewN (Below.refl _ _) nq))
          clear PR OW z c0 c1 c2 f1 f2
          generalize wr.drewN nq = wc at *
          go_wp2_with fail
          refine (NO.out 91 0 _ PC.out.2 hq (by omega) HC91.out).mono ?_
          rintro e w5 ⟨rfl, hb5⟩
          have P5 := Lib.hid (PC.out.trans hb5)
          have O5 := Lib.hid (own_kept OC.out hb5.1 hg)
          clear hb5 PC OC
          go_wp2_with fail
          refine (NO.out 46 0 _ P5.out.2 hq (by omega) HC46.out).mono ?_
          rintro e w6 ⟨rfl, hb6⟩
          have P6 := Lib.hid (P5.out.trans hb6)
          have O6 := Lib.hid (own_kept O5.out hb6.1 hg)
          clear hb6 P5 O5
          go_wp2_with fail
          have HGO := labX_go (s := s) (p := 0) (by omega)
          obtain ⟨r, n, q', HI⟩ : ∃ r n q', Hid (labX s (0) = (r, n, q')) := ⟨_, _, _, Lib.hid rfl⟩
          rw [HI.out] at HGO
          have HP1 := Lib.hid (lab_go (f := s.size) (p := 0) (acc := ([] : List St)) r n q' HI.out)
          simp only at HGO
          refine (CL.out 0 _ P6.out.2 (by omega) (r, n, q') HI).mono ?_
          rintro e w8 ⟨⟨v, rfl, hv⟩, hb8⟩
          have P8 := Lib.hid (P6.out.trans hb8)
          have O8 := Lib.hid (own_kept O6.out hb8.1 hg)
          have HV := Lib.hid hv
          simp only at P8 HV
          clear hb8 P6 O6 HI hv CI CL Y NO
          have N8 := Lib.hid (World.alloc_heap_new w8 (.cells #[.string v, .int .i64 (0 : Int)] 37))
          have P9 := Lib.hid (P8.out.below ((Below.refl _ _).alloc (Nat.le_refl _) (.cells #[.string v, .int .i64 (0 : Int)] 37)))
          have O9 := Lib.hid (O8.out.alloc (.cells #[.string v, .int .i64 (0 : Int)] 37))
          have hz8 : w.heap.size ≤ w8.heap.size := P8.out.1.size
          clear P8 O8
          go_wp2_with (at_builtin; refine wpList_append_own _ rfl _ _ 22 rfl w.heap.size 37 i0 (.agg #[.string ⟨#[]⟩, .int .i64 0]) 2 24 Tryd.underlying22 hi hz0 hz1 hz2 rfl (by decide) _ _ _ rfl O9.out ⟨w8.heap.size, 0, none⟩ 1 1 [.string v, .int .i64 (0 : Int)] rfl rfl ?c1 ?c2 ?c3 ?c4 ?c5 ?_)
          case c1 => exact cells_new2 _ _ _ _ _ (by simp)
          case c2 => intro u hu; simp at hu; rcases hu with rfl | rfl <;> rfl
          case c3 => unfold maxLen; first | omega | (simp; omega) | simp
          case c4 => first | omega | (simp; omega) | simp
          case c5 => first | omega | (simp; omega) | simp
          intro v' w9 hown hgrow _
          have hrow := fun j hj => (O9.out.lt j hj).1
          have PX := Lib.hid (P9.out.grown hgrow hrow hg)
          have OX : Hid (w9.ownsRow w.heap.size 37 2 v' (0 + 1) (flat (([] : List St) ++ [((v, (0 : Int)) : St)]))) := Lib.hid (by rw [flat_snoc]; exact hown)
          obtain ⟨A', c', rfl⟩ := own_len OX.out
          clear hown hgrow hrow P9 O9 N8
          go_wp2_with fail
          go_roundw
          case rel =>
            cases r with
            | true =>
              obtain rfl := HV.out rfl
              refine .inl ⟨s.size, q', 0 + 1, ([] : List St) ++ [((v, (0 : Int)) : St)], A', c', rfl, by have := HGO.2.2 rfl; omega, HGO.2.1, by have := HGO.2.2 rfl; omega, Lib.hid (by rw [List.length_append, HL.out]; rfl), OX, PX, .inr ⟨by omega, Lib.hid ((HP1.out.1 rfl).symm.trans HS1.out)⟩⟩
            | false => exact .inr ⟨q', Lib.hid (HS1.out.symm.trans (HP1.out.2 rfl)), PX⟩
          case measure =>
            cases r with
            | true =>
              obtain ⟨_, _, y1, y2, _, _⟩ := PX.out.2.facts
              have g1 := HGO.2.2 rfl
              have g2 := HGO.2.1
              simp [intOf, bitO, m1, m2, y1, y2]; omega
            | false =>
              obtain ⟨_, _, y1, y2, _, _⟩ := PX.out.2.facts
              have g1 := HGO.1
              have g2 := HGO.2.1
              simp [intOf, bitO, m1, m2, y1, y2]; omega
      · clear HR
        have q0 : ((L : Int) == 0) = false := beq_eq_false_iff_ne.2 (by omega)
        have q9 : decide ((0 : Int) < (L : Int)) = true := decide_eq_true (by omega)
        by_cases hend : q = s.size
        · have q1 : decide (q < s.size) = false := decide_eq_false (by omega)
          have HV : Hid ((acc, 0, 0) = R) := Lib.hid (by rw [← HS.out]; unfold contF; rw [if_pos hend])
          clear HS hend Y NO CI CL
          go_wp2_with fail
          go_quiet (fail)
          have PF := Lib.hid (PR.out.below (bdrewN (Below.refl _ _) nq))
          have OF := Lib.hid (own_bel OW.out (bdrewN (Below.refl _ _) nq))
          go_wp2_with fail
          go_ret
          exact ⟨_, rfl, .inl ⟨by rw [← HV.out], q, PF.out, by rw [← HV.out]; show World.ownsRow _ _ _ _ _ acc.length _; rw [HL.out]; exact OF.out⟩⟩
        · have hlt : q < s.size := by omega
          have q1 : decide ((q : Int) < (s.size : Int)) = true := decide_eq_true (by omega)
          obtain ⟨f', rfl⟩ : ∃ f', f = f' + 1 := ⟨f - 1, by omega⟩
          by_cases c91 : ch s q = 91
          · have HS1 : Hid (parF s (f' + 1) true q acc = R) := Lib.hid (by rw [← HS.out]; unfold contF; rw [if_neg (by omega), if_neg (by omega), if_pos c91])
            have HC91 := Lib.hid c91
            clear HS c91
            go_wp2_with fail
            go_quiet (fail)
            have PC := Lib.hid (PR.out.below (bdrewN (Below.refl _ _) nq))
            have OC := Lib.hid (own_bel OW.out (bdrewN (Below.refl _ _) nq))
            clear PR OW z c0 c1 c2 f1 f2
            generalize wr.drewN nq = wc at *
            go_wp2_with fail
            refine (Y.out 91 q _ PC.out.2 hq (by omega) HC91.out).mono ?_
            rintro e w5 ⟨rfl, hb5⟩
            have P5 := Lib.hid (PC.out.trans hb5)
            have O5 := Lib.hid (own_kept OC.out hb5.1 hg)
            clear hb5 PC OC
            go_wp2_with fail
            have HGO := idxF_go (s := s) (a := q + 1) (s.size + 1) (q + 1) 0 (by omega)
            have HGO : q ≤ (idxF s (q + 1) (s.size + 1) (q + 1) 0).2.2 ∧ (idxF s (q + 1) (s.size + 1) (q + 1) 0).2.2 ≤ s.size ∧ ((idxF s (q + 1) (s.size + 1) (q + 1) 0).1 = true → q < (idxF s (q + 1) (s.size + 1) (q + 1) 0).2.2) := ⟨by omega, HGO.2, fun _ => by omega⟩
            obtain ⟨r, n, q', HI⟩ : ∃ r n q', Hid (idxF s (q + 1) (s.size + 1) (q + 1) 0 = (r, n, q')) := ⟨_, _, _, Lib.hid rfl⟩
            rw [HI.out] at HGO
            have HP1 := Lib.hid (idx_go (f := f') (p := q) (acc := acc) r n q' HI.out)
            simp only at HGO
            refine (CI.out q _ P5.out.2 (by omega) (r, n, q') HI).mono ?_
            rintro e w8 ⟨⟨v, rfl, hv⟩, hb8⟩
            have P8 := Lib.hid (P5.out.trans hb8)
            have O8 := Lib.hid (own_kept O5.out hb8.1 hg)
            have HV := Lib.hid hv
            simp only at P8 HV
            clear hb8 P5 O5 HI hv CI CL Y NO
            have N8 := Lib.hid (World.alloc_heap_new w8 (.cells #[.string (⟨#[]⟩ : ByteArray), .int .i64 v] 37))
            have P9 := Lib.hid (P8.out.below ((Below.refl _ _).alloc (Nat.le_refl _) (.cells #[.string (⟨#[]⟩ : ByteArray), .int .i64 v] 37)))
            have O9 := Lib.hid (O8.out.alloc (.cells #[.string (⟨#[]⟩ : ByteArray), .int .i64 v] 37))
            have hz8 : w.heap.size ≤ w8.heap.size := P8.out.1.size
            clear P8 O8
            go_wp2_with (at_builtin; refine wpList_append_own _ rfl _ _ 22 rfl w.heap.size 37 i0 (.agg #[.string ⟨#[]⟩, .int .i64 0]) 2 24 Tryd.underlying22 hi hz0 hz1 hz2 rfl (by decide) _ _ _ rfl O9.out ⟨w8.heap.size, 0, none⟩ 1 1 [.string (⟨#[]⟩ : ByteArray), .int .i64 v] rfl rfl ?c1 ?c2 ?c3 ?c4 ?c5 ?_)
            case c1 => exact cells_new2 _ _ _ _ _ (by simp)
            case c2 => intro u hu; simp at hu; rcases hu with rfl | rfl <;> rfl
            case c3 => unfold maxLen; first | omega | (simp; omega) | simp
            case c4 => first | omega | (simp; omega) | simp
            case c5 => first | omega | (simp; omega) | simp
            intro v' w9 hown hgrow _
            have hrow := fun j hj => (O9.out.lt j hj).1
            have PX := Lib.hid (P9.out.grown hgrow hrow hg)
            have OX : Hid (w9.ownsRow w.heap.size 37 2 v' (L + 1) (flat (acc ++ [(((⟨#[]⟩ : ByteArray), v) : St)]))) := Lib.hid (by rw [flat_snoc]; exact hown)
            obtain ⟨A', c', rfl⟩ := own_len OX.out
            clear hown hgrow hrow P9 O9 N8
            go_wp2_with fail
            go_roundw
            case rel =>
              cases r with
              | true =>
                obtain rfl := HV.out rfl
                refine .inl ⟨f', q', L + 1, acc ++ [(((⟨#[]⟩ : ByteArray), (n : Int)) : St)], A', c', rfl, by have := HGO.2.2 rfl; omega, HGO.2.1, by have := HGO.2.2 rfl; omega, Lib.hid (by rw [List.length_append, HL.out]; rfl), OX, PX, .inr ⟨by omega, Lib.hid ((HP1.out.1 rfl).symm.trans HS1.out)⟩⟩
              | false => exact .inr ⟨q', Lib.hid (HS1.out.symm.trans (HP1.out.2 rfl)), PX⟩
            case measure =>
              cases r with
              | true =>
                obtain ⟨_, _, y1, y2, _, _⟩ := PX.out.2.facts
                have g1 := HGO.2.2 rfl
                have g2 := HGO.2.1
                simp [intOf, bitO, m1, m2, y1, y2]; omega
              | false =>
                obtain ⟨_, _, y1, y2, _, _⟩ := PX.out.2.facts
                have g1 := HGO.1
                have g2 := HGO.2.1
                simp [intOf, bitO, m1, m2, y1, y2]; omega
          have HC91 := Lib.hid c91
          by_cases c46 : ch s q = 46
          · have HS1 : Hid (parF s (f' + 1) false (q + 1) acc = R) := Lib.hid (by rw [← HS.out]; unfold contF; rw [if_neg (by omega), if_pos c46])
            have HC46 := Lib.hid c46
            clear HS c91 c46
            go_wp2_with fail
            go_quiet (fail)
            have PC := Lib.hid (PR.out.below (bdrewN (Below.refl _ _) nq))
            have OC := Lib.hid (own_bel OW.out (bdrewN (Below.refl _ _) nq))
            clear PR OW z c0 c1 c2 f1 f2
            generalize wr.drewN nq = wc at *
            go_wp2_with fail
            refine (NO.out 91 q _ PC.out.2 hq (by omega) HC91.out).mono ?_
            rintro e w5 ⟨rfl, hb5⟩
            have P5 := Lib.hid (PC.out.trans hb5)
            have O5 := Lib.hid (own_kept OC.out hb5.1 hg)
            clear hb5 PC OC
            go_wp2_with fail
            refine (Y.out 46 q _ P5.out.2 hq (by omega) HC46.out).mono ?_
            rintro e w6 ⟨rfl, hb6⟩
            have P6 := Lib.hid (P5.out.trans hb6)
            have O6 := Lib.hid (own_kept O5.out hb6.1 hg)
            clear hb6 P5 O5
            go_wp2_with fail
            have HGO := labX_go (s := s) (p := (q + 1)) (by omega)
            obtain ⟨r, n, q', HI⟩ : ∃ r n q', Hid (labX s ((q + 1)) = (r, n, q')) := ⟨_, _, _, Lib.hid rfl⟩
            rw [HI.out] at HGO
            have HP1 := Lib.hid (lab_go (f := f') (p := (q + 1)) (acc := acc) r n q' HI.out)
            simp only at HGO
            refine (CL.out (q + 1) _ P6.out.2 (by omega) (r, n, q') HI).mono ?_
            rintro e w8 ⟨⟨v, rfl, hv⟩, hb8⟩
            have P8 := Lib.hid (P6.out.trans hb8)
            have O8 := Lib.hid (own_kept O6.out hb8.1 hg)
            have HV := Lib.hid hv
            simp only at P8 HV
            clear hb8 P6 O6 HI hv CI CL Y NO
            have N8 := Lib.hid (World.alloc_heap_new w8 (.cells #[.string v, .int .i64 (0 : Int)] 37))
            have P9 := Lib.hid (P8.out.below ((Below.refl _ _).alloc (Nat.le_refl _) (.cells #[.string v, .int .i64 (0 : Int)] 37)))
            have O9 := Lib.hid (O8.out.alloc (.cells #[.string v, .int .i64 (0 : Int)] 37))
            have hz8 : w.heap.size ≤ w8.heap.size := P8.out.1.size
            clear P8 O8
            go_wp2_with (at_builtin; refine wpList_append_own _ rfl _ _ 22 rfl w.heap.size 37 i0 (.agg #[.string ⟨#[]⟩, .int .i64 0]) 2 24 Tryd.underlying22 hi hz0 hz1 hz2 rfl (by decide) _ _ _ rfl O9.out ⟨w8.heap.size, 0, none⟩ 1 1 [.string v, .int .i64 (0 : Int)] rfl rfl ?c1 ?c2 ?c3 ?c4 ?c5 ?_)
            case c1 => exact cells_new2 _ _ _ _ _ (by simp)
            case c2 => intro u hu; simp at hu; rcases hu with rfl | rfl <;> rfl
            case c3 => unfold maxLen; first | omega | (simp; omega) | simp
            case c4 => first | omega | (simp; omega) | simp
            case c5 => first | omega | (simp; omega) | simp
            intro v' w9 hown hgrow _
            have hrow := fun j hj => (O9.out.lt j hj).1
            have PX := Lib.hid (P9.out.grown hgrow hrow hg)
            have OX : Hid (w9.ownsRow w.heap.size 37 2 v' (L + 1) (flat (acc ++ [((v, (0 : Int)) : St)]))) := Lib.hid (by rw [flat_snoc]; exact hown)
            obtain ⟨A', c', rfl⟩ := own_len OX.out
            clear hown hgrow hrow P9 O9 N8
            go_wp2_with fail
            go_roundw
            case rel =>
              cases r with
              | true =>
                obtain rfl := HV.out rfl
                refine .inl ⟨f', q', L + 1, acc ++ [((v, (0 : Int)) : St)], A', c', rfl, by have := HGO.2.2 rfl; omega, HGO.2.1, by have := HGO.2.2 rfl; omega, Lib.hid (by rw [List.length_append, HL.out]; rfl), OX, PX, .inr ⟨by omega, Lib.hid ((HP1.out.1 rfl).symm.trans HS1.out)⟩⟩
              | false => exact .inr ⟨q', Lib.hid (HS1.out.symm.trans (HP1.out.2 rfl)), PX⟩
            case measure =>
              cases r with
              | true =>
                obtain ⟨_, _, y1, y2, _, _⟩ := PX.out.2.facts
                have g1 := HGO.2.2 rfl
                have g2 := HGO.2.1
                simp [intOf, bitO, m1, m2, y1, y2]; omega
              | false =>
                obtain ⟨_, _, y1, y2, _, _⟩ := PX.out.2.facts
                have g1 := HGO.1
                have g2 := HGO.2.1
                simp [intOf, bitO, m1, m2, y1, y2]; omega
          · have HX : Hid (([], 8, q) = R) := Lib.hid (by rw [← HS.out]; unfold contF; rw [if_neg (by omega), if_neg c46, if_neg c91])
            have HC46 := Lib.hid c46
            clear HS c91 c46
            go_wp2_with fail
            go_quiet (fail)
            have PC := Lib.hid (PR.out.below (bdrewN (Below.refl _ _) nq))
            have OC := Lib.hid (own_bel OW.out (bdrewN (Below.refl _ _) nq))
            clear PR OW z c0 c1 c2 f1 f2
            generalize wr.drewN nq = wc at *
            go_wp2_with fail
            refine (NO.out 91 q _ PC.out.2 hq (by omega) HC91.out).mono ?_
            rintro e w5 ⟨rfl, hb5⟩
            have P5 := Lib.hid (PC.out.trans hb5)
            have O5 := Lib.hid (own_kept OC.out hb5.1 hg)
            clear hb5 PC OC
            go_wp2_with fail
            refine (NO.out 46 q _ P5.out.2 hq (by omega) HC46.out).mono ?_
            rintro e w6 ⟨rfl, hb6⟩
            have P6 := Lib.hid (P5.out.trans hb6)
            have O6 := Lib.hid (own_kept O5.out hb6.1 hg)
            clear hb6 P5 O5
            obtain ⟨z, c0, c1, c2, f1, f2⟩ := P6.out.2.facts
            have PF := Lib.hid (P6.out.fail true)
            go_wp2_with fail
            go_ret
            exact ⟨_, rfl, .inr ⟨q, HX.out.symm, PF.out⟩⟩
end Go.Proofs.YtaocgibfabofhaaDoor
