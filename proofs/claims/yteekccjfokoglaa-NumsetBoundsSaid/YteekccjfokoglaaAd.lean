/-
  The law's own alive: the chapter's examples hold. No condition.
-/
import Derived.Test.YteekccjfokoglaaAc
import Derived.Deep.DeepCutAuto
namespace Go.Proofs.Yteekccjfokoglaa
open Go.RowKit Go.Sort Go.Lib Go.Proofs
set_option linter.unusedSimpArgs false
set_option linter.unnecessarySimpa false
set_option linter.unusedVariables false
theorem bx (w : World) (c0 c1 : Value) : (w.alloc (.cells #[c0, c1] 24)).cell? ⟨w.heap.size, 0, none⟩ = some c0 ∧ (w.alloc (.cells #[c0, c1] 24)).cell? ⟨w.heap.size, 1, none⟩ = some c1 ∧ Below w.heap.size w (w.alloc (.cells #[c0, c1] 24)) ∧ w.heap.size < (w.alloc (.cells #[c0, c1] 24)).heap.size := by
  refine ⟨by simp, by simp, bal w _, by simp⟩
/-- a box at b with the set s -/
def Bxn (W : World) (b : Nat) (A1 : Option Addr) (c1 : Nat) (A2 : Option Addr) (c2 : Nat) (s : NS) : Prop :=
  W.cell? ⟨b, 0, none⟩ = some (.slice A1 s.1.length c1) ∧ W.cell? ⟨b, 1, none⟩ = some (.slice A2 s.2.length c2) ∧ Ns W A1 c1 A2 c2 s ∧ b < W.heap.size
theorem Bxn.ns {W : World} {b : Nat} {A1 A2 : Option Addr} {c1 c2 : Nat} {s : NS} (h : Bxn W b A1 c1 A2 c2 s) : Ns W A1 c1 A2 c2 s := h.2.2.1
theorem Bxn.up {W W' : World} {b : Nat} {A1 A2 : Option Addr} {c1 c2 : Nat} {s : NS} (h : Bxn W b A1 c1 A2 c2 s) (hb : Below W.heap.size W W') : Bxn W' b A1 c1 A2 c2 s :=
  ⟨(hb.cell (p := ⟨b, 0, none⟩) h.2.2.2).trans h.1, (hb.cell (p := ⟨b, 1, none⟩) h.2.2.2).trans h.2.1, h.2.2.1.up hb, Nat.lt_of_lt_of_le h.2.2.2 hb.size⟩
theorem bxn_new {W : World} {A1 A2 : Option Addr} {c1 c2 : Nat} {s : NS} (h : Ns W A1 c1 A2 c2 s) : Bxn (W.alloc (.cells #[.slice A1 s.1.length c1, .slice A2 s.2.length c2] 24)) W.heap.size A1 c1 A2 c2 s :=
  ⟨(bx W _ _).1, (bx W _ _).2.1, h.up (bx W _ _).2.2.1, (bx W _ _).2.2.2⟩
theorem set_case {w w6 v2 : World} {r : Nat} {F1 F2 : Option Addr} {f1 f2 : Nat} {s : NS} (hY : Yb r v2) (hn : Ns v2 F1 f1 F2 f2 s) (h1 : Hi (r + 1) F1) (h2 : Hi (r + 1) F2) (hD : Below w.heap.size w w6) (hb : Below w6.heap.size w6 v2) (hr : w6.heap.size ≤ r) :
    ∃ b G1 g1 G2 g2, Value.pointer (some ⟨r, 0, none⟩) = .pointer (some ⟨b, 0, none⟩) ∧ Hid (Bxn ((v2.setCell ⟨r, 0, none⟩ (.slice F1 s.1.length f1)).setCell ⟨r, 1, none⟩ (.slice F2 s.2.length f2)) b G1 g1 G2 g2 s) ∧ Hid (Below w.heap.size w ((v2.setCell ⟨r, 0, none⟩ (.slice F1 s.1.length f1)).setCell ⟨r, 1, none⟩ (.slice F2 s.2.length f2))) := by
  obtain ⟨⟨q0, q1⟩, hfn, hfb⟩ := fin_set hY hn h1 h2 s.1.length s.2.length
  exact ⟨r, F1, f1, F2, f2, rfl, Lib.hid ⟨q0, q1, hfn, Nat.lt_of_lt_of_le hY.lt hfb.size⟩, Lib.hid (hD.trans ((hb.mono hD.size).trans (hfb.mono (Nat.le_trans hD.size hr))))⟩
set_option maxRecDepth 100000 in
set_option maxHeartbeats 8000000 in
theorem alive_any (w : World) : Calls Try.prog 13 #[] w (EqIs true w) := by
  have H1 := Lib.hid (fun W => bound_lt W)
  have H2 := Lib.hid (fun W => bound_eq W)
  have H3 := Lib.hid (fun W => bound_ne W)
  have HL : Hid (andd (btw (-1000000000000000) 14999) intS = lowS) := Lib.hid rfl
  have HK : Hid (okN 10 (btw (-1000000000000000) 14999)) := Lib.hid ((mk_ok (k := 1) ⟨by simp, by simp, fun x hx => by simp at hx; subst hx; unfold i64ok; simp, fun x hx => by simp at hx; subst hx; unfold i64ok; simp⟩).le (by omega))
  generalize btw (-1000000000000000) 14999 = S at *
  go_enter Try.func13, Try.ntmps13
  go_wp2_with fail
  refine (H1.out _).mono ?_
  rintro e w1 ⟨E1, e1, E2, e2, rfl, ⟨hns, _, _⟩, hb1⟩
  have B1 := Lib.hid (bxn_new hns)
  have D1 := Lib.hid (hb1.trans ((bx w1 (.slice E1 S.1.length e1) (.slice E2 S.2.length e2)).2.2.1.mono hb1.size))
  clear hns hb1
  go_wp2_with fail
  generalize hw : w1.alloc (.cells #[.slice E1 S.1.length e1, .slice E2 S.2.length e2] 24) = w2 at *
  clear hw
  generalize w1.heap.size = p1 at *
  refine (H2.out _).mono ?_
  rintro e w3 ⟨F1, f1, F2, f2, rfl, ⟨hns, _, _⟩, hb⟩
  have hbb := hb.trans ((bx w3 (.slice F1 0 f1) (.slice F2 0 f2)).2.2.1.mono hb.size)
  have B2 := Lib.hid (B1.out.up hbb)
  have D2 := Lib.hid (D1.out.trans (hbb.mono D1.out.size))
  clear hns hb B1 D1 hbb
  go_wp2_with fail
  try simp only [List.length_nil] at *
  generalize hw : w3.alloc (.cells #[.slice F1 0 f1, .slice F2 0 f2] 24) = w4 at *
  clear hw
  refine (H3.out _).mono ?_
  rintro e w5 ⟨G1, g1, G2, g2, rfl, ⟨hns, _, _⟩, hb⟩
  have hbb := hb.trans ((bx w5 (.slice G1 0 g1) (.slice G2 0 g2)).2.2.1.mono hb.size)
  have B3 := Lib.hid (B2.out.up hbb)
  have D3 := Lib.hid (D2.out.trans (hbb.mono D2.out.size))
  clear hns hb B2 D2 hbb H1 H2 H3
  go_upto_region 4 with fail
  try simp only [List.length_nil] at *
  generalize hw : w5.alloc (.cells #[.slice G1 0 g1, .slice G2 0 g2] 24) = w6 at *
  clear hw
  go_cut [7] (fun p wx => ∃ b F1 g1 F2 g2, p = .pointer (some ⟨b, 0, none⟩) ∧ Hid (Bxn wx b F1 g1 F2 g2 lowS) ∧ Hid (Below w.heap.size w wx))
  case first =>
    have HI := Lib.hid (fun W => intset_any W)
    have HAn := Lib.hid (show ∀ (W : World) I1 i1 I2 i2, Ns W E1 e1 E2 e2 S → Ns W I1 i1 I2 i2 intS → Calls Try.prog 25 #[nv E1 S.1.length e1 E2 S.2.length e2, nv I1 intS.1.length i1 I2 intS.2.length i2] W (GivesN lowS W) from fun W I1 i1 I2 i2 h k => by
      have h := and_any E1 E2 I1 I2 e1 e2 i1 i2 S intS W h k (HK.out.le (by omega)) (int_ok.le (by omega)); rw [HL.out] at h; exact h)
    have S0x : w6.cell? ⟨p1, 0, none⟩ = some (.slice E1 S.1.length e1) ∧ w6.cell? ⟨p1, 1, none⟩ = some (.slice E2 S.2.length e2) ∧ Below w6.heap.size w6 w6 := ⟨B3.out.1, B3.out.2.1, Below.refl _ _⟩
    have KP := Lib.hid (show ∀ W : World, Below w6.heap.size w6 W → W.cell? ⟨p1, 0, none⟩ = some (.slice E1 S.1.length e1) ∧ W.cell? ⟨p1, 1, none⟩ = some (.slice E2 S.2.length e2) ∧ Below w6.heap.size w6 W from fun W hb => ⟨(B3.out.up hb).1, (B3.out.up hb).2.1, hb⟩)
    have b0 : Below w6.heap.size w6 w6.drew := drewB w6
    obtain ⟨k0, k1, _⟩ := KP.out _ b0
    obtain ⟨k0', k1', _⟩ := KP.out _ (b0.trans ((bal w6.drew (.cells #[.slice none 0 0, .slice none 0 0] 24)).mono b0.size))
    have hp1 : p1 < w6.heap.size := B3.out.2.2.2
    have hne : ¬ p1 = w6.heap.size := Nat.ne_of_lt hp1
    go_region_with
      (first
        | (go_at_call 25; (with_reducible refine (HAn.out _ I1 i1 I2 i2 (B3.out.up b1).ns nI).mono ?_); rintro e v2 ⟨F1, f1, F2, f2, rfl, ⟨nF, hF1, hF2⟩, hb2⟩; have b2 : Below w6.heap.size w6 v2 := b1.trans (hb2.mono b1.size); have Y2 := Y1.up hb2; obtain ⟨y0, y1, f0, f1', yl⟩ := id Y2)
        | (go_at_call 25; (with_reducible refine (HAn.out _ I1 i1 I2 i2 (B3.out.up b1).ns nI).mono ?_); rintro e v2 ⟨F1, f1, F2, f2, rfl, ⟨nF, hF1, hF2⟩, hb2⟩; have b2 : Below w6.heap.size w6 v2 := b1.trans (hb2.mono b1.size))
        | (go_at_call 25; (with_reducible refine (HAn.out _ I1 i1 I2 i2 (B3.out.up (b1.trans ((bal v1 _).mono b1.size))).ns (nI.up (bal v1 _))).mono ?_); rintro e v2 ⟨F1, f1, F2, f2, rfl, ⟨nF, hF1, hF2⟩, hb2⟩; have b2 : Below w6.heap.size w6 v2 := (b1.trans ((bal v1 _).mono b1.size)).trans (hb2.mono (Nat.le_trans b1.size (by simp))); have Y2 := (yb_new v1).up hb2; obtain ⟨y0, y1, f0, f1', yl⟩ := id Y2)
        | (go_at_call 23; (with_reducible refine (HI.out w6.drew).mono ?_); rintro e v1 ⟨I1, i1, I2, i2, rfl, ⟨nI, _, _⟩, hb1⟩; have b1 : Below w6.heap.size w6 v1 := b0.trans (hb1.mono b0.size); have hne1 : ¬ p1 = v1.heap.size := Nat.ne_of_lt (Nat.lt_of_lt_of_le hp1 b1.size); obtain ⟨k2, k3, _⟩ := KP.out _ b1; obtain ⟨k2', k3', _⟩ := KP.out _ (b1.trans ((bal v1 (.cells #[.slice none 0 0, .slice none 0 0] 24)).mono b1.size)))
        | (go_at_call 23; (with_reducible refine (HI.out _).mono ?_); rintro e v1 ⟨I1, i1, I2, i2, rfl, ⟨nI, _, _⟩, hb1⟩; have b1 : Below w6.heap.size w6 v1 := (b0.trans ((bal w6.drew _).mono b0.size)).trans (hb1.mono (by simp)); have hne1 : ¬ p1 = v1.heap.size := Nat.ne_of_lt (Nat.lt_of_lt_of_le hp1 b1.size); obtain ⟨k2, k3, _⟩ := KP.out _ b1; obtain ⟨k2', k3', _⟩ := KP.out _ (b1.trans ((bal v1 (.cells #[.slice none 0 0, .slice none 0 0] 24)).mono b1.size)); have Y1 : Yb w6.heap.size v1 := (yb_new w6.drew).up hb1))
    all_goals
      go_wp2_with fail
      go_meet
    all_goals first
      | exact ⟨_, F1, f1, F2, f2, rfl, Lib.hid (bxn_new nF), Lib.hid (D3.out.trans ((b2.trans ((bal v2 _).mono b2.size)).mono D3.out.size))⟩
      | exact set_case Y2 nF (hF1.le (by have := b1.size; simp; omega)) (hF2.le (by have := b1.size; simp; omega)) D3.out b2 (Nat.le_refl _)
      | exact set_case Y2 nF (hF1.le (by have := Y1.lt; omega)) (hF2.le (by have := Y1.lt; omega)) D3.out b2 (Nat.le_refl _)
      | exact set_case Y2 nF (hF1.le (by simp)) (hF2.le (by simp)) D3.out b2 b1.size
  case rest =>
    obtain ⟨b7, F1, f1, F2, f2, rfl, B7, D7⟩ := hcut
    have HM := Lib.hid (show ∀ W : World, Calls Try.prog 15 #[nv (some ⟨W.heap.size, 0, none⟩) 2 2 none 0 0] (W.alloc (.cells #[.int .i64 2, .int .i64 2, .int .i64 1, .int .i64 1] 46)) (GivesN (oneI 1 2) (W.alloc (.cells #[.int .i64 2, .int .i64 2, .int .i64 1, .int .i64 1] 46))) from fun W => by
      have h := make_any (some ⟨W.heap.size, 0, none⟩) none 2 0 ([(2, 2), (1, 1)], []) (W.alloc (.cells #[.int .i64 2, .int .i64 2, .int .i64 1, .int .i64 1] 46)) ⟨re_two W 2 2 1 1, re_nil _ _ _, plain_at _ _, plain_nil⟩ ⟨by simp, by simp, fun x hx => by simp at hx; rcases hx with rfl | rfl <;> (unfold i64ok; simp), by simp⟩
      rw [two_i] at h; exact h)
    have HM2 := Lib.hid (show ∀ W : World, Calls Try.prog 15 #[nv none 0 0 (some ⟨W.heap.size, 0, none⟩) 2 2] (W.alloc (.cells #[.int .i64 0, .int .i64 10000, .int .i64 10000, .int .i64 20000] 46)) (GivesN (oneF 1 19999) (W.alloc (.cells #[.int .i64 0, .int .i64 10000, .int .i64 10000, .int .i64 20000] 46))) from fun W => by
      have h := make_any none (some ⟨W.heap.size, 0, none⟩) 0 2 ([], [(0, 10000), (10000, 20000)]) (W.alloc (.cells #[.int .i64 0, .int .i64 10000, .int .i64 10000, .int .i64 20000] 46)) ⟨re_nil _ _ _, re_two W 0 10000 10000 20000, plain_nil, plain_at _ _⟩ ⟨by simp, by simp, by simp, fun x hx => by simp at hx; rcases hx with rfl | rfl <;> (unfold i64ok; simp)⟩
      rw [two_f] at h; exact h)
    have HLe := Lib.hid (show ∀ (W : World) A1 c1 A2 c2, Ns W A1 c1 A2 c2 (oneI (-3) (-1)) → Calls Try.prog 39 #[nv A1 (oneI (-3) (-1)).1.length c1 A2 (oneI (-3) (-1)).2.length c2] W fun e w' => e = .returned (.tuple #[.int .i64 (-10000), .bool true]) ∧ Below W.heap.size W w' from fun W A1 c1 A2 c2 h => by
      have h := least_any A1 A2 c1 c2 (oneI (-3) (-1)) W h ⟨by simp [oneI], by simp [oneI], by simp [oneI, i64ok], by simp [oneI]⟩
      unfold LeastIs at h; rw [least_i] at h; exact h)
    have HIn := Lib.hid (fun W => ints_any (-3) (-1) W)
    go_wp2_with fail
    refine (HM.out wc).mono ?_
    rintro e w7 ⟨P1, p1', P2, p2', rfl, ⟨hns, _, _⟩, hb⟩
    have hbb := ((bal wc (.cells #[.int .i64 2, .int .i64 2, .int .i64 1, .int .i64 1] 46)).trans (hb.mono (by simp))).trans ((bx w7 (.slice P1 (oneI 1 2).1.length p1') (.slice P2 (oneI 1 2).2.length p2')).2.2.1.mono (by have := hb.size; simp at this; omega))
    have B7' := Lib.hid (B7.out.up hbb)
    have B8 := Lib.hid (bxn_new hns)
    have D8 := Lib.hid (D7.out.trans (hbb.mono D7.out.size))
    clear hns hb hbb B7 D7
    go_wp2_with fail
    generalize hw : w7.alloc (.cells #[.slice P1 (oneI 1 2).1.length p1', .slice P2 (oneI 1 2).2.length p2'] 24) = w9 at *
    clear hw
    generalize w7.heap.size = b8 at *
    refine (HIn.out _).mono ?_
    rintro e w10 ⟨I1, i1, I2, i2, rfl, ⟨hns, _, _⟩, hb⟩
    have B7 := Lib.hid (B7'.out.up hb)
    have B8' := Lib.hid (B8.out.up hb)
    have D10 := Lib.hid (D8.out.trans (hb.mono D8.out.size))
    clear B7' B8 D8 hb HIn
    go_wp2_with fail
    refine (HLe.out _ _ _ _ _ hns).mono ?_
    rintro e w11 ⟨rfl, hb⟩
    have B7' := Lib.hid (B7.out.up hb)
    have B8 := Lib.hid (B8'.out.up hb)
    have D11 := Lib.hid (D10.out.trans (hb.mono D10.out.size))
    clear B7 B8' D10 hb hns HLe
    go_wp2_with fail
    refine (HM2.out w11).mono ?_
    rintro e w12 ⟨Q1, q1', Q2, q2', rfl, ⟨hns, _, _⟩, hb⟩
    have hbb := ((bal w11 (.cells #[.int .i64 0, .int .i64 10000, .int .i64 10000, .int .i64 20000] 46)).trans (hb.mono (by simp))).trans ((bx w12 (.slice Q1 (oneF 1 19999).1.length q1') (.slice Q2 (oneF 1 19999).2.length q2')).2.2.1.mono (by have := hb.size; simp at this; omega))
    have B7 := Lib.hid (B7'.out.up hbb)
    have B8' := Lib.hid (B8.out.up hbb)
    have B11 := Lib.hid (bxn_new hns)
    have D12 := Lib.hid (D11.out.trans (hbb.mono D11.out.size))
    clear hns hb hbb B7' B8 D11 HM HM2
    go_upto_region 8 with fail
    generalize hw : w12.alloc (.cells #[.slice Q1 (oneF 1 19999).1.length q1', .slice Q2 (oneF 1 19999).2.length q2'] 24) = w8 at *
    clear hw
    generalize w12.heap.size = b11 at *
    have B8 := Lib.hid B8'.out
    clear B8'
    have okl : okN 1000 lowS := by rw [← HL.out]; exact (and_ok HK.out int_ok).le (by omega)
    have HA := Lib.hid (show ∀ W : World, Ns W F1 f1 F2 f2 lowS → Calls Try.prog 19 #[nv F1 lowS.1.length f1 F2 lowS.2.length f2, .int .i64 10000] W (EqIs true W) from fun W h => by
      have h := has_any F1 F2 f1 f2 lowS 10000 W h (okl.le (by omega)) (by unfold i64ok; omega); rw [low_1] at h; exact h)
    have HB := Lib.hid (show ∀ W : World, Ns W F1 f1 F2 f2 lowS → Calls Try.prog 19 #[nv F1 lowS.1.length f1 F2 lowS.2.length f2, .int .i64 0] W (EqIs true W) from fun W h => by
      have h := has_any F1 F2 f1 f2 lowS 0 W h (okl.le (by omega)) (by unfold i64ok; omega); rw [low_0] at h; exact h)
    have HC := Lib.hid (show ∀ W : World, Ns W F1 f1 F2 f2 lowS → Calls Try.prog 19 #[nv F1 lowS.1.length f1 F2 lowS.2.length f2, .int .i64 20000] W (EqIs false W) from fun W h => by
      have h := has_any F1 F2 f1 f2 lowS 20000 W h (okl.le (by omega)) (by unfold i64ok; omega); rw [low_2] at h; exact h)
    have HD := Lib.hid (show ∀ W : World, Ns W F1 f1 F2 f2 lowS → Calls Try.prog 19 #[nv F1 lowS.1.length f1 F2 lowS.2.length f2, .int .i64 5000] W (EqIs false W) from fun W h => by
      have h := has_any F1 F2 f1 f2 lowS 5000 W h (okl.le (by omega)) (by unfold i64ok; omega); rw [low_h] at h; exact h)
    have HI := Lib.hid (fun W => ints_any 1 2 W)
    have HF1 := Lib.hid (fun W => fracs_any 1 19999 W)
    have HF2 := Lib.hid (fun W => fracs_any 0 10000 W)
    have HAll := Lib.hid (fun W => all_any W)
    have HS1 := Lib.hid (show ∀ (W : World) I1 i1 I2 i2, Ns W P1 p1' P2 p2' (oneI 1 2) → Ns W I1 i1 I2 i2 (oneI 1 2) → Calls Try.prog 14 #[nv P1 (oneI 1 2).1.length p1' P2 (oneI 1 2).2.length p2', nv I1 (oneI 1 2).1.length i1 I2 (oneI 1 2).2.length i2] W (EqIs true W) from fun W I1 i1 I2 i2 h k => by
      have h := same_any P1 P2 I1 I2 p1' p2' i1 i2 _ _ W h k (by refine ⟨by simp [oneI], by simp [oneI], by simp [oneI, i64ok], by simp [oneI]⟩) (by refine ⟨by simp [oneI], by simp [oneI], by simp [oneI, i64ok], by simp [oneI]⟩); rw [(eqN_iff _ _).2 rfl] at h; exact h)
    have HS2 := Lib.hid (show ∀ (W : World) I1 i1 I2 i2, Ns W Q1 q1' Q2 q2' (oneF 1 19999) → Ns W I1 i1 I2 i2 (oneF 1 19999) → Calls Try.prog 14 #[nv Q1 (oneF 1 19999).1.length q1' Q2 (oneF 1 19999).2.length q2', nv I1 (oneF 1 19999).1.length i1 I2 (oneF 1 19999).2.length i2] W (EqIs true W) from fun W I1 i1 I2 i2 h k => by
      have h := same_any Q1 Q2 I1 I2 q1' q2' i1 i2 _ _ W h k (by refine ⟨by simp [oneF], by simp [oneF], by simp [oneF], by simp [oneF, i64ok]⟩) (by refine ⟨by simp [oneF], by simp [oneF], by simp [oneF], by simp [oneF, i64ok]⟩); rw [(eqN_iff _ _).2 rfl] at h; exact h)
    have HCm := Lib.hid (show ∀ (W : World) L1 l1 L2 l2, Ns W L1 l1 L2 l2 allS → Calls Try.prog 45 #[nv none 0 0 none 0 0, nv L1 allS.1.length l1 L2 allS.2.length l2] W (NumIs 1 W) from fun W L1 l1 L2 l2 h => by
      have h := compare_any none none L1 L2 0 0 l1 l2 ([], []) allS W (ns_nil W) h (ok_nil _) (all_ok.le (by omega)); rw [cmp_all] at h; exact h)
    have HCt := Lib.hid (show ∀ (W : World) L1 l1 L2 l2, Ns W L1 l1 L2 l2 (oneF 0 10000) → Calls Try.prog 43 #[nv L1 (oneF 0 10000).1.length l1 L2 (oneF 0 10000).2.length l2] W (NumIs 9999 W) from fun W L1 l1 L2 l2 h => by
      have h := count_any L1 L2 l1 l2 (oneF 0 10000) W h (by refine ⟨by simp [oneF], by simp [oneF], by simp [oneF], by simp [oneF, i64ok]⟩); rw [count_f] at h; exact h)
    have S0 : w8.cell? ⟨b7, 0, none⟩ = some (.slice F1 lowS.1.length f1) ∧ w8.cell? ⟨b7, 1, none⟩ = some (.slice F2 lowS.2.length f2) ∧ w8.cell? ⟨b8, 0, none⟩ = some (.slice P1 (oneI 1 2).1.length p1') ∧ w8.cell? ⟨b8, 1, none⟩ = some (.slice P2 (oneI 1 2).2.length p2') ∧ w8.cell? ⟨b11, 0, none⟩ = some (.slice Q1 (oneF 1 19999).1.length q1') ∧ w8.cell? ⟨b11, 1, none⟩ = some (.slice Q2 (oneF 1 19999).2.length q2') ∧ Below w8.heap.size w8 w8 := ⟨B7.out.1, B7.out.2.1, B8.out.1, B8.out.2.1, B11.out.1, B11.out.2.1, Below.refl _ _⟩
    have KP := Lib.hid (show ∀ W : World, Below w8.heap.size w8 W → W.cell? ⟨b7, 0, none⟩ = some (.slice F1 lowS.1.length f1) ∧ W.cell? ⟨b7, 1, none⟩ = some (.slice F2 lowS.2.length f2) ∧ W.cell? ⟨b8, 0, none⟩ = some (.slice P1 (oneI 1 2).1.length p1') ∧ W.cell? ⟨b8, 1, none⟩ = some (.slice P2 (oneI 1 2).2.length p2') ∧ W.cell? ⟨b11, 0, none⟩ = some (.slice Q1 (oneF 1 19999).1.length q1') ∧ W.cell? ⟨b11, 1, none⟩ = some (.slice Q2 (oneF 1 19999).2.length q2') ∧ Below w8.heap.size w8 W from fun W hb => ⟨(B7.out.up hb).1, (B7.out.up hb).2.1, (B8.out.up hb).1, (B8.out.up hb).2.1, (B11.out.up hb).1, (B11.out.up hb).2.1, hb⟩)
    have b0 : Below w8.heap.size w8 w8.drew := drewB w8
    have Kb0 := KP.out _ b0
    clear okl
    go_region_held3 (fun w' => w'.cell? ⟨b7, 0, none⟩ = some (.slice F1 lowS.1.length f1) ∧ w'.cell? ⟨b7, 1, none⟩ = some (.slice F2 lowS.2.length f2) ∧ w'.cell? ⟨b8, 0, none⟩ = some (.slice P1 (oneI 1 2).1.length p1') ∧ w'.cell? ⟨b8, 1, none⟩ = some (.slice P2 (oneI 1 2).2.length p2') ∧ w'.cell? ⟨b11, 0, none⟩ = some (.slice Q1 (oneF 1 19999).1.length q1') ∧ w'.cell? ⟨b11, 1, none⟩ = some (.slice Q2 (oneF 1 19999).2.length q2') ∧ Below w8.heap.size w8 w')
      (first | assumption | exact S0 | exact Kb12 | exact Kb11 | exact Kb10 | exact Kb9 | exact Kb8 | exact Kb7 | exact Kb6 | exact Kb5 | exact Kb4 | exact Kb3 | exact Kb2 | exact Kb1 | exact Kb0)
      (first
        | (go_at_call 43; (with_reducible refine (HCt.out _ M1 m1 M2 m2 nM).mono ?_); rintro e v12 ⟨rfl, hb12⟩; have b12 : Below w8.heap.size w8 v12 := b11.trans (hb12.mono b11.size); have Kb12 := KP.out _ b12)
        | (go_at_call 49; (with_reducible refine (HF2.out _).mono ?_); rintro e v11 ⟨M1, m1, M2, m2, rfl, ⟨nM, _, _⟩, hb11⟩; have b11 : Below w8.heap.size w8 v11 := b10.trans (hb11.mono b10.size); have Kb11 := KP.out _ b11)
        | (go_at_call 45; (with_reducible refine (HCm.out _ L1 l1 L2 l2 nL).mono ?_); rintro e v10 ⟨rfl, hb10⟩; have b10 : Below w8.heap.size w8 v10 := b9.trans (hb10.mono b9.size); have Kb10 := KP.out _ b10)
        | (go_at_call 21; (with_reducible refine (HAll.out _).mono ?_); rintro e v9 ⟨L1, l1, L2, l2, rfl, ⟨nL, _, _⟩, hb9⟩; have b9 : Below w8.heap.size w8 v9 := b8.trans (hb9.mono b8.size); have Kb9 := KP.out _ b9)
        | (go_at_call 14; (with_reducible refine (HS2.out _ J1 j1 J2 j2 (B11.out.up b7).ns nJ).mono ?_); rintro e v8 ⟨rfl, hb8⟩; have b8 : Below w8.heap.size w8 v8 := b7.trans (hb8.mono b7.size); have Kb8 := KP.out _ b8)
        | (go_at_call 49; (with_reducible refine (HF1.out _).mono ?_); rintro e v7 ⟨J1, j1, J2, j2, rfl, ⟨nJ, _, _⟩, hb7⟩; have b7 : Below w8.heap.size w8 v7 := b6.trans (hb7.mono b6.size); have Kb7 := KP.out _ b7)
        | (go_at_call 14; (with_reducible refine (HS1.out _ I1 i1 I2 i2 (B8.out.up b5).ns nI).mono ?_); rintro e v6 ⟨rfl, hb6⟩; have b6 : Below w8.heap.size w8 v6 := b5.trans (hb6.mono b5.size); have Kb6 := KP.out _ b6)
        | (go_at_call 48; (with_reducible refine (HI.out _).mono ?_); rintro e v5 ⟨I1, i1, I2, i2, rfl, ⟨nI, _, _⟩, hb5⟩; have b5 : Below w8.heap.size w8 v5 := b4.trans (hb5.mono b4.size); have Kb5 := KP.out _ b5)
        | (go_at_call 19; (with_reducible refine (HD.out _ (B7.out.up b3).ns).mono ?_); rintro e v4 ⟨rfl, hb4⟩; have b4 : Below w8.heap.size w8 v4 := b3.trans (hb4.mono b3.size); have Kb4 := KP.out _ b4)
        | (go_at_call 19; (with_reducible refine (HC.out _ (B7.out.up b2).ns).mono ?_); rintro e v3 ⟨rfl, hb3⟩; have b3 : Below w8.heap.size w8 v3 := b2.trans (hb3.mono b2.size); have Kb3 := KP.out _ b3)
        | (go_at_call 19; (with_reducible refine (HB.out _ (B7.out.up b1).ns).mono ?_); rintro e v2 ⟨rfl, hb2⟩; have b2 : Below w8.heap.size w8 v2 := b1.trans (hb2.mono b1.size); have Kb2 := KP.out _ b2)
        | (go_at_call 19; (with_reducible refine (HA.out _ (B7.out.up b0).ns).mono ?_); rintro e v1 ⟨rfl, hb1⟩; have b1 : Below w8.heap.size w8 v1 := b0.trans (hb1.mono b0.size); have Kb1 := KP.out _ b1))
    all_goals
      go_wp2_with fail
      refine bodyPost_ret (v := .bool true) (by simp [results, Try.results13, go_sem]) rfl ?_
      exact ⟨rfl, D12.out.trans (b12.mono D12.out.size)⟩
end Go.Proofs.Yteekccjfokoglaa
