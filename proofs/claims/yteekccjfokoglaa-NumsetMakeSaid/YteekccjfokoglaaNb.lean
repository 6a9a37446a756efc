/-
  The specification's normal. Conditions: the spans that are not empty lie between -10^15 and 10^15; at most 1000000 of them.
-/
import Derived.Test.YteekccjfokoglaaNa
import Derived.Test.YteekccjfokoglaaL
namespace Go.Proofs.Yteekccjfokoglaa
open Go.RowKit Go.Sort Go.Lib Go.Proofs
set_option linter.unusedSimpArgs false
set_option linter.unnecessarySimpa false
set_option linter.unusedVariables false
def bd15 (s : Sp) : Prop := -1000000000000000 ≤ s.1 ∧ s.1 ≤ 1000000000000000 ∧ -1000000000000000 ≤ s.2 ∧ s.2 ≤ 1000000000000000
/-- where the inner loop stands -/
structure IR (out : List Sp) (s : Sp) (j : Nat) (nx : List Sp) (dn : Bool) (s' : Sp) : Prop where
  no : dn = false → nx ++ ins (out.drop j) s' = ins out s
  yes : dn = true → nx ++ out.drop j = ins out s ∧ ∀ x ∈ out.drop j, s'.2 + 1 < x.1
  len : nx.length ≤ j + dn.toNat
  bd : bd15 s'
  le : s'.1 ≤ s'.2
theorem IR.start {out : List Sp} {s : Sp} (h : bd15 s) (hl : s.1 ≤ s.2) : IR out s 0 [] false s := ⟨fun _ => by simp, fun h => by simp at h, by simp, h, hl⟩
theorem IR.one {out : List Sp} {s : Sp} {j : Nat} {nx : List Sp} {dn : Bool} {s' : Sp} (h : IR out s j nx dn s') (hj : j < out.length) (h1 : out[j].2 + 1 < s'.1) (hle : out[j].1 ≤ out[j].2) : dn = false ∧ IR out s (j + 1) (nx ++ [out[j]]) false s' := by
  have hd : dn = false := by
    cases dn
    · rfl
    · have := (h.yes rfl).2 out[j] (by rw [List.drop_eq_getElem_cons hj]; exact List.mem_cons_self ..)
      have := h.le; omega
  subst hd
  have e := h.no rfl
  rw [List.drop_eq_getElem_cons hj, ins, if_pos h1] at e
  exact ⟨rfl, fun _ => by rw [List.append_assoc]; exact e, fun h => by simp at h, by have := h.len; simp at this ⊢; omega, h.bd, h.le⟩
theorem IR.two {out : List Sp} {s : Sp} {j : Nat} {nx : List Sp} {dn : Bool} {s' : Sp} (h : IR out s j nx dn s') (hc : CanP out) (hj : j < out.length) (h1 : ¬out[j].2 + 1 < s'.1) (h2 : s'.2 + 1 < out[j].1) :
    (dn = false → IR out s (j + 1) (nx ++ [s'] ++ [out[j]]) true s') ∧ (dn = true → IR out s (j + 1) (nx ++ [out[j]]) true s') := by
  have hp : ∀ x ∈ out.drop (j + 1), s'.2 + 1 < x.1 := fun x hx => by
    have hd := hc.2.drop (i := j)
    rw [List.drop_eq_getElem_cons hj] at hd
    have := (List.pairwise_cons.1 hd).1 x hx
    have := hc.1 out[j] (List.getElem_mem hj)
    omega
  constructor
  · intro hd
    have e := h.no hd
    rw [List.drop_eq_getElem_cons hj, ins, if_neg h1, if_pos h2] at e
    exact ⟨fun h => by simp at h, fun _ => ⟨by rw [List.append_assoc, List.append_assoc]; exact e, hp⟩, by have := h.len; rw [hd] at this; simp at this ⊢; omega, h.bd, h.le⟩
  · intro hd
    have e := (h.yes hd).1
    rw [List.drop_eq_getElem_cons hj] at e
    exact ⟨fun h => by simp at h, fun _ => ⟨by rw [List.append_assoc]; exact e, hp⟩, by have := h.len; rw [hd] at this; simp at this ⊢; omega, h.bd, h.le⟩
theorem IR.three {out : List Sp} {s : Sp} {j : Nat} {nx : List Sp} {dn : Bool} {s' : Sp} (h : IR out s j nx dn s') (hj : j < out.length) (h1 : ¬out[j].2 + 1 < s'.1) (h2 : ¬s'.2 + 1 < out[j].1) (hb : bd15 out[j]) : dn = false ∧ IR out s (j + 1) nx false (mrg s' out[j]) := by
  have hd : dn = false := by
    cases dn
    · rfl
    · exact absurd ((h.yes rfl).2 out[j] (by rw [List.drop_eq_getElem_cons hj]; exact List.mem_cons_self ..)) h2
  subst hd
  have e := h.no rfl
  rw [List.drop_eq_getElem_cons hj, ins, if_neg h1, if_neg h2] at e
  have hb2 := h.bd
  have hle := h.le
  refine ⟨rfl, fun _ => e, fun h => by simp at h, by have := h.len; simp at this ⊢; omega, ?_, ?_⟩
  · unfold bd15 mrg at *; simp only; omega
  · unfold mrg; simp only; omega
/-- the box with the span, and the list that is being built -/
structure Ib (w0 : World) (b5 B2 : Nat) (s' : Sp) (v : Value) (nx : List Sp) (w : World) : Prop where
  c0 : w.cell? ⟨b5, 0, none⟩ = some (.int .i64 s'.1)
  c1 : w.cell? ⟨b5, 1, none⟩ = some (.int .i64 s'.2)
  f0 : w.frozen? ⟨b5, 0, none⟩ = false
  f1 : w.frozen? ⟨b5, 1, none⟩ = false
  own : w.ownsRow B2 46 2 v nx.length (flat nx)
  bel : Below b5 w0 w
  lt : b5 < B2
  le : B2 ≤ w.heap.size
theorem Ib.up {w0 : World} {b5 B2 : Nat} {s' : Sp} {v : Value} {nx : List Sp} {w w' : World} (h : Ib w0 b5 B2 s' v nx w) (hb : Below w.heap.size w w') : Ib w0 b5 B2 s' v nx w' := by
  have l := Nat.lt_of_lt_of_le h.lt h.le
  exact ⟨by rw [hb.cell (p := ⟨b5, 0, none⟩) l]; exact h.c0, by rw [hb.cell (p := ⟨b5, 1, none⟩) l]; exact h.c1, by rw [hb.frozen (p := ⟨b5, 0, none⟩) l]; exact h.f0, by rw [hb.frozen (p := ⟨b5, 1, none⟩) l]; exact h.f1, own_up h.own hb, h.bel.trans (hb.mono (Nat.le_of_lt l)), h.lt, Nat.le_trans h.le hb.size⟩
theorem Ib.app {w0 : World} {b5 B2 : Nat} {s' : Sp} {v v' : Value} {nx : List Sp} {w w' : World} {y : Sp} (h : Ib w0 b5 B2 s' v nx w) (hown : w'.ownsRow B2 46 2 v' (nx.length + 1) (flat nx ++ [.int .i64 y.1, .int .i64 y.2])) (hg : w.grownBy w' v.ownBlock) : Ib w0 b5 B2 s' v' (nx ++ [y]) w' := by
  have hb : Below B2 w w' := (Below.refl B2 w).grown hg h.le (fun j hj => (h.own.lt j hj).1)
  exact ⟨by rw [hb.cell (p := ⟨b5, 0, none⟩) h.lt]; exact h.c0, by rw [hb.cell (p := ⟨b5, 1, none⟩) h.lt]; exact h.c1, by rw [hb.frozen (p := ⟨b5, 0, none⟩) h.lt]; exact h.f0, by rw [hb.frozen (p := ⟨b5, 1, none⟩) h.lt]; exact h.f1, by rw [flat_append, List.length_append]; exact hown, h.bel.trans (hb.mono (Nat.le_of_lt h.lt)), h.lt, Nat.le_trans h.le hb.size⟩
def RnIs (L : List Sp) (w : World) (e : Ending) (w' : World) : Prop := ∃ v, e = .returned v ∧ w'.ownsRow w.heap.size 46 2 v L.length (flat L) ∧ Below w.heap.size w w'
theorem Ib.set {w0 : World} {b5 B2 : Nat} {s' : Sp} {v : Value} {nx : List Sp} {w : World} (h : Ib w0 b5 B2 s' v nx w) (m : Sp) : Ib w0 b5 B2 m v nx ((w.setCell ⟨b5, 0, none⟩ (.int .i64 m.1)).setCell ⟨b5, 1, none⟩ (.int .i64 m.2)) := by
  have hs : ∀ (w : World) (p : Addr) (u : Value), (w.setCell p u).heap.size = w.heap.size := fun w p u => by simp [World.setCell]
  have ho : ∀ (w : World) (p : Addr) (u : Value) (n : Nat) (xs : List Value), p.block < B2 → w.ownsRow B2 46 2 v n xs → (w.setCell p u).ownsRow B2 46 2 v n xs := fun w p u n xs hp h => by
    refine ⟨h.1, ?_⟩
    rcases h.2 with hn | ⟨g, cap, cur, hv, hb1, hg, rest⟩
    · exact .inl hn
    · refine .inr ⟨g, cap, cur, hv, hb1, ?_, rest⟩
      have hne : p.block ≠ g := by omega
      simp [World.setCell, Array.getElem?_modify, hne, hg]
  have e1 : (w.setCell ⟨b5, 0, none⟩ (.int .i64 m.1)).cell? ⟨b5, 1, none⟩ = some (.int .i64 s'.2) := by rw [World.cell?_setCell_other _ _ _ _ (by simp)]; exact h.c1
  refine ⟨?_, World.cell?_setCell_same _ _ _ e1, by simpa using h.f0, by simpa using h.f1, ho _ _ _ _ _ h.lt (ho _ _ _ _ _ h.lt h.own), (h.bel.setCell (p := ⟨b5, 0, none⟩) (Nat.le_refl _) _).setCell (p := ⟨b5, 1, none⟩) (Nat.le_refl _) _, h.lt, by rw [hs, hs]; exact h.le⟩
  rw [World.cell?_setCell_other _ _ _ _ (by simp)]; exact World.cell?_setCell_same _ _ _ h.c0
set_option maxRecDepth 100000 in
set_option maxHeartbeats 4000000 in
theorem rnormal_any (A : Option Addr) (c : Nat) (l : List Sp) (w : World) (hR : Re w w.heap.size A l) (hl : l.length ≤ 100000) (h64 : ∀ s ∈ l, i64ok s.1 ∧ i64ok s.2) (hb : ∀ s ∈ l, s.1 ≤ s.2 → bd15 s) :
    Calls Try.prog 80 #[.slice A l.length c] w (RnIs (rn l) w) := by
  have HR := Lib.hid hR
  have HL := Lib.hid hb
  have H64 := Lib.hid h64
  clear hR hb h64
  go_enter Try.func80, Try.ntmps80
  go_wp2_with fail
  go_loopw [3, 12] (fun s3 s12 wr => ∃ (k : Nat) (v : Value), s12 = .int .i64 (k : Int) ∧ s3 = v ∧ k ≤ l.length ∧ Hid (wr.ownsRow w.heap.size 46 2 v (rn (l.take k)).length (flat (rn (l.take k)))) ∧ Hid (Below w.heap.size w wr)) (fun _ s12 _ => (l.length - intOf s12).toNat)
  case atStart => exact ⟨0, _, rfl, rfl, by omega, Lib.hid (World.ownsRow_nil _ _ _ _), Lib.hid (Below.refl _ _)⟩
  case round =>
    obtain ⟨k, v, rfl, rfl, hk, HO, HB⟩ := hrel
    obtain ⟨w2, rfl⟩ : ∃ w2, w2 = wr := ⟨wr, rfl⟩
    by_cases hlt : k < l.length
    · obtain ⟨b, o, hA, hbl, d0, d1⟩ := HR.out.at_ k hlt
      subst hA
      rw [← HB.out.cell (p := ⟨b, o + k * 2, none⟩) hbl] at d0
      rw [← HB.out.cell (p := ⟨b, o + k * 2 + 1, none⟩) hbl] at d1
      have HT := Lib.hid (show rn (l.take (k + 1)) = rstep (rn (l.take k)) l[k] by rw [← List.take_append_getElem hlt, rn_snoc])
      have HBD := Lib.hid (HL.out l[k] (List.getElem_mem hlt))
      have hsp := rn_spec 1000000000000000 (l.take k) (fun s hs h => HL.out s (List.mem_of_mem_take hs) h)
      have HC := Lib.hid hsp.1
      have HBB := Lib.hid hsp.2.1
      have hol : (rn (l.take k)).length ≤ k := Nat.le_trans hsp.2.2.1 (by simp; omega)
      obtain ⟨out, hout⟩ : ∃ out, out = rn (l.take k) := ⟨_, rfl⟩
      obtain ⟨x, hx⟩ : ∃ x, x = l[k] := ⟨_, rfl⟩
      rw [← hout] at HO HT HC HBB hol
      rw [← hx] at d0 d1 HT HBD
      have hkl : (k : Int) < (l.length : Int) := by omega
      clear hsp hout hx
      by_cases hsk : x.2 < x.1
      · have HT2 := Lib.hid (HT.out.trans (by unfold rstep; rw [if_pos hsk]))
        have g1 : decide (x.2 < x.1) = true := decide_eq_true hsk
        have hwr := HB.out.size
        have HO2 := Lib.hid (HO.out.alloc (.cells #[.int .i64 x.1, .int .i64 x.2] 46))
        have HB2 := Lib.hid (HB.out.alloc hwr (.cells #[.int .i64 x.1, .int .i64 x.2] 46))
        rw [← HT2.out] at HO2
        clear hsk HT HO HB
        go_wp2_with fail
        go_roundw
        case rel => exact ⟨k + 1, _, by go_num, rfl, by omega, HO2, HB2⟩
        case measure => simp [intOf]; omega
      · have g1 : decide (x.2 < x.1) = false := decide_eq_false hsk
        have HT2 := Lib.hid (HT.out.trans (by unfold rstep; rw [if_neg hsk]))
        have hbx := HBD.out (by omega)
        have hxl : x.1 ≤ x.2 := by omega
        have HI0 := Lib.hid (IR.start (out := out) hbx hxl)
        obtain ⟨A3, c3, rfl, hre3, hp3, hhi3⟩ := re_of_own HO.out
        have HRe3 := Lib.hid hre3
        obtain ⟨b5, hb5⟩ : ∃ b5, b5 = w2.heap.size := ⟨_, rfl⟩
        obtain ⟨W0, hW0⟩ : ∃ W0, W0 = w2.alloc (.cells #[.int .i64 x.1, .int .i64 x.2] 46) := ⟨_, rfl⟩
        obtain ⟨B2, hB2⟩ : ∃ B2, B2 = W0.heap.size := ⟨_, rfl⟩
        have HIb := Lib.hid (show Ib w2 b5 B2 x (.slice none 0 0) [] W0 from by
          subst hb5 hW0 hB2
          exact ⟨by simp, by simp, by simp, by simp, World.ownsRow_nil _ _ _ _, (Below.refl _ _).alloc (Nat.le_refl _) _, by simp, Nat.le_refl _⟩)
        have HH := Lib.hid (And.intro hb5 (And.intro hW0 hB2))
        have hwb : w.heap.size ≤ b5 := by rw [hb5]; exact HB.out.size
        clear hre3 hp3 hhi3 hsk HBD HT HO
        go_wp2_with fail
        rw [← hW0, ← hb5]
        clear hb5 hW0 hB2 d0 d1 g1
        go_loopw [6, 7, 23] (fun s6 s7 s23 wr => ∃ (j : Nat) (nx : List Sp) (dn : Bool) (s' : Sp) (v6 : Value), s23 = .int .i64 (j : Int) ∧ s6 = v6 ∧ s7 = .bool dn ∧ j ≤ out.length ∧ Hid (IR out x j nx dn s') ∧ Hid (Ib w2 b5 B2 s' v6 nx wr)) (fun _ _ s23 _ => (out.length - intOf s23).toNat)
        case atStart => exact ⟨0, [], false, x, _, rfl, rfl, rfl, by omega, HI0, HIb⟩
        case round =>
          obtain ⟨i0, hi, hz0, hz1, hz2⟩ := info_parts info46
          clear HI0 HIb
          obtain ⟨j, nx, dn, s', v6, rfl, rfl, rfl, hj, HI, HIb⟩ := hrel
          by_cases hjl : j < out.length
          · obtain ⟨b, o, hA, hbl, d0, d1⟩ := HRe3.out.at_ j hjl
            subst hA
            rw [← HH.out.1] at hbl
            rw [← HIb.out.bel.cell (p := ⟨b, o + j * 2, none⟩) hbl] at d0
            rw [← HIb.out.bel.cell (p := ⟨b, o + j * 2 + 1, none⟩) hbl] at d1
            have hyb := HBB.out out[j] (List.getElem_mem hjl)
            have hyl := HC.out.1 out[j] (List.getElem_mem hjl)
            have hI := HI.out
            have hnl := hI.len
            have hsb := hI.bd
            have hsl := hI.le
            unfold bd15 at hsb
            have h1f := fun h => hI.one hjl h hyl
            have h2f := fun h h' => hI.two HC.out hjl h h'
            have h3f := fun h h' => hI.three hjl h h' hyb
            obtain ⟨y, hy⟩ : ∃ y, y = out[j] := ⟨_, rfl⟩
            rw [← hy] at d0 d1 hyb hyl
            simp only [← hy] at h1f h2f h3f
            have H1f := Lib.hid h1f
            have H2f := Lib.hid h2f
            have H3f := Lib.hid h3f
            have hjl2 : (j : Int) < (out.length : Int) := by omega
            have w1' : IntKind.i64.wrap (y.2 + 1) = y.2 + 1 := IntWalk.i64_in _ (by omega)
            have w2' : IntKind.i64.wrap (s'.2 + 1) = s'.2 + 1 := IntWalk.i64_in _ (by omega)
            obtain ⟨b9, hb9⟩ : ∃ b9, b9 = wr.heap.size := ⟨_, rfl⟩
            obtain ⟨W, hW⟩ : ∃ W, W = wr.alloc (.cells #[.int .i64 y.1, .int .i64 y.2] 46) := ⟨_, rfl⟩
            have HOW := Lib.hid (show ∀ j, u6.ownBlock = some j → j < b9 from fun j hj => by rw [hb9]; exact (HIb.out.own.lt j hj).2)
            have HW := Lib.hid (HIb.out.up (show Below wr.heap.size wr W by rw [hW]; exact (Below.refl _ _).alloc (Nat.le_refl _) _))
            have e0 : W.cell? ⟨b9, 0, none⟩ = some (.int .i64 y.1) := by rw [hW, hb9]; simp
            have e1 : W.cell? ⟨b9, 1, none⟩ = some (.int .i64 y.2) := by rw [hW, hb9]; simp
            have l9 : b9 < W.heap.size := by rw [hW, hb9]; simp
            clear hI h1f h2f h3f hy hyb hsb HI
            go_upto_region 11 with fail
            rw [← hW, ← hb9]
            clear hW hb9 d0 d1
            have k0 := HW.out.c0
            have k1 := HW.out.c1
            have k2 := HW.out.f0
            have k3 := HW.out.f1
            have l5 : b5 < W.heap.size := Nat.lt_of_lt_of_le HW.out.lt HW.out.le
            have lB : B2 ≤ W.heap.size := HW.out.le
            have l52 : b5 < B2 := HW.out.lt
            have hown := HW.out.own
            clear HIb
            by_cases hc1 : y.2 + 1 < s'.1
            · have g1 : decide (y.2 + 1 < s'.1) = true := decide_eq_true hc1
              obtain ⟨rfl, hI2⟩ := H1f.out hc1
              have HI2 := Lib.hid hI2
              have hnl2 : nx.length ≤ 100000 := by simp at hnl; omega
              clear hI2 H1f H2f H3f hc1 hsl hyl hnl
              go_wp2_with (at_builtin; refine wpList_append_own _ rfl _ _ 22 rfl B2 46 i0 (.agg #[.int .i64 0, .int .i64 0]) 2 16 Try.underlying22 hi hz0 hz1 hz2 rfl (by decide) _ _ _ rfl (hown.alloc _) ⟨W.heap.size, 0, none⟩ 1 1 [.int .i64 y.1, .int .i64 y.2] rfl rfl ?c1 ?c2 ?c3 ?c4 ?c5 ?_)
              case c1 => exact new2 _ _ _ _
              case c2 => exact one2 _ _
              case c3 => unfold maxLen; omega
              case c4 => omega
              case c5 => simp; omega
              intro v8 w8 hown8 hgrow _
              have HB9 := Lib.hid ((HW.out.up ((Below.refl _ _).alloc (Nat.le_refl _) _)).app hown8 hgrow)
              clear hown8 hgrow hown HW k0 k1 k2 k3 e0 e1
              go_wp2_with fail
              go_roundw
              case rel => exact ⟨j + 1, _, _, _, _, by go_num, rfl, rfl, by omega, HI2, HB9⟩
              case measure => simp [intOf]; omega
            · by_cases hc2 : s'.2 + 1 < y.1
              · cases dn
                · have HI2 := Lib.hid ((H2f.out hc1 hc2).1 rfl)
                  have hnl2 : nx.length ≤ 100000 := by simp at hnl; omega
                  have g1 : decide (y.2 + 1 < s'.1) = false := decide_eq_false hc1
                  have g2 : decide (s'.2 + 1 < y.1) = true := decide_eq_true hc2
                  clear H1f H2f H3f hc1 hc2 hsl hyl hnl
                  go_wp2_with (at_builtin; refine wpList_append_own _ rfl _ _ 22 rfl B2 46 i0 (.agg #[.int .i64 0, .int .i64 0]) 2 16 Try.underlying22 hi hz0 hz1 hz2 rfl (by decide) _ _ _ rfl (hown.alloc _) ⟨W.heap.size, 0, none⟩ 1 1 [.int .i64 s'.1, .int .i64 s'.2] rfl rfl ?c1 ?c2 ?c3 ?c4 ?c5 ?_)
                  case c1 => exact new2 _ _ _ _
                  case c2 => exact one2 _ _
                  case c3 => unfold maxLen; omega
                  case c4 => omega
                  case c5 => simp; omega
                  intro v7 w7 hown7 hgrow _
                  have HB8 := Lib.hid ((HW.out.up ((Below.refl _ _).alloc (Nat.le_refl _) _)).app hown7 hgrow)
                  have hb7 : Below B2 W w7 := ((Below.refl B2 W).alloc lB _).grown hgrow (by simp; omega) (fun j hj => (HW.out.own.lt j hj).1)
                  have n0 : w7.cell? ⟨b9, 0, none⟩ = some (.int .i64 y.1) := hgrow.cell (by rw [World.cell?_alloc_lt _ _ _ l9]; exact e0) (fun e => (Nat.lt_irrefl b9 (HOW.out b9 e.symm)))
                  have n1 : w7.cell? ⟨b9, 1, none⟩ = some (.int .i64 y.2) := hgrow.cell (by rw [World.cell?_alloc_lt _ _ _ l9]; exact e1) (fun e => (Nat.lt_irrefl b9 (HOW.out b9 e.symm)))
                  have n9 : b9 < w7.heap.size := Nat.lt_of_lt_of_le l9 (Nat.le_trans (by simp) hgrow.size)
                  have hown8 := HB8.out.own
                  have z0 := HB8.out.c0
                  have z1 := HB8.out.c1
                  clear hown7 hgrow hown HW k0 k1 k2 k3 e0 e1 l9 l5 lB hb7
                  have lB7 : B2 ≤ w7.heap.size := HB8.out.le
                  have hle8 : (nx ++ [s']).length ≤ 100001 := by simp; omega
                  go_wp2_with (at_builtin; refine wpList_append_own _ rfl _ _ 22 rfl B2 46 i0 (.agg #[.int .i64 0, .int .i64 0]) 2 16 Try.underlying22 hi hz0 hz1 hz2 rfl (by decide) _ _ _ rfl (hown8.alloc _) ⟨w7.heap.size, 0, none⟩ 1 1 [.int .i64 y.1, .int .i64 y.2] rfl rfl ?c1 ?c2 ?c3 ?c4 ?c5 ?_)
                  case c1 => exact new2 _ _ _ _
                  case c2 => exact one2 _ _
                  case c3 => unfold maxLen; omega
                  case c4 => omega
                  case c5 => simp; omega
                  intro v9 w9 hown9 hgrow _
                  have HB9 := Lib.hid ((HB8.out.up ((Below.refl _ _).alloc (Nat.le_refl _) _)).app (by rw [List.length_append]; exact hown9) hgrow)
                  clear hown9 hgrow hown8 HB8 n0 n1 z0 z1
                  go_wp2_with fail
                  go_roundw
                  case rel => exact ⟨j + 1, _, _, _, _, by go_num, rfl, rfl, by omega, HI2, HB9⟩
                  case measure => simp [intOf]; omega
                · have HI2 := Lib.hid ((H2f.out hc1 hc2).2 rfl)
                  have hnl2 : nx.length ≤ 100000 := by simp at hnl; omega
                  have g1 : decide (y.2 + 1 < s'.1) = false := decide_eq_false hc1
                  have g2 : decide (s'.2 + 1 < y.1) = true := decide_eq_true hc2
                  clear H1f H2f H3f hc1 hc2 hsl hyl hnl
                  go_wp2_with (at_builtin; refine wpList_append_own _ rfl _ _ 22 rfl B2 46 i0 (.agg #[.int .i64 0, .int .i64 0]) 2 16 Try.underlying22 hi hz0 hz1 hz2 rfl (by decide) _ _ _ rfl (hown.alloc _) ⟨W.heap.size, 0, none⟩ 1 1 [.int .i64 y.1, .int .i64 y.2] rfl rfl ?c1 ?c2 ?c3 ?c4 ?c5 ?_)
                  case c1 => exact new2 _ _ _ _
                  case c2 => exact one2 _ _
                  case c3 => unfold maxLen; omega
                  case c4 => omega
                  case c5 => simp; omega
                  intro v8 w8 hown8 hgrow _
                  have HB9 := Lib.hid ((HW.out.up ((Below.refl _ _).alloc (Nat.le_refl _) _)).app hown8 hgrow)
                  clear hown8 hgrow hown HW k0 k1 k2 k3 e0 e1
                  go_wp2_with fail
                  go_roundw
                  case rel => exact ⟨j + 1, _, _, _, _, by go_num, rfl, rfl, by omega, HI2, HB9⟩
                  case measure => simp [intOf]; omega
              · obtain ⟨rfl, hI2⟩ := H3f.out hc1 hc2
                have HI2 := Lib.hid hI2
                have g1 : decide (y.2 + 1 < s'.1) = false := decide_eq_false hc1
                have g2 : decide (s'.2 + 1 < y.1) = false := decide_eq_false hc2
                have HB9 := Lib.hid (HW.out.set (mrg s' y))
                unfold mrg at HB9
                clear hI2 H1f H2f H3f hc1 hc2 hsl hyl hnl hown HW
                go_wp2_with fail
                go_roundw
                case rel => exact ⟨j + 1, _, _, _, _, by go_num, rfl, rfl, by omega, HI2, HB9⟩
                case measure => simp [intOf]; omega
          · obtain rfl : j = out.length := by omega
            have hI := HI.out
            have hwB : w.heap.size ≤ B2 := Nat.le_trans hwb (Nat.le_of_lt HIb.out.lt)
            have k0 := HIb.out.c0
            have k1 := HIb.out.c1
            have hnl := hI.len
            have lB : B2 ≤ wr.heap.size := HIb.out.le
            have l5 : b5 < wr.heap.size := Nat.lt_of_lt_of_le HIb.out.lt HIb.out.le
            cases dn
            · have e := hI.no rfl
              rw [List.drop_length, ins, ← HT2.out] at e
              have HE := Lib.hid e
              have hown := HIb.out.own
              have hnl2 : nx.length ≤ 100000 := by simp at hnl; omega
              clear e hI HI HT2 hnl
              go_wp2_with (at_builtin; refine wpList_append_own _ rfl _ _ 22 rfl B2 46 i0 (.agg #[.int .i64 0, .int .i64 0]) 2 16 Try.underlying22 hi hz0 hz1 hz2 rfl (by decide) _ _ _ rfl (hown.alloc _) ⟨wr.heap.size, 0, none⟩ 1 1 [.int .i64 s'.1, .int .i64 s'.2] rfl rfl ?c1 ?c2 ?c3 ?c4 ?c5 ?_)
              case c1 => exact new2 _ _ _ _
              case c2 => exact one2 _ _
              case c3 => unfold maxLen; omega
              case c4 => omega
              case c5 => simp; omega
              intro v8 w8 hown8 hgrow _
              have h9 := (HIb.out.up ((Below.refl _ _).alloc (Nat.le_refl _) _)).app hown8 hgrow
              rw [HE.out] at h9
              have HO9 := Lib.hid (own_le h9.own hwB)
              have HB9 := Lib.hid (HB.out.trans (h9.bel.mono hwb))
              clear hown8 hgrow hown k0 k1 h9
              go_wp2_with fail
              go_roundw
              case rel => exact ⟨k + 1, _, by go_num, rfl, by omega, HO9, HB9⟩
              case measure => simp [intOf]; omega
            · have e := (hI.yes rfl).1
              rw [List.drop_length, List.append_nil, ← HT2.out] at e
              have h9 := HIb.out
              rw [e] at h9
              have HO9 := Lib.hid (own_le h9.own hwB)
              have HB9 := Lib.hid (HB.out.trans (h9.bel.mono hwb))
              clear e hI HI HT2 hnl h9 k0 k1
              go_wp2_with fail
              go_roundw
              case rel => exact ⟨k + 1, _, by go_num, rfl, by omega, HO9, HB9⟩
              case measure => simp [intOf]; omega
    · obtain rfl : k = l.length := by omega
      rw [List.take_length] at HO
      go_wp2_with fail
      go_ret
      exact ⟨_, rfl, HO.out, HB.out⟩
end Go.Proofs.Yteekccjfokoglaa
