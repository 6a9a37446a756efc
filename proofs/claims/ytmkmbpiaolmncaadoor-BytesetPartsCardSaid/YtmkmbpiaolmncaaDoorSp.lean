/-
  split: each part that the set cuts becomes what the set contains of it, and the rest goes to the end. No condition on the world.
-/
import Derived.Test.YtmkmbpiaolmncaaDoorEq
import Derived.Test.YtmkmbpiaolmncaaDoorSets
import Derived.Deep.RegionHeld3
import Derived.Deep.CutRange
namespace Go.Proofs.YtmkmbpiaolmncaaDoor
open Go.RowKit
set_option linter.unusedSimpArgs false
set_option linter.unusedVariables false
set_option linter.unnecessarySimpa false
theorem cells_new4 (w : World) (x y z u : Value) (T : TypeId) : ∀ j v, [x, y, z, u][j]? = some v → (w.alloc (.cells #[x, y, z, u] T)).cell? ((⟨w.heap.size, 0, none⟩ : Addr).add j) = some v := by
  intro j v h
  rw [show (⟨w.heap.size, 0, none⟩ : Addr).add j = ⟨w.heap.size, j, none⟩ by simp [Addr.add]; exact fun e => e.symm, World.cell?_alloc_new]
  simpa using h
def b4 (s : BS) : List Value := [.int .u64 (wd 0 s), .int .u64 (wd 1 s), .int .u64 (wd 2 s), .int .u64 (wd 3 s)]
def flatB (l : List BS) : List Value := l.flatMap b4
theorem flatB_len (l : List BS) : (flatB l).length = l.length * 4 := by
  induction l with
  | nil => rfl
  | cons a t ih => simp only [flatB, List.flatMap_cons, List.length_append] at *; rw [ih]; simp [b4]; omega
theorem flatB_append (l m : List BS) : flatB (l ++ m) = flatB l ++ flatB m := by simp [flatB]
theorem flatB_at (l : List BS) (i : Nat) (x : BS) (h : l[i]? = some x) (c : Nat) (hc : c < 4) : (flatB l)[i * 4 + c]? = some (.int .u64 (wd c x)) := by
  induction l generalizing i with
  | nil => simp at h
  | cons a t ih =>
    have e : flatB (a :: t) = b4 a ++ flatB t := rfl
    rw [e]
    cases i with
    | zero =>
      simp at h; subst h
      rw [List.getElem?_append_left (by simp [b4]; omega)]
      rcases (show c = 0 ∨ c = 1 ∨ c = 2 ∨ c = 3 by omega) with rfl | rfl | rfl | rfl <;> simp [b4]
    | succ j =>
      rw [List.getElem?_append_right (by simp [b4]; omega)]
      have := ih j (by simpa using h)
      rw [show (j + 1) * 4 + c - (b4 a).length = j * 4 + c by simp [b4]; omega]
      exact this
theorem flatB_set (l : List BS) (i : Nat) (x : BS) (hi : i < l.length) :
    ((((flatB l).set (i * 4) (.int .u64 (wd 0 x))).set (i * 4 + 1) (.int .u64 (wd 1 x))).set (i * 4 + 2) (.int .u64 (wd 2 x))).set (i * 4 + 3) (.int .u64 (wd 3 x)) = flatB (l.set i x) := by
  induction l generalizing i with
  | nil => simp at hi
  | cons a t ih =>
    have e : ∀ y : BS, ∀ u, flatB (y :: u) = b4 y ++ flatB u := fun _ _ => rfl
    cases i with
    | zero => simp [e, b4, List.set_append]
    | succ j =>
      have h1 := ih j (by simpa using hi)
      have hl : (b4 a).length = 4 := rfl
      simp only [List.set_cons_succ, e]
      rw [List.set_append_right _ _ (by rw [hl]; omega), List.set_append_right _ _ (by rw [hl]; omega), List.set_append_right _ _ (by rw [hl]; omega), List.set_append_right _ _ (by rw [hl]; omega), hl]
      rw [show (j + 1) * 4 - 4 = j * 4 by omega, show (j + 1) * 4 + 1 - 4 = j * 4 + 1 by omega, show (j + 1) * 4 + 2 - 4 = j * 4 + 2 by omega, show (j + 1) * 4 + 3 - 4 = j * 4 + 3 by omega, h1]
/-- the set cuts the part -/
def cutP (s x : BS) : Bool := !(x &&& s == 0#256) && !(x &&& ~~~s == 0#256)
def inP (s x : BS) : BS := if cutP s x then x &&& s else x
def outs (s : BS) : List BS → List BS
  | [] => []
  | x :: t => (if cutP s x then [x &&& ~~~s] else []) ++ outs s t
theorem outs_append (s : BS) : ∀ (l m : List BS), outs s (l ++ m) = outs s l ++ outs s m
  | [], m => rfl
  | x :: t, m => by simp only [List.cons_append, outs, outs_append s t m, List.append_assoc]
def splitL (l : List BS) (s : BS) : List BS := l.map (inP s) ++ outs s l
/-- the row behind k rounds -/
def midL (l : List BS) (s : BS) (k : Nat) : List BS := (l.take k).map (inP s) ++ (l.drop k ++ outs s (l.take k))
theorem mid_zero (l : List BS) (s : BS) : midL l s 0 = l := by simp [midL, outs]
theorem mid_end (l : List BS) (s : BS) : midL l s l.length = splitL l s := by simp [midL, splitL]
theorem outs_len (s : BS) : ∀ l : List BS, (outs s l).length ≤ l.length
  | [] => Nat.le_refl _
  | x :: t => by
    have := outs_len s t
    simp only [outs, List.length_append, List.length_cons]
    split <;> simp <;> omega
theorem mid_len (l : List BS) (s : BS) (k : Nat) (hk : k ≤ l.length) : (midL l s k).length = l.length + (outs s (l.take k)).length := by
  simp [midL]; omega
theorem mid_at (l : List BS) (s : BS) (k : Nat) (hk : k < l.length) : (midL l s k)[k]? = some l[k] := by
  unfold midL
  rw [List.getElem?_append_right (by simp; omega), List.getElem?_append_left (by simp; omega)]
  simp [hk, Nat.min_eq_left (Nat.le_of_lt hk)]
theorem mid_no (l : List BS) (s : BS) (k : Nat) (hk : k < l.length) (h : cutP s l[k] = false) : midL l s (k + 1) = midL l s k := by
  have h1 : l.take (k + 1) = l.take k ++ [l[k]] := (List.take_append_getElem hk).symm
  have h2 : l.drop k = l[k] :: l.drop (k + 1) := List.drop_eq_getElem_cons hk
  unfold midL
  rw [h1, h2, outs_append]
  generalize l.take k = A
  generalize l.drop (k + 1) = D
  generalize l[k] = x at h
  simp [inP, outs, h]
theorem mid_yes (l : List BS) (s : BS) (k : Nat) (hk : k < l.length) (h : cutP s l[k] = true) : midL l s (k + 1) = (midL l s k).set k (l[k] &&& s) ++ [l[k] &&& ~~~s] := by
  have h1 : l.take (k + 1) = l.take k ++ [l[k]] := (List.take_append_getElem hk).symm
  have h2 : l.drop k = l[k] :: l.drop (k + 1) := List.drop_eq_getElem_cons hk
  have hl : ((l.take k).map (inP s)).length = k := by simp; omega
  unfold midL
  rw [h1, h2, List.set_append_right _ _ (by omega), hl, Nat.sub_self, outs_append]
  generalize l.take k = A
  generalize l.drop (k + 1) = D
  generalize l[k] = x at h
  simp [inP, outs, h]
abbrev R4 (w : World) (b : Nat) (s : BS) : Prop := Row4 w b s ∧ w.cell? ⟨b, 4, none⟩ = none
theorem R4.below {w w' : World} {b N : Nat} {s : BS} (h : R4 w b s) (hb : Below N w w') (hn : b < N) : R4 w' b s := ⟨h.1.below hb hn, by rw [hb.cell hn]; exact h.2⟩
theorem R4.new (w : World) (s : BS) (n : Nat) (hn : n = w.heap.size) : R4 (w.alloc (.cells #[.int .u64 (wd 0 s), .int .u64 (wd 1 s), .int .u64 (wd 2 s), .int .u64 (wd 3 s)] 24)) n s := by
  subst hn
  exact ⟨Row4.new w s, by rw [World.cell?_alloc_new]; simp⟩
theorem Row4.set_oth {w : World} {b p i : Nat} {s : BS} {v : Value} (h : Row4 w p s) (hne : b ≠ p) : Row4 (w.setCell ⟨b, i, none⟩ v) p s := by
  obtain ⟨z, c0, c1, c2, c3, f0, f1, f2, f3⟩ := h
  have e : ∀ j, (⟨b, i, none⟩ : Addr) ≠ ⟨p, j, none⟩ := fun j g => hne (by injection g)
  refine ⟨by simpa using z, ?_, ?_, ?_, ?_, ?_, ?_, ?_, ?_⟩
  all_goals simp only [cso _ (e _), World.frozen?_setCell]; assumption
theorem R4.set_other {w : World} {b p i : Nat} {s : BS} {v : Value} (h : R4 w p s) (hne : b ≠ p) : R4 (w.setCell ⟨b, i, none⟩ v) p s := by
  obtain ⟨⟨z, c0, c1, c2, c3, f0, f1, f2, f3⟩, c4⟩ := h
  have e : ∀ j, (⟨b, i, none⟩ : Addr) ≠ ⟨p, j, none⟩ := fun j g => hne (by injection g)
  refine ⟨⟨by simpa using z, ?_, ?_, ?_, ?_, ?_, ?_, ?_, ?_⟩, ?_⟩
  all_goals simp only [cso _ (e _), World.frozen?_setCell]; assumption
theorem R4.grown {w w' : World} {p g : Nat} {s : BS} (h : R4 w p s) (hg : w.grownBy w' (some g)) (hne : g ≠ p) : R4 w' p s := by
  obtain ⟨⟨z, c0, c1, c2, c3, f0, f1, f2, f3⟩, c4⟩ := h
  have e : w'.heap[p]? = w.heap[p]? := hg.block p z (by simp; omega)
  have ec : ∀ j, w'.cell? ⟨p, j, none⟩ = w.cell? ⟨p, j, none⟩ := fun j => by simp only [World.cell?, e]
  have ef : ∀ j, w'.frozen? ⟨p, j, none⟩ = w.frozen? ⟨p, j, none⟩ := fun j => by simp only [World.frozen?, e]
  have hz : p < w'.heap.size := by
    rcases Nat.lt_or_ge p w'.heap.size with h1 | h1
    · exact h1
    · rw [Array.getElem?_eq_none h1] at e
      simp [z] at e
  exact ⟨⟨hz, by rw [ec]; exact c0, by rw [ec]; exact c1, by rw [ec]; exact c2, by rw [ec]; exact c3, by rw [ef]; exact f0, by rw [ef]; exact f1, by rw [ef]; exact f2, by rw [ef]; exact f3⟩, by rw [ec]; exact c4⟩
/-- what the cut's first statement reads -/
abbrev SR (w0 : World) (g k : Nat) (x : BS) (p : Nat) (s : BS) (q : Nat) (w : World) : Prop :=
  Below w0.heap.size w0 w ∧ (w.cell? ⟨g, k * 4, none⟩ = some (.int .u64 (wd 0 x)) ∧ w.cell? ⟨g, k * 4 + 1, none⟩ = some (.int .u64 (wd 1 x)) ∧ w.cell? ⟨g, k * 4 + 2, none⟩ = some (.int .u64 (wd 2 x)) ∧ w.cell? ⟨g, k * 4 + 3, none⟩ = some (.int .u64 (wd 3 x))) ∧ C4 w p s ∧ C4 w q (~~~s)
theorem SR.keep {w0 w w' : World} {g k p q : Nat} {x s : BS} (h : SR w0 g k x p s q w) (hb : Below w.heap.size w w') : SR w0 g k x p s q w' :=
  ⟨h.1.trans (hb.mono h.1.size), ⟨cell_keep h.2.1.1 hb, cell_keep h.2.1.2.1 hb, cell_keep h.2.1.2.2.1 hb, cell_keep h.2.1.2.2.2 hb⟩, C4.keep h.2.2.1 hb, C4.keep h.2.2.2 hb⟩
theorem cell_put4 {w : World} {a : Addr} {b : Nat} (t : BS) (h : a.block ≠ b) : (put4 w b t).cell? a = w.cell? a := by
  have e : ∀ j, (⟨b, j, none⟩ : Addr) ≠ a := fun j k => h (by rw [← k])
  unfold put4
  rw [cso _ (e 3), cso _ (e 2), cso _ (e 1), cso _ (e 0)]
theorem SR.put {w0 w : World} {g k p q b : Nat} {x s : BS} (h : SR w0 g k x p s q w) (hb : w0.heap.size ≤ b) (t : BS) (hg : g < w0.heap.size) (hp : p < w0.heap.size) (hq : q < w0.heap.size) : SR w0 g k x p s q (put4 w b t) := by
  have eg : ∀ i, (put4 w b t).cell? ⟨g, i, none⟩ = w.cell? ⟨g, i, none⟩ := fun i => cell_put4 t (show g ≠ b by omega)
  have ep : ∀ i, (put4 w b t).cell? ⟨p, i, none⟩ = w.cell? ⟨p, i, none⟩ := fun i => cell_put4 t (show p ≠ b by omega)
  have eq : ∀ i, (put4 w b t).cell? ⟨q, i, none⟩ = w.cell? ⟨q, i, none⟩ := fun i => cell_put4 t (show q ≠ b by omega)
  refine ⟨below_put4 h.1 hb t, ?_, ?_, ?_⟩
  · rw [eg, eg, eg, eg]; exact h.2.1
  · unfold C4; rw [ep, ep, ep, ep]; exact h.2.2.1
  · unfold C4; rw [eq, eq, eq, eq]; exact h.2.2.2
theorem Row4.zero (w : World) (n : Nat) (hn : n = w.heap.size) : Row4 (w.alloc (.cells #[.int .u64 0, .int .u64 0, .int .u64 0, .int .u64 0] 24)) n 0#256 := by
  subst hn
  have := Row4.new w 0#256
  rw [wd_zero, wd_zero, wd_zero, wd_zero] at this
  exact this
set_option maxRecDepth 100000 in
set_option maxHeartbeats 4000000 in
theorem split_any (L : List BS) (s : BS) (v : Value) (B : Nat) (w : World) (hB : B ≤ w.heap.size) (hL : 0 < L.length) (hN : L.length ≤ 1000000) (hown : w.ownsRow B 24 4 v L.length (flatB L)) :
    Calls Tryd.prog 36 #[v, st s] w fun e w' => ∃ v', e = .returned v' ∧ w'.ownsRow B 24 4 v' (splitL L s).length (flatB (splitL L s)) ∧ Below B w w' := by
  obtain ⟨i0, hi, hz0, hz1, hz2⟩ := info_parts Tryd.info24
  obtain ⟨g, cap, rfl⟩ := Joins.ownsRow_form hown (by omega)
  have hg := hown.lt g rfl
  have N1 := R4.new w s _ rfl
  have B1 := (Below.refl w.heap.size w).alloc (Nat.le_refl _) (.cells #[.int .u64 (wd 0 s), .int .u64 (wd 1 s), .int .u64 (wd 2 s), .int .u64 (wd 3 s)] 24)
  have HN1 := Lib.hid N1
  have HB1 := Lib.hid B1
  have HO := Lib.hid hown
  have HI := Lib.hid (And.intro hi (And.intro hz0 (And.intro hz1 hz2)))
  have HL := Lib.hid (And.intro hL hN)
  have HG := Lib.hid hg
  have HBB := Lib.hid hB
  clear N1 B1 hown hi hz0 hz1 hz2 hL hN hg hB
  have hn1 := HN1.out.1
  obtain ⟨za, a0, a1, a2, a3, fa0, fa1, fa2, fa3⟩ := hn1
  unfold st
  go_enter Tryd.func36, Tryd.ntmps36
  go_wp2_with fail
  refine (not_any s _).mono ?_
  rintro e w1 ⟨rfl, hb1⟩
  have P1 := Lib.hid ((HN1.out.below hb1 HN1.out.1.size).below ((Below.refl _ _).alloc (Nat.le_refl _) (.cells #[.int .u64 (wd 0 (~~~s)), .int .u64 (wd 1 (~~~s)), .int .u64 (wd 2 (~~~s)), .int .u64 (wd 3 (~~~s))] 24)) (Nat.lt_of_lt_of_le HN1.out.1.size hb1.size))
  have Q1 := Lib.hid (R4.new w1 (~~~s) _ rfl)
  have hb2 := HB1.out.trans (hb1.mono HB1.out.size)
  have BW := Lib.hid (hb2.alloc hb2.size (.cells #[.int .u64 (wd 0 (~~~s)), .int .u64 (wd 1 (~~~s)), .int .u64 (wd 2 (~~~s)), .int .u64 (wd 3 (~~~s))] 24))
  have HQ := Lib.hid (show w.heap.size + 1 ≤ w1.heap.size by have := hb1.size; simpa using this)
  clear hb1 hb2 HN1 HB1 za a0 a1 a2 a3 fa0 fa1 fa2 fa3
  go_wp2_with fail
  go_loopw [0, 13] (fun v i wr => ∃ (k g c : Nat), i = .int .i64 (k : Int) ∧ k ≤ L.length ∧ v = .slice (some ⟨g, 0, none⟩) (midL L s k).length c ∧ g ≠ w.heap.size ∧ g ≠ w1.heap.size ∧ Hid (wr.ownsRow B 24 4 v (midL L s k).length (flatB (midL L s k))) ∧ Hid (Below B w wr) ∧ Hid (R4 wr w.heap.size s) ∧ Hid (R4 wr w1.heap.size (~~~s))) (fun _ i _ => (L.length - intOf i).toNat)
  case atStart =>
    refine ⟨0, g, cap, rfl, by omega, by rw [mid_zero], by have := HG.out; omega, by have := HG.out; have := HQ.out; omega, Lib.hid ?_, Lib.hid ?_, P1, Q1⟩
    · rw [mid_zero]; exact own_below HO.out BW.out
    · exact BW.out.mono HBB.out
  case round =>
    obtain ⟨k, g', c', rfl, hk, rfl, ne1, ne2, HW, HB, HP, HR⟩ := hrel
    by_cases hlt : k < L.length
    · obtain ⟨x, hx⟩ : ∃ x, x = L[k] := ⟨_, rfl⟩
      have hm : (midL L s k)[k]? = some x := by rw [hx]; exact mid_at L s k hlt
      have hr := HR.out.1.c4
      have hp := HP.out.1.c4
      have hS : SR wr g' k x w.heap.size s w1.heap.size wr := ⟨Below.refl _ _, ⟨(HW.out.cellAt _ (by have := mid_len L s k hk; omega)).trans (by simpa using flatB_at _ k x hm 0 (by omega)), (HW.out.cellAt _ (by have := mid_len L s k hk; omega)).trans (flatB_at _ k x hm 1 (by omega)), (HW.out.cellAt _ (by have := mid_len L s k hk; omega)).trans (flatB_at _ k x hm 2 (by omega)), (HW.out.cellAt _ (by have := mid_len L s k hk; omega)).trans (flatB_at _ k x hm 3 (by omega))⟩, hp, hr⟩
      have HS := Lib.hid hS
      have NG := Lib.hid (And.intro (HW.out.lt g' rfl).2 (And.intro HP.out.1.size HR.out.1.size))
      have HX := Lib.hid hx
      have CA := Lib.hid (fun w => and_any x s w)
      have CO := Lib.hid (fun w => and_any x (~~~s) w)
      have hml := mid_len L s k hk
      have hkm : (k : Int) < ((midL L s k).length : Int) := by omega
      have HML := Lib.hid hml
      obtain ⟨M, hM⟩ : ∃ M, M = (midL L s k).length := ⟨_, rfl⟩
      have HMM := Lib.hid hM
      rw [← hM] at hkm ⊢
      clear hx hm hr hp hS hml hM
      go_upto_region 5 with fail
      go_cut [7, 8, 13] from 13 to 44 (fun a b i wx => i = .int .i64 (k : Int) ∧ ∃ bp bq : Nat, a = .pointer (some ⟨bp, 0, none⟩) ∧ b = .pointer (some ⟨bq, 0, none⟩) ∧ wr.heap.size ≤ bp ∧ wr.heap.size ≤ bq ∧ Hid (Below wr.heap.size wr wx) ∧ Hid (Row4 wx bp (x &&& s)) ∧ Hid (Row4 wx bq (x &&& ~~~s)))
      case first =>
        unfold st at CA CO
        refine wp_region_held_drew (S := fun w' => SR wr g' k x w.heap.size s w1.heap.size w') (by kernel_rfl) (SR.keep HS.out ((Below.refl _ _).drew)) (fun hHeld => ?_)
        refine wpAnyH_take (i := 0) (oi := { dst := some 16, op := Op.move (Operand.tmp 0), type := 45, pos := "byteset.go:103", after := #[], guard := none }) (v := ?v0) rfl (by kernel_rfl) (by kernel_rfl) (by kernel_rfl) (fun _ _ _ h => h) (Or.inl ⟨by rfl, ?y0⟩) hHeld ?r0
        case y0 => (intro w hSw; (try dsimp only at hSw); go_simp; (try with_reducible rfl))
        try simp only [Act.put, List.setIfInBounds_toArray, List.set_cons_zero, List.set_cons_succ]
        refine wpAnyH_take (i := 1) (oi := { dst := some 17, op := Op.move (Operand.tmp 6), type := 3, pos := "byteset.go:103", after := #[], guard := none }) (v := ?v1) rfl (by kernel_rfl) (by kernel_rfl) (by kernel_rfl) (fun _ _ _ h => h) (Or.inl ⟨by rfl, ?y1⟩) hHeld ?r1
        case y1 => (intro w hSw; (try dsimp only at hSw); go_simp; (try with_reducible rfl))
        try simp only [Act.put, List.setIfInBounds_toArray, List.set_cons_zero, List.set_cons_succ]
        refine wpAnyH_take (i := 2) (oi := { dst := some 18, op := Op.indexAddr 45 (Operand.tmp 16) (Operand.tmp 17), type := 0, pos := "byteset.go:103", after := #[{ on := 0, ground := Ground.data }, { on := 1, ground := Ground.data }], guard := none }) (v := ?v2) rfl (by kernel_rfl) (by kernel_rfl) (by kernel_rfl) (fun _ _ _ h => h) (Or.inl ⟨by rfl, ?y2⟩) hHeld ?r2
        case y2 => (intro w hSw; (try dsimp only at hSw); go_simp; (try with_reducible rfl))
        try simp only [Act.put, List.setIfInBounds_toArray, List.set_cons_zero, List.set_cons_succ]
        refine wpAnyH_take (i := 3) (oi := { dst := some 19, op := Op.load 24 (Operand.tmp 18), type := 24, pos := "byteset.go:103", after := #[{ on := 2, ground := Ground.data }], guard := none }) (v := ?v3) rfl (by kernel_rfl) (by kernel_rfl) (by kernel_rfl) (fun _ _ _ h => h) (Or.inl ⟨by rfl, ?y3⟩) hHeld ?r3
        case y3 => (intro w hSw; (try dsimp only at hSw); go_simp; (try with_reducible rfl))
        try simp only [Act.put, List.setIfInBounds_toArray, List.set_cons_zero, List.set_cons_succ]
        refine wpAnyH_take (i := 4) (oi := { dst := some 20, op := Op.load 24 (Operand.tmp 3), type := 24, pos := "byteset.go:103", after := #[], guard := none }) (v := ?v4) rfl (by kernel_rfl) (by kernel_rfl) (by kernel_rfl) (fun _ _ _ h => h) (Or.inl ⟨by rfl, ?y4⟩) hHeld ?r4
        case y4 => (intro w hSw; (try dsimp only at hSw); go_simp; (try with_reducible rfl))
        try simp only [Act.put, List.setIfInBounds_toArray, List.set_cons_zero, List.set_cons_succ]
        refine wpAnyH_take (i := 6) (oi := { dst := some 22, op := Op.move (Operand.tmp 0), type := 45, pos := "byteset.go:103", after := #[], guard := none }) (v := ?v6) rfl (by kernel_rfl) (by kernel_rfl) (by kernel_rfl) (fun _ _ _ h => h) (Or.inl ⟨by rfl, ?y6⟩) hHeld ?r6
        case y6 => (intro w hSw; (try dsimp only at hSw); go_simp; (try with_reducible rfl))
        try simp only [Act.put, List.setIfInBounds_toArray, List.set_cons_zero, List.set_cons_succ]
        refine wpAnyH_take (i := 7) (oi := { dst := some 23, op := Op.move (Operand.tmp 6), type := 3, pos := "byteset.go:103", after := #[], guard := none }) (v := ?v7) rfl (by kernel_rfl) (by kernel_rfl) (by kernel_rfl) (fun _ _ _ h => h) (Or.inl ⟨by rfl, ?y7⟩) hHeld ?r7
        case y7 => (intro w hSw; (try dsimp only at hSw); go_simp; (try with_reducible rfl))
        try simp only [Act.put, List.setIfInBounds_toArray, List.set_cons_zero, List.set_cons_succ]
        refine wpAnyH_take (i := 8) (oi := { dst := some 24, op := Op.indexAddr 45 (Operand.tmp 22) (Operand.tmp 23), type := 0, pos := "byteset.go:103", after := #[{ on := 6, ground := Ground.data }, { on := 7, ground := Ground.data }], guard := none }) (v := ?v8) rfl (by kernel_rfl) (by kernel_rfl) (by kernel_rfl) (fun _ _ _ h => h) (Or.inl ⟨by rfl, ?y8⟩) hHeld ?r8
        case y8 => (intro w hSw; (try dsimp only at hSw); go_simp; (try with_reducible rfl))
        try simp only [Act.put, List.setIfInBounds_toArray, List.set_cons_zero, List.set_cons_succ]
        refine wpAnyH_take (i := 9) (oi := { dst := some 25, op := Op.load 24 (Operand.tmp 24), type := 24, pos := "byteset.go:103", after := #[{ on := 8, ground := Ground.data }], guard := none }) (v := ?v9) rfl (by kernel_rfl) (by kernel_rfl) (by kernel_rfl) (fun _ _ _ h => h) (Or.inl ⟨by rfl, ?y9⟩) hHeld ?r9
        case y9 => (intro w hSw; (try dsimp only at hSw); go_simp; (try with_reducible rfl))
        try simp only [Act.put, List.setIfInBounds_toArray, List.set_cons_zero, List.set_cons_succ]
        refine wpAnyH_take (i := 10) (oi := { dst := some 26, op := Op.load 24 (Operand.tmp 5), type := 24, pos := "byteset.go:103", after := #[], guard := none }) (v := ?v10) rfl (by kernel_rfl) (by kernel_rfl) (by kernel_rfl) (fun _ _ _ h => h) (Or.inl ⟨by rfl, ?y10⟩) hHeld ?r10
        case y10 => (intro w hSw; (try dsimp only at hSw); go_simp; (try with_reducible rfl))
        try simp only [Act.put, List.setIfInBounds_toArray, List.set_cons_zero, List.set_cons_succ]
        refine wpAnyH_ready (rs := [5, 12, 13]) (by kernel_rfl) (by simp) ?_
        refine AllReadyH.cons (o := { dst := some 21, op := Op.call { callee := Callee.value (Operand.func 19), args := #[Operand.tmp 19, Operand.tmp 20], argTypes := #[24, 24] }, type := 24, pos := "byteset.go:103", after := #[{ on := 3, ground := Ground.data }, { on := 4, ground := Ground.data }], guard := none }) rfl (fun K hK => ?c5_1) (AllReadyH.cons (o := { dst := some 7, op := Op.alloc 24, type := 0, pos := "byteset.go:103", after := #[], guard := none }) rfl (fun K hK => ?c12_1) (AllReadyH.cons (o := { dst := some 8, op := Op.alloc 24, type := 0, pos := "byteset.go:103", after := #[], guard := none }) rfl (fun K hK => ?c13_1) AllReadyH.nil))
        case c5_1 =>
          go_simp
          refine (CA.out _).mono ?_
          rintro e u1 ⟨rfl, hb1⟩
          try dsimp only
          refine hK.out _ _ (SR.keep hHeld hb1) (fun hHeld1 => ?_)
          replace hHeld := hHeld1
          clear hHeld1
          clear hK K hb1
          try simp only [Act.put, List.setIfInBounds_toArray, List.set_cons_zero, List.set_cons_succ]
          refine wpAnyH_ready (rs := [11, 12, 13]) (by kernel_rfl) (by simp) ?_
          refine AllReadyH.cons (o := { dst := some 27, op := Op.call { callee := Callee.value (Operand.func 19), args := #[Operand.tmp 25, Operand.tmp 26], argTypes := #[24, 24] }, type := 24, pos := "byteset.go:103", after := #[{ on := 9, ground := Ground.data }, { on := 10, ground := Ground.data }, { on := 5, ground := Ground.chain }], guard := none }) rfl (fun K hK => ?c11_2) (AllReadyH.cons (o := { dst := some 7, op := Op.alloc 24, type := 0, pos := "byteset.go:103", after := #[], guard := none }) rfl (fun K hK => ?c12_2) (AllReadyH.cons (o := { dst := some 8, op := Op.alloc 24, type := 0, pos := "byteset.go:103", after := #[], guard := none }) rfl (fun K hK => ?c13_2) AllReadyH.nil))
          case c11_2 =>
            go_simp
            refine (CO.out _).mono ?_
            rintro e u2 ⟨rfl, hb2⟩
            try dsimp only
            refine hK.out _ _ (SR.keep hHeld hb2) (fun hHeld2 => ?_)
            replace hHeld := hHeld2
            clear hHeld2
            clear hK K hb2
            try simp only [Act.put, List.setIfInBounds_toArray, List.set_cons_zero, List.set_cons_succ]
            refine wpAnyH_ready (rs := [12, 13]) (by kernel_rfl) (by simp) ?_
            refine AllReadyH.cons (o := { dst := some 7, op := Op.alloc 24, type := 0, pos := "byteset.go:103", after := #[], guard := none }) rfl (fun K hK => ?c12_3) (AllReadyH.cons (o := { dst := some 8, op := Op.alloc 24, type := 0, pos := "byteset.go:103", after := #[], guard := none }) rfl (fun K hK => ?c13_3) AllReadyH.nil)
            case c12_3 =>
              have LP := Lib.hid (show wr.heap.size ≤ u2.heap.size by have := hHeld.1.size; first | exact this | (simp; done) | simpa using this)
              go_simp
              have hHn : SR wr g' k x w.heap.size s w1.heap.size ((u2.alloc (.cells #[.int .u64 0, .int .u64 0, .int .u64 0, .int .u64 0] 24))) := SR.keep hHeld ((Below.refl _ _).alloc (Nat.le_refl _) (.cells #[.int .u64 0, .int .u64 0, .int .u64 0, .int .u64 0] 24))
              have FP3 : Row4 ((u2.alloc (.cells #[.int .u64 0, .int .u64 0, .int .u64 0, .int .u64 0] 24))) (u2.heap.size) 0#256 := Row4.zero (u2) _ (by simp)
              have FP := Lib.hid FP3
              clear FP3
              refine hK.out _ _ hHn (fun hHeld3 => ?_)
              replace hHeld := hHeld3
              clear hHeld3 hHn hK K
              try simp only [Act.put, List.setIfInBounds_toArray, List.set_cons_zero, List.set_cons_succ]
              refine wpAnyH_ready (rs := [13]) (by kernel_rfl) (by simp) ?_
              refine AllReadyH.cons (o := { dst := some 8, op := Op.alloc 24, type := 0, pos := "byteset.go:103", after := #[], guard := none }) rfl (fun K hK => ?c13_4) AllReadyH.nil
              case c13_4 =>
                have LQ := Lib.hid (show wr.heap.size ≤ u2.heap.size + 1 by have := hHeld.1.size; first | exact this | (simp; done) | simpa using this)
                have GN := Lib.hid (show u2.heap.size ≠ u2.heap.size + 1 from Nat.ne_of_lt (by have := FP.out.size; first | exact this | (simp; done) | simpa using this))
                go_simp
                have hHn : SR wr g' k x w.heap.size s w1.heap.size (((u2.alloc (.cells #[.int .u64 0, .int .u64 0, .int .u64 0, .int .u64 0] 24)).alloc (.cells #[.int .u64 0, .int .u64 0, .int .u64 0, .int .u64 0] 24))) := SR.keep hHeld ((Below.refl _ _).alloc (Nat.le_refl _) (.cells #[.int .u64 0, .int .u64 0, .int .u64 0, .int .u64 0] 24))
                have FP2 : Row4 (((u2.alloc (.cells #[.int .u64 0, .int .u64 0, .int .u64 0, .int .u64 0] 24)).alloc (.cells #[.int .u64 0, .int .u64 0, .int .u64 0, .int .u64 0] 24))) (u2.heap.size) 0#256 := FP.out.below ((Below.refl _ _).alloc (Nat.le_refl _) (.cells #[.int .u64 0, .int .u64 0, .int .u64 0, .int .u64 0] 24)) FP.out.size
                replace FP := Lib.hid FP2
                clear FP2
                have FQ3 : Row4 (((u2.alloc (.cells #[.int .u64 0, .int .u64 0, .int .u64 0, .int .u64 0] 24)).alloc (.cells #[.int .u64 0, .int .u64 0, .int .u64 0, .int .u64 0] 24))) (u2.heap.size + 1) 0#256 := Row4.zero ((u2.alloc (.cells #[.int .u64 0, .int .u64 0, .int .u64 0, .int .u64 0] 24))) _ (by simp)
                have FQ := Lib.hid FQ3
                clear FQ3
                refine hK.out _ _ hHn (fun hHeld4 => ?_)
                replace hHeld := hHeld4
                clear hHeld4 hHn hK K
                try simp only [Act.put, List.setIfInBounds_toArray, List.set_cons_zero, List.set_cons_succ]
                have gP : Row4 (((u2.alloc (.cells #[.int .u64 0, .int .u64 0, .int .u64 0, .int .u64 0] 24)).alloc (.cells #[.int .u64 0, .int .u64 0, .int .u64 0, .int .u64 0] 24))) (u2.heap.size) 0#256 := FP.out
                have gQ : Row4 (((u2.alloc (.cells #[.int .u64 0, .int .u64 0, .int .u64 0, .int .u64 0] 24)).alloc (.cells #[.int .u64 0, .int .u64 0, .int .u64 0, .int .u64 0] 24))) (u2.heap.size + 1) 0#256 := FQ.out
                have gH : SR wr g' k x w.heap.size s w1.heap.size (((u2.alloc (.cells #[.int .u64 0, .int .u64 0, .int .u64 0, .int .u64 0] 24)).alloc (.cells #[.int .u64 0, .int .u64 0, .int .u64 0, .int .u64 0] 24))) := hHeld
                clear FP FQ hHeld
                have lP := LP.out
                have lQ := LQ.out
                have gN := GN.out
                clear LP LQ GN
                generalize ((u2.alloc (.cells #[.int .u64 0, .int .u64 0, .int .u64 0, .int .u64 0] 24)).alloc (.cells #[.int .u64 0, .int .u64 0, .int .u64 0, .int .u64 0] 24)) = Wf at *
                have gQ2 := gQ
                have gH2 := gH
                obtain ⟨z0, a0, a1, a2, a3, f0, f1, f2, f3⟩ := id gP
                refine wpAnyH_ready (rs := [14]) (by kernel_rfl) (by simp) ?_
                refine AllReadyH.cons (o := { dst := none, op := Op.store 24 (Operand.tmp 7) (Operand.tmp 21), type := 0, pos := "byteset.go:103", after := #[{ on := 12, ground := Ground.data }, { on := 5, ground := Ground.data }, { on := 11, ground := Ground.chain }, { on := 0, ground := Ground.phase }, { on := 1, ground := Ground.phase }, { on := 2, ground := Ground.phase }, { on := 3, ground := Ground.phase }, { on := 4, ground := Ground.phase }, { on := 5, ground := Ground.phase }, { on := 6, ground := Ground.textOnly Departure.lateStores }, { on := 7, ground := Ground.textOnly Departure.lateStores }, { on := 8, ground := Ground.textOnly Departure.lateStores }, { on := 9, ground := Ground.textOnly Departure.lateStores }, { on := 10, ground := Ground.textOnly Departure.lateStores }, { on := 11, ground := Ground.textOnly Departure.lateStoresUnsure }, { on := 12, ground := Ground.phase }, { on := 13, ground := Ground.phase }], guard := none }) rfl (fun K hK => ?_) AllReadyH.nil
                go_simp
                clear z0 a0 a1 a2 a3 f0 f1 f2 f3
                have gH3 := SR.put gH lP (x &&& s) NG.out.1 NG.out.2.1 NG.out.2.2
                have gP3 := gP.put (x &&& s)
                have gQ3 := gQ.put_other (x &&& s) gN
                unfold put4 at gH3 gP3 gQ3
                refine hK.out _ _ gH3 (fun hHeld => ?_)
                clear hK K gP gQ gH gQ2 gH2
                try simp only [Act.put, List.setIfInBounds_toArray, List.set_cons_zero, List.set_cons_succ]
                obtain ⟨z0, a0, a1, a2, a3, f0, f1, f2, f3⟩ := id gQ3
                generalize (((Wf.setCell ⟨u2.heap.size, 0, none⟩ (.int .u64 (wd 0 (x &&& s)))).setCell ⟨u2.heap.size, 1, none⟩ (.int .u64 (wd 1 (x &&& s)))).setCell ⟨u2.heap.size, 2, none⟩ (.int .u64 (wd 2 (x &&& s)))).setCell ⟨u2.heap.size, 3, none⟩ (.int .u64 (wd 3 (x &&& s))) = Wg at *
                refine wpAnyH_ready (rs := [15]) (by kernel_rfl) (by simp) ?_
                refine AllReadyH.cons (o := { dst := none, op := Op.store 24 (Operand.tmp 8) (Operand.tmp 27), type := 0, pos := "byteset.go:103", after := #[{ on := 13, ground := Ground.data }, { on := 11, ground := Ground.data }, { on := 14, ground := Ground.chain }, { on := 0, ground := Ground.phase }, { on := 1, ground := Ground.phase }, { on := 2, ground := Ground.phase }, { on := 3, ground := Ground.phase }, { on := 4, ground := Ground.phase }, { on := 5, ground := Ground.phase }, { on := 6, ground := Ground.phase }, { on := 7, ground := Ground.phase }, { on := 8, ground := Ground.phase }, { on := 9, ground := Ground.phase }, { on := 10, ground := Ground.phase }, { on := 11, ground := Ground.phase }, { on := 12, ground := Ground.phase }, { on := 13, ground := Ground.phase }, { on := 14, ground := Ground.phase }], guard := none }) rfl (fun K hK => ?_) AllReadyH.nil
                go_simp
                clear z0 a0 a1 a2 a3 f0 f1 f2 f3
                have gH4 := SR.put gH3 lQ (x &&& ~~~s) NG.out.1 NG.out.2.1 NG.out.2.2
                have gQ4 := gQ3.put (x &&& ~~~s)
                have gP4 := gP3.put_other (x &&& ~~~s) (Ne.symm gN)
                unfold put4 at gH4 gQ4 gP4
                clear hHeld gH3 gQ3 gP3
                refine hK.out _ _ gH4 (fun hHeld => ?_)
                clear hK K
                try simp only [Act.put, List.setIfInBounds_toArray, List.set_cons_zero, List.set_cons_succ]
                refine wpAnyH_done (by kernel_rfl) ?_ _
                have HbX := Lib.hid gH4.1
                have HpX := Lib.hid gP4
                have HqX := Lib.hid gQ4
                clear gH4 gP4 gQ4 hHeld
                go_wp2_with fail
                go_meet
                exact ⟨rfl, _, _, rfl, rfl, lP, lQ, HbX, HpX, HqX⟩
            case c13_3 =>
              have LQ := Lib.hid (show wr.heap.size ≤ u2.heap.size by have := hHeld.1.size; first | exact this | (simp; done) | simpa using this)
              go_simp
              have hHn : SR wr g' k x w.heap.size s w1.heap.size ((u2.alloc (.cells #[.int .u64 0, .int .u64 0, .int .u64 0, .int .u64 0] 24))) := SR.keep hHeld ((Below.refl _ _).alloc (Nat.le_refl _) (.cells #[.int .u64 0, .int .u64 0, .int .u64 0, .int .u64 0] 24))
              have FQ3 : Row4 ((u2.alloc (.cells #[.int .u64 0, .int .u64 0, .int .u64 0, .int .u64 0] 24))) (u2.heap.size) 0#256 := Row4.zero (u2) _ (by simp)
              have FQ := Lib.hid FQ3
              clear FQ3
              refine hK.out _ _ hHn (fun hHeld3 => ?_)
              replace hHeld := hHeld3
              clear hHeld3 hHn hK K
              try simp only [Act.put, List.setIfInBounds_toArray, List.set_cons_zero, List.set_cons_succ]
              refine wpAnyH_ready (rs := [12]) (by kernel_rfl) (by simp) ?_
              refine AllReadyH.cons (o := { dst := some 7, op := Op.alloc 24, type := 0, pos := "byteset.go:103", after := #[], guard := none }) rfl (fun K hK => ?c12_4) AllReadyH.nil
              case c12_4 =>
                have LP := Lib.hid (show wr.heap.size ≤ u2.heap.size + 1 by have := hHeld.1.size; first | exact this | (simp; done) | simpa using this)
                have GN := Lib.hid (show u2.heap.size + 1 ≠ u2.heap.size from Nat.ne_of_gt (by have := FQ.out.size; first | exact this | (simp; done) | simpa using this))
                go_simp
                have hHn : SR wr g' k x w.heap.size s w1.heap.size (((u2.alloc (.cells #[.int .u64 0, .int .u64 0, .int .u64 0, .int .u64 0] 24)).alloc (.cells #[.int .u64 0, .int .u64 0, .int .u64 0, .int .u64 0] 24))) := SR.keep hHeld ((Below.refl _ _).alloc (Nat.le_refl _) (.cells #[.int .u64 0, .int .u64 0, .int .u64 0, .int .u64 0] 24))
                have FQ2 : Row4 (((u2.alloc (.cells #[.int .u64 0, .int .u64 0, .int .u64 0, .int .u64 0] 24)).alloc (.cells #[.int .u64 0, .int .u64 0, .int .u64 0, .int .u64 0] 24))) (u2.heap.size) 0#256 := FQ.out.below ((Below.refl _ _).alloc (Nat.le_refl _) (.cells #[.int .u64 0, .int .u64 0, .int .u64 0, .int .u64 0] 24)) FQ.out.size
                replace FQ := Lib.hid FQ2
                clear FQ2
                have FP3 : Row4 (((u2.alloc (.cells #[.int .u64 0, .int .u64 0, .int .u64 0, .int .u64 0] 24)).alloc (.cells #[.int .u64 0, .int .u64 0, .int .u64 0, .int .u64 0] 24))) (u2.heap.size + 1) 0#256 := Row4.zero ((u2.alloc (.cells #[.int .u64 0, .int .u64 0, .int .u64 0, .int .u64 0] 24))) _ (by simp)
                have FP := Lib.hid FP3
                clear FP3
                refine hK.out _ _ hHn (fun hHeld4 => ?_)
                replace hHeld := hHeld4
                clear hHeld4 hHn hK K
                try simp only [Act.put, List.setIfInBounds_toArray, List.set_cons_zero, List.set_cons_succ]
                have gP : Row4 (((u2.alloc (.cells #[.int .u64 0, .int .u64 0, .int .u64 0, .int .u64 0] 24)).alloc (.cells #[.int .u64 0, .int .u64 0, .int .u64 0, .int .u64 0] 24))) (u2.heap.size + 1) 0#256 := FP.out
                have gQ : Row4 (((u2.alloc (.cells #[.int .u64 0, .int .u64 0, .int .u64 0, .int .u64 0] 24)).alloc (.cells #[.int .u64 0, .int .u64 0, .int .u64 0, .int .u64 0] 24))) (u2.heap.size) 0#256 := FQ.out
                have gH : SR wr g' k x w.heap.size s w1.heap.size (((u2.alloc (.cells #[.int .u64 0, .int .u64 0, .int .u64 0, .int .u64 0] 24)).alloc (.cells #[.int .u64 0, .int .u64 0, .int .u64 0, .int .u64 0] 24))) := hHeld
                clear FP FQ hHeld
                have lP := LP.out
                have lQ := LQ.out
                have gN := GN.out
                clear LP LQ GN
                generalize ((u2.alloc (.cells #[.int .u64 0, .int .u64 0, .int .u64 0, .int .u64 0] 24)).alloc (.cells #[.int .u64 0, .int .u64 0, .int .u64 0, .int .u64 0] 24)) = Wf at *
                have gQ2 := gQ
                have gH2 := gH
                obtain ⟨z0, a0, a1, a2, a3, f0, f1, f2, f3⟩ := id gP
                refine wpAnyH_ready (rs := [14]) (by kernel_rfl) (by simp) ?_
                refine AllReadyH.cons (o := { dst := none, op := Op.store 24 (Operand.tmp 7) (Operand.tmp 21), type := 0, pos := "byteset.go:103", after := #[{ on := 12, ground := Ground.data }, { on := 5, ground := Ground.data }, { on := 11, ground := Ground.chain }, { on := 0, ground := Ground.phase }, { on := 1, ground := Ground.phase }, { on := 2, ground := Ground.phase }, { on := 3, ground := Ground.phase }, { on := 4, ground := Ground.phase }, { on := 5, ground := Ground.phase }, { on := 6, ground := Ground.textOnly Departure.lateStores }, { on := 7, ground := Ground.textOnly Departure.lateStores }, { on := 8, ground := Ground.textOnly Departure.lateStores }, { on := 9, ground := Ground.textOnly Departure.lateStores }, { on := 10, ground := Ground.textOnly Departure.lateStores }, { on := 11, ground := Ground.textOnly Departure.lateStoresUnsure }, { on := 12, ground := Ground.phase }, { on := 13, ground := Ground.phase }], guard := none }) rfl (fun K hK => ?_) AllReadyH.nil
                go_simp
                clear z0 a0 a1 a2 a3 f0 f1 f2 f3
                have gH3 := SR.put gH lP (x &&& s) NG.out.1 NG.out.2.1 NG.out.2.2
                have gP3 := gP.put (x &&& s)
                have gQ3 := gQ.put_other (x &&& s) gN
                unfold put4 at gH3 gP3 gQ3
                refine hK.out _ _ gH3 (fun hHeld => ?_)
                clear hK K gP gQ gH gQ2 gH2
                try simp only [Act.put, List.setIfInBounds_toArray, List.set_cons_zero, List.set_cons_succ]
                obtain ⟨z0, a0, a1, a2, a3, f0, f1, f2, f3⟩ := id gQ3
                generalize (((Wf.setCell ⟨u2.heap.size + 1, 0, none⟩ (.int .u64 (wd 0 (x &&& s)))).setCell ⟨u2.heap.size + 1, 1, none⟩ (.int .u64 (wd 1 (x &&& s)))).setCell ⟨u2.heap.size + 1, 2, none⟩ (.int .u64 (wd 2 (x &&& s)))).setCell ⟨u2.heap.size + 1, 3, none⟩ (.int .u64 (wd 3 (x &&& s))) = Wg at *
                refine wpAnyH_ready (rs := [15]) (by kernel_rfl) (by simp) ?_
                refine AllReadyH.cons (o := { dst := none, op := Op.store 24 (Operand.tmp 8) (Operand.tmp 27), type := 0, pos := "byteset.go:103", after := #[{ on := 13, ground := Ground.data }, { on := 11, ground := Ground.data }, { on := 14, ground := Ground.chain }, { on := 0, ground := Ground.phase }, { on := 1, ground := Ground.phase }, { on := 2, ground := Ground.phase }, { on := 3, ground := Ground.phase }, { on := 4, ground := Ground.phase }, { on := 5, ground := Ground.phase }, { on := 6, ground := Ground.phase }, { on := 7, ground := Ground.phase }, { on := 8, ground := Ground.phase }, { on := 9, ground := Ground.phase }, { on := 10, ground := Ground.phase }, { on := 11, ground := Ground.phase }, { on := 12, ground := Ground.phase }, { on := 13, ground := Ground.phase }, { on := 14, ground := Ground.phase }], guard := none }) rfl (fun K hK => ?_) AllReadyH.nil
                go_simp
                clear z0 a0 a1 a2 a3 f0 f1 f2 f3
                have gH4 := SR.put gH3 lQ (x &&& ~~~s) NG.out.1 NG.out.2.1 NG.out.2.2
                have gQ4 := gQ3.put (x &&& ~~~s)
                have gP4 := gP3.put_other (x &&& ~~~s) (Ne.symm gN)
                unfold put4 at gH4 gQ4 gP4
                clear hHeld gH3 gQ3 gP3
                refine hK.out _ _ gH4 (fun hHeld => ?_)
                clear hK K
                try simp only [Act.put, List.setIfInBounds_toArray, List.set_cons_zero, List.set_cons_succ]
                refine wpAnyH_done (by kernel_rfl) ?_ _
                have HbX := Lib.hid gH4.1
                have HpX := Lib.hid gP4
                have HqX := Lib.hid gQ4
                clear gH4 gP4 gQ4 hHeld
                go_wp2_with fail
                go_meet
                exact ⟨rfl, _, _, rfl, rfl, lP, lQ, HbX, HpX, HqX⟩
          case c12_2 =>
            have LP := Lib.hid (show wr.heap.size ≤ u1.heap.size by have := hHeld.1.size; first | exact this | (simp; done) | simpa using this)
            go_simp
            have hHn : SR wr g' k x w.heap.size s w1.heap.size ((u1.alloc (.cells #[.int .u64 0, .int .u64 0, .int .u64 0, .int .u64 0] 24))) := SR.keep hHeld ((Below.refl _ _).alloc (Nat.le_refl _) (.cells #[.int .u64 0, .int .u64 0, .int .u64 0, .int .u64 0] 24))
            have FP3 : Row4 ((u1.alloc (.cells #[.int .u64 0, .int .u64 0, .int .u64 0, .int .u64 0] 24))) (u1.heap.size) 0#256 := Row4.zero (u1) _ (by simp)
            have FP := Lib.hid FP3
            clear FP3
            refine hK.out _ _ hHn (fun hHeld2 => ?_)
            replace hHeld := hHeld2
            clear hHeld2 hHn hK K
            try simp only [Act.put, List.setIfInBounds_toArray, List.set_cons_zero, List.set_cons_succ]
            refine wpAnyH_ready (rs := [11, 13]) (by kernel_rfl) (by simp) ?_
            refine AllReadyH.cons (o := { dst := some 27, op := Op.call { callee := Callee.value (Operand.func 19), args := #[Operand.tmp 25, Operand.tmp 26], argTypes := #[24, 24] }, type := 24, pos := "byteset.go:103", after := #[{ on := 9, ground := Ground.data }, { on := 10, ground := Ground.data }, { on := 5, ground := Ground.chain }], guard := none }) rfl (fun K hK => ?c11_3) (AllReadyH.cons (o := { dst := some 8, op := Op.alloc 24, type := 0, pos := "byteset.go:103", after := #[], guard := none }) rfl (fun K hK => ?c13_3) AllReadyH.nil)
            case c11_3 =>
              go_simp
              refine (CO.out _).mono ?_
              rintro e u3 ⟨rfl, hb3⟩
              try dsimp only
              refine hK.out _ _ (SR.keep hHeld hb3) (fun hHeld3 => ?_)
              replace hHeld := hHeld3
              clear hHeld3
              replace FP := Lib.hid (FP.out.below hb3 FP.out.size)
              clear hK K hb3
              try simp only [Act.put, List.setIfInBounds_toArray, List.set_cons_zero, List.set_cons_succ]
              refine wpAnyH_ready (rs := [13]) (by kernel_rfl) (by simp) ?_
              refine AllReadyH.cons (o := { dst := some 8, op := Op.alloc 24, type := 0, pos := "byteset.go:103", after := #[], guard := none }) rfl (fun K hK => ?c13_4) AllReadyH.nil
              case c13_4 =>
                have LQ := Lib.hid (show wr.heap.size ≤ u3.heap.size by have := hHeld.1.size; first | exact this | (simp; done) | simpa using this)
                have GN := Lib.hid (show u1.heap.size ≠ u3.heap.size from Nat.ne_of_lt (by have := FP.out.size; first | exact this | (simp; done) | simpa using this))
                go_simp
                have hHn : SR wr g' k x w.heap.size s w1.heap.size ((u3.alloc (.cells #[.int .u64 0, .int .u64 0, .int .u64 0, .int .u64 0] 24))) := SR.keep hHeld ((Below.refl _ _).alloc (Nat.le_refl _) (.cells #[.int .u64 0, .int .u64 0, .int .u64 0, .int .u64 0] 24))
                have FP2 : Row4 ((u3.alloc (.cells #[.int .u64 0, .int .u64 0, .int .u64 0, .int .u64 0] 24))) (u1.heap.size) 0#256 := FP.out.below ((Below.refl _ _).alloc (Nat.le_refl _) (.cells #[.int .u64 0, .int .u64 0, .int .u64 0, .int .u64 0] 24)) FP.out.size
                replace FP := Lib.hid FP2
                clear FP2
                have FQ3 : Row4 ((u3.alloc (.cells #[.int .u64 0, .int .u64 0, .int .u64 0, .int .u64 0] 24))) (u3.heap.size) 0#256 := Row4.zero (u3) _ (by simp)
                have FQ := Lib.hid FQ3
                clear FQ3
                refine hK.out _ _ hHn (fun hHeld4 => ?_)
                replace hHeld := hHeld4
                clear hHeld4 hHn hK K
                try simp only [Act.put, List.setIfInBounds_toArray, List.set_cons_zero, List.set_cons_succ]
                have gP : Row4 ((u3.alloc (.cells #[.int .u64 0, .int .u64 0, .int .u64 0, .int .u64 0] 24))) (u1.heap.size) 0#256 := FP.out
                have gQ : Row4 ((u3.alloc (.cells #[.int .u64 0, .int .u64 0, .int .u64 0, .int .u64 0] 24))) (u3.heap.size) 0#256 := FQ.out
                have gH : SR wr g' k x w.heap.size s w1.heap.size ((u3.alloc (.cells #[.int .u64 0, .int .u64 0, .int .u64 0, .int .u64 0] 24))) := hHeld
                clear FP FQ hHeld
                have lP := LP.out
                have lQ := LQ.out
                have gN := GN.out
                clear LP LQ GN
                generalize (u3.alloc (.cells #[.int .u64 0, .int .u64 0, .int .u64 0, .int .u64 0] 24)) = Wf at *
                have gQ2 := gQ
                have gH2 := gH
                obtain ⟨z0, a0, a1, a2, a3, f0, f1, f2, f3⟩ := id gP
                refine wpAnyH_ready (rs := [14]) (by kernel_rfl) (by simp) ?_
                refine AllReadyH.cons (o := { dst := none, op := Op.store 24 (Operand.tmp 7) (Operand.tmp 21), type := 0, pos := "byteset.go:103", after := #[{ on := 12, ground := Ground.data }, { on := 5, ground := Ground.data }, { on := 11, ground := Ground.chain }, { on := 0, ground := Ground.phase }, { on := 1, ground := Ground.phase }, { on := 2, ground := Ground.phase }, { on := 3, ground := Ground.phase }, { on := 4, ground := Ground.phase }, { on := 5, ground := Ground.phase }, { on := 6, ground := Ground.textOnly Departure.lateStores }, { on := 7, ground := Ground.textOnly Departure.lateStores }, { on := 8, ground := Ground.textOnly Departure.lateStores }, { on := 9, ground := Ground.textOnly Departure.lateStores }, { on := 10, ground := Ground.textOnly Departure.lateStores }, { on := 11, ground := Ground.textOnly Departure.lateStoresUnsure }, { on := 12, ground := Ground.phase }, { on := 13, ground := Ground.phase }], guard := none }) rfl (fun K hK => ?_) AllReadyH.nil
                go_simp
                clear z0 a0 a1 a2 a3 f0 f1 f2 f3
                have gH3 := SR.put gH lP (x &&& s) NG.out.1 NG.out.2.1 NG.out.2.2
                have gP3 := gP.put (x &&& s)
                have gQ3 := gQ.put_other (x &&& s) gN
                unfold put4 at gH3 gP3 gQ3
                refine hK.out _ _ gH3 (fun hHeld => ?_)
                clear hK K gP gQ gH gQ2 gH2
                try simp only [Act.put, List.setIfInBounds_toArray, List.set_cons_zero, List.set_cons_succ]
                obtain ⟨z0, a0, a1, a2, a3, f0, f1, f2, f3⟩ := id gQ3
                generalize (((Wf.setCell ⟨u1.heap.size, 0, none⟩ (.int .u64 (wd 0 (x &&& s)))).setCell ⟨u1.heap.size, 1, none⟩ (.int .u64 (wd 1 (x &&& s)))).setCell ⟨u1.heap.size, 2, none⟩ (.int .u64 (wd 2 (x &&& s)))).setCell ⟨u1.heap.size, 3, none⟩ (.int .u64 (wd 3 (x &&& s))) = Wg at *
                refine wpAnyH_ready (rs := [15]) (by kernel_rfl) (by simp) ?_
                refine AllReadyH.cons (o := { dst := none, op := Op.store 24 (Operand.tmp 8) (Operand.tmp 27), type := 0, pos := "byteset.go:103", after := #[{ on := 13, ground := Ground.data }, { on := 11, ground := Ground.data }, { on := 14, ground := Ground.chain }, { on := 0, ground := Ground.phase }, { on := 1, ground := Ground.phase }, { on := 2, ground := Ground.phase }, { on := 3, ground := Ground.phase }, { on := 4, ground := Ground.phase }, { on := 5, ground := Ground.phase }, { on := 6, ground := Ground.phase }, { on := 7, ground := Ground.phase }, { on := 8, ground := Ground.phase }, { on := 9, ground := Ground.phase }, { on := 10, ground := Ground.phase }, { on := 11, ground := Ground.phase }, { on := 12, ground := Ground.phase }, { on := 13, ground := Ground.phase }, { on := 14, ground := Ground.phase }], guard := none }) rfl (fun K hK => ?_) AllReadyH.nil
                go_simp
                clear z0 a0 a1 a2 a3 f0 f1 f2 f3
                have gH4 := SR.put gH3 lQ (x &&& ~~~s) NG.out.1 NG.out.2.1 NG.out.2.2
                have gQ4 := gQ3.put (x &&& ~~~s)
                have gP4 := gP3.put_other (x &&& ~~~s) (Ne.symm gN)
                unfold put4 at gH4 gQ4 gP4
                clear hHeld gH3 gQ3 gP3
                refine hK.out _ _ gH4 (fun hHeld => ?_)
                clear hK K
                try simp only [Act.put, List.setIfInBounds_toArray, List.set_cons_zero, List.set_cons_succ]
                refine wpAnyH_done (by kernel_rfl) ?_ _
                have HbX := Lib.hid gH4.1
                have HpX := Lib.hid gP4
                have HqX := Lib.hid gQ4
                clear gH4 gP4 gQ4 hHeld
                go_wp2_with fail
                go_meet
                exact ⟨rfl, _, _, rfl, rfl, lP, lQ, HbX, HpX, HqX⟩
            case c13_3 =>
              have LQ := Lib.hid (show wr.heap.size ≤ u1.heap.size + 1 by have := hHeld.1.size; first | exact this | (simp; done) | simpa using this)
              have GN := Lib.hid (show u1.heap.size ≠ u1.heap.size + 1 from Nat.ne_of_lt (by have := FP.out.size; first | exact this | (simp; done) | simpa using this))
              go_simp
              have hHn : SR wr g' k x w.heap.size s w1.heap.size (((u1.alloc (.cells #[.int .u64 0, .int .u64 0, .int .u64 0, .int .u64 0] 24)).alloc (.cells #[.int .u64 0, .int .u64 0, .int .u64 0, .int .u64 0] 24))) := SR.keep hHeld ((Below.refl _ _).alloc (Nat.le_refl _) (.cells #[.int .u64 0, .int .u64 0, .int .u64 0, .int .u64 0] 24))
              have FP2 : Row4 (((u1.alloc (.cells #[.int .u64 0, .int .u64 0, .int .u64 0, .int .u64 0] 24)).alloc (.cells #[.int .u64 0, .int .u64 0, .int .u64 0, .int .u64 0] 24))) (u1.heap.size) 0#256 := FP.out.below ((Below.refl _ _).alloc (Nat.le_refl _) (.cells #[.int .u64 0, .int .u64 0, .int .u64 0, .int .u64 0] 24)) FP.out.size
              replace FP := Lib.hid FP2
              clear FP2
              have FQ3 : Row4 (((u1.alloc (.cells #[.int .u64 0, .int .u64 0, .int .u64 0, .int .u64 0] 24)).alloc (.cells #[.int .u64 0, .int .u64 0, .int .u64 0, .int .u64 0] 24))) (u1.heap.size + 1) 0#256 := Row4.zero ((u1.alloc (.cells #[.int .u64 0, .int .u64 0, .int .u64 0, .int .u64 0] 24))) _ (by simp)
              have FQ := Lib.hid FQ3
              clear FQ3
              refine hK.out _ _ hHn (fun hHeld3 => ?_)
              replace hHeld := hHeld3
              clear hHeld3 hHn hK K
              try simp only [Act.put, List.setIfInBounds_toArray, List.set_cons_zero, List.set_cons_succ]
              refine wpAnyH_ready (rs := [11]) (by kernel_rfl) (by simp) ?_
              refine AllReadyH.cons (o := { dst := some 27, op := Op.call { callee := Callee.value (Operand.func 19), args := #[Operand.tmp 25, Operand.tmp 26], argTypes := #[24, 24] }, type := 24, pos := "byteset.go:103", after := #[{ on := 9, ground := Ground.data }, { on := 10, ground := Ground.data }, { on := 5, ground := Ground.chain }], guard := none }) rfl (fun K hK => ?c11_4) AllReadyH.nil
              case c11_4 =>
                go_simp
                refine (CO.out _).mono ?_
                rintro e u4 ⟨rfl, hb4⟩
                try dsimp only
                refine hK.out _ _ (SR.keep hHeld hb4) (fun hHeld4 => ?_)
                replace hHeld := hHeld4
                clear hHeld4
                replace FP := Lib.hid (FP.out.below hb4 FP.out.size)
                replace FQ := Lib.hid (FQ.out.below hb4 FQ.out.size)
                clear hK K hb4
                try simp only [Act.put, List.setIfInBounds_toArray, List.set_cons_zero, List.set_cons_succ]
                have gP : Row4 (u4) (u1.heap.size) 0#256 := FP.out
                have gQ : Row4 (u4) (u1.heap.size + 1) 0#256 := FQ.out
                have gH : SR wr g' k x w.heap.size s w1.heap.size (u4) := hHeld
                clear FP FQ hHeld
                have lP := LP.out
                have lQ := LQ.out
                have gN := GN.out
                clear LP LQ GN
                generalize u4 = Wf at *
                have gQ2 := gQ
                have gH2 := gH
                obtain ⟨z0, a0, a1, a2, a3, f0, f1, f2, f3⟩ := id gP
                refine wpAnyH_ready (rs := [14]) (by kernel_rfl) (by simp) ?_
                refine AllReadyH.cons (o := { dst := none, op := Op.store 24 (Operand.tmp 7) (Operand.tmp 21), type := 0, pos := "byteset.go:103", after := #[{ on := 12, ground := Ground.data }, { on := 5, ground := Ground.data }, { on := 11, ground := Ground.chain }, { on := 0, ground := Ground.phase }, { on := 1, ground := Ground.phase }, { on := 2, ground := Ground.phase }, { on := 3, ground := Ground.phase }, { on := 4, ground := Ground.phase }, { on := 5, ground := Ground.phase }, { on := 6, ground := Ground.textOnly Departure.lateStores }, { on := 7, ground := Ground.textOnly Departure.lateStores }, { on := 8, ground := Ground.textOnly Departure.lateStores }, { on := 9, ground := Ground.textOnly Departure.lateStores }, { on := 10, ground := Ground.textOnly Departure.lateStores }, { on := 11, ground := Ground.textOnly Departure.lateStoresUnsure }, { on := 12, ground := Ground.phase }, { on := 13, ground := Ground.phase }], guard := none }) rfl (fun K hK => ?_) AllReadyH.nil
                go_simp
                clear z0 a0 a1 a2 a3 f0 f1 f2 f3
                have gH3 := SR.put gH lP (x &&& s) NG.out.1 NG.out.2.1 NG.out.2.2
                have gP3 := gP.put (x &&& s)
                have gQ3 := gQ.put_other (x &&& s) gN
                unfold put4 at gH3 gP3 gQ3
                refine hK.out _ _ gH3 (fun hHeld => ?_)
                clear hK K gP gQ gH gQ2 gH2
                try simp only [Act.put, List.setIfInBounds_toArray, List.set_cons_zero, List.set_cons_succ]
                obtain ⟨z0, a0, a1, a2, a3, f0, f1, f2, f3⟩ := id gQ3
                generalize (((Wf.setCell ⟨u1.heap.size, 0, none⟩ (.int .u64 (wd 0 (x &&& s)))).setCell ⟨u1.heap.size, 1, none⟩ (.int .u64 (wd 1 (x &&& s)))).setCell ⟨u1.heap.size, 2, none⟩ (.int .u64 (wd 2 (x &&& s)))).setCell ⟨u1.heap.size, 3, none⟩ (.int .u64 (wd 3 (x &&& s))) = Wg at *
                refine wpAnyH_ready (rs := [15]) (by kernel_rfl) (by simp) ?_
                refine AllReadyH.cons (o := { dst := none, op := Op.store 24 (Operand.tmp 8) (Operand.tmp 27), type := 0, pos := "byteset.go:103", after := #[{ on := 13, ground := Ground.data }, { on := 11, ground := Ground.data }, { on := 14, ground := Ground.chain }, { on := 0, ground := Ground.phase }, { on := 1, ground := Ground.phase }, { on := 2, ground := Ground.phase }, { on := 3, ground := Ground.phase }, { on := 4, ground := Ground.phase }, { on := 5, ground := Ground.phase }, { on := 6, ground := Ground.phase }, { on := 7, ground := Ground.phase }, { on := 8, ground := Ground.phase }, { on := 9, ground := Ground.phase }, { on := 10, ground := Ground.phase }, { on := 11, ground := Ground.phase }, { on := 12, ground := Ground.phase }, { on := 13, ground := Ground.phase }, { on := 14, ground := Ground.phase }], guard := none }) rfl (fun K hK => ?_) AllReadyH.nil
                go_simp
                clear z0 a0 a1 a2 a3 f0 f1 f2 f3
                have gH4 := SR.put gH3 lQ (x &&& ~~~s) NG.out.1 NG.out.2.1 NG.out.2.2
                have gQ4 := gQ3.put (x &&& ~~~s)
                have gP4 := gP3.put_other (x &&& ~~~s) (Ne.symm gN)
                unfold put4 at gH4 gQ4 gP4
                clear hHeld gH3 gQ3 gP3
                refine hK.out _ _ gH4 (fun hHeld => ?_)
                clear hK K
                try simp only [Act.put, List.setIfInBounds_toArray, List.set_cons_zero, List.set_cons_succ]
                refine wpAnyH_done (by kernel_rfl) ?_ _
                have HbX := Lib.hid gH4.1
                have HpX := Lib.hid gP4
                have HqX := Lib.hid gQ4
                clear gH4 gP4 gQ4 hHeld
                go_wp2_with fail
                go_meet
                exact ⟨rfl, _, _, rfl, rfl, lP, lQ, HbX, HpX, HqX⟩
          case c13_2 =>
            have LQ := Lib.hid (show wr.heap.size ≤ u1.heap.size by have := hHeld.1.size; first | exact this | (simp; done) | simpa using this)
            go_simp
            have hHn : SR wr g' k x w.heap.size s w1.heap.size ((u1.alloc (.cells #[.int .u64 0, .int .u64 0, .int .u64 0, .int .u64 0] 24))) := SR.keep hHeld ((Below.refl _ _).alloc (Nat.le_refl _) (.cells #[.int .u64 0, .int .u64 0, .int .u64 0, .int .u64 0] 24))
            have FQ3 : Row4 ((u1.alloc (.cells #[.int .u64 0, .int .u64 0, .int .u64 0, .int .u64 0] 24))) (u1.heap.size) 0#256 := Row4.zero (u1) _ (by simp)
            have FQ := Lib.hid FQ3
            clear FQ3
            refine hK.out _ _ hHn (fun hHeld2 => ?_)
            replace hHeld := hHeld2
            clear hHeld2 hHn hK K
            try simp only [Act.put, List.setIfInBounds_toArray, List.set_cons_zero, List.set_cons_succ]
            refine wpAnyH_ready (rs := [11, 12]) (by kernel_rfl) (by simp) ?_
            refine AllReadyH.cons (o := { dst := some 27, op := Op.call { callee := Callee.value (Operand.func 19), args := #[Operand.tmp 25, Operand.tmp 26], argTypes := #[24, 24] }, type := 24, pos := "byteset.go:103", after := #[{ on := 9, ground := Ground.data }, { on := 10, ground := Ground.data }, { on := 5, ground := Ground.chain }], guard := none }) rfl (fun K hK => ?c11_3) (AllReadyH.cons (o := { dst := some 7, op := Op.alloc 24, type := 0, pos := "byteset.go:103", after := #[], guard := none }) rfl (fun K hK => ?c12_3) AllReadyH.nil)
            case c11_3 =>
              go_simp
              refine (CO.out _).mono ?_
              rintro e u3 ⟨rfl, hb3⟩
              try dsimp only
              refine hK.out _ _ (SR.keep hHeld hb3) (fun hHeld3 => ?_)
              replace hHeld := hHeld3
              clear hHeld3
              replace FQ := Lib.hid (FQ.out.below hb3 FQ.out.size)
              clear hK K hb3
              try simp only [Act.put, List.setIfInBounds_toArray, List.set_cons_zero, List.set_cons_succ]
              refine wpAnyH_ready (rs := [12]) (by kernel_rfl) (by simp) ?_
              refine AllReadyH.cons (o := { dst := some 7, op := Op.alloc 24, type := 0, pos := "byteset.go:103", after := #[], guard := none }) rfl (fun K hK => ?c12_4) AllReadyH.nil
              case c12_4 =>
                have LP := Lib.hid (show wr.heap.size ≤ u3.heap.size by have := hHeld.1.size; first | exact this | (simp; done) | simpa using this)
                have GN := Lib.hid (show u3.heap.size ≠ u1.heap.size from Nat.ne_of_gt (by have := FQ.out.size; first | exact this | (simp; done) | simpa using this))
                go_simp
                have hHn : SR wr g' k x w.heap.size s w1.heap.size ((u3.alloc (.cells #[.int .u64 0, .int .u64 0, .int .u64 0, .int .u64 0] 24))) := SR.keep hHeld ((Below.refl _ _).alloc (Nat.le_refl _) (.cells #[.int .u64 0, .int .u64 0, .int .u64 0, .int .u64 0] 24))
                have FQ2 : Row4 ((u3.alloc (.cells #[.int .u64 0, .int .u64 0, .int .u64 0, .int .u64 0] 24))) (u1.heap.size) 0#256 := FQ.out.below ((Below.refl _ _).alloc (Nat.le_refl _) (.cells #[.int .u64 0, .int .u64 0, .int .u64 0, .int .u64 0] 24)) FQ.out.size
                replace FQ := Lib.hid FQ2
                clear FQ2
                have FP3 : Row4 ((u3.alloc (.cells #[.int .u64 0, .int .u64 0, .int .u64 0, .int .u64 0] 24))) (u3.heap.size) 0#256 := Row4.zero (u3) _ (by simp)
                have FP := Lib.hid FP3
                clear FP3
                refine hK.out _ _ hHn (fun hHeld4 => ?_)
                replace hHeld := hHeld4
                clear hHeld4 hHn hK K
                try simp only [Act.put, List.setIfInBounds_toArray, List.set_cons_zero, List.set_cons_succ]
                have gP : Row4 ((u3.alloc (.cells #[.int .u64 0, .int .u64 0, .int .u64 0, .int .u64 0] 24))) (u3.heap.size) 0#256 := FP.out
                have gQ : Row4 ((u3.alloc (.cells #[.int .u64 0, .int .u64 0, .int .u64 0, .int .u64 0] 24))) (u1.heap.size) 0#256 := FQ.out
                have gH : SR wr g' k x w.heap.size s w1.heap.size ((u3.alloc (.cells #[.int .u64 0, .int .u64 0, .int .u64 0, .int .u64 0] 24))) := hHeld
                clear FP FQ hHeld
                have lP := LP.out
                have lQ := LQ.out
                have gN := GN.out
                clear LP LQ GN
                generalize (u3.alloc (.cells #[.int .u64 0, .int .u64 0, .int .u64 0, .int .u64 0] 24)) = Wf at *
                have gQ2 := gQ
                have gH2 := gH
                obtain ⟨z0, a0, a1, a2, a3, f0, f1, f2, f3⟩ := id gP
                refine wpAnyH_ready (rs := [14]) (by kernel_rfl) (by simp) ?_
                refine AllReadyH.cons (o := { dst := none, op := Op.store 24 (Operand.tmp 7) (Operand.tmp 21), type := 0, pos := "byteset.go:103", after := #[{ on := 12, ground := Ground.data }, { on := 5, ground := Ground.data }, { on := 11, ground := Ground.chain }, { on := 0, ground := Ground.phase }, { on := 1, ground := Ground.phase }, { on := 2, ground := Ground.phase }, { on := 3, ground := Ground.phase }, { on := 4, ground := Ground.phase }, { on := 5, ground := Ground.phase }, { on := 6, ground := Ground.textOnly Departure.lateStores }, { on := 7, ground := Ground.textOnly Departure.lateStores }, { on := 8, ground := Ground.textOnly Departure.lateStores }, { on := 9, ground := Ground.textOnly Departure.lateStores }, { on := 10, ground := Ground.textOnly Departure.lateStores }, { on := 11, ground := Ground.textOnly Departure.lateStoresUnsure }, { on := 12, ground := Ground.phase }, { on := 13, ground := Ground.phase }], guard := none }) rfl (fun K hK => ?_) AllReadyH.nil
                go_simp
                clear z0 a0 a1 a2 a3 f0 f1 f2 f3
                have gH3 := SR.put gH lP (x &&& s) NG.out.1 NG.out.2.1 NG.out.2.2
                have gP3 := gP.put (x &&& s)
                have gQ3 := gQ.put_other (x &&& s) gN
                unfold put4 at gH3 gP3 gQ3
                refine hK.out _ _ gH3 (fun hHeld => ?_)
                clear hK K gP gQ gH gQ2 gH2
                try simp only [Act.put, List.setIfInBounds_toArray, List.set_cons_zero, List.set_cons_succ]
                obtain ⟨z0, a0, a1, a2, a3, f0, f1, f2, f3⟩ := id gQ3
                generalize (((Wf.setCell ⟨u3.heap.size, 0, none⟩ (.int .u64 (wd 0 (x &&& s)))).setCell ⟨u3.heap.size, 1, none⟩ (.int .u64 (wd 1 (x &&& s)))).setCell ⟨u3.heap.size, 2, none⟩ (.int .u64 (wd 2 (x &&& s)))).setCell ⟨u3.heap.size, 3, none⟩ (.int .u64 (wd 3 (x &&& s))) = Wg at *
                refine wpAnyH_ready (rs := [15]) (by kernel_rfl) (by simp) ?_
                refine AllReadyH.cons (o := { dst := none, op := Op.store 24 (Operand.tmp 8) (Operand.tmp 27), type := 0, pos := "byteset.go:103", after := #[{ on := 13, ground := Ground.data }, { on := 11, ground := Ground.data }, { on := 14, ground := Ground.chain }, { on := 0, ground := Ground.phase }, { on := 1, ground := Ground.phase }, { on := 2, ground := Ground.phase }, { on := 3, ground := Ground.phase }, { on := 4, ground := Ground.phase }, { on := 5, ground := Ground.phase }, { on := 6, ground := Ground.phase }, { on := 7, ground := Ground.phase }, { on := 8, ground := Ground.phase }, { on := 9, ground := Ground.phase }, { on := 10, ground := Ground.phase }, { on := 11, ground := Ground.phase }, { on := 12, ground := Ground.phase }, { on := 13, ground := Ground.phase }, { on := 14, ground := Ground.phase }], guard := none }) rfl (fun K hK => ?_) AllReadyH.nil
                go_simp
                clear z0 a0 a1 a2 a3 f0 f1 f2 f3
                have gH4 := SR.put gH3 lQ (x &&& ~~~s) NG.out.1 NG.out.2.1 NG.out.2.2
                have gQ4 := gQ3.put (x &&& ~~~s)
                have gP4 := gP3.put_other (x &&& ~~~s) (Ne.symm gN)
                unfold put4 at gH4 gQ4 gP4
                clear hHeld gH3 gQ3 gP3
                refine hK.out _ _ gH4 (fun hHeld => ?_)
                clear hK K
                try simp only [Act.put, List.setIfInBounds_toArray, List.set_cons_zero, List.set_cons_succ]
                refine wpAnyH_done (by kernel_rfl) ?_ _
                have HbX := Lib.hid gH4.1
                have HpX := Lib.hid gP4
                have HqX := Lib.hid gQ4
                clear gH4 gP4 gQ4 hHeld
                go_wp2_with fail
                go_meet
                exact ⟨rfl, _, _, rfl, rfl, lP, lQ, HbX, HpX, HqX⟩
            case c12_3 =>
              have LP := Lib.hid (show wr.heap.size ≤ u1.heap.size + 1 by have := hHeld.1.size; first | exact this | (simp; done) | simpa using this)
              have GN := Lib.hid (show u1.heap.size + 1 ≠ u1.heap.size from Nat.ne_of_gt (by have := FQ.out.size; first | exact this | (simp; done) | simpa using this))
              go_simp
              have hHn : SR wr g' k x w.heap.size s w1.heap.size (((u1.alloc (.cells #[.int .u64 0, .int .u64 0, .int .u64 0, .int .u64 0] 24)).alloc (.cells #[.int .u64 0, .int .u64 0, .int .u64 0, .int .u64 0] 24))) := SR.keep hHeld ((Below.refl _ _).alloc (Nat.le_refl _) (.cells #[.int .u64 0, .int .u64 0, .int .u64 0, .int .u64 0] 24))
              have FQ2 : Row4 (((u1.alloc (.cells #[.int .u64 0, .int .u64 0, .int .u64 0, .int .u64 0] 24)).alloc (.cells #[.int .u64 0, .int .u64 0, .int .u64 0, .int .u64 0] 24))) (u1.heap.size) 0#256 := FQ.out.below ((Below.refl _ _).alloc (Nat.le_refl _) (.cells #[.int .u64 0, .int .u64 0, .int .u64 0, .int .u64 0] 24)) FQ.out.size
              replace FQ := Lib.hid FQ2
              clear FQ2
              have FP3 : Row4 (((u1.alloc (.cells #[.int .u64 0, .int .u64 0, .int .u64 0, .int .u64 0] 24)).alloc (.cells #[.int .u64 0, .int .u64 0, .int .u64 0, .int .u64 0] 24))) (u1.heap.size + 1) 0#256 := Row4.zero ((u1.alloc (.cells #[.int .u64 0, .int .u64 0, .int .u64 0, .int .u64 0] 24))) _ (by simp)
              have FP := Lib.hid FP3
              clear FP3
              refine hK.out _ _ hHn (fun hHeld3 => ?_)
              replace hHeld := hHeld3
              clear hHeld3 hHn hK K
              try simp only [Act.put, List.setIfInBounds_toArray, List.set_cons_zero, List.set_cons_succ]
              refine wpAnyH_ready (rs := [11]) (by kernel_rfl) (by simp) ?_
              refine AllReadyH.cons (o := { dst := some 27, op := Op.call { callee := Callee.value (Operand.func 19), args := #[Operand.tmp 25, Operand.tmp 26], argTypes := #[24, 24] }, type := 24, pos := "byteset.go:103", after := #[{ on := 9, ground := Ground.data }, { on := 10, ground := Ground.data }, { on := 5, ground := Ground.chain }], guard := none }) rfl (fun K hK => ?c11_4) AllReadyH.nil
              case c11_4 =>
                go_simp
                refine (CO.out _).mono ?_
                rintro e u4 ⟨rfl, hb4⟩
                try dsimp only
                refine hK.out _ _ (SR.keep hHeld hb4) (fun hHeld4 => ?_)
                replace hHeld := hHeld4
                clear hHeld4
                replace FP := Lib.hid (FP.out.below hb4 FP.out.size)
                replace FQ := Lib.hid (FQ.out.below hb4 FQ.out.size)
                clear hK K hb4
                try simp only [Act.put, List.setIfInBounds_toArray, List.set_cons_zero, List.set_cons_succ]
                have gP : Row4 (u4) (u1.heap.size + 1) 0#256 := FP.out
                have gQ : Row4 (u4) (u1.heap.size) 0#256 := FQ.out
                have gH : SR wr g' k x w.heap.size s w1.heap.size (u4) := hHeld
                clear FP FQ hHeld
                have lP := LP.out
                have lQ := LQ.out
                have gN := GN.out
                clear LP LQ GN
                generalize u4 = Wf at *
                have gQ2 := gQ
                have gH2 := gH
                obtain ⟨z0, a0, a1, a2, a3, f0, f1, f2, f3⟩ := id gP
                refine wpAnyH_ready (rs := [14]) (by kernel_rfl) (by simp) ?_
                refine AllReadyH.cons (o := { dst := none, op := Op.store 24 (Operand.tmp 7) (Operand.tmp 21), type := 0, pos := "byteset.go:103", after := #[{ on := 12, ground := Ground.data }, { on := 5, ground := Ground.data }, { on := 11, ground := Ground.chain }, { on := 0, ground := Ground.phase }, { on := 1, ground := Ground.phase }, { on := 2, ground := Ground.phase }, { on := 3, ground := Ground.phase }, { on := 4, ground := Ground.phase }, { on := 5, ground := Ground.phase }, { on := 6, ground := Ground.textOnly Departure.lateStores }, { on := 7, ground := Ground.textOnly Departure.lateStores }, { on := 8, ground := Ground.textOnly Departure.lateStores }, { on := 9, ground := Ground.textOnly Departure.lateStores }, { on := 10, ground := Ground.textOnly Departure.lateStores }, { on := 11, ground := Ground.textOnly Departure.lateStoresUnsure }, { on := 12, ground := Ground.phase }, { on := 13, ground := Ground.phase }], guard := none }) rfl (fun K hK => ?_) AllReadyH.nil
                go_simp
                clear z0 a0 a1 a2 a3 f0 f1 f2 f3
                have gH3 := SR.put gH lP (x &&& s) NG.out.1 NG.out.2.1 NG.out.2.2
                have gP3 := gP.put (x &&& s)
                have gQ3 := gQ.put_other (x &&& s) gN
                unfold put4 at gH3 gP3 gQ3
                refine hK.out _ _ gH3 (fun hHeld => ?_)
                clear hK K gP gQ gH gQ2 gH2
                try simp only [Act.put, List.setIfInBounds_toArray, List.set_cons_zero, List.set_cons_succ]
                obtain ⟨z0, a0, a1, a2, a3, f0, f1, f2, f3⟩ := id gQ3
                generalize (((Wf.setCell ⟨u1.heap.size + 1, 0, none⟩ (.int .u64 (wd 0 (x &&& s)))).setCell ⟨u1.heap.size + 1, 1, none⟩ (.int .u64 (wd 1 (x &&& s)))).setCell ⟨u1.heap.size + 1, 2, none⟩ (.int .u64 (wd 2 (x &&& s)))).setCell ⟨u1.heap.size + 1, 3, none⟩ (.int .u64 (wd 3 (x &&& s))) = Wg at *
                refine wpAnyH_ready (rs := [15]) (by kernel_rfl) (by simp) ?_
                refine AllReadyH.cons (o := { dst := none, op := Op.store 24 (Operand.tmp 8) (Operand.tmp 27), type := 0, pos := "byteset.go:103", after := #[{ on := 13, ground := Ground.data }, { on := 11, ground := Ground.data }, { on := 14, ground := Ground.chain }, { on := 0, ground := Ground.phase }, { on := 1, ground := Ground.phase }, { on := 2, ground := Ground.phase }, { on := 3, ground := Ground.phase }, { on := 4, ground := Ground.phase }, { on := 5, ground := Ground.phase }, { on := 6, ground := Ground.phase }, { on := 7, ground := Ground.phase }, { on := 8, ground := Ground.phase }, { on := 9, ground := Ground.phase }, { on := 10, ground := Ground.phase }, { on := 11, ground := Ground.phase }, { on := 12, ground := Ground.phase }, { on := 13, ground := Ground.phase }, { on := 14, ground := Ground.phase }], guard := none }) rfl (fun K hK => ?_) AllReadyH.nil
                go_simp
                clear z0 a0 a1 a2 a3 f0 f1 f2 f3
                have gH4 := SR.put gH3 lQ (x &&& ~~~s) NG.out.1 NG.out.2.1 NG.out.2.2
                have gQ4 := gQ3.put (x &&& ~~~s)
                have gP4 := gP3.put_other (x &&& ~~~s) (Ne.symm gN)
                unfold put4 at gH4 gQ4 gP4
                clear hHeld gH3 gQ3 gP3
                refine hK.out _ _ gH4 (fun hHeld => ?_)
                clear hK K
                try simp only [Act.put, List.setIfInBounds_toArray, List.set_cons_zero, List.set_cons_succ]
                refine wpAnyH_done (by kernel_rfl) ?_ _
                have HbX := Lib.hid gH4.1
                have HpX := Lib.hid gP4
                have HqX := Lib.hid gQ4
                clear gH4 gP4 gQ4 hHeld
                go_wp2_with fail
                go_meet
                exact ⟨rfl, _, _, rfl, rfl, lP, lQ, HbX, HpX, HqX⟩
        case c12_1 =>
          have LP := Lib.hid (show wr.heap.size ≤ wr.heap.size by have := hHeld.1.size; first | exact this | (simp; done) | simpa using this)
          go_simp
          have hHn : SR wr g' k x w.heap.size s w1.heap.size (((wr.alloc (.cells #[.int .u64 0, .int .u64 0, .int .u64 0, .int .u64 0] 24))).drew) := SR.keep hHeld ((Below.refl _ _).alloc (Nat.le_refl _) (.cells #[.int .u64 0, .int .u64 0, .int .u64 0, .int .u64 0] 24))
          have FP3 : Row4 (((wr.alloc (.cells #[.int .u64 0, .int .u64 0, .int .u64 0, .int .u64 0] 24))).drew) (wr.heap.size) 0#256 := Row4.zero ((wr).drew) _ (by simp)
          have FP := Lib.hid FP3
          clear FP3
          refine hK.out _ _ hHn (fun hHeld1 => ?_)
          replace hHeld := hHeld1
          clear hHeld1 hHn hK K
          try simp only [Act.put, List.setIfInBounds_toArray, List.set_cons_zero, List.set_cons_succ]
          refine wpAnyH_ready (rs := [5, 13]) (by kernel_rfl) (by simp) ?_
          refine AllReadyH.cons (o := { dst := some 21, op := Op.call { callee := Callee.value (Operand.func 19), args := #[Operand.tmp 19, Operand.tmp 20], argTypes := #[24, 24] }, type := 24, pos := "byteset.go:103", after := #[{ on := 3, ground := Ground.data }, { on := 4, ground := Ground.data }], guard := none }) rfl (fun K hK => ?c5_2) (AllReadyH.cons (o := { dst := some 8, op := Op.alloc 24, type := 0, pos := "byteset.go:103", after := #[], guard := none }) rfl (fun K hK => ?c13_2) AllReadyH.nil)
          case c5_2 =>
            go_simp
            refine (CA.out _).mono ?_
            rintro e u2 ⟨rfl, hb2⟩
            try dsimp only
            refine hK.out _ _ (SR.keep hHeld hb2) (fun hHeld2 => ?_)
            replace hHeld := hHeld2
            clear hHeld2
            replace FP := Lib.hid (FP.out.below hb2 FP.out.size)
            clear hK K hb2
            try simp only [Act.put, List.setIfInBounds_toArray, List.set_cons_zero, List.set_cons_succ]
            refine wpAnyH_ready (rs := [11, 13]) (by kernel_rfl) (by simp) ?_
            refine AllReadyH.cons (o := { dst := some 27, op := Op.call { callee := Callee.value (Operand.func 19), args := #[Operand.tmp 25, Operand.tmp 26], argTypes := #[24, 24] }, type := 24, pos := "byteset.go:103", after := #[{ on := 9, ground := Ground.data }, { on := 10, ground := Ground.data }, { on := 5, ground := Ground.chain }], guard := none }) rfl (fun K hK => ?c11_3) (AllReadyH.cons (o := { dst := some 8, op := Op.alloc 24, type := 0, pos := "byteset.go:103", after := #[], guard := none }) rfl (fun K hK => ?c13_3) AllReadyH.nil)
            case c11_3 =>
              go_simp
              refine (CO.out _).mono ?_
              rintro e u3 ⟨rfl, hb3⟩
              try dsimp only
              refine hK.out _ _ (SR.keep hHeld hb3) (fun hHeld3 => ?_)
              replace hHeld := hHeld3
              clear hHeld3
              replace FP := Lib.hid (FP.out.below hb3 FP.out.size)
              clear hK K hb3
              try simp only [Act.put, List.setIfInBounds_toArray, List.set_cons_zero, List.set_cons_succ]
              refine wpAnyH_ready (rs := [13]) (by kernel_rfl) (by simp) ?_
              refine AllReadyH.cons (o := { dst := some 8, op := Op.alloc 24, type := 0, pos := "byteset.go:103", after := #[], guard := none }) rfl (fun K hK => ?c13_4) AllReadyH.nil
              case c13_4 =>
                have LQ := Lib.hid (show wr.heap.size ≤ u3.heap.size by have := hHeld.1.size; first | exact this | (simp; done) | simpa using this)
                have GN := Lib.hid (show wr.heap.size ≠ u3.heap.size from Nat.ne_of_lt (by have := FP.out.size; first | exact this | (simp; done) | simpa using this))
                go_simp
                have hHn : SR wr g' k x w.heap.size s w1.heap.size ((u3.alloc (.cells #[.int .u64 0, .int .u64 0, .int .u64 0, .int .u64 0] 24))) := SR.keep hHeld ((Below.refl _ _).alloc (Nat.le_refl _) (.cells #[.int .u64 0, .int .u64 0, .int .u64 0, .int .u64 0] 24))
                have FP2 : Row4 ((u3.alloc (.cells #[.int .u64 0, .int .u64 0, .int .u64 0, .int .u64 0] 24))) (wr.heap.size) 0#256 := FP.out.below ((Below.refl _ _).alloc (Nat.le_refl _) (.cells #[.int .u64 0, .int .u64 0, .int .u64 0, .int .u64 0] 24)) FP.out.size
                replace FP := Lib.hid FP2
                clear FP2
                have FQ3 : Row4 ((u3.alloc (.cells #[.int .u64 0, .int .u64 0, .int .u64 0, .int .u64 0] 24))) (u3.heap.size) 0#256 := Row4.zero (u3) _ (by simp)
                have FQ := Lib.hid FQ3
                clear FQ3
                refine hK.out _ _ hHn (fun hHeld4 => ?_)
                replace hHeld := hHeld4
                clear hHeld4 hHn hK K
                try simp only [Act.put, List.setIfInBounds_toArray, List.set_cons_zero, List.set_cons_succ]
                have gP : Row4 ((u3.alloc (.cells #[.int .u64 0, .int .u64 0, .int .u64 0, .int .u64 0] 24))) (wr.heap.size) 0#256 := FP.out
                have gQ : Row4 ((u3.alloc (.cells #[.int .u64 0, .int .u64 0, .int .u64 0, .int .u64 0] 24))) (u3.heap.size) 0#256 := FQ.out
                have gH : SR wr g' k x w.heap.size s w1.heap.size ((u3.alloc (.cells #[.int .u64 0, .int .u64 0, .int .u64 0, .int .u64 0] 24))) := hHeld
                clear FP FQ hHeld
                have lP := LP.out
                have lQ := LQ.out
                have gN := GN.out
                clear LP LQ GN
                generalize (u3.alloc (.cells #[.int .u64 0, .int .u64 0, .int .u64 0, .int .u64 0] 24)) = Wf at *
                have gQ2 := gQ
                have gH2 := gH
                obtain ⟨z0, a0, a1, a2, a3, f0, f1, f2, f3⟩ := id gP
                refine wpAnyH_ready (rs := [14]) (by kernel_rfl) (by simp) ?_
                refine AllReadyH.cons (o := { dst := none, op := Op.store 24 (Operand.tmp 7) (Operand.tmp 21), type := 0, pos := "byteset.go:103", after := #[{ on := 12, ground := Ground.data }, { on := 5, ground := Ground.data }, { on := 11, ground := Ground.chain }, { on := 0, ground := Ground.phase }, { on := 1, ground := Ground.phase }, { on := 2, ground := Ground.phase }, { on := 3, ground := Ground.phase }, { on := 4, ground := Ground.phase }, { on := 5, ground := Ground.phase }, { on := 6, ground := Ground.textOnly Departure.lateStores }, { on := 7, ground := Ground.textOnly Departure.lateStores }, { on := 8, ground := Ground.textOnly Departure.lateStores }, { on := 9, ground := Ground.textOnly Departure.lateStores }, { on := 10, ground := Ground.textOnly Departure.lateStores }, { on := 11, ground := Ground.textOnly Departure.lateStoresUnsure }, { on := 12, ground := Ground.phase }, { on := 13, ground := Ground.phase }], guard := none }) rfl (fun K hK => ?_) AllReadyH.nil
                go_simp
                clear z0 a0 a1 a2 a3 f0 f1 f2 f3
                have gH3 := SR.put gH lP (x &&& s) NG.out.1 NG.out.2.1 NG.out.2.2
                have gP3 := gP.put (x &&& s)
                have gQ3 := gQ.put_other (x &&& s) gN
                unfold put4 at gH3 gP3 gQ3
                refine hK.out _ _ gH3 (fun hHeld => ?_)
                clear hK K gP gQ gH gQ2 gH2
                try simp only [Act.put, List.setIfInBounds_toArray, List.set_cons_zero, List.set_cons_succ]
                obtain ⟨z0, a0, a1, a2, a3, f0, f1, f2, f3⟩ := id gQ3
                generalize (((Wf.setCell ⟨wr.heap.size, 0, none⟩ (.int .u64 (wd 0 (x &&& s)))).setCell ⟨wr.heap.size, 1, none⟩ (.int .u64 (wd 1 (x &&& s)))).setCell ⟨wr.heap.size, 2, none⟩ (.int .u64 (wd 2 (x &&& s)))).setCell ⟨wr.heap.size, 3, none⟩ (.int .u64 (wd 3 (x &&& s))) = Wg at *
                refine wpAnyH_ready (rs := [15]) (by kernel_rfl) (by simp) ?_
                refine AllReadyH.cons (o := { dst := none, op := Op.store 24 (Operand.tmp 8) (Operand.tmp 27), type := 0, pos := "byteset.go:103", after := #[{ on := 13, ground := Ground.data }, { on := 11, ground := Ground.data }, { on := 14, ground := Ground.chain }, { on := 0, ground := Ground.phase }, { on := 1, ground := Ground.phase }, { on := 2, ground := Ground.phase }, { on := 3, ground := Ground.phase }, { on := 4, ground := Ground.phase }, { on := 5, ground := Ground.phase }, { on := 6, ground := Ground.phase }, { on := 7, ground := Ground.phase }, { on := 8, ground := Ground.phase }, { on := 9, ground := Ground.phase }, { on := 10, ground := Ground.phase }, { on := 11, ground := Ground.phase }, { on := 12, ground := Ground.phase }, { on := 13, ground := Ground.phase }, { on := 14, ground := Ground.phase }], guard := none }) rfl (fun K hK => ?_) AllReadyH.nil
                go_simp
                clear z0 a0 a1 a2 a3 f0 f1 f2 f3
                have gH4 := SR.put gH3 lQ (x &&& ~~~s) NG.out.1 NG.out.2.1 NG.out.2.2
                have gQ4 := gQ3.put (x &&& ~~~s)
                have gP4 := gP3.put_other (x &&& ~~~s) (Ne.symm gN)
                unfold put4 at gH4 gQ4 gP4
                clear hHeld gH3 gQ3 gP3
                refine hK.out _ _ gH4 (fun hHeld => ?_)
                clear hK K
                try simp only [Act.put, List.setIfInBounds_toArray, List.set_cons_zero, List.set_cons_succ]
                refine wpAnyH_done (by kernel_rfl) ?_ _
                have HbX := Lib.hid gH4.1
                have HpX := Lib.hid gP4
                have HqX := Lib.hid gQ4
                clear gH4 gP4 gQ4 hHeld
                go_wp2_with fail
                go_meet
                exact ⟨rfl, _, _, rfl, rfl, lP, lQ, HbX, HpX, HqX⟩
            case c13_3 =>
              have LQ := Lib.hid (show wr.heap.size ≤ u2.heap.size by have := hHeld.1.size; first | exact this | (simp; done) | simpa using this)
              have GN := Lib.hid (show wr.heap.size ≠ u2.heap.size from Nat.ne_of_lt (by have := FP.out.size; first | exact this | (simp; done) | simpa using this))
              go_simp
              have hHn : SR wr g' k x w.heap.size s w1.heap.size ((u2.alloc (.cells #[.int .u64 0, .int .u64 0, .int .u64 0, .int .u64 0] 24))) := SR.keep hHeld ((Below.refl _ _).alloc (Nat.le_refl _) (.cells #[.int .u64 0, .int .u64 0, .int .u64 0, .int .u64 0] 24))
              have FP2 : Row4 ((u2.alloc (.cells #[.int .u64 0, .int .u64 0, .int .u64 0, .int .u64 0] 24))) (wr.heap.size) 0#256 := FP.out.below ((Below.refl _ _).alloc (Nat.le_refl _) (.cells #[.int .u64 0, .int .u64 0, .int .u64 0, .int .u64 0] 24)) FP.out.size
              replace FP := Lib.hid FP2
              clear FP2
              have FQ3 : Row4 ((u2.alloc (.cells #[.int .u64 0, .int .u64 0, .int .u64 0, .int .u64 0] 24))) (u2.heap.size) 0#256 := Row4.zero (u2) _ (by simp)
              have FQ := Lib.hid FQ3
              clear FQ3
              refine hK.out _ _ hHn (fun hHeld3 => ?_)
              replace hHeld := hHeld3
              clear hHeld3 hHn hK K
              try simp only [Act.put, List.setIfInBounds_toArray, List.set_cons_zero, List.set_cons_succ]
              refine wpAnyH_ready (rs := [11]) (by kernel_rfl) (by simp) ?_
              refine AllReadyH.cons (o := { dst := some 27, op := Op.call { callee := Callee.value (Operand.func 19), args := #[Operand.tmp 25, Operand.tmp 26], argTypes := #[24, 24] }, type := 24, pos := "byteset.go:103", after := #[{ on := 9, ground := Ground.data }, { on := 10, ground := Ground.data }, { on := 5, ground := Ground.chain }], guard := none }) rfl (fun K hK => ?c11_4) AllReadyH.nil
              case c11_4 =>
                go_simp
                refine (CO.out _).mono ?_
                rintro e u4 ⟨rfl, hb4⟩
                try dsimp only
                refine hK.out _ _ (SR.keep hHeld hb4) (fun hHeld4 => ?_)
                replace hHeld := hHeld4
                clear hHeld4
                replace FP := Lib.hid (FP.out.below hb4 FP.out.size)
                replace FQ := Lib.hid (FQ.out.below hb4 FQ.out.size)
                clear hK K hb4
                try simp only [Act.put, List.setIfInBounds_toArray, List.set_cons_zero, List.set_cons_succ]
                have gP : Row4 (u4) (wr.heap.size) 0#256 := FP.out
                have gQ : Row4 (u4) (u2.heap.size) 0#256 := FQ.out
                have gH : SR wr g' k x w.heap.size s w1.heap.size (u4) := hHeld
                clear FP FQ hHeld
                have lP := LP.out
                have lQ := LQ.out
                have gN := GN.out
                clear LP LQ GN
                generalize u4 = Wf at *
                have gQ2 := gQ
                have gH2 := gH
                obtain ⟨z0, a0, a1, a2, a3, f0, f1, f2, f3⟩ := id gP
                refine wpAnyH_ready (rs := [14]) (by kernel_rfl) (by simp) ?_
                refine AllReadyH.cons (o := { dst := none, op := Op.store 24 (Operand.tmp 7) (Operand.tmp 21), type := 0, pos := "byteset.go:103", after := #[{ on := 12, ground := Ground.data }, { on := 5, ground := Ground.data }, { on := 11, ground := Ground.chain }, { on := 0, ground := Ground.phase }, { on := 1, ground := Ground.phase }, { on := 2, ground := Ground.phase }, { on := 3, ground := Ground.phase }, { on := 4, ground := Ground.phase }, { on := 5, ground := Ground.phase }, { on := 6, ground := Ground.textOnly Departure.lateStores }, { on := 7, ground := Ground.textOnly Departure.lateStores }, { on := 8, ground := Ground.textOnly Departure.lateStores }, { on := 9, ground := Ground.textOnly Departure.lateStores }, { on := 10, ground := Ground.textOnly Departure.lateStores }, { on := 11, ground := Ground.textOnly Departure.lateStoresUnsure }, { on := 12, ground := Ground.phase }, { on := 13, ground := Ground.phase }], guard := none }) rfl (fun K hK => ?_) AllReadyH.nil
                go_simp
                clear z0 a0 a1 a2 a3 f0 f1 f2 f3
                have gH3 := SR.put gH lP (x &&& s) NG.out.1 NG.out.2.1 NG.out.2.2
                have gP3 := gP.put (x &&& s)
                have gQ3 := gQ.put_other (x &&& s) gN
                unfold put4 at gH3 gP3 gQ3
                refine hK.out _ _ gH3 (fun hHeld => ?_)
                clear hK K gP gQ gH gQ2 gH2
                try simp only [Act.put, List.setIfInBounds_toArray, List.set_cons_zero, List.set_cons_succ]
                obtain ⟨z0, a0, a1, a2, a3, f0, f1, f2, f3⟩ := id gQ3
                generalize (((Wf.setCell ⟨wr.heap.size, 0, none⟩ (.int .u64 (wd 0 (x &&& s)))).setCell ⟨wr.heap.size, 1, none⟩ (.int .u64 (wd 1 (x &&& s)))).setCell ⟨wr.heap.size, 2, none⟩ (.int .u64 (wd 2 (x &&& s)))).setCell ⟨wr.heap.size, 3, none⟩ (.int .u64 (wd 3 (x &&& s))) = Wg at *
                refine wpAnyH_ready (rs := [15]) (by kernel_rfl) (by simp) ?_
                refine AllReadyH.cons (o := { dst := none, op := Op.store 24 (Operand.tmp 8) (Operand.tmp 27), type := 0, pos := "byteset.go:103", after := #[{ on := 13, ground := Ground.data }, { on := 11, ground := Ground.data }, { on := 14, ground := Ground.chain }, { on := 0, ground := Ground.phase }, { on := 1, ground := Ground.phase }, { on := 2, ground := Ground.phase }, { on := 3, ground := Ground.phase }, { on := 4, ground := Ground.phase }, { on := 5, ground := Ground.phase }, { on := 6, ground := Ground.phase }, { on := 7, ground := Ground.phase }, { on := 8, ground := Ground.phase }, { on := 9, ground := Ground.phase }, { on := 10, ground := Ground.phase }, { on := 11, ground := Ground.phase }, { on := 12, ground := Ground.phase }, { on := 13, ground := Ground.phase }, { on := 14, ground := Ground.phase }], guard := none }) rfl (fun K hK => ?_) AllReadyH.nil
                go_simp
                clear z0 a0 a1 a2 a3 f0 f1 f2 f3
                have gH4 := SR.put gH3 lQ (x &&& ~~~s) NG.out.1 NG.out.2.1 NG.out.2.2
                have gQ4 := gQ3.put (x &&& ~~~s)
                have gP4 := gP3.put_other (x &&& ~~~s) (Ne.symm gN)
                unfold put4 at gH4 gQ4 gP4
                clear hHeld gH3 gQ3 gP3
                refine hK.out _ _ gH4 (fun hHeld => ?_)
                clear hK K
                try simp only [Act.put, List.setIfInBounds_toArray, List.set_cons_zero, List.set_cons_succ]
                refine wpAnyH_done (by kernel_rfl) ?_ _
                have HbX := Lib.hid gH4.1
                have HpX := Lib.hid gP4
                have HqX := Lib.hid gQ4
                clear gH4 gP4 gQ4 hHeld
                go_wp2_with fail
                go_meet
                exact ⟨rfl, _, _, rfl, rfl, lP, lQ, HbX, HpX, HqX⟩
          case c13_2 =>
            have LQ := Lib.hid (show wr.heap.size ≤ wr.heap.size + 1 by have := hHeld.1.size; first | exact this | (simp; done) | simpa using this)
            have GN := Lib.hid (show wr.heap.size ≠ wr.heap.size + 1 from Nat.ne_of_lt (by have := FP.out.size; first | exact this | (simp; done) | simpa using this))
            go_simp
            have hHn : SR wr g' k x w.heap.size s w1.heap.size ((((wr.alloc (.cells #[.int .u64 0, .int .u64 0, .int .u64 0, .int .u64 0] 24)).alloc (.cells #[.int .u64 0, .int .u64 0, .int .u64 0, .int .u64 0] 24))).drew) := SR.keep hHeld ((Below.refl _ _).alloc (Nat.le_refl _) (.cells #[.int .u64 0, .int .u64 0, .int .u64 0, .int .u64 0] 24))
            have FP2 : Row4 ((((wr.alloc (.cells #[.int .u64 0, .int .u64 0, .int .u64 0, .int .u64 0] 24)).alloc (.cells #[.int .u64 0, .int .u64 0, .int .u64 0, .int .u64 0] 24))).drew) (wr.heap.size) 0#256 := FP.out.below ((Below.refl _ _).alloc (Nat.le_refl _) (.cells #[.int .u64 0, .int .u64 0, .int .u64 0, .int .u64 0] 24)) FP.out.size
            replace FP := Lib.hid FP2
            clear FP2
            have FQ3 : Row4 ((((wr.alloc (.cells #[.int .u64 0, .int .u64 0, .int .u64 0, .int .u64 0] 24)).alloc (.cells #[.int .u64 0, .int .u64 0, .int .u64 0, .int .u64 0] 24))).drew) (wr.heap.size + 1) 0#256 := Row4.zero (((wr.alloc (.cells #[.int .u64 0, .int .u64 0, .int .u64 0, .int .u64 0] 24))).drew) _ (by simp)
            have FQ := Lib.hid FQ3
            clear FQ3
            refine hK.out _ _ hHn (fun hHeld2 => ?_)
            replace hHeld := hHeld2
            clear hHeld2 hHn hK K
            try simp only [Act.put, List.setIfInBounds_toArray, List.set_cons_zero, List.set_cons_succ]
            refine wpAnyH_ready (rs := [5]) (by kernel_rfl) (by simp) ?_
            refine AllReadyH.cons (o := { dst := some 21, op := Op.call { callee := Callee.value (Operand.func 19), args := #[Operand.tmp 19, Operand.tmp 20], argTypes := #[24, 24] }, type := 24, pos := "byteset.go:103", after := #[{ on := 3, ground := Ground.data }, { on := 4, ground := Ground.data }], guard := none }) rfl (fun K hK => ?c5_3) AllReadyH.nil
            case c5_3 =>
              go_simp
              refine (CA.out _).mono ?_
              rintro e u3 ⟨rfl, hb3⟩
              try dsimp only
              refine hK.out _ _ (SR.keep hHeld hb3) (fun hHeld3 => ?_)
              replace hHeld := hHeld3
              clear hHeld3
              replace FP := Lib.hid (FP.out.below hb3 FP.out.size)
              replace FQ := Lib.hid (FQ.out.below hb3 FQ.out.size)
              clear hK K hb3
              try simp only [Act.put, List.setIfInBounds_toArray, List.set_cons_zero, List.set_cons_succ]
              refine wpAnyH_ready (rs := [11]) (by kernel_rfl) (by simp) ?_
              refine AllReadyH.cons (o := { dst := some 27, op := Op.call { callee := Callee.value (Operand.func 19), args := #[Operand.tmp 25, Operand.tmp 26], argTypes := #[24, 24] }, type := 24, pos := "byteset.go:103", after := #[{ on := 9, ground := Ground.data }, { on := 10, ground := Ground.data }, { on := 5, ground := Ground.chain }], guard := none }) rfl (fun K hK => ?c11_4) AllReadyH.nil
              case c11_4 =>
                go_simp
                refine (CO.out _).mono ?_
                rintro e u4 ⟨rfl, hb4⟩
                try dsimp only
                refine hK.out _ _ (SR.keep hHeld hb4) (fun hHeld4 => ?_)
                replace hHeld := hHeld4
                clear hHeld4
                replace FP := Lib.hid (FP.out.below hb4 FP.out.size)
                replace FQ := Lib.hid (FQ.out.below hb4 FQ.out.size)
                clear hK K hb4
                try simp only [Act.put, List.setIfInBounds_toArray, List.set_cons_zero, List.set_cons_succ]
                have gP : Row4 (u4) (wr.heap.size) 0#256 := FP.out
                have gQ : Row4 (u4) (wr.heap.size + 1) 0#256 := FQ.out
                have gH : SR wr g' k x w.heap.size s w1.heap.size (u4) := hHeld
                clear FP FQ hHeld
                have lP := LP.out
                have lQ := LQ.out
                have gN := GN.out
                clear LP LQ GN
                generalize u4 = Wf at *
                have gQ2 := gQ
                have gH2 := gH
                obtain ⟨z0, a0, a1, a2, a3, f0, f1, f2, f3⟩ := id gP
                refine wpAnyH_ready (rs := [14]) (by kernel_rfl) (by simp) ?_
                refine AllReadyH.cons (o := { dst := none, op := Op.store 24 (Operand.tmp 7) (Operand.tmp 21), type := 0, pos := "byteset.go:103", after := #[{ on := 12, ground := Ground.data }, { on := 5, ground := Ground.data }, { on := 11, ground := Ground.chain }, { on := 0, ground := Ground.phase }, { on := 1, ground := Ground.phase }, { on := 2, ground := Ground.phase }, { on := 3, ground := Ground.phase }, { on := 4, ground := Ground.phase }, { on := 5, ground := Ground.phase }, { on := 6, ground := Ground.textOnly Departure.lateStores }, { on := 7, ground := Ground.textOnly Departure.lateStores }, { on := 8, ground := Ground.textOnly Departure.lateStores }, { on := 9, ground := Ground.textOnly Departure.lateStores }, { on := 10, ground := Ground.textOnly Departure.lateStores }, { on := 11, ground := Ground.textOnly Departure.lateStoresUnsure }, { on := 12, ground := Ground.phase }, { on := 13, ground := Ground.phase }], guard := none }) rfl (fun K hK => ?_) AllReadyH.nil
                go_simp
                clear z0 a0 a1 a2 a3 f0 f1 f2 f3
                have gH3 := SR.put gH lP (x &&& s) NG.out.1 NG.out.2.1 NG.out.2.2
                have gP3 := gP.put (x &&& s)
                have gQ3 := gQ.put_other (x &&& s) gN
                unfold put4 at gH3 gP3 gQ3
                refine hK.out _ _ gH3 (fun hHeld => ?_)
                clear hK K gP gQ gH gQ2 gH2
                try simp only [Act.put, List.setIfInBounds_toArray, List.set_cons_zero, List.set_cons_succ]
                obtain ⟨z0, a0, a1, a2, a3, f0, f1, f2, f3⟩ := id gQ3
                generalize (((Wf.setCell ⟨wr.heap.size, 0, none⟩ (.int .u64 (wd 0 (x &&& s)))).setCell ⟨wr.heap.size, 1, none⟩ (.int .u64 (wd 1 (x &&& s)))).setCell ⟨wr.heap.size, 2, none⟩ (.int .u64 (wd 2 (x &&& s)))).setCell ⟨wr.heap.size, 3, none⟩ (.int .u64 (wd 3 (x &&& s))) = Wg at *
                refine wpAnyH_ready (rs := [15]) (by kernel_rfl) (by simp) ?_
                refine AllReadyH.cons (o := { dst := none, op := Op.store 24 (Operand.tmp 8) (Operand.tmp 27), type := 0, pos := "byteset.go:103", after := #[{ on := 13, ground := Ground.data }, { on := 11, ground := Ground.data }, { on := 14, ground := Ground.chain }, { on := 0, ground := Ground.phase }, { on := 1, ground := Ground.phase }, { on := 2, ground := Ground.phase }, { on := 3, ground := Ground.phase }, { on := 4, ground := Ground.phase }, { on := 5, ground := Ground.phase }, { on := 6, ground := Ground.phase }, { on := 7, ground := Ground.phase }, { on := 8, ground := Ground.phase }, { on := 9, ground := Ground.phase }, { on := 10, ground := Ground.phase }, { on := 11, ground := Ground.phase }, { on := 12, ground := Ground.phase }, { on := 13, ground := Ground.phase }, { on := 14, ground := Ground.phase }], guard := none }) rfl (fun K hK => ?_) AllReadyH.nil
                go_simp
                clear z0 a0 a1 a2 a3 f0 f1 f2 f3
                have gH4 := SR.put gH3 lQ (x &&& ~~~s) NG.out.1 NG.out.2.1 NG.out.2.2
                have gQ4 := gQ3.put (x &&& ~~~s)
                have gP4 := gP3.put_other (x &&& ~~~s) (Ne.symm gN)
                unfold put4 at gH4 gQ4 gP4
                clear hHeld gH3 gQ3 gP3
                refine hK.out _ _ gH4 (fun hHeld => ?_)
                clear hK K
                try simp only [Act.put, List.setIfInBounds_toArray, List.set_cons_zero, List.set_cons_succ]
                refine wpAnyH_done (by kernel_rfl) ?_ _
                have HbX := Lib.hid gH4.1
                have HpX := Lib.hid gP4
                have HqX := Lib.hid gQ4
                clear gH4 gP4 gQ4 hHeld
                go_wp2_with fail
                go_meet
                exact ⟨rfl, _, _, rfl, rfl, lP, lQ, HbX, HpX, HqX⟩
        case c13_1 =>
          have LQ := Lib.hid (show wr.heap.size ≤ wr.heap.size by have := hHeld.1.size; first | exact this | (simp; done) | simpa using this)
          go_simp
          have hHn : SR wr g' k x w.heap.size s w1.heap.size (((wr.alloc (.cells #[.int .u64 0, .int .u64 0, .int .u64 0, .int .u64 0] 24))).drew) := SR.keep hHeld ((Below.refl _ _).alloc (Nat.le_refl _) (.cells #[.int .u64 0, .int .u64 0, .int .u64 0, .int .u64 0] 24))
          have FQ3 : Row4 (((wr.alloc (.cells #[.int .u64 0, .int .u64 0, .int .u64 0, .int .u64 0] 24))).drew) (wr.heap.size) 0#256 := Row4.zero ((wr).drew) _ (by simp)
          have FQ := Lib.hid FQ3
          clear FQ3
          refine hK.out _ _ hHn (fun hHeld1 => ?_)
          replace hHeld := hHeld1
          clear hHeld1 hHn hK K
          try simp only [Act.put, List.setIfInBounds_toArray, List.set_cons_zero, List.set_cons_succ]
          refine wpAnyH_ready (rs := [5, 12]) (by kernel_rfl) (by simp) ?_
          refine AllReadyH.cons (o := { dst := some 21, op := Op.call { callee := Callee.value (Operand.func 19), args := #[Operand.tmp 19, Operand.tmp 20], argTypes := #[24, 24] }, type := 24, pos := "byteset.go:103", after := #[{ on := 3, ground := Ground.data }, { on := 4, ground := Ground.data }], guard := none }) rfl (fun K hK => ?c5_2) (AllReadyH.cons (o := { dst := some 7, op := Op.alloc 24, type := 0, pos := "byteset.go:103", after := #[], guard := none }) rfl (fun K hK => ?c12_2) AllReadyH.nil)
          case c5_2 =>
            go_simp
            refine (CA.out _).mono ?_
            rintro e u2 ⟨rfl, hb2⟩
            try dsimp only
            refine hK.out _ _ (SR.keep hHeld hb2) (fun hHeld2 => ?_)
            replace hHeld := hHeld2
            clear hHeld2
            replace FQ := Lib.hid (FQ.out.below hb2 FQ.out.size)
            clear hK K hb2
            try simp only [Act.put, List.setIfInBounds_toArray, List.set_cons_zero, List.set_cons_succ]
            refine wpAnyH_ready (rs := [11, 12]) (by kernel_rfl) (by simp) ?_
            refine AllReadyH.cons (o := { dst := some 27, op := Op.call { callee := Callee.value (Operand.func 19), args := #[Operand.tmp 25, Operand.tmp 26], argTypes := #[24, 24] }, type := 24, pos := "byteset.go:103", after := #[{ on := 9, ground := Ground.data }, { on := 10, ground := Ground.data }, { on := 5, ground := Ground.chain }], guard := none }) rfl (fun K hK => ?c11_3) (AllReadyH.cons (o := { dst := some 7, op := Op.alloc 24, type := 0, pos := "byteset.go:103", after := #[], guard := none }) rfl (fun K hK => ?c12_3) AllReadyH.nil)
            case c11_3 =>
              go_simp
              refine (CO.out _).mono ?_
              rintro e u3 ⟨rfl, hb3⟩
              try dsimp only
              refine hK.out _ _ (SR.keep hHeld hb3) (fun hHeld3 => ?_)
              replace hHeld := hHeld3
              clear hHeld3
              replace FQ := Lib.hid (FQ.out.below hb3 FQ.out.size)
              clear hK K hb3
              try simp only [Act.put, List.setIfInBounds_toArray, List.set_cons_zero, List.set_cons_succ]
              refine wpAnyH_ready (rs := [12]) (by kernel_rfl) (by simp) ?_
              refine AllReadyH.cons (o := { dst := some 7, op := Op.alloc 24, type := 0, pos := "byteset.go:103", after := #[], guard := none }) rfl (fun K hK => ?c12_4) AllReadyH.nil
              case c12_4 =>
                have LP := Lib.hid (show wr.heap.size ≤ u3.heap.size by have := hHeld.1.size; first | exact this | (simp; done) | simpa using this)
                have GN := Lib.hid (show u3.heap.size ≠ wr.heap.size from Nat.ne_of_gt (by have := FQ.out.size; first | exact this | (simp; done) | simpa using this))
                go_simp
                have hHn : SR wr g' k x w.heap.size s w1.heap.size ((u3.alloc (.cells #[.int .u64 0, .int .u64 0, .int .u64 0, .int .u64 0] 24))) := SR.keep hHeld ((Below.refl _ _).alloc (Nat.le_refl _) (.cells #[.int .u64 0, .int .u64 0, .int .u64 0, .int .u64 0] 24))
                have FQ2 : Row4 ((u3.alloc (.cells #[.int .u64 0, .int .u64 0, .int .u64 0, .int .u64 0] 24))) (wr.heap.size) 0#256 := FQ.out.below ((Below.refl _ _).alloc (Nat.le_refl _) (.cells #[.int .u64 0, .int .u64 0, .int .u64 0, .int .u64 0] 24)) FQ.out.size
                replace FQ := Lib.hid FQ2
                clear FQ2
                have FP3 : Row4 ((u3.alloc (.cells #[.int .u64 0, .int .u64 0, .int .u64 0, .int .u64 0] 24))) (u3.heap.size) 0#256 := Row4.zero (u3) _ (by simp)
                have FP := Lib.hid FP3
                clear FP3
                refine hK.out _ _ hHn (fun hHeld4 => ?_)
                replace hHeld := hHeld4
                clear hHeld4 hHn hK K
                try simp only [Act.put, List.setIfInBounds_toArray, List.set_cons_zero, List.set_cons_succ]
                have gP : Row4 ((u3.alloc (.cells #[.int .u64 0, .int .u64 0, .int .u64 0, .int .u64 0] 24))) (u3.heap.size) 0#256 := FP.out
                have gQ : Row4 ((u3.alloc (.cells #[.int .u64 0, .int .u64 0, .int .u64 0, .int .u64 0] 24))) (wr.heap.size) 0#256 := FQ.out
                have gH : SR wr g' k x w.heap.size s w1.heap.size ((u3.alloc (.cells #[.int .u64 0, .int .u64 0, .int .u64 0, .int .u64 0] 24))) := hHeld
                clear FP FQ hHeld
                have lP := LP.out
                have lQ := LQ.out
                have gN := GN.out
                clear LP LQ GN
                generalize (u3.alloc (.cells #[.int .u64 0, .int .u64 0, .int .u64 0, .int .u64 0] 24)) = Wf at *
                have gQ2 := gQ
                have gH2 := gH
                obtain ⟨z0, a0, a1, a2, a3, f0, f1, f2, f3⟩ := id gP
                refine wpAnyH_ready (rs := [14]) (by kernel_rfl) (by simp) ?_
                refine AllReadyH.cons (o := { dst := none, op := Op.store 24 (Operand.tmp 7) (Operand.tmp 21), type := 0, pos := "byteset.go:103", after := #[{ on := 12, ground := Ground.data }, { on := 5, ground := Ground.data }, { on := 11, ground := Ground.chain }, { on := 0, ground := Ground.phase }, { on := 1, ground := Ground.phase }, { on := 2, ground := Ground.phase }, { on := 3, ground := Ground.phase }, { on := 4, ground := Ground.phase }, { on := 5, ground := Ground.phase }, { on := 6, ground := Ground.textOnly Departure.lateStores }, { on := 7, ground := Ground.textOnly Departure.lateStores }, { on := 8, ground := Ground.textOnly Departure.lateStores }, { on := 9, ground := Ground.textOnly Departure.lateStores }, { on := 10, ground := Ground.textOnly Departure.lateStores }, { on := 11, ground := Ground.textOnly Departure.lateStoresUnsure }, { on := 12, ground := Ground.phase }, { on := 13, ground := Ground.phase }], guard := none }) rfl (fun K hK => ?_) AllReadyH.nil
                go_simp
                clear z0 a0 a1 a2 a3 f0 f1 f2 f3
                have gH3 := SR.put gH lP (x &&& s) NG.out.1 NG.out.2.1 NG.out.2.2
                have gP3 := gP.put (x &&& s)
                have gQ3 := gQ.put_other (x &&& s) gN
                unfold put4 at gH3 gP3 gQ3
                refine hK.out _ _ gH3 (fun hHeld => ?_)
                clear hK K gP gQ gH gQ2 gH2
                try simp only [Act.put, List.setIfInBounds_toArray, List.set_cons_zero, List.set_cons_succ]
                obtain ⟨z0, a0, a1, a2, a3, f0, f1, f2, f3⟩ := id gQ3
                generalize (((Wf.setCell ⟨u3.heap.size, 0, none⟩ (.int .u64 (wd 0 (x &&& s)))).setCell ⟨u3.heap.size, 1, none⟩ (.int .u64 (wd 1 (x &&& s)))).setCell ⟨u3.heap.size, 2, none⟩ (.int .u64 (wd 2 (x &&& s)))).setCell ⟨u3.heap.size, 3, none⟩ (.int .u64 (wd 3 (x &&& s))) = Wg at *
                refine wpAnyH_ready (rs := [15]) (by kernel_rfl) (by simp) ?_
                refine AllReadyH.cons (o := { dst := none, op := Op.store 24 (Operand.tmp 8) (Operand.tmp 27), type := 0, pos := "byteset.go:103", after := #[{ on := 13, ground := Ground.data }, { on := 11, ground := Ground.data }, { on := 14, ground := Ground.chain }, { on := 0, ground := Ground.phase }, { on := 1, ground := Ground.phase }, { on := 2, ground := Ground.phase }, { on := 3, ground := Ground.phase }, { on := 4, ground := Ground.phase }, { on := 5, ground := Ground.phase }, { on := 6, ground := Ground.phase }, { on := 7, ground := Ground.phase }, { on := 8, ground := Ground.phase }, { on := 9, ground := Ground.phase }, { on := 10, ground := Ground.phase }, { on := 11, ground := Ground.phase }, { on := 12, ground := Ground.phase }, { on := 13, ground := Ground.phase }, { on := 14, ground := Ground.phase }], guard := none }) rfl (fun K hK => ?_) AllReadyH.nil
                go_simp
                clear z0 a0 a1 a2 a3 f0 f1 f2 f3
                have gH4 := SR.put gH3 lQ (x &&& ~~~s) NG.out.1 NG.out.2.1 NG.out.2.2
                have gQ4 := gQ3.put (x &&& ~~~s)
                have gP4 := gP3.put_other (x &&& ~~~s) (Ne.symm gN)
                unfold put4 at gH4 gQ4 gP4
                clear hHeld gH3 gQ3 gP3
                refine hK.out _ _ gH4 (fun hHeld => ?_)
                clear hK K
                try simp only [Act.put, List.setIfInBounds_toArray, List.set_cons_zero, List.set_cons_succ]
                refine wpAnyH_done (by kernel_rfl) ?_ _
                have HbX := Lib.hid gH4.1
                have HpX := Lib.hid gP4
                have HqX := Lib.hid gQ4
                clear gH4 gP4 gQ4 hHeld
                go_wp2_with fail
                go_meet
                exact ⟨rfl, _, _, rfl, rfl, lP, lQ, HbX, HpX, HqX⟩
            case c12_3 =>
              have LP := Lib.hid (show wr.heap.size ≤ u2.heap.size by have := hHeld.1.size; first | exact this | (simp; done) | simpa using this)
              have GN := Lib.hid (show u2.heap.size ≠ wr.heap.size from Nat.ne_of_gt (by have := FQ.out.size; first | exact this | (simp; done) | simpa using this))
              go_simp
              have hHn : SR wr g' k x w.heap.size s w1.heap.size ((u2.alloc (.cells #[.int .u64 0, .int .u64 0, .int .u64 0, .int .u64 0] 24))) := SR.keep hHeld ((Below.refl _ _).alloc (Nat.le_refl _) (.cells #[.int .u64 0, .int .u64 0, .int .u64 0, .int .u64 0] 24))
              have FQ2 : Row4 ((u2.alloc (.cells #[.int .u64 0, .int .u64 0, .int .u64 0, .int .u64 0] 24))) (wr.heap.size) 0#256 := FQ.out.below ((Below.refl _ _).alloc (Nat.le_refl _) (.cells #[.int .u64 0, .int .u64 0, .int .u64 0, .int .u64 0] 24)) FQ.out.size
              replace FQ := Lib.hid FQ2
              clear FQ2
              have FP3 : Row4 ((u2.alloc (.cells #[.int .u64 0, .int .u64 0, .int .u64 0, .int .u64 0] 24))) (u2.heap.size) 0#256 := Row4.zero (u2) _ (by simp)
              have FP := Lib.hid FP3
              clear FP3
              refine hK.out _ _ hHn (fun hHeld3 => ?_)
              replace hHeld := hHeld3
              clear hHeld3 hHn hK K
              try simp only [Act.put, List.setIfInBounds_toArray, List.set_cons_zero, List.set_cons_succ]
              refine wpAnyH_ready (rs := [11]) (by kernel_rfl) (by simp) ?_
              refine AllReadyH.cons (o := { dst := some 27, op := Op.call { callee := Callee.value (Operand.func 19), args := #[Operand.tmp 25, Operand.tmp 26], argTypes := #[24, 24] }, type := 24, pos := "byteset.go:103", after := #[{ on := 9, ground := Ground.data }, { on := 10, ground := Ground.data }, { on := 5, ground := Ground.chain }], guard := none }) rfl (fun K hK => ?c11_4) AllReadyH.nil
              case c11_4 =>
                go_simp
                refine (CO.out _).mono ?_
                rintro e u4 ⟨rfl, hb4⟩
                try dsimp only
                refine hK.out _ _ (SR.keep hHeld hb4) (fun hHeld4 => ?_)
                replace hHeld := hHeld4
                clear hHeld4
                replace FP := Lib.hid (FP.out.below hb4 FP.out.size)
                replace FQ := Lib.hid (FQ.out.below hb4 FQ.out.size)
                clear hK K hb4
                try simp only [Act.put, List.setIfInBounds_toArray, List.set_cons_zero, List.set_cons_succ]
                have gP : Row4 (u4) (u2.heap.size) 0#256 := FP.out
                have gQ : Row4 (u4) (wr.heap.size) 0#256 := FQ.out
                have gH : SR wr g' k x w.heap.size s w1.heap.size (u4) := hHeld
                clear FP FQ hHeld
                have lP := LP.out
                have lQ := LQ.out
                have gN := GN.out
                clear LP LQ GN
                generalize u4 = Wf at *
                have gQ2 := gQ
                have gH2 := gH
                obtain ⟨z0, a0, a1, a2, a3, f0, f1, f2, f3⟩ := id gP
                refine wpAnyH_ready (rs := [14]) (by kernel_rfl) (by simp) ?_
                refine AllReadyH.cons (o := { dst := none, op := Op.store 24 (Operand.tmp 7) (Operand.tmp 21), type := 0, pos := "byteset.go:103", after := #[{ on := 12, ground := Ground.data }, { on := 5, ground := Ground.data }, { on := 11, ground := Ground.chain }, { on := 0, ground := Ground.phase }, { on := 1, ground := Ground.phase }, { on := 2, ground := Ground.phase }, { on := 3, ground := Ground.phase }, { on := 4, ground := Ground.phase }, { on := 5, ground := Ground.phase }, { on := 6, ground := Ground.textOnly Departure.lateStores }, { on := 7, ground := Ground.textOnly Departure.lateStores }, { on := 8, ground := Ground.textOnly Departure.lateStores }, { on := 9, ground := Ground.textOnly Departure.lateStores }, { on := 10, ground := Ground.textOnly Departure.lateStores }, { on := 11, ground := Ground.textOnly Departure.lateStoresUnsure }, { on := 12, ground := Ground.phase }, { on := 13, ground := Ground.phase }], guard := none }) rfl (fun K hK => ?_) AllReadyH.nil
                go_simp
                clear z0 a0 a1 a2 a3 f0 f1 f2 f3
                have gH3 := SR.put gH lP (x &&& s) NG.out.1 NG.out.2.1 NG.out.2.2
                have gP3 := gP.put (x &&& s)
                have gQ3 := gQ.put_other (x &&& s) gN
                unfold put4 at gH3 gP3 gQ3
                refine hK.out _ _ gH3 (fun hHeld => ?_)
                clear hK K gP gQ gH gQ2 gH2
                try simp only [Act.put, List.setIfInBounds_toArray, List.set_cons_zero, List.set_cons_succ]
                obtain ⟨z0, a0, a1, a2, a3, f0, f1, f2, f3⟩ := id gQ3
                generalize (((Wf.setCell ⟨u2.heap.size, 0, none⟩ (.int .u64 (wd 0 (x &&& s)))).setCell ⟨u2.heap.size, 1, none⟩ (.int .u64 (wd 1 (x &&& s)))).setCell ⟨u2.heap.size, 2, none⟩ (.int .u64 (wd 2 (x &&& s)))).setCell ⟨u2.heap.size, 3, none⟩ (.int .u64 (wd 3 (x &&& s))) = Wg at *
                refine wpAnyH_ready (rs := [15]) (by kernel_rfl) (by simp) ?_
                refine AllReadyH.cons (o := { dst := none, op := Op.store 24 (Operand.tmp 8) (Operand.tmp 27), type := 0, pos := "byteset.go:103", after := #[{ on := 13, ground := Ground.data }, { on := 11, ground := Ground.data }, { on := 14, ground := Ground.chain }, { on := 0, ground := Ground.phase }, { on := 1, ground := Ground.phase }, { on := 2, ground := Ground.phase }, { on := 3, ground := Ground.phase }, { on := 4, ground := Ground.phase }, { on := 5, ground := Ground.phase }, { on := 6, ground := Ground.phase }, { on := 7, ground := Ground.phase }, { on := 8, ground := Ground.phase }, { on := 9, ground := Ground.phase }, { on := 10, ground := Ground.phase }, { on := 11, ground := Ground.phase }, { on := 12, ground := Ground.phase }, { on := 13, ground := Ground.phase }, { on := 14, ground := Ground.phase }], guard := none }) rfl (fun K hK => ?_) AllReadyH.nil
                go_simp
                clear z0 a0 a1 a2 a3 f0 f1 f2 f3
                have gH4 := SR.put gH3 lQ (x &&& ~~~s) NG.out.1 NG.out.2.1 NG.out.2.2
                have gQ4 := gQ3.put (x &&& ~~~s)
                have gP4 := gP3.put_other (x &&& ~~~s) (Ne.symm gN)
                unfold put4 at gH4 gQ4 gP4
                clear hHeld gH3 gQ3 gP3
                refine hK.out _ _ gH4 (fun hHeld => ?_)
                clear hK K
                try simp only [Act.put, List.setIfInBounds_toArray, List.set_cons_zero, List.set_cons_succ]
                refine wpAnyH_done (by kernel_rfl) ?_ _
                have HbX := Lib.hid gH4.1
                have HpX := Lib.hid gP4
                have HqX := Lib.hid gQ4
                clear gH4 gP4 gQ4 hHeld
                go_wp2_with fail
                go_meet
                exact ⟨rfl, _, _, rfl, rfl, lP, lQ, HbX, HpX, HqX⟩
          case c12_2 =>
            have LP := Lib.hid (show wr.heap.size ≤ wr.heap.size + 1 by have := hHeld.1.size; first | exact this | (simp; done) | simpa using this)
            have GN := Lib.hid (show wr.heap.size + 1 ≠ wr.heap.size from Nat.ne_of_gt (by have := FQ.out.size; first | exact this | (simp; done) | simpa using this))
            go_simp
            have hHn : SR wr g' k x w.heap.size s w1.heap.size ((((wr.alloc (.cells #[.int .u64 0, .int .u64 0, .int .u64 0, .int .u64 0] 24)).alloc (.cells #[.int .u64 0, .int .u64 0, .int .u64 0, .int .u64 0] 24))).drew) := SR.keep hHeld ((Below.refl _ _).alloc (Nat.le_refl _) (.cells #[.int .u64 0, .int .u64 0, .int .u64 0, .int .u64 0] 24))
            have FQ2 : Row4 ((((wr.alloc (.cells #[.int .u64 0, .int .u64 0, .int .u64 0, .int .u64 0] 24)).alloc (.cells #[.int .u64 0, .int .u64 0, .int .u64 0, .int .u64 0] 24))).drew) (wr.heap.size) 0#256 := FQ.out.below ((Below.refl _ _).alloc (Nat.le_refl _) (.cells #[.int .u64 0, .int .u64 0, .int .u64 0, .int .u64 0] 24)) FQ.out.size
            replace FQ := Lib.hid FQ2
            clear FQ2
            have FP3 : Row4 ((((wr.alloc (.cells #[.int .u64 0, .int .u64 0, .int .u64 0, .int .u64 0] 24)).alloc (.cells #[.int .u64 0, .int .u64 0, .int .u64 0, .int .u64 0] 24))).drew) (wr.heap.size + 1) 0#256 := Row4.zero (((wr.alloc (.cells #[.int .u64 0, .int .u64 0, .int .u64 0, .int .u64 0] 24))).drew) _ (by simp)
            have FP := Lib.hid FP3
            clear FP3
            refine hK.out _ _ hHn (fun hHeld2 => ?_)
            replace hHeld := hHeld2
            clear hHeld2 hHn hK K
            try simp only [Act.put, List.setIfInBounds_toArray, List.set_cons_zero, List.set_cons_succ]
            refine wpAnyH_ready (rs := [5]) (by kernel_rfl) (by simp) ?_
            refine AllReadyH.cons (o := { dst := some 21, op := Op.call { callee := Callee.value (Operand.func 19), args := #[Operand.tmp 19, Operand.tmp 20], argTypes := #[24, 24] }, type := 24, pos := "byteset.go:103", after := #[{ on := 3, ground := Ground.data }, { on := 4, ground := Ground.data }], guard := none }) rfl (fun K hK => ?c5_3) AllReadyH.nil
            case c5_3 =>
              go_simp
              refine (CA.out _).mono ?_
              rintro e u3 ⟨rfl, hb3⟩
              try dsimp only
              refine hK.out _ _ (SR.keep hHeld hb3) (fun hHeld3 => ?_)
              replace hHeld := hHeld3
              clear hHeld3
              replace FP := Lib.hid (FP.out.below hb3 FP.out.size)
              replace FQ := Lib.hid (FQ.out.below hb3 FQ.out.size)
              clear hK K hb3
              try simp only [Act.put, List.setIfInBounds_toArray, List.set_cons_zero, List.set_cons_succ]
              refine wpAnyH_ready (rs := [11]) (by kernel_rfl) (by simp) ?_
              refine AllReadyH.cons (o := { dst := some 27, op := Op.call { callee := Callee.value (Operand.func 19), args := #[Operand.tmp 25, Operand.tmp 26], argTypes := #[24, 24] }, type := 24, pos := "byteset.go:103", after := #[{ on := 9, ground := Ground.data }, { on := 10, ground := Ground.data }, { on := 5, ground := Ground.chain }], guard := none }) rfl (fun K hK => ?c11_4) AllReadyH.nil
              case c11_4 =>
                go_simp
                refine (CO.out _).mono ?_
                rintro e u4 ⟨rfl, hb4⟩
                try dsimp only
                refine hK.out _ _ (SR.keep hHeld hb4) (fun hHeld4 => ?_)
                replace hHeld := hHeld4
                clear hHeld4
                replace FP := Lib.hid (FP.out.below hb4 FP.out.size)
                replace FQ := Lib.hid (FQ.out.below hb4 FQ.out.size)
                clear hK K hb4
                try simp only [Act.put, List.setIfInBounds_toArray, List.set_cons_zero, List.set_cons_succ]
                have gP : Row4 (u4) (wr.heap.size + 1) 0#256 := FP.out
                have gQ : Row4 (u4) (wr.heap.size) 0#256 := FQ.out
                have gH : SR wr g' k x w.heap.size s w1.heap.size (u4) := hHeld
                clear FP FQ hHeld
                have lP := LP.out
                have lQ := LQ.out
                have gN := GN.out
                clear LP LQ GN
                generalize u4 = Wf at *
                have gQ2 := gQ
                have gH2 := gH
                obtain ⟨z0, a0, a1, a2, a3, f0, f1, f2, f3⟩ := id gP
                refine wpAnyH_ready (rs := [14]) (by kernel_rfl) (by simp) ?_
                refine AllReadyH.cons (o := { dst := none, op := Op.store 24 (Operand.tmp 7) (Operand.tmp 21), type := 0, pos := "byteset.go:103", after := #[{ on := 12, ground := Ground.data }, { on := 5, ground := Ground.data }, { on := 11, ground := Ground.chain }, { on := 0, ground := Ground.phase }, { on := 1, ground := Ground.phase }, { on := 2, ground := Ground.phase }, { on := 3, ground := Ground.phase }, { on := 4, ground := Ground.phase }, { on := 5, ground := Ground.phase }, { on := 6, ground := Ground.textOnly Departure.lateStores }, { on := 7, ground := Ground.textOnly Departure.lateStores }, { on := 8, ground := Ground.textOnly Departure.lateStores }, { on := 9, ground := Ground.textOnly Departure.lateStores }, { on := 10, ground := Ground.textOnly Departure.lateStores }, { on := 11, ground := Ground.textOnly Departure.lateStoresUnsure }, { on := 12, ground := Ground.phase }, { on := 13, ground := Ground.phase }], guard := none }) rfl (fun K hK => ?_) AllReadyH.nil
                go_simp
                clear z0 a0 a1 a2 a3 f0 f1 f2 f3
                have gH3 := SR.put gH lP (x &&& s) NG.out.1 NG.out.2.1 NG.out.2.2
                have gP3 := gP.put (x &&& s)
                have gQ3 := gQ.put_other (x &&& s) gN
                unfold put4 at gH3 gP3 gQ3
                refine hK.out _ _ gH3 (fun hHeld => ?_)
                clear hK K gP gQ gH gQ2 gH2
                try simp only [Act.put, List.setIfInBounds_toArray, List.set_cons_zero, List.set_cons_succ]
                obtain ⟨z0, a0, a1, a2, a3, f0, f1, f2, f3⟩ := id gQ3
                generalize (((Wf.setCell ⟨wr.heap.size + 1, 0, none⟩ (.int .u64 (wd 0 (x &&& s)))).setCell ⟨wr.heap.size + 1, 1, none⟩ (.int .u64 (wd 1 (x &&& s)))).setCell ⟨wr.heap.size + 1, 2, none⟩ (.int .u64 (wd 2 (x &&& s)))).setCell ⟨wr.heap.size + 1, 3, none⟩ (.int .u64 (wd 3 (x &&& s))) = Wg at *
                refine wpAnyH_ready (rs := [15]) (by kernel_rfl) (by simp) ?_
                refine AllReadyH.cons (o := { dst := none, op := Op.store 24 (Operand.tmp 8) (Operand.tmp 27), type := 0, pos := "byteset.go:103", after := #[{ on := 13, ground := Ground.data }, { on := 11, ground := Ground.data }, { on := 14, ground := Ground.chain }, { on := 0, ground := Ground.phase }, { on := 1, ground := Ground.phase }, { on := 2, ground := Ground.phase }, { on := 3, ground := Ground.phase }, { on := 4, ground := Ground.phase }, { on := 5, ground := Ground.phase }, { on := 6, ground := Ground.phase }, { on := 7, ground := Ground.phase }, { on := 8, ground := Ground.phase }, { on := 9, ground := Ground.phase }, { on := 10, ground := Ground.phase }, { on := 11, ground := Ground.phase }, { on := 12, ground := Ground.phase }, { on := 13, ground := Ground.phase }, { on := 14, ground := Ground.phase }], guard := none }) rfl (fun K hK => ?_) AllReadyH.nil
                go_simp
                clear z0 a0 a1 a2 a3 f0 f1 f2 f3
                have gH4 := SR.put gH3 lQ (x &&& ~~~s) NG.out.1 NG.out.2.1 NG.out.2.2
                have gQ4 := gQ3.put (x &&& ~~~s)
                have gP4 := gP3.put_other (x &&& ~~~s) (Ne.symm gN)
                unfold put4 at gH4 gQ4 gP4
                clear hHeld gH3 gQ3 gP3
                refine hK.out _ _ gH4 (fun hHeld => ?_)
                clear hK K
                try simp only [Act.put, List.setIfInBounds_toArray, List.set_cons_zero, List.set_cons_succ]
                refine wpAnyH_done (by kernel_rfl) ?_ _
                have HbX := Lib.hid gH4.1
                have HpX := Lib.hid gP4
                have HqX := Lib.hid gQ4
                clear gH4 gP4 gQ4 hHeld
                go_wp2_with fail
                go_meet
                exact ⟨rfl, _, _, rfl, rfl, lP, lQ, HbX, HpX, HqX⟩
      case rest =>
        obtain ⟨rfl, bp, bq, rfl, rfl, lP, lQ, HbX, HpX, HqX⟩ := hcut
        have hWX := own_below HW.out HbX.out
        have hBX := HB.out.trans (HbX.out.mono (by have := HBB.out; have := HP.out.1.size; omega))
        have hPX := HP.out.below HbX.out HP.out.1.size
        have hRX := HR.out.below HbX.out HR.out.1.size
        have HWX := Lib.hid hWX
        have HBX := Lib.hid hBX
        have HPX := Lib.hid hPX
        have HRX := Lib.hid hRX
        have HLP := Lib.hid (And.intro lP lQ)
        have HW_lt := Lib.hid (HW.out.lt g' rfl).2
        clear hWX hBX hPX hRX HW HB HP HR HbX HS CA CO lP lQ
        have q1 : ∀ w, (Op.equalIn 10000 24 (.agg #[.int .u64 (wd 0 (x &&& s)), .int .u64 (wd 1 (x &&& s)), .int .u64 (wd 2 (x &&& s)), .int .u64 (wd 3 (x &&& s))]) (.agg #[.int .u64 0, .int .u64 0, .int .u64 0, .int .u64 0])).run Tryd.prog w = .ok (x &&& s == 0#256) w := by
          have := fun w => eqS (x &&& s) 0#256 w
          unfold st at this
          rw [wd_zero, wd_zero, wd_zero, wd_zero] at this
          exact this
        have q2 : ∀ w, (Op.equalIn 10000 24 (.agg #[.int .u64 (wd 0 (x &&& ~~~s)), .int .u64 (wd 1 (x &&& ~~~s)), .int .u64 (wd 2 (x &&& ~~~s)), .int .u64 (wd 3 (x &&& ~~~s))]) (.agg #[.int .u64 0, .int .u64 0, .int .u64 0, .int .u64 0])).run Tryd.prog w = .ok (x &&& ~~~s == 0#256) w := by
          have := fun w => eqS (x &&& ~~~s) 0#256 w
          unfold st at this
          rw [wd_zero, wd_zero, wd_zero, wd_zero] at this
          exact this
        have wk : IntKind.i64.wrap ((k : Int) + 1) = (k : Int) + 1 := by simp [IntKind.wrap, IntKind.bits, IntKind.signed]; have := HL.out; omega
        have hfacts1 := HpX.out
        have hfacts2 := HqX.out
        obtain ⟨zp, p0, p1, p2, p3, _, _, _, _⟩ := hfacts1
        obtain ⟨zq, r0, r1, r2, r3, _, _, _, _⟩ := hfacts2
        cases h1 : (x &&& s == 0#256) with
        | true =>
          have hc : cutP s L[k] = false := by rw [← HX.out]; unfold cutP; rw [h1]; rfl
          have HM2 := Lib.hid (mid_no L s k hlt hc)
          rw [h1] at q1
          clear hc h1 q2
          go_wp2_with fail
          go_roundw
          case rel => exact ⟨k + 1, g', c', by go_num, by omega, by rw [HM2.out, HMM.out], ne1, ne2, by rw [HM2.out, HMM.out]; exact HWX, HBX, HPX, HRX⟩
          case measure => simp [intOf]; omega
        | false =>
          rw [h1] at q1
          cases h2 : (x &&& ~~~s == 0#256) with
          | true =>
            have hc : cutP s L[k] = false := by rw [← HX.out]; unfold cutP; rw [h1, h2]; rfl
            have HM2 := Lib.hid (mid_no L s k hlt hc)
            rw [h2] at q2
            clear hc h1 h2
            go_wp2_with fail
            go_roundw
            case rel => exact ⟨k + 1, g', c', by go_num, by omega, by rw [HM2.out, HMM.out], ne1, ne2, by rw [HM2.out, HMM.out]; exact HWX, HBX, HPX, HRX⟩
            case measure => simp [intOf]; omega
          | false =>
            have hc : cutP s L[k] = true := by rw [← HX.out]; unfold cutP; rw [h1, h2]; rfl
            have HM2 := Lib.hid (mid_yes L s k hlt hc)
            rw [h2] at q2
            clear hc h1 h2
            have hkl : k < (midL L s k).length := by have := HML.out; omega
            have hmk : (midL L s k)[k]? = some x := by rw [HX.out]; exact mid_at L s k hlt
            have k0 : wc.cell? ⟨g', k * 4, none⟩ = some (.int .u64 (wd 0 x)) := (HWX.out.cellAt _ (by omega)).trans (by simpa using flatB_at _ k x hmk 0 (by omega))
            have k1 : wc.cell? ⟨g', k * 4 + 1, none⟩ = some (.int .u64 (wd 1 x)) := (HWX.out.cellAt _ (by omega)).trans (flatB_at _ k x hmk 1 (by omega))
            have k2 : wc.cell? ⟨g', k * 4 + 2, none⟩ = some (.int .u64 (wd 2 x)) := (HWX.out.cellAt _ (by omega)).trans (flatB_at _ k x hmk 2 (by omega))
            have k3 : wc.cell? ⟨g', k * 4 + 3, none⟩ = some (.int .u64 (wd 3 x)) := (HWX.out.cellAt _ (by omega)).trans (flatB_at _ k x hmk 3 (by omega))
            have j0 := HWX.out.frozenAt (k * 4)
            have j1 := HWX.out.frozenAt (k * 4 + 1)
            have j2 := HWX.out.frozenAt (k * 4 + 2)
            have j3 := HWX.out.frozenAt (k * 4 + 3)
            have o4 := (((HWX.out.stored (k * 4) (.int .u64 (wd 0 (x &&& s)))).1.stored (k * 4 + 1) (.int .u64 (wd 1 (x &&& s)))).1.stored (k * 4 + 2) (.int .u64 (wd 2 (x &&& s)))).1.stored (k * 4 + 3) (.int .u64 (wd 3 (x &&& s)))
            have o5 := o4.1
            rw [flatB_set _ _ _ hkl] at o5
            have hBg := (HWX.out.lt g' rfl).1
            have HO5 := Lib.hid o5
            have HB5 := Lib.hid ((((HBX.out.setCell (p := ⟨g', k * 4, none⟩) hBg (.int .u64 (wd 0 (x &&& s)))).setCell (p := ⟨g', k * 4 + 1, none⟩) hBg (.int .u64 (wd 1 (x &&& s)))).setCell (p := ⟨g', k * 4 + 2, none⟩) hBg (.int .u64 (wd 2 (x &&& s)))).setCell (p := ⟨g', k * 4 + 3, none⟩) hBg (.int .u64 (wd 3 (x &&& s))))
            have HP5 := Lib.hid ((((HPX.out.set_other (i := k * 4) (v := .int .u64 (wd 0 (x &&& s))) ne1).set_other (i := k * 4 + 1) (v := .int .u64 (wd 1 (x &&& s))) ne1).set_other (i := k * 4 + 2) (v := .int .u64 (wd 2 (x &&& s))) ne1).set_other (i := k * 4 + 3) (v := .int .u64 (wd 3 (x &&& s))) ne1)
            have HR5 := Lib.hid ((((HRX.out.set_other (i := k * 4) (v := .int .u64 (wd 0 (x &&& s))) ne2).set_other (i := k * 4 + 1) (v := .int .u64 (wd 1 (x &&& s))) ne2).set_other (i := k * 4 + 2) (v := .int .u64 (wd 2 (x &&& s))) ne2).set_other (i := k * 4 + 3) (v := .int .u64 (wd 3 (x &&& s))) ne2)
            have hgb : g' ≠ bq := by have := (HW_lt.out); have := HLP.out; omega
            have HQ5 := Lib.hid ((((Row4.set_oth HqX.out (i := k * 4) (v := .int .u64 (wd 0 (x &&& s))) hgb).set_oth (i := k * 4 + 1) (v := .int .u64 (wd 1 (x &&& s))) hgb).set_oth (i := k * 4 + 2) (v := .int .u64 (wd 2 (x &&& s))) hgb).set_oth (i := k * 4 + 3) (v := .int .u64 (wd 3 (x &&& s))) hgb)
            clear o4 o5 hmk
            go_upto_region 8 with fail
            generalize (((wc.setCell ⟨g', k * 4, none⟩ (.int .u64 (wd 0 (x &&& s)))).setCell ⟨g', k * 4 + 1, none⟩ (.int .u64 (wd 1 (x &&& s)))).setCell ⟨g', k * 4 + 2, none⟩ (.int .u64 (wd 2 (x &&& s)))).setCell ⟨g', k * 4 + 3, none⟩ (.int .u64 (wd 3 (x &&& s))) = Ws at *
            clear k0 k1 k2 k3 j0 j1 j2 j3 p0 p1 p2 p3 r0 r1 r2 r3 zp zq HWX HBX HPX HRX HpX HqX q1 q2
            obtain ⟨zq, r0, r1, r2, r3, _, _, _, _⟩ := HQ5.out
            have hset : ((midL L s k).set k (x &&& s)).length = (midL L s k).length := by simp
            have HM3 : Hid (midL L s (k + 1) = (midL L s k).set k (x &&& s) ++ [x &&& ~~~s]) := Lib.hid (by rw [HX.out]; exact HM2.out)
            obtain ⟨R, hR⟩ : ∃ R, R = (midL L s k).set k (x &&& s) := ⟨_, rfl⟩
            rw [← hR] at HO5 hset HM3
            have HRL := Lib.hid hset
            have hi := HI.out.1
            have hz0 := HI.out.2.1
            have hz1 := HI.out.2.2.1
            have hz2 := HI.out.2.2.2
            have hol := outs_len s (L.take k)
            have htk : (L.take k).length ≤ L.length := by rw [List.length_take]; omega
            have hlen1 : (midL L s k).length ≤ 2000000 := by have := HML.out; have := HL.out; omega
            have hBs : B ≤ Ws.heap.size := by have := HBB.out; have := HP5.out.1.size; omega
            rw [← HMM.out] at HO5 HRL hlen1
            clear hR hset HM2 hol htk
            go_wp2_with (at_builtin; refine wpList_append_own _ rfl _ _ 45 rfl B 24 i0 (.agg #[.int .u64 0, .int .u64 0, .int .u64 0, .int .u64 0]) 4 32 Tryd.underlying45 hi hz0 hz1 hz2 rfl (by decide) _ _ _ rfl (HO5.out.alloc _) ⟨Ws.heap.size, 0, none⟩ 1 1 (b4 (x &&& ~~~s)) rfl rfl ?c1 ?c2 ?c3 ?c4 ?c5 ?_)
            case c1 => exact cells_new4 _ _ _ _ _ _
            case c2 => intro u hu; simp [b4] at hu; rcases hu with rfl | rfl | rfl | rfl <;> rfl
            case c3 => unfold maxLen; omega
            case c4 => omega
            case c5 => simp; omega
            intro v' w2 hown2 hgrow _
            obtain ⟨g2, c2, rfl⟩ := Joins.ownsRow_form hown2 (by omega)
            have hB6 := (HB5.out.alloc hBs _).grown hgrow (by simp; omega) (fun j hj => (HO5.out.lt j hj).1)
            have hP6 := (HP5.out.below ((Below.refl _ _).alloc (Nat.le_refl _) _) HP5.out.1.size).grown hgrow ne1
            have hR6 := (HR5.out.below ((Below.refl _ _).alloc (Nat.le_refl _) _) HR5.out.1.size).grown hgrow ne2
            have hlen2 : (flatB R ++ b4 (x &&& ~~~s)).length = (M + 1) * 4 := by rw [List.length_append, flatB_len, HRL.out]; simp [b4]; omega
            have hM1 : 1 ≤ M := by rw [HMM.out]; omega
            have hn1 : g2 ≠ w.heap.size := by
              intro h
              have h4 := hown2.cellAt 4 (by omega)
              rw [h, hP6.2, List.getElem?_eq_getElem (by omega)] at h4
              cases h4
            have hn2 : g2 ≠ w1.heap.size := by
              intro h
              have h4 := hown2.cellAt 4 (by omega)
              rw [h, hR6.2, List.getElem?_eq_getElem (by omega)] at h4
              cases h4
            have HO6 := Lib.hid hown2
            have HB6 := Lib.hid hB6
            have HP6 := Lib.hid hP6
            have HR6 := Lib.hid hR6
            have hm6 : (midL L s (k + 1)).length = M + 1 := by rw [HM3.out, List.length_append, HRL.out]; rfl
            have HM6 := Lib.hid hm6
            clear hown2 hgrow hB6 hP6 hR6 hlen2 hm6 hi hz0 hz1 hz2
            go_wp2_with fail
            go_roundw
            case rel =>
              refine ⟨k + 1, g2, c2, by go_num, by omega, by rw [HM6.out], hn1, hn2, Lib.hid ?_, HB6, HP6, HR6⟩
              rw [HM6.out, HM3.out, flatB_append]
              have e1 : flatB [x &&& ~~~s] = b4 (x &&& ~~~s) := by simp [flatB]
              rw [e1]
              exact HO6.out
            case measure => simp [intOf]; omega
    · obtain rfl : k = L.length := by omega
      have HW2 := HW.out
      rw [mid_end] at HW2 ⊢
      have HW3 := Lib.hid HW2
      clear HW2 HW HI
      go_wp2_with fail
      go_ret
      exact ⟨_, rfl, HW3.out, HB.out⟩
end Go.Proofs.YtmkmbpiaolmncaaDoor
