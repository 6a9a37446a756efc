/-
  The first half of normal: the spans with numbers, within the axis, sorted. No condition but the bounds on the list.
-/
import Derived.Test.YteekccjfokoglaaG
import Derived.Deep.RegionHeld3
import Derived.Test.YteekccjfokoglaaM4
import Derived.OwnWalk
namespace Go.Proofs.Yteekccjfokoglaa
open Go.RowKit Go.Sort Go.Lib Go.Proofs
set_option linter.unusedSimpArgs false
set_option linter.unnecessarySimpa false
set_option linter.unusedVariables false
/-- the axis in its box, and what lies below -/
structure Bx (b : Bool) (w w' : World) : Prop where
  c0 : w'.cell? ⟨w.heap.size, 0, none⟩ = some (.int .i64 (lim b))
  c1 : w'.cell? ⟨w.heap.size, 1, none⟩ = some (.bool b)
  lt : w.heap.size < w'.heap.size
  bel : Below w.heap.size w w'
theorem Bx.up {b : Bool} {w w1 w2 : World} (h : Bx b w w1) (hb : Below (w.heap.size + 1) w1 w2) : Bx b w w2 :=
  ⟨by rw [hb.cell (p := ⟨w.heap.size, 0, none⟩) (by show w.heap.size < _; omega)]; exact h.c0, by rw [hb.cell (p := ⟨w.heap.size, 1, none⟩) (by show w.heap.size < _; omega)]; exact h.c1, Nat.lt_of_lt_of_le h.lt hb.size, h.bel.trans (hb.mono (Nat.le_succ _))⟩
theorem Bx.up' {b : Bool} {w w1 w2 : World} (h : Bx b w w1) (hb : Below w1.heap.size w1 w2) : Bx b w w2 := h.up (hb.mono h.lt)
theorem bx_new (b : Bool) (w : World) : Bx b w (w.alloc (.cells #[.int .i64 (lim b), .bool b] 51)) :=
  ⟨by simp, by simp, by simp, (Below.refl _ _).alloc (Nat.le_refl _) _⟩
theorem keep2 {w1 w' w2 : World} {a b : Addr} {u v : Value} (ha : a.block < w1.heap.size) (hb : b.block < w1.heap.size) (h : w'.cell? a = some u ∧ w'.cell? b = some v ∧ Below w1.heap.size w1 w') (h2 : Below w'.heap.size w' w2) :
    w2.cell? a = some u ∧ w2.cell? b = some v ∧ Below w1.heap.size w1 w2 :=
  ⟨by rw [h2.cell (Nat.lt_of_lt_of_le ha h.2.2.size)]; exact h.1, by rw [h2.cell (Nat.lt_of_lt_of_le hb h.2.2.size)]; exact h.2.1, h.2.2.trans (h2.mono h.2.2.size)⟩
theorem keep3 {w1 w' w2 : World} {a b : Addr} {u v : Value} (ha : a.block < w1.heap.size) (hb : b.block < w1.heap.size) (h : w'.cell? a = some u ∧ w'.cell? b = some v ∧ Below w1.heap.size w1 w') (h2 : Below w1.heap.size w' w2) :
    w2.cell? a = some u ∧ w2.cell? b = some v ∧ Below w1.heap.size w1 w2 :=
  ⟨by rw [h2.cell ha]; exact h.1, by rw [h2.cell hb]; exact h.2.1, h.2.2.trans h2⟩
theorem drewB (w : World) : Below w.heap.size w w.drew := (Below.refl _ _).drew
theorem bdrewN {B : Nat} {w w' : World} (h : Below B w w') (n : Nat) : Below B w (w'.drewN n) := ⟨h.os, h.tape, h.output, h.size, h.block⟩
theorem new2 (W : World) (t : TypeId) (a b : Value) : ∀ j u, [a, b][j]? = some u → (W.alloc (.cells #[a, b] t)).cell? ((⟨W.heap.size, 0, none⟩ : Addr).add j) = some u := by
  intro j u hj
  match j, hj with
  | 0, hj => simp at hj; subst hj; simp [Addr.add]
  | 1, hj => simp at hj; subst hj; simp [Addr.add]
  | j + 2, hj => simp at hj
theorem one2 (a b : Int) : ∀ u ∈ [Value.int .i64 a, .int .i64 b], u.oneCell' = true := by
  intro u hu; simp at hu; rcases hu with rfl | rfl <;> rfl
theorem set_hi (X : List Sp) (t : Sp) (M : Int) (rest : List Value) : (flat (X ++ [t]) ++ rest).set (X.length * 2 + 1) (.int .i64 M) = flat (X ++ [(t.1, M)]) ++ rest := by
  have h := flat_len X
  simp only [flat_append, flat_cons, flat_nil, List.append_assoc]
  rw [List.set_append_right _ _ (by omega), show X.length * 2 + 1 - (flat X).length = 1 by omega]
  rfl
theorem own_up {w w' : World} {B n : Nat} {v : Value} {xs : List Value} (h : w.ownsRow B 46 2 v n xs) (hb : Below w.heap.size w w') : w'.ownsRow B 46 2 v n xs := by
  refine ⟨h.1, ?_⟩
  rcases h.2 with hn | ⟨g, cap, cur, hv, hb1, hg, rest⟩
  · exact .inl hn
  · refine .inr ⟨g, cap, cur, hv, hb1, ?_, rest⟩
    rw [hb.block g (Array.getElem?_eq_some_iff.1 hg).1]; exact hg
theorem own_le {w : World} {B B' n : Nat} {v : Value} {xs : List Value} (h : w.ownsRow B' 46 2 v n xs) (hB : B ≤ B') : w.ownsRow B 46 2 v n xs := by
  refine ⟨h.1, ?_⟩
  rcases h.2 with hn | ⟨g, cap, cur, hv, hb1, rest⟩
  · exact .inl hn
  · exact .inr ⟨g, cap, cur, hv, Nat.le_trans hB hb1, rest⟩
theorem own_row {w : World} {B g c n : Nat} {xs rest : List Value} (hB : B ≤ g) (hn : n ≤ c) (hc : c ≤ maxLen) (hx : xs.length = n * 2) (hr : Row w g (xs ++ rest)) (hl : (xs ++ rest).length = c * 2) : w.ownsRow B 46 2 (.slice (some ⟨g, 0, none⟩) n c) n xs := by
  refine ⟨hx, .inr ⟨g, c, _, rfl, hB, hr, hn, hc, by simpa using hl, ?_⟩⟩
  rw [← hx]; simp
theorem row_of_own' {w : World} {B g c n : Nat} {xs : List Value} (h : w.ownsRow B 46 2 (.slice (some ⟨g, 0, none⟩) n c) n xs) : B ≤ g ∧ n ≤ c ∧ c ≤ maxLen ∧ ∃ rest, Row w g (xs ++ rest) ∧ (xs ++ rest).length = c * 2 := by
  rcases h.2 with ⟨h1, _⟩ | ⟨g', c', cur, h1, h2, h3, h4, h5, h6, h7⟩
  · simp at h1
  · simp only [Value.slice.injEq, Option.some.injEq, Addr.mk.injEq] at h1
    obtain ⟨⟨rfl, _, _⟩, _, rfl⟩ := h1
    refine ⟨h2, h4, h5, cur.toList.drop (n * 2), ?_, ?_⟩
    · unfold Row
      rw [h3, ← h7]
      simp
    · rw [← h7]; simp [h6]
theorem keep4 {N : Nat} {w1 w' w2 : World} {a b c d : Addr} {u v x y : Value} (hN : w1.heap.size = N) (ha : a.block < N) (hb : b.block < N) (hc : c.block < N) (hd : d.block < N) (h : w'.cell? a = some u ∧ w'.cell? b = some v ∧ w'.cell? c = some x ∧ w'.cell? d = some y ∧ Below N w1 w') (h2 : Below N w' w2) :
    w2.cell? a = some u ∧ w2.cell? b = some v ∧ w2.cell? c = some x ∧ w2.cell? d = some y ∧ Below N w1 w2 :=
  ⟨by rw [h2.cell ha]; exact h.1, by rw [h2.cell hb]; exact h.2.1, by rw [h2.cell hc]; exact h.2.2.1, by rw [h2.cell hd]; exact h.2.2.2.1, h.2.2.2.2.trans h2⟩
def CloneN (l : List Sp) (N : Nat) (w : World) (e : Ending) (w' : World) : Prop :=
  ∃ g c rest, e = .returned (.slice (some ⟨g, 0, none⟩) l.length c) ∧ (l.length ≤ c ∧ c ≤ maxLen ∧ N ≤ g) ∧ Row w' g (flat l ++ rest) ∧ Below w.heap.size w w'
theorem clone_n (A : Option Addr) (cap : Nat) (l : List Sp) (N : Nat) (w : World) (hN : N ≤ w.heap.size) (hR : Re w w.heap.size A l) (hl : okL l) (hf : Plain A cap) (hne : A ≠ none) : Calls Try.prog 73 #[.slice A l.length cap] w (CloneN l N w) :=
  (clone_any A cap l w hR hl hf).mono fun e w' h => by
    rcases h with ⟨h, _⟩ | ⟨g, c, rest, h1, h2, h3, h4, h5, h6⟩
    · exact absurd h hne
    · exact ⟨g, c, rest, h1, ⟨h2, h3, Nat.le_trans hN h5⟩, h4, h6⟩
def NrmIs (b : Bool) (l : List Sp) (w : World) (e : Ending) (w' : World) : Prop :=
  ∃ v, e = .returned v ∧ w'.ownsRow w.heap.size 46 2 v (nrm b l).length (flat (nrm b l)) ∧ Below w.heap.size w w'
/-- what the row holds in the middle of the first loop -/
def Trm (b : Bool) (K : List Sp) (rest : List Value) (w : World) (g k : Nat) : Prop := Row w g (flat ((K.take k).map (trm b) ++ K.drop k) ++ rest)
theorem Trm.read {b : Bool} {K : List Sp} {rest : List Value} {w : World} {g k : Nat} (h : Trm b K rest w g k) (hk : k < K.length) :
    w.cell? ⟨g, k * 2, none⟩ = some (.int .i64 K[k].1) ∧ w.cell? ⟨g, k * 2 + 1, none⟩ = some (.int .i64 K[k].2) ∧ w.frozen? ⟨g, k * 2, none⟩ = false ∧ w.frozen? ⟨g, k * 2 + 1, none⟩ = false ∧ g < w.heap.size := by
  unfold Trm at h
  rw [List.drop_eq_getElem_cons hk] at h
  have := row_at h
  rw [show ((K.take k).map (trm b)).length = k by simp; omega] at this
  exact ⟨this.1, this.2, h.frozen _, h.frozen _, h.lt⟩
theorem Trm.step {b : Bool} {K : List Sp} {rest : List Value} {w : World} {g k : Nat} (h : Trm b K rest w g k) (hk : k < K.length) :
    Trm b K rest ((w.setCell ⟨g, k * 2, none⟩ (.int .i64 (trm b K[k]).1)).setCell ⟨g, k * 2 + 1, none⟩ (.int .i64 (trm b K[k]).2)) g (k + 1) := by
  unfold Trm at *
  rw [List.drop_eq_getElem_cons hk] at h
  have h4 := (h.set (k * 2) (.int .i64 (trm b K[k]).1)).set (k * 2 + 1) (.int .i64 (trm b K[k]).2)
  have e := set_flat ((K.take k).map (trm b)) (K.drop (k + 1)) K[k] (trm b K[k]) rest
  rw [show ((K.take k).map (trm b)).length = k by simp; omega] at e
  rw [e] at h4
  rw [take_snoc K k hk, List.map_append, List.append_assoc]
  exact h4
theorem Trm.up {b : Bool} {K : List Sp} {rest : List Value} {w w' : World} {g k : Nat} (h : Trm b K rest w g k) (hb : Below w.heap.size w w') : Trm b K rest w' g k := Row.up h hb
set_option maxRecDepth 100000 in
set_option maxHeartbeats 4000000 in
theorem normal_any (b : Bool) (A : Option Addr) (cap : Nat) (l : List Sp) (w : World) (hR : Re w w.heap.size A l) (hl : okL l) (hf : Plain A cap) (hne : A ≠ none) :
    Calls Try.prog 52 #[axv b, .slice A l.length cap] w (NrmIs b l w) := by
  have HR := Lib.hid hR
  have HL := Lib.hid hl
  have HF := Lib.hid hf
  have HNE := Lib.hid hne
  have HB0 := Lib.hid (bx_new b w)
  clear hR hl hf hne
  go_enter Try.func52, Try.ntmps52
  go_wp2_with fail
  have hR1 := HR.out.up HB0.out.bel
  have HC := Lib.hid (fun W (hb : Below (w.alloc (.cells #[.int .i64 (lim b), .bool b] 51)).heap.size (w.alloc (.cells #[.int .i64 (lim b), .bool b] 51)) W) => clone_n A cap l (w.alloc (.cells #[.int .i64 (lim b), .bool b] 51)).heap.size W hb.size (hR1.up hb) HL.out HF.out HNE.out)
  obtain ⟨w1, hw1⟩ : ∃ w1, w1 = w.alloc (.cells #[.int .i64 (lim b), .bool b] 51) := ⟨_, rfl⟩
  rw [← hw1] at HB0 HC ⊢
  have S0 : w1.cell? ⟨w.heap.size, 0, none⟩ = some (.int .i64 (lim b)) ∧ w1.cell? ⟨w.heap.size, 1, none⟩ = some (.bool b) ∧ Below w1.heap.size w1 w1 := ⟨HB0.out.c0, HB0.out.c1, Below.refl _ _⟩
  have z0 : w.heap.size < w1.heap.size := HB0.out.lt
  clear hw1 hR1
  go_region_held3 (fun w' => w'.cell? ⟨w.heap.size, 0, none⟩ = some (.int .i64 (lim b)) ∧ w'.cell? ⟨w.heap.size, 1, none⟩ = some (.bool b) ∧ Below w1.heap.size w1 w') (first | assumption | exact S0 | exact keep2 z0 z0 S0 (drewB _) | exact keep3 z0 z0 (by assumption) hb3 | exact keep2 z0 z0 (by assumption) hb2 | exact keep2 z0 z0 (by assumption) (drewB _))
    (first | (go_at_call 73; refine (HC.out _ (by first | exact drewB _ | exact And.right (And.right (by assumption)))).mono ?_; rintro e w2 ⟨g, c, rest, rfl, hgc, hrw, hb2⟩) | (go_at_call 72; refine (delete_any b l g c w1.heap.size rest _ hgc.2.2 (by exact hrw) HL.out hgc.1 hgc.2.1).mono ?_; rintro e w3 ⟨rest', rfl, hrw3, hb3⟩))
  all_goals
    have HS3 := Lib.hid (show w3.cell? ⟨w.heap.size, 0, none⟩ = some (.int .i64 (lim b)) ∧ w3.cell? ⟨w.heap.size, 1, none⟩ = some (.bool b) ∧ Below w1.heap.size w1 w3 from by assumption)
    have HG := Lib.hid hgc
    have HT := Lib.hid (show Trm b (kp b l) rest' w3 g 0 by unfold Trm; simpa using hrw3)
    have HK := Lib.hid (show ∀ s ∈ kp b l, i64ok s.1 ∧ i64ok s.2 from fun s hs => HL.out.2 s (List.mem_filter.1 hs).1)
    have hkl : (kp b l).length ≤ 1000000 := Nat.le_trans (List.length_filter_le _ _) HL.out.1
    clear hgc hrw3 hb3 hrw hb2
    go_wp2_with fail
    go_loopw [5, 6, 18] (fun _ _ s18 wr => ∃ k : Nat, s18 = .int .i64 (k : Int) ∧ k ≤ (kp b l).length ∧ Hid (Trm b (kp b l) rest' wr g k) ∧ Hid (Below w1.heap.size w3 wr)) (fun _ _ s18 _ => ((kp b l).length - intOf s18).toNat)
    case atStart => exact ⟨0, rfl, by omega, HT, Lib.hid (Below.refl _ _)⟩
    case round =>
      clear HT
      obtain ⟨k, rfl, hk, HT, HB⟩ := hrel
      by_cases hlt : k < (kp b l).length
      · obtain ⟨c0, c1, f0, f1, hgw⟩ := HT.out.read hlt
        have a0 : wr.cell? ⟨w.heap.size, 0, none⟩ = some (.int .i64 (lim b)) := by rw [HB.out.cell (p := ⟨w.heap.size, 0, none⟩) z0]; exact HS3.out.1
        have a1 : wr.cell? ⟨w.heap.size, 1, none⟩ = some (.bool b) := by rw [HB.out.cell (p := ⟨w.heap.size, 1, none⟩) z0]; exact HS3.out.2.1
        have hs := HK.out (kp b l)[k] (List.getElem_mem hlt)
        have hC := fun W => trim_any b (kp b l)[k].1 (kp b l)[k].2 W hs.1 hs.2
        obtain ⟨x, hx⟩ : ∃ x, x = (kp b l)[k] := ⟨_, rfl⟩
        have HX := Lib.hid hx
        rw [← hx] at c0 c1 hC
        have HC := Lib.hid hC
        have hkl2 : (k : Int) < ((kp b l).length : Int) := by omega
        have hwz : w.heap.size < wr.heap.size := Nat.lt_of_lt_of_le (Nat.lt_of_lt_of_le z0 HS3.out.2.2.size) HB.out.size
        clear hC hx hs
        go_wp2_with fail
        refine (HC.out _).mono ?_
        rintro e w5 ⟨rfl, os, hw5⟩
        have hb3 : Below wr.heap.size wr w5 := ((Below.refl _ _).alloc (Nat.le_refl _) _).trans (by rw [hw5]; exact below_grow _ _ _ (by simp))
        clear hw5
        rw [← hb3.cell (p := ⟨g, k * 2, none⟩) hgw] at c0
        rw [← hb3.cell (p := ⟨g, k * 2 + 1, none⟩) hgw] at c1
        rw [← hb3.frozen (p := ⟨g, k * 2, none⟩) hgw] at f0
        rw [← hb3.frozen (p := ⟨g, k * 2 + 1, none⟩) hgw] at f1
        have HT2 := Lib.hid ((HT.out.up hb3).step hlt)
        rw [← HX.out] at HT2
        have HB2 := Lib.hid (((HB.out.trans (hb3.mono (Nat.le_trans HS3.out.2.2.size HB.out.size))).setCell (p := ⟨g, k * 2, none⟩) HG.out.2.2 (.int .i64 (trm b x).1)).setCell (p := ⟨g, k * 2 + 1, none⟩) HG.out.2.2 (.int .i64 (trm b x).2))
        clear hb3 a0 a1
        go_wp2_with fail
        go_roundw
        case rel => exact ⟨k + 1, by go_num, by omega, HT2, HB2⟩
        case measure => simp [intOf]; omega
      · obtain rfl : k = (kp b l).length := by omega
        have hlen : (kp b l).length = (kept b l).length := by unfold kp kept; rw [List.length_map]
        have hrow := HT.out
        unfold Trm at hrow
        rw [List.take_length, List.drop_length, List.append_nil] at hrow
        have hS : Calls Try.prog 76 #[.slice (some ⟨g, 0, none⟩) (kp b l).length c, .func (.func 77) #[] #[]] wr (SortIs (kept b l) g w1.heap.size wr) := by
          rw [hlen]; exact sort_own (kept b l) g c w1.heap.size rest' wr HG.out.2.2 (by rw [← hlen]; exact hkl) hrow
        have HSo := Lib.hid hS
        have HLen := Lib.hid hlen
        clear hS hlen hrow
        go_wp2_with fail
        refine HSo.out.mono ?_
        rintro e w6 ⟨rfl, R, hp, hs, hre, hb6⟩
        have HP := Lib.hid (And.intro hp hs)
        have HRe := Lib.hid hre
        have HB6 := Lib.hid (HB.out.trans hb6)
        have hn : (kp b l).length = R.length := HLen.out.trans hp.length_eq.symm
        rw [hn] at hkl ⊢
        clear hn hp hs hre hb6 HLen HSo HT HB
        have a0 : w6.cell? ⟨w.heap.size, 0, none⟩ = some (.int .i64 (lim b)) := by rw [HB6.out.cell (p := ⟨w.heap.size, 0, none⟩) z0]; exact HS3.out.1
        have a1 : w6.cell? ⟨w.heap.size, 1, none⟩ = some (.bool b) := by rw [HB6.out.cell (p := ⟨w.heap.size, 1, none⟩) z0]; exact HS3.out.2.1
        have HA := Lib.hid (And.intro a0 a1)
        have hw6 : w.heap.size < w6.heap.size := Nat.lt_of_lt_of_le (Nat.lt_of_lt_of_le z0 HS3.out.2.2.size) HB6.out.size
        clear a0 a1
        go_wp2_with fail
        go_loopw [7, 34] (fun s7 s34 wr => ∃ k : Nat, s34 = .int .i64 (k : Int) ∧ k ≤ R.length ∧ Hid (wr.ownsRow w6.heap.size 46 2 s7 (jk b R k).length (flat (jk b R k))) ∧ Hid (Below w6.heap.size w6 wr)) (fun _ s34 _ => (R.length - intOf s34).toNat)
        case atStart => exact ⟨0, rfl, by omega, Lib.hid (World.ownsRow_nil _ _ _ _), Lib.hid (Below.refl _ _)⟩
        case round =>
          obtain ⟨i0, hi, hz0, hz1, hz2⟩ := info_parts info46
          obtain ⟨k, rfl, hk, HO, HB⟩ := hrel
          by_cases hlt : k < R.length
          · obtain ⟨bb, o, hA, hbl, c0, c1⟩ := HRe.out.at_ k hlt
            simp only [Option.some.injEq, Addr.mk.injEq] at hA
            obtain ⟨rfl, rfl, _⟩ := hA
            rw [← HB.out.cell (p := ⟨g, 0 + k * 2, none⟩) hbl, Nat.zero_add] at c0
            rw [← HB.out.cell (p := ⟨g, 0 + k * 2 + 1, none⟩) hbl, Nat.zero_add] at c1
            have hsk := kept_ok b l R[k] (HP.out.1.mem_iff.1 (List.getElem_mem hlt))
            have hsb := ok_bd hsk
            have HJ := Lib.hid (jk_succ b R k hlt)
            have hjl := jk_len b R k
            obtain ⟨x, hx⟩ : ∃ x, x = R[k] := ⟨_, rfl⟩
            rw [← hx] at c0 c1 hsb HJ
            have HX := Lib.hid hx
            have hk2 : (k : Int) < (R.length : Int) := by omega
            have hwr : w6.heap.size ≤ wr.heap.size := HB.out.size
            have a0 : wr.cell? ⟨w.heap.size, 0, none⟩ = some (.int .i64 (lim b)) := by rw [HB.out.cell (p := ⟨w.heap.size, 0, none⟩) hw6]; exact HA.out.1
            have a1 : wr.cell? ⟨w.heap.size, 1, none⟩ = some (.bool b) := by rw [HB.out.cell (p := ⟨w.heap.size, 1, none⟩) hw6]; exact HA.out.2
            clear hx hsk
            rcases jk_case b R k with hj | ⟨Lh, t, hj⟩
            · rw [hj] at HO HJ
              have hown := HO.out
              have hcase : ∃ A cc, u7 = Value.slice A 0 cc := by
                rcases hown.2 with ⟨h, _⟩ | ⟨g', c', _, h, _⟩
                · exact ⟨_, _, h⟩
                · exact ⟨_, _, h⟩
              obtain ⟨A7, c7, rfl⟩ := hcase
              clear hj hown
              go_wp2_with fail
              go_quiet (fail)
              have hbW : Below wr.heap.size wr ((wr.alloc (.cells #[.int .i64 x.1, .int .i64 x.2] 46)).drewN nq) := bdrewN ((Below.refl _ _).alloc (Nat.le_refl _) _) nq
              have hown := own_up HO.out hbW
              have b0 : ((wr.alloc (.cells #[.int .i64 x.1, .int .i64 x.2] 46)).drewN nq).cell? ⟨wr.heap.size, 0, none⟩ = some (.int .i64 x.1) := by simp
              have b1 : ((wr.alloc (.cells #[.int .i64 x.1, .int .i64 x.2] 46)).drewN nq).cell? ⟨wr.heap.size, 1, none⟩ = some (.int .i64 x.2) := by simp
              generalize (wr.alloc (.cells #[.int .i64 x.1, .int .i64 x.2] 46)).drewN nq = W at *
              have HB2 := Lib.hid (HB.out.trans (hbW.mono hwr))
              have hWz := hbW.size
              clear HO HB hbW c0 c1 a0 a1
              go_wp2_with (at_builtin; refine wpList_append_own _ rfl _ _ 22 rfl w6.heap.size 46 i0 (.agg #[.int .i64 0, .int .i64 0]) 2 16 Try.underlying22 hi hz0 hz1 hz2 rfl (by decide) _ _ _ rfl (hown.alloc _) ⟨W.heap.size, 0, none⟩ 1 1 [.int .i64 x.1, .int .i64 x.2] rfl rfl ?c1 ?c2 ?c3 ?c4 ?c5 ?_)
              case c1 => exact new2 _ _ _ _
              case c2 => exact one2 _ _
              case c3 => simp [maxLen]
              case c4 => simp
              case c5 => simp; omega
              intro v' w4 hown4 hgrow _
              have hrow := fun j hj => (hown.lt j hj).1
              have HB4 := Lib.hid ((HB2.out.alloc (by omega) _).grown hgrow (by simp; omega) (fun j hj => hrow j hj))
              have HO4 := Lib.hid (show w4.ownsRow w6.heap.size 46 2 v' (jk b R (k + 1)).length (flat (jk b R (k + 1))) by rw [HJ.out]; exact hown4)
              clear hown hrow hgrow hown4 HB2
              go_wp2_with fail
              go_roundw
              case rel => exact ⟨k + 1, by go_num, by omega, HO4, HB4⟩
              case measure => simp [intOf]; omega
            · have hcj := jk_can b l R HP.out.1 HP.out.2 k
              rw [hj] at HO HJ hjl hcj
              have htb := ok_bd (hcj.1 t (by simp))
              rw [jstep_snoc] at HJ
              have hown := HO.out
              have hcase : ∃ g2 c2, u7 = Value.slice (some ⟨g2, 0, none⟩) (Lh ++ [t]).length c2 := by
                rcases hown.2 with ⟨h, h2⟩ | ⟨g', c', _, h, _⟩
                · simp at h2
                · exact ⟨_, _, h⟩
              obtain ⟨g2, c2, rfl⟩ := hcase
              obtain ⟨hg2, hm2, hcm2, rest2, hrow2, hln2⟩ := row_of_own' hown
              have HRow := Lib.hid (And.intro hrow2 hln2)
              have d1 := (row_at (X := Lh) (s := t) (Y := []) hrow2).2
              have f1 := hrow2.frozen (Lh.length * 2 + 1)
              have hg2w := hrow2.lt
              have hml : (Lh ++ [t]).length = Lh.length + 1 := by simp
              rw [hml] at HO hjl hm2 ⊢
              have HML := Lib.hid hml
              obtain ⟨m, hm⟩ : ∃ m, m = Lh.length := ⟨_, rfl⟩
              rw [← hm] at d1 f1 HO hjl hm2 ⊢
              have HM := Lib.hid hm
              unfold maxLen at hcm2
              clear hj hown hrow2 hln2 hml hm hcj
              go_wp2_with fail
              have hbW0 : Below wr.heap.size wr (wr.alloc (.cells #[.int .i64 x.1, .int .i64 x.2] 46)) := (Below.refl _ _).alloc (Nat.le_refl _) _
              have b0 : (wr.alloc (.cells #[.int .i64 x.1, .int .i64 x.2] 46)).cell? ⟨wr.heap.size, 0, none⟩ = some (.int .i64 x.1) := by simp
              have b1 : (wr.alloc (.cells #[.int .i64 x.1, .int .i64 x.2] 46)).cell? ⟨wr.heap.size, 1, none⟩ = some (.int .i64 x.2) := by simp
              have hwz : w.heap.size < wr.heap.size := Nat.lt_of_lt_of_le hw6 hwr
              rw [← hbW0.cell (p := ⟨g2, m * 2 + 1, none⟩) hg2w] at d1
              rw [← hbW0.frozen (p := ⟨g2, m * 2 + 1, none⟩) hg2w] at f1
              rw [← hbW0.cell (p := ⟨w.heap.size, 0, none⟩) hwz] at a0
              rw [← hbW0.cell (p := ⟨w.heap.size, 1, none⟩) hwz] at a1
              have HW0 := Lib.hid hbW0
              have hzz : wr.heap.size < (wr.alloc (.cells #[.int .i64 x.1, .int .i64 x.2] 46)).heap.size := by simp
              clear c0 c1 hbW0
              generalize wr.alloc (.cells #[.int .i64 x.1, .int .i64 x.2] 46) = W0 at *
              have S4 : W0.cell? ⟨w.heap.size, 0, none⟩ = some (.int .i64 (lim b)) ∧ W0.cell? ⟨w.heap.size, 1, none⟩ = some (.bool b) ∧ W0.cell? ⟨g2, m * 2 + 1, none⟩ = some (.int .i64 t.2) ∧ W0.cell? ⟨wr.heap.size, 0, none⟩ = some (.int .i64 x.1) ∧ Below W0.heap.size W0 W0 := ⟨a0, a1, d1, b0, Below.refl _ _⟩
              have HC74 := Lib.hid (fun W (hb : Below W0.heap.size W0 W) => (without_any b (t.2 + 1) (x.1 - 1) W (by unfold i64ok; omega) (by unfold i64ok; omega)).mono (fun e w' h => (⟨h.1, by obtain ⟨_, os, h2⟩ := h; rw [h2]; exact below_grow _ _ _ hb.size⟩ : e = .returned (.bool (wo b (t.2 + 1, x.1 - 1))) ∧ Below W0.heap.size W w')))
              have n0 : w.heap.size < W0.heap.size := by omega
              have n2 : g2 < W0.heap.size := by omega
              have q1 : (0 : Int) < (m : Int) + 1 := by omega
              have w1' : IntKind.i64.wrap (t.2 + 1) = t.2 + 1 := IntWalk.i64_in _ (by omega)
              have w2' : IntKind.i64.wrap (x.1 - 1) = x.1 - 1 := IntWalk.i64_in _ (by omega)
              have w3' : IntKind.i64.wrap (m : Int) = (m : Int) := IntWalk.i64_in _ (by omega)
              have w4' : (m : Int) < (m : Int) + 1 := by omega
              have w5' : (0 : Int) ≤ (m : Int) := by omega
              clear hsb htb
              go_region_held3 (fun w' => w'.cell? ⟨w.heap.size, 0, none⟩ = some (.int .i64 (lim b)) ∧ w'.cell? ⟨w.heap.size, 1, none⟩ = some (.bool b) ∧ w'.cell? ⟨g2, m * 2 + 1, none⟩ = some (.int .i64 t.2) ∧ w'.cell? ⟨wr.heap.size, 0, none⟩ = some (.int .i64 x.1) ∧ Below W0.heap.size W0 w') (first | assumption | exact S4 | exact keep4 rfl n0 n0 n2 hzz S4 (drewB _) | exact keep4 rfl n0 n0 n2 hzz (by assumption) hb5 | exact keep4 rfl n0 n0 n2 hzz (by assumption) (drewB _))
                (first | (go_at_call 74; refine (HC74.out _ (by first | exact drewB _ | exact And.right (And.right (And.right (And.right (by assumption)))))).mono ?_; rintro e w5 ⟨rfl, hb5⟩))
              rename_i hHeld
              have hbW5 := HW0.out.trans (hHeld.2.2.2.2.mono (Nat.le_of_lt hzz))
              have HR5 := Lib.hid (HRow.out.1.up hbW5)
              have HO5 := Lib.hid (own_up HO.out hbW5)
              have HB5 := Lib.hid (HB.out.trans (hbW5.mono hwr))
              have e0 : w5.cell? ⟨wr.heap.size, 0, none⟩ = some (.int .i64 x.1) := hHeld.2.2.2.1
              have e1 : w5.cell? ⟨wr.heap.size, 1, none⟩ = some (.int .i64 x.2) := by rw [hHeld.2.2.2.2.cell (p := ⟨wr.heap.size, 1, none⟩) hzz]; exact b1
              have e2 : w5.cell? ⟨g2, m * 2 + 1, none⟩ = some (.int .i64 t.2) := hHeld.2.2.1
              have e3 : w5.frozen? ⟨g2, m * 2 + 1, none⟩ = false := by rw [hHeld.2.2.2.2.frozen (p := ⟨g2, m * 2 + 1, none⟩) n2]; exact f1
              have hw5 : wr.heap.size ≤ w5.heap.size := hbW5.size
              clear hHeld hbW5 hb5 S4 a0 a1 d1 b0 b1 f1 HW0 HO HB HC74
              cases hq : wo b (t.2 + 1, x.1 - 1)
              · rw [hq, if_neg (by simp)] at HJ
                have hown := HO5.out
                have HJ2 := Lib.hid (HJ.out.trans (show Lh ++ [t, x] = (Lh ++ [t]) ++ [x] by simp))
                have hcl3 : m + 1 + 1 ≤ maxLen := by unfold maxLen; omega
                have HML2 := Lib.hid (show (Lh ++ [t] ++ [x]).length = m + 1 + 1 by rw [HM.out]; simp)
                obtain ⟨v7, hv7⟩ : ∃ v, v = Value.slice (some ⟨g2, 0, none⟩) (m + 1) c2 := ⟨_, rfl⟩
                rw [← hv7] at hown ⊢
                clear hv7
                go_wp2_with (at_builtin; refine wpList_append_own _ rfl _ _ 22 rfl w6.heap.size 46 i0 (.agg #[.int .i64 0, .int .i64 0]) 2 16 Try.underlying22 hi hz0 hz1 hz2 rfl (by decide) _ _ _ rfl (hown.alloc _) ⟨w5.heap.size, 0, none⟩ 1 1 [.int .i64 x.1, .int .i64 x.2] rfl rfl ?d1 ?d2 ?d3 ?d4 ?d5 ?_)
                case d1 => exact new2 _ _ _ _
                case d2 => exact one2 _ _
                case d3 => exact hcl3
                case d4 => omega
                case d5 => simp; omega
                intro v' w4 hown4 hgrow _
                have hrow := fun j hj => (hown.lt j hj).1
                have HB4 := Lib.hid ((HB5.out.alloc (by omega) _).grown hgrow (by simp; omega) (fun j hj => hrow j hj))
                have HO4 := Lib.hid (show w4.ownsRow w6.heap.size 46 2 v' (jk b R (k + 1)).length (flat (jk b R (k + 1))) by rw [HJ2.out, HML2.out, flat_append (Lh ++ [t])]; exact hown4)
                clear hown hrow hgrow hown4 HB5 HO5
                go_wp2_with fail
                go_roundw
                case rel => exact ⟨k + 1, by go_num, by omega, HO4, HB4⟩
                case measure => simp [intOf]; omega
              · rw [hq, if_pos rfl] at HJ
                have hlen2 := HRow.out.2
                have hset := HR5.out.set (m * 2 + 1) (.int .i64 (max t.2 x.2))
                rw [HM.out, set_hi, ← HM.out] at hset
                have HO4 := Lib.hid (show (w5.setCell ⟨g2, m * 2 + 1, none⟩ (.int .i64 (max t.2 x.2))).ownsRow w6.heap.size 46 2 (.slice (some ⟨g2, 0, none⟩) (m + 1) c2) (jk b R (k + 1)).length (flat (jk b R (k + 1))) by
                  have e : (jk b R (k + 1)).length = m + 1 := by rw [HJ.out, HM.out]; simp
                  rw [e, HJ.out]
                  exact own_row hg2 hm2 (by unfold maxLen; exact hcm2) (by rw [flat_len, HM.out]; simp) hset (by simp [flat_len] at hlen2 ⊢; omega))
                have HB4 := Lib.hid (HB5.out.setCell (p := ⟨g2, m * 2 + 1, none⟩) hg2 (.int .i64 (max t.2 x.2)))
                have hm0 : (m : Int) + 1 ≤ (c2 : Int) := by omega
                clear hset hlen2
                go_wp2_with fail
                go_region
                go_wp2_with fail
                go_roundw
                case rel => exact ⟨k + 1, by go_num, by omega, Lib.hid (id HO4.out), Lib.hid (HB4.out.drew)⟩
                case measure => simp [intOf]; omega
          · obtain rfl : k = R.length := by omega
            have HE := Lib.hid (show wr.ownsRow w.heap.size 46 2 u7 (nrm b l).length (flat (nrm b l)) by
              have := HO.out
              rw [jk_end b l R HP.out.1 HP.out.2] at this
              exact own_le this (Nat.le_of_lt hw6))
            have HF := Lib.hid ((HB0.out.bel.trans ((HS3.out.2.2.trans HB6.out).mono (Nat.le_of_lt z0))).trans (HB.out.mono (Nat.le_of_lt hw6)))
            go_wp2_with fail
            go_ret
            exact ⟨u7, rfl, HE.out, HF.out⟩
end Go.Proofs.Yteekccjfokoglaa
