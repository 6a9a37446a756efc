/-
  A graph that a call builds: a row of rows, each in a block of its own. Reverse of the program. Conditions: the slice reads as a graph of at most 1000 nodes with at most 1000 successors each.
-/
import Derived.Test.YthgfomjmkmkhkaaE
import Derived.Test.YthgfomjmkmkhkaaU
import Derived.Maps.AppendAt
import Derived.Deep.RegionLaw
namespace Go.Proofs.Ythgfomjmkmkhkaa
open Go.RowKit
set_option linter.unusedSimpArgs false
set_option linter.unusedVariables false
theorem drewB (w : World) : Below w.heap.size w w.drew := (Below.refl _ _).drew
theorem Try.info23 : (Try.prog.info? 23).map (fun i => (i.zero, i.size, i.bytes)) = some (some (.slice none 0 0), 1, 24) := by kernel_rfl
theorem Try.make22 (n : Nat) (hn : n ≤ 100000) (w : World) : (Instr.makeSlice 22 (.int .i64 (n : Int)) (.int .i64 (n : Int))).run Try.prog w = .ok (.slice (some ⟨w.heap.size, 0, none⟩) n n) (w.alloc (.cells (madeCells #[.slice none 0 0] n) 23)) := by
  obtain ⟨i0, hi, hz0, hz1, hz2⟩ := info_parts Try.info23
  have := run_make (P := Try.prog) w 22 23 i0 (.slice none 0 0) Try.underlying22 hi hz0 .i64 .i64 n n (by omega) (Int.le_refl _) (by rw [hz2]; omega) (by omega)
  rw [hz1] at this
  simp at this
  exact this
/-- append of one number to a row of the call's own, as a step of a region that draws -/
theorem step_append_int {ops : Array Oper} {o : Oper} {a : Act} {w : World} {K : Act → World → Prop} {Q : Exit → Act → World → Prop} {E : Prop} (hgd : o.guard = none) (s x : Operand)
    (ho : o.op = .call { callee := .builtin .append, args := #[s, x], argTypes := #[23, 23] }) (base : Nat) (v : Value) (acc : List Nat) (y : Nat) (hs : a.eval s = v)
    (hown : w.ownsRow base 3 1 v acc.length (icells (ints acc))) (b : Nat) (hx : a.eval x = .slice (some ⟨b, 0, none⟩) 1 1)
    (hb : w.heap[b]? = some (.cells #[.int .i64 (y : Int)] 3 (0, 0))) (hlen : acc.length ≤ 1000) (hbase : base ≤ w.heap.size)
    (h : ∀ v' w', Hid (w'.ownsRow base 3 1 v' (acc ++ [y]).length (icells (ints (acc ++ [y])))) → w.grownBy w' v.ownBlock → (v'.ownBlock = v.ownBlock ∨ v'.ownBlock = some w.heap.size) → K (a.put o.dst v') w') :
    if Region.wanted o (yielded ops a.tmps) = true then Oper.wp Try.prog o a w K Q else E := by
  have hw : Region.wanted o (yielded ops a.tmps) = true := by simp [Region.wanted, hgd]
  rw [if_pos hw]
  obtain ⟨i0, hi, hz0, hz1, hz2⟩ := info_parts Try.info3
  obtain ⟨v', w', hr, h2, h3, h4, h5⟩ := run_append_own_at (P := Try.prog) w base 23 o.type 3 i0 (.int .i64 0) 1 8 Try.underlying23 hi hz0 hz1 hz2 rfl (by decide) v acc.length (icells (ints acc)) hown ⟨b, 0, none⟩ 1 1 [.int .i64 (y : Int)] rfl
    (by
      intro j u hj
      rw [show (⟨b, 0, none⟩ : Addr).add j = ⟨b, j, none⟩ by simp [Addr.add]; exact fun e => e.symm, Lib.cell_of_heap hb, ← Array.getElem?_toList]
      exact hj)
    (by intro u hu; simp at hu; subst hu; rfl) (by unfold maxLen; omega) (by omega) hbase
  unfold Oper.wp execOp
  simp only [ho, resolve, invoke, builtin, Sem.run_bind, Sem.run_pure, Result.andThen_ok, List.map_toArray, List.map_cons, List.map_nil, hs, hx, hr]
  exact h v' w' (show w'.ownsRow base 3 1 v' (acc ++ [y]).length (icells (ints (acc ++ [y]))) by
    rw [show icells (ints (acc ++ [y])) = icells (ints acc) ++ [.int .i64 (y : Int)] by simp [icells, ints], List.length_append]; exact h2) h3 h5
/-- the table in block g, the box of the table behind it, the rows behind both -/
structure RR (w : World) (g n : Nat) (P : Nat → List Nat) : Prop where
  sz : g + 2 ≤ w.heap.size
  box : w.cell? ⟨g + 1, 0, none⟩ = some (.slice (some ⟨g, 0, none⟩) n n)
  tab : ∃ V : List Value, w.ownsRow g 23 1 (.slice (some ⟨g, 0, none⟩) n n) n V ∧ (∀ b, b < n → ∃ v, V[b]? = some v ∧ w.ownsRow (g + 2) 3 1 v (P b).length (icells (ints (P b)))) ∧
    ∀ (b c : Nat) (v u : Value) (j : Nat), b ≠ c → V[b]? = some v → V[c]? = some u → v.ownBlock = some j → u.ownBlock ≠ some j
theorem RR.keep {w w' : World} {g n : Nat} {P : Nat → List Nat} (R : RR w g n P) (hb : Below w.heap.size w w') : RR w' g n P := by
  obtain ⟨V, h1, h2, h3⟩ := R.tab
  have hs := R.sz
  exact ⟨Nat.le_trans hs hb.size, by rw [hb.cell (show g + 1 < w.heap.size by omega)]; exact R.box, V, own_below h1 hb, fun b hbn => by
    obtain ⟨v, e1, e2⟩ := h2 b hbn
    exact ⟨v, e1, own_below e2 hb⟩, h3⟩
theorem RR.at_ {w : World} {g n : Nat} {P : Nat → List Nat} (R : RR w g n P) {m : Nat} (hm : m < n) :
    ∃ A c, w.cell? ⟨g, m, none⟩ = some (.slice A (P m).length c) ∧ w.frozen? ⟨g, m, none⟩ = false ∧ w.ownsRow (g + 2) 3 1 (.slice A (P m).length c) (P m).length (icells (ints (P m))) := by
  obtain ⟨V, h1, h2, h3⟩ := R.tab
  obtain ⟨v, e1, e2⟩ := h2 m hm
  obtain ⟨A, c, rfl⟩ := own_vis e2
  refine ⟨A, c, ?_, World.ownsRow.frozenAt h1 m, e2⟩
  rw [World.ownsRow.cellAt h1 m (by omega)]
  exact e1
theorem row_last {w : World} {B : Nat} {A : Option Addr} {c : Nat} {xs : List Nat} (h : w.ownsRow B 3 1 (.slice A xs.length c) xs.length (icells (ints xs))) (h0 : 0 < xs.length) :
    ∃ b x, A = some ⟨b, 0, none⟩ ∧ xs.getLast? = some x ∧ w.cell? ⟨b, xs.length - 1, none⟩ = some (.int .i64 (x : Int)) := by
  rcases h.2 with ⟨hv, h1⟩ | ⟨b, cap, cur, hv, _⟩
  · have hv := hv; injection hv with _ h2 _; omega
  · injection hv with e1 e2 e3
    subst e1
    refine ⟨b, _, rfl, by rw [List.getLast?_eq_getElem?]; exact List.getElem?_eq_getElem (by omega), ?_⟩
    rw [World.ownsRow.cellAt h (xs.length - 1) (by simp; omega)]
    simp [icells, ints, List.getElem?_eq_getElem (show xs.length - 1 < xs.length by omega)]
theorem RR.app {w w1 w5 : World} {g n m x : Nat} {P : Nat → List Nat} {A : Option Addr} {c : Nat} {v5 : Value} (R : RR w g n P) (hm : m < n) (hb : Below w.heap.size w w1) (hc : w.cell? ⟨g, m, none⟩ = some (.slice A (P m).length c))
    (h5 : w5.ownsRow (g + 2) 3 1 v5 (P m ++ [x]).length (icells (ints (P m ++ [x])))) (hg : w1.grownBy w5 (Value.slice A (P m).length c).ownBlock) (hd : v5.ownBlock = (Value.slice A (P m).length c).ownBlock ∨ v5.ownBlock = some w1.heap.size) :
    RR (w5.setCell ⟨g, m, none⟩ v5) g n (fun b => if b = m then P m ++ [x] else P b) := by
  obtain ⟨V, h1, h2, h3⟩ := R.tab
  have hs := R.sz
  have hV : V[m]? = some (.slice A (P m).length c) := by
    rw [World.ownsRow.cellAt h1 m (by omega)] at hc; exact hc
  obtain ⟨v0, e0, o0⟩ := h2 m hm
  rw [hV] at e0
  obtain rfl := Option.some.inj e0
  have hbl : ∀ j, (Value.slice A (P m).length c).ownBlock = some j → g + 2 ≤ j ∧ j < w.heap.size := fun j hj => World.ownsRow.lt o0 j hj
  have hml : m < V.length := by
    rcases Nat.lt_or_ge m V.length with h | h
    · exact h
    · rw [List.getElem?_eq_none h] at hV; cases hV
  have ho1 : w5.ownsRow g 23 1 (.slice (some ⟨g, 0, none⟩) n n) n V := by
    refine World.ownsRow.kept (own_below h1 hb) hg (Or.inr ?_)
    intro e
    have := hbl g e.symm
    omega
  have hst := (World.ownsRow.stored ho1 m v5).1
  have hbox : (w5.setCell ⟨g, m, none⟩ v5).cell? ⟨g + 1, 0, none⟩ = some (.slice (some ⟨g, 0, none⟩) n n) := by
    rw [World.cell?_of_block (w := w5) (Below.heap_setCell _ _ _ _ (by show g + 1 ≠ g; omega))]
    refine World.grownBy.cell hg (by rw [hb.cell (show g + 1 < w.heap.size by omega)]; exact R.box) ?_
    intro e
    have := hbl (g + 1) e.symm
    omega
  refine ⟨by simp [World.setCell]; exact Nat.le_trans (Nat.le_trans hs hb.size) hg.size, hbox, _, hst, ?_, ?_⟩
  · intro b hbn
    by_cases hbm : b = m
    · subst hbm
      refine ⟨v5, List.getElem?_set_self hml, ?_⟩
      rw [if_pos rfl]
      exact ownsRow_setCell_below h5 (by show g < g + 2; omega) _
    · obtain ⟨v, e1, e2⟩ := h2 b hbn
      refine ⟨v, by rw [List.getElem?_set_ne (Ne.symm hbm)]; exact e1, ?_⟩
      rw [if_neg hbm]
      refine ownsRow_setCell_below (World.ownsRow.kept (own_below e2 hb) hg ?_) (by show g < g + 2; omega) _
      rcases hvb : v.ownBlock with _ | j
      · exact Or.inl rfl
      · right
        intro e
        exact h3 b m v _ j hbm e1 hV hvb e.symm
  · intro b d v u j hne hvb hud hvj huj
    by_cases hbm : m = b
    · subst hbm
      rw [List.getElem?_set_self hml] at hvb
      obtain rfl := Option.some.inj hvb
      rw [List.getElem?_set_ne hne] at hud
      have hdn : d < n := by
        have := h1.1
        rcases Nat.lt_or_ge d V.length with h | h
        · simp at this; omega
        · rw [List.getElem?_eq_none h] at hud; cases hud
      obtain ⟨u', f1, f2⟩ := h2 d hdn
      rw [hud] at f1
      obtain rfl := Option.some.inj f1
      have hju := World.ownsRow.lt f2 j huj
      rcases hd with hd | hd
      · rw [hvj] at hd
        exact h3 m d _ u j hne hV hud hd.symm huj
      · rw [hvj] at hd
        have := Option.some.inj hd
        have := hb.size
        omega
    · rw [List.getElem?_set_ne hbm] at hvb
      by_cases hdm : m = d
      · subst hdm
        rw [List.getElem?_set_self hml] at hud
        obtain rfl := Option.some.inj hud
        have hbn : b < n := by
          have := h1.1
          rcases Nat.lt_or_ge b V.length with h | h
          · simp at this; omega
          · rw [List.getElem?_eq_none h] at hvb; cases hvb
        obtain ⟨u', f1, f2⟩ := h2 b hbn
        rw [hvb] at f1
        obtain rfl := Option.some.inj f1
        have hju := World.ownsRow.lt f2 j hvj
        rcases hd with hd | hd
        · rw [huj] at hd
          exact h3 b m _ _ j hne hvb hV hvj hd.symm
        · rw [huj] at hd
          have := Option.some.inj hd
          have := hb.size
          omega
      · rw [List.getElem?_set_ne hdm] at hud
        exact h3 b d v u j hne hvb hud hvj huj
theorem rr_congr {w : World} {g n : Nat} {P P' : Nat → List Nat} (R : RR w g n P) (h : ∀ b, P b = P' b) : RR w g n P' := by
  rw [← funext h]; exact R
theorem preJ_visit {gs : Gr} {n j m : Nat} (hx : (suc gs n)[j]? = some (m : Int)) :
    ((preJ gs n j m).getLast? = some n → ∀ b, preJ gs n j b = preJ gs n (j + 1) b) ∧ ((preJ gs n j m).getLast? ≠ some n → ∀ b, (if b = m then preJ gs n j m ++ [n] else preJ gs n j b) = preJ gs n (j + 1) b) := by
  have hj : j < (suc gs n).length := by
    rcases Nat.lt_or_ge j (suc gs n).length with h | h
    · exact h
    · rw [List.getElem?_eq_none h] at hx; cases hx
  rw [List.getElem?_eq_getElem hj] at hx
  have hx := Option.some.inj hx
  constructor
  · intro h b
    refine (preJ_same hj ?_).symm
    by_cases hb : b = m
    · subst hb; exact Or.inr (preJ_last.1 h)
    · left; rw [hx]; omega
  · intro h b
    by_cases hb : b = m
    · subst hb
      rw [if_pos rfl]
      exact (preJ_new hj hx.symm (fun h' => h (preJ_last.2 h'))).symm
    · rw [if_neg hb]
      exact (preJ_same hj (Or.inl (by rw [hx]; omega))).symm
theorem preJ_skip {gs : Gr} {n j : Nat} {x : Int} (hx : (suc gs n)[j]? = some x) (b : Nat) (h : x ≠ (b : Int)) : preJ gs n j b = preJ gs n (j + 1) b := by
  have hj : j < (suc gs n).length := by
    rcases Nat.lt_or_ge j (suc gs n).length with h | h
    · exact h
    · rw [List.getElem?_eq_none h] at hx; cases hx
  rw [List.getElem?_eq_getElem hj] at hx
  have hx := Option.some.inj hx
  exact (preJ_same hj (Or.inl (by rw [hx]; exact fun e => h e.symm))).symm
theorem RR.facts {W w5 : World} {g k m x : Nat} {P : Nat → List Nat} {r : Option Nat} (R : RR W g k P) (hm : m < k) (hg : (W.drew.alloc (.cells #[.int .i64 (x : Int)] 3)).grownBy w5 r) (hr : ∀ j, r = some j → g + 2 ≤ j ∧ j < W.heap.size) :
    w5.cell? ⟨g + 1, 0, none⟩ = some (.slice (some ⟨g, 0, none⟩) k k) ∧ (∃ A c, w5.cell? ⟨g, m, none⟩ = some (.slice A (P m).length c)) ∧ w5.frozen? ⟨g, m, none⟩ = false ∧ w5.frozen? ⟨g + 1, 0, none⟩ = W.frozen? ⟨g + 1, 0, none⟩ := by
  have hs := R.sz
  have hb : Below W.heap.size W (W.drew.alloc (.cells #[.int .i64 (x : Int)] 3)) := (drewB W).alloc (Nat.le_refl _) _
  have hk : ∀ i, i < g + 2 → w5.heap[i]? = W.heap[i]? := fun i hi => by
    rw [hg.block i (by have := hb.size; omega) (fun e => by have := hr i e.symm; omega)]
    exact hb.block i (by omega)
  obtain ⟨A, c, h1, h2, _⟩ := R.at_ hm
  exact ⟨by rw [World.cell?_of_block (w := W) (hk (g + 1) (by omega))]; exact R.box, ⟨A, c, by rw [World.cell?_of_block (w := W) (hk g (by omega))]; exact h1⟩, by rw [World.frozen?_of_block (w := W) (hk g (by omega))]; exact h2, World.frozen?_of_block (w := W) (hk (g + 1) (by omega))⟩
theorem RR.bel {W w5 : World} {g k m x : Nat} {P : Nat → List Nat} {r : Option Nat} {v5 : Value} (R : RR W g k P) (hm : m < k) (hg : (W.drew.alloc (.cells #[.int .i64 (x : Int)] 3)).grownBy w5 r) (hr : ∀ j, r = some j → g + 2 ≤ j ∧ j < W.heap.size) :
    Below g W (w5.setCell ⟨g, m, none⟩ v5) := by
  have hs := R.sz
  have hb : Below W.heap.size W (W.drew.alloc (.cells #[.int .i64 (x : Int)] 3)) := (drewB W).alloc (Nat.le_refl _) _
  exact ((hb.mono (show g ≤ W.heap.size by omega)).grown hg (by have := hb.size; omega) (fun j hj => by have := hr j hj; omega)).setCell (by show g ≤ g; omega) _
set_option maxRecDepth 100000 in
set_option maxHeartbeats 4000000 in
theorem rvisit_any (g k n m : Nat) (P : Nat → List Nat) (W : World) (R : RR W g k P) (hm : m < k) (hn : n ≤ 1000) (hl : (P m).length ≤ 1000) :
    Calls Try.prog 34 #[.int .i64 (n : Int), .int .i64 (m : Int), .pointer (some ⟨g + 1, 0, none⟩)] W fun e w' => e = .returned (.tuple #[]) ∧
      (((P m).getLast? = some n ∧ RR w' g k P) ∨ ((P m).getLast? ≠ some n ∧ RR w' g k (fun b => if b = m then P m ++ [n] else P b))) ∧ Below g W w' := by
  have HR := Lib.hid R
  have hbx := R.box
  have hbx2 : ∀ o, (W.alloc o).cell? ⟨g + 1, 0, none⟩ = some (.slice (some ⟨g, 0, none⟩) k k) := fun o => by
    rw [((Below.refl _ _).alloc (Nat.le_refl W.heap.size) o).cell (show g + 1 < W.heap.size by have := R.sz; omega)]; exact R.box
  obtain ⟨A, c, hc, hf, ho⟩ := R.at_ hm
  have HC := Lib.hid hc
  have HO := Lib.hid ho
  have HM := Lib.hid hm
  have hm0 : (0 : Int) ≤ (m : Int) := by omega
  have hm1 : (m : Int) < (k : Int) := by omega
  clear R
  by_cases h0 : (P m).length = 0
  · have hP : P m = [] := List.eq_nil_of_length_eq_zero h0
    have HL : Hid ((P m).getLast? ≠ some n) := Lib.hid (by rw [hP]; simp)
    have e0 : (Value.slice A (P m).length c) = .slice A 0 c := by rw [h0]
    have HE := Lib.hid e0
    have HV : Hid (W.ownsRow (g + 2) 3 1 (.slice A 0 c) (P m).length (icells (ints (P m)))) := Lib.hid (by rw [← e0]; exact ho)
    have HBl : Hid (∀ j, (Value.slice A 0 c).ownBlock = some j → g + 2 ≤ j ∧ j < W.heap.size) := Lib.hid (fun j hj => World.ownsRow.lt HV.out j hj)
    rw [h0] at hc
    clear ho hm e0
    go_enter Try.func34, Try.ntmps34
    go_wp2_with fail
    go_region_law (first | (refine step_append_int rfl (.tmp 25) (.tmp 27) rfl (g + 2) (.slice A 0 c) (P m) n rfl (own_below HV.out ((drewB W).alloc (Nat.le_refl _) _)) W.heap.size rfl ((MapKept.heap_alloc _ _).1) hl (by have := HR.out.sz; simp; omega) ?_; intro v5 w5 HO5 hg5 hd5; obtain ⟨A5, c5, hv5⟩ := own_vis HO5.out; obtain ⟨l5, hl5⟩ : ∃ l, (P m ++ [n]).length = l := ⟨_, rfl⟩; rw [hl5] at hv5; clear hl5; subst hv5; obtain ⟨g1, ⟨A8, c8, g2⟩, g3, g4⟩ := HR.out.facts HM.out hg5 HBl.out))
    all_goals
      have HR5 := Lib.hid (HR.out.app (x := n) HM.out ((drewB W).alloc (Nat.le_refl _) _) HC.out HO5.out (by rw [HE.out]; exact hg5) (by rw [HE.out]; exact hd5))
      have HB5 := Lib.hid (HR.out.bel HM.out hg5 HBl.out (v5 := .slice A5 l5 c5))
      clear HO5 hg5 hd5 g1 g2 g3 g4 hbx hc
      go_wp2_with fail
      go_end0
      exact ⟨rfl, Or.inr ⟨HL.out, HR5.out⟩, HB5.out⟩
  · obtain ⟨b9, x, rfl, hx, hcx⟩ := row_last ho (by omega)
    have HX := Lib.hid hx
    obtain ⟨l, hl9⟩ : ∃ l, (P m).length = l := ⟨_, rfl⟩
    have hl0 : 0 < l := by omega
    have hl1 : l ≤ 1000 := by omega
    have hc9 := hc
    rw [hl9] at hc9 hcx
    have hw : IntKind.i64.wrap ((l : Int) - 1) = ((l - 1 : Nat) : Int) := by rw [IntWalk.i64_in _ (by omega)]; omega
    have hw2 : ((l : Int) - 1) = ((l - 1 : Nat) : Int) := by omega
    have hz : ¬ (l : Int) = 0 := by omega
    have hlast : (l - 1 : Nat) < l := by omega
    by_cases hxn : x = n
    · subst hxn
      have HE1 : Hid ((P m).getLast? = some x) := HX
      have q1 : ((x : Int) != (x : Int)) = false := by simp
      have q2 : ((l : Int) == 0) = false := beq_eq_false_iff_ne.2 (by omega)
      clear ho hm hl hx hc
      go_enter Try.func34, Try.ntmps34
      go_wp2_with fail
      go_end0
      exact ⟨rfl, Or.inl ⟨HE1.out, HR.out⟩, Below.refl _ _⟩
    · have HL : Hid ((P m).getLast? ≠ some n) := Lib.hid (by rw [HX.out]; intro e; exact hxn (Option.some.inj e))
      have q1 : ((x : Int) != (n : Int)) = true := bne_iff_ne.2 (by omega)
      have q2 : ((l : Int) == 0) = false := beq_eq_false_iff_ne.2 (by omega)
      have e0 : (Value.slice (some ⟨b9, 0, none⟩) (P m).length c) = .slice (some ⟨b9, 0, none⟩) l c := by rw [hl9]
      have HE := Lib.hid e0
      have HV : Hid (W.ownsRow (g + 2) 3 1 (.slice (some ⟨b9, 0, none⟩) l c) (P m).length (icells (ints (P m)))) := Lib.hid (by rw [← e0]; exact ho)
      have HBl : Hid (∀ j, (Value.slice (some ⟨b9, 0, none⟩) l c).ownBlock = some j → g + 2 ≤ j ∧ j < W.heap.size) := Lib.hid (fun j hj => World.ownsRow.lt HV.out j hj)
      clear ho hm hx hc hxn e0
      go_enter Try.func34, Try.ntmps34
      go_wp2_with fail
      go_region_law (first | (refine step_append_int rfl (.tmp 25) (.tmp 27) rfl (g + 2) (.slice (some ⟨b9, 0, none⟩) l c) (P m) n rfl (own_below HV.out ((drewB W).alloc (Nat.le_refl _) _)) W.heap.size rfl ((MapKept.heap_alloc _ _).1) hl (by have := HR.out.sz; simp; omega) ?_; intro v5 w5 HO5 hg5 hd5; obtain ⟨A5, c5, hv5⟩ := own_vis HO5.out; obtain ⟨l5, hl5⟩ : ∃ l, (P m ++ [n]).length = l := ⟨_, rfl⟩; rw [hl5] at hv5; clear hl5; subst hv5; obtain ⟨g1, ⟨A8, c8, g2⟩, g3, g4⟩ := HR.out.facts HM.out hg5 HBl.out))
      all_goals
        have HR5 := Lib.hid (HR.out.app (x := n) HM.out ((drewB W).alloc (Nat.le_refl _) _) HC.out HO5.out (by rw [HE.out]; exact hg5) (by rw [HE.out]; exact hd5))
        have HB5 := Lib.hid (HR.out.bel HM.out hg5 HBl.out (v5 := .slice A5 l5 c5))
        clear HO5 hg5 hd5 g1 g2 g3 g4 hbx hc9
        go_wp2_with fail
        go_end0
        exact ⟨rfl, Or.inr ⟨HL.out, HR5.out⟩, HB5.out⟩
/-- the slice at A reads as the graph gs, in blocks from lo on -/
structure RGa (w : World) (lo : Nat) (A : Option Addr) (gs : Gr) : Prop where
  at_ : ∀ k (h : k < gs.length), ∃ ad A1 c1, A = some ad ∧ (lo ≤ ad.block ∧ ad.block < w.heap.size) ∧ w.cell? (ad.add k) = some (.slice A1 gs[k].length c1) ∧
    ∀ j (h2 : j < gs[k].length), ∃ a1, A1 = some a1 ∧ (lo ≤ a1.block ∧ a1.block < w.heap.size) ∧ w.cell? (a1.add j) = some (.int .i64 gs[k][j])
theorem RGa.rg {w : World} {lo : Nat} {A : Option Addr} {gs : Gr} (h : RGa w lo A gs) : RG w w.heap.size A gs :=
  ⟨fun k hk => by
    obtain ⟨ad, A1, c1, e, hb, hc, hr⟩ := h.at_ k hk
    exact ⟨ad, A1, c1, e, hb.2, hc, ⟨fun j hj => by
      obtain ⟨a1, e1, hb1, hc1⟩ := hr j hj
      exact ⟨a1, e1, hb1.2, hc1⟩⟩⟩⟩
theorem RGa.grown {w w' : World} {lo g : Nat} {A : Option Addr} {gs : Gr} (h : RGa w lo A gs) (hg : w.grownBy w' (some g)) (hlt : g < lo) : RGa w' lo A gs :=
  ⟨fun k hk => by
    obtain ⟨ad, A1, c1, e, hb, hc, hr⟩ := h.at_ k hk
    have hs := hg.size
    have hk : ∀ b, lo ≤ b → b < w.heap.size → w'.heap[b]? = w.heap[b]? := fun b h1 h2 => hg.block b h2 (by intro e; have := Option.some.inj e; omega)
    refine ⟨ad, A1, c1, e, ⟨hb.1, by omega⟩, by rw [World.cell?_of_block (w := w) (by rw [block_of_add]; exact hk _ hb.1 hb.2)]; exact hc, fun j hj => ?_⟩
    obtain ⟨a1, e1, hb1, hc1⟩ := hr j hj
    exact ⟨a1, e1, ⟨hb1.1, by omega⟩, by rw [World.cell?_of_block (w := w) (by rw [block_of_add]; exact hk _ hb1.1 hb1.2)]; exact hc1⟩⟩
theorem RGa.keep {w w' : World} {lo : Nat} {A : Option Addr} {gs : Gr} (h : RGa w lo A gs) (hb : Below w.heap.size w w') : RGa w' lo A gs :=
  ⟨fun k hk => by
    obtain ⟨ad, A1, c1, e, hbk, hc, hr⟩ := h.at_ k hk
    have hs := hb.size
    refine ⟨ad, A1, c1, e, ⟨hbk.1, by omega⟩, by rw [hb.cell (by rw [block_of_add]; exact hbk.2)]; exact hc, fun j hj => ?_⟩
    obtain ⟨a1, e1, hb1, hc1⟩ := hr j hj
    exact ⟨a1, e1, ⟨hb1.1, by omega⟩, by rw [hb.cell (by rw [block_of_add]; exact hb1.2)]; exact hc1⟩⟩
/-- a graph that a call gives -/
def GivesG (gs : Gr) (w : World) : Ending → World → Prop := fun e w' => ∃ A c, e = .returned (.slice A gs.length c) ∧ RGa w' w.heap.size A gs ∧ Below w.heap.size w w'
theorem row_at {w : World} {B : Nat} {A : Option Addr} {c : Nat} {xs : List Nat} (h : w.ownsRow B 3 1 (.slice A xs.length c) xs.length (icells (ints xs))) (j : Nat) (hj : j < (ints xs).length) :
    ∃ a1, A = some a1 ∧ (B ≤ a1.block ∧ a1.block < w.heap.size) ∧ w.cell? (a1.add j) = some (.int .i64 (ints xs)[j]) := by
  have hj' : j < xs.length := by rw [ints_len] at hj; exact hj
  rcases h.2 with ⟨hv, h1⟩ | ⟨g, cap, cur, hv, hbg, hg, r⟩
  · omega
  · injection hv with e1 e2 e3
    subst e1
    refine ⟨⟨g, 0, none⟩, rfl, ⟨hbg, (Array.getElem?_eq_some_iff.1 hg).1⟩, ?_⟩
    rw [show (⟨g, 0, none⟩ : Addr).add j = ⟨g, j, none⟩ by simp [Addr.add]; exact fun e => e.symm]
    rw [World.ownsRow.cellAt h j (by omega)]
    simp [icells, ints, List.getElem?_eq_getElem hj']
theorem rr_start (w : World) (n : Nat) (hn : n ≤ 1000) : RR ((w.alloc (.cells (madeCells #[.slice none 0 0] n) 23)).alloc (.cells #[.slice (some ⟨w.heap.size, 0, none⟩) n n] 22)) w.heap.size n (fun _ => []) := by
  have s1 : (w.alloc (.cells (madeCells #[.slice none 0 0] n) 23)).heap.size = w.heap.size + 1 := by simp
  have hb := (Below.refl (w.heap.size + 1) (w.alloc (.cells (madeCells #[.slice none 0 0] n) 23))).alloc (by simp) (.cells #[.slice (some ⟨w.heap.size, 0, none⟩) n n] 22)
  refine ⟨by simp, ?_, List.replicate n (.slice none 0 0), ?_, ?_, ?_⟩
  · have := (MapKept.heap_alloc (w.alloc (.cells (madeCells #[.slice none 0 0] n) 23)) (.cells #[.slice (some ⟨w.heap.size, 0, none⟩) n n] 22)).1
    rw [s1] at this
    rw [Lib.cell_of_heap this]; rfl
  · have h0 := World.ownsRow_lit (base := w.heap.size) (e := 23) (size := 1) w (madeCells #[.slice none 0 0] n) n (Nat.le_refl _) (by unfold maxLen; omega) (by simp [size_madeCells])
    rw [toList_madeCells_one] at h0
    refine own_below h0 ?_
    rw [s1]; exact hb
  · intro b hb
    exact ⟨.slice none 0 0, by simp [hb], World.ownsRow_nil _ _ _ _⟩
  · intro b c v u j hne hv hu hj
    rw [List.getElem?_replicate] at hv
    split at hv
    · obtain rfl := Option.some.inj hv
      simp [Value.ownBlock] at hj
    · cases hv
theorem RR.rg {w : World} {g : Nat} {gs : Gr} (R : RR w g gs.length (fun b => pre gs gs.length b)) : RGa w g (some ⟨g, 0, none⟩) (rev gs) :=
  ⟨fun k hk => by
    have hk' : k < gs.length := by rw [← rev_len gs]; exact hk
    obtain ⟨A, c, h1, _, h3⟩ := R.at_ hk'
    have hs := R.sz
    have e : (rev gs)[k] = ints (pre gs gs.length k) := by simp [rev, ints]
    refine ⟨⟨g, 0, none⟩, A, c, rfl, ⟨Nat.le_refl _, by show g < w.heap.size; omega⟩, ?_, ?_⟩
    · rw [show (⟨g, 0, none⟩ : Addr).add k = ⟨g, k, none⟩ by simp [Addr.add]; exact fun e => e.symm, h1, e, ints_len]
    · rw [e]
      intro j hj
      obtain ⟨a1, e1, hb1, hc1⟩ := row_at h3 j hj
      exact ⟨a1, e1, ⟨by omega, hb1.2⟩, hc1⟩⟩
theorem RR.congr_lt {w : World} {g n : Nat} {P P' : Nat → List Nat} (R : RR w g n P) (h : ∀ b, b < n → P b = P' b) : RR w g n P' := by
  obtain ⟨V, h1, h2, h3⟩ := R.tab
  exact ⟨R.sz, R.box, V, h1, fun b hb => by rw [← h b hb]; exact h2 b hb, h3⟩
theorem preJ_len (gs : Gr) (n j b : Nat) : (preJ gs n j b).length ≤ n + 1 := by
  unfold preJ
  have : (pre gs n b).length ≤ n := by unfold pre; exact Nat.le_trans (List.length_filter_le _ _) (by simp)
  rw [List.length_append]
  split <;> simp <;> omega
set_option maxRecDepth 100000 in
set_option maxHeartbeats 4000000 in
theorem preverse_any (A : Option Addr) (c : Nat) (gs : Gr) (w : World) (h : RG w w.heap.size A gs) (hl : gs.length ≤ 900) (hl2 : ∀ l ∈ gs, l.length ≤ 1000) :
    Calls Try.prog 18 #[.slice A gs.length c] w (GivesG (rev gs) w) := by
  have HR0 := Lib.hid (rr_start w gs.length (by omega))
  have HB0 := Lib.hid (((Below.refl w.heap.size w).alloc (Nat.le_refl _) (.cells (madeCells #[.slice none 0 0] gs.length) 23)).alloc (by simp) (.cells #[.slice (some ⟨w.heap.size, 0, none⟩) gs.length gs.length] 22))
  have HMK := Try.make22 gs.length (by omega) w
  have HE := Lib.hid (fun (W : World) (hB : Below w.heap.size w W) (hR : RR W w.heap.size gs.length (fun _ => [])) =>
    edges_34 (.pointer (some ⟨w.heap.size + 1, 0, none⟩)) (fun n j W' => n ≤ gs.length ∧ Below w.heap.size W W' ∧ RR W' w.heap.size gs.length (fun b => preJ gs n j b)) A c gs w.heap.size W (h.below hB) (by omega) hl2
      ⟨by omega, Below.refl _ _, rr_congr hR (fun b => rfl)⟩ (fun n j W' S => S.2.1)
      (fun n j W' W2 S hb => ⟨S.1, S.2.1.trans (hb.mono (by have := S.2.2.sz; omega)), S.2.2.keep hb⟩)
      (fun n W' hn S => ⟨hn, S.2.1, rr_congr S.2.2 (fun b => by rw [preJ_end (Nat.le_refl _), preJ_zero])⟩)
      (fun n j x W' hx hno S => ⟨S.1, S.2.1, S.2.2.congr_lt (fun b hb => preJ_skip hx b (fun e => hno b e hb))⟩)
      (fun n j m W' hn hx hm S => (rvisit_any w.heap.size gs.length n m _ W' S.2.2 hm (by omega) (by have := preJ_len gs n j m; omega)).mono (by
        rintro e w2 ⟨rfl, hc, hb⟩
        refine ⟨rfl, S.1, S.2.1.trans hb, ?_⟩
        rcases hc with ⟨h1, h2⟩ | ⟨h1, h2⟩
        · exact rr_congr h2 ((preJ_visit hx).1 h1)
        · exact rr_congr h2 ((preJ_visit hx).2 h1))))
  have HRG := Lib.hid (fun (W : World) (R : RR W w.heap.size gs.length (fun b => preJ gs gs.length 0 b)) => (rr_congr R (fun b => preJ_zero gs gs.length b)).rg)
  have HLN := Lib.hid (rev_len gs)
  clear h hl2
  generalize rev gs = rg at *
  obtain ⟨k, hk⟩ : ∃ k, gs.length = k := ⟨_, rfl⟩
  rw [hk] at hl HR0 HB0 HMK HE HRG HLN ⊢
  clear hk
  go_enter Try.func18, Try.ntmps18
  go_wp2_with fail
  refine (HE.out _ HB0.out HR0.out).mono ?_
  rintro e w2 ⟨rfl, _, hb2, hR2⟩
  have HR2 := Lib.hid hR2
  have HB2 := Lib.hid (HB0.out.trans hb2)
  have hbx := hR2.box
  clear hb2 hR2 HE HB0 HR0
  go_wp2_with fail
  go_ret
  exact ⟨some ⟨w.heap.size, 0, none⟩, k, by rw [HLN.out]; rfl, HRG.out _ HR2.out, HB2.out⟩
end Go.Proofs.Ythgfomjmkmkhkaa
