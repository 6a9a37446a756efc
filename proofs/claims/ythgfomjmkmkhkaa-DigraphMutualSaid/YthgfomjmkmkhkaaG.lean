/-
  Reverse of the specification. Conditions: the slice reads as a graph of at most 900 nodes with at most 1000 successors each.
-/
import Derived.Test.YthgfomjmkmkhkaaF
namespace Go.Proofs.Ythgfomjmkmkhkaa
open Go.RowKit
set_option linter.unusedSimpArgs false
set_option linter.unusedVariables false
/-- a table without a box: the table in block g, the rows behind it -/
structure RT (w : World) (g n : Nat) (P : Nat → List Nat) : Prop where
  sz : g + 1 ≤ w.heap.size
  tab : ∃ V : List Value, w.ownsRow g 23 1 (.slice (some ⟨g, 0, none⟩) n n) n V ∧ (∀ b, b < n → ∃ v, V[b]? = some v ∧ w.ownsRow (g + 1) 3 1 v (P b).length (icells (ints (P b)))) ∧
    ∀ (b c : Nat) (v u : Value) (j : Nat), b ≠ c → V[b]? = some v → V[c]? = some u → v.ownBlock = some j → u.ownBlock ≠ some j
theorem RT.keep {w w' : World} {g n : Nat} {P : Nat → List Nat} (R : RT w g n P) (hb : Below w.heap.size w w') : RT w' g n P := by
  obtain ⟨V, h1, h2, h3⟩ := R.tab
  have hs := R.sz
  exact ⟨Nat.le_trans hs hb.size, V, own_below h1 hb, fun b hbn => by
    obtain ⟨v, e1, e2⟩ := h2 b hbn
    exact ⟨v, e1, own_below e2 hb⟩, h3⟩
theorem RT.at_ {w : World} {g n : Nat} {P : Nat → List Nat} (R : RT w g n P) {m : Nat} (hm : m < n) :
    ∃ A c, w.cell? ⟨g, m, none⟩ = some (.slice A (P m).length c) ∧ w.frozen? ⟨g, m, none⟩ = false ∧ w.ownsRow (g + 1) 3 1 (.slice A (P m).length c) (P m).length (icells (ints (P m))) := by
  obtain ⟨V, h1, h2, h3⟩ := R.tab
  obtain ⟨v, e1, e2⟩ := h2 m hm
  obtain ⟨A, c, rfl⟩ := own_vis e2
  refine ⟨A, c, ?_, World.ownsRow.frozenAt h1 m, e2⟩
  rw [World.ownsRow.cellAt h1 m (by omega)]
  exact e1
theorem RT.app {w w1 w5 : World} {g n m x : Nat} {P : Nat → List Nat} {A : Option Addr} {c : Nat} {v5 : Value} (R : RT w g n P) (hm : m < n) (hb : Below w.heap.size w w1) (hc : w.cell? ⟨g, m, none⟩ = some (.slice A (P m).length c))
    (h5 : w5.ownsRow (g + 1) 3 1 v5 (P m ++ [x]).length (icells (ints (P m ++ [x])))) (hg : w1.grownBy w5 (Value.slice A (P m).length c).ownBlock) (hd : v5.ownBlock = (Value.slice A (P m).length c).ownBlock ∨ v5.ownBlock = some w1.heap.size) :
    RT (w5.setCell ⟨g, m, none⟩ v5) g n (fun b => if b = m then P m ++ [x] else P b) := by
  obtain ⟨V, h1, h2, h3⟩ := R.tab
  have hs := R.sz
  have hV : V[m]? = some (.slice A (P m).length c) := by
    rw [World.ownsRow.cellAt h1 m (by omega)] at hc; exact hc
  obtain ⟨v0, e0, o0⟩ := h2 m hm
  rw [hV] at e0
  obtain rfl := Option.some.inj e0
  have hbl : ∀ j, (Value.slice A (P m).length c).ownBlock = some j → g + 1 ≤ j ∧ j < w.heap.size := fun j hj => World.ownsRow.lt o0 j hj
  have hml : m < V.length := by
    rcases Nat.lt_or_ge m V.length with h | h
    · exact h
    · rw [List.getElem?_eq_none h] at hV; cases hV
  have ho1 : w5.ownsRow g 23 1 (.slice (some ⟨g, 0, none⟩) n n) n V := by
    refine World.ownsRow.kept (own_below h1 hb) hg (Or.inr ?_)
    intro e
    have := hbl g e.symm
    omega
  have hst := (World.ownsRow.stored ho1 m v5).1
  refine ⟨by simp [World.setCell]; exact Nat.le_trans (Nat.le_trans hs hb.size) hg.size, _, hst, ?_, ?_⟩
  · intro b hbn
    by_cases hbm : b = m
    · subst hbm
      refine ⟨v5, List.getElem?_set_self hml, ?_⟩
      rw [if_pos rfl]
      exact ownsRow_setCell_below h5 (by show g < g + 1; omega) _
    · obtain ⟨v, e1, e2⟩ := h2 b hbn
      refine ⟨v, by rw [List.getElem?_set_ne (Ne.symm hbm)]; exact e1, ?_⟩
      rw [if_neg hbm]
      refine ownsRow_setCell_below (World.ownsRow.kept (own_below e2 hb) hg ?_) (by show g < g + 1; omega) _
      rcases hvb : v.ownBlock with _ | j
      · exact Or.inl rfl
      · right
        intro e
        exact h3 b m v _ j hbm e1 hV hvb e.symm
  · intro b d v u j hne hvb hud hvj huj
    by_cases hbm : m = b
    · subst hbm
      rw [List.getElem?_set_self hml] at hvb
      obtain rfl := Option.some.inj hvb
      rw [List.getElem?_set_ne hne] at hud
      have hdn : d < n := by
        have := h1.1
        rcases Nat.lt_or_ge d V.length with h | h
        · simp at this; omega
        · rw [List.getElem?_eq_none h] at hud; cases hud
      obtain ⟨u', f1, f2⟩ := h2 d hdn
      rw [hud] at f1
      obtain rfl := Option.some.inj f1
      have hju := World.ownsRow.lt f2 j huj
      rcases hd with hd | hd
      · rw [hvj] at hd
        exact h3 m d _ u j hne hV hud hd.symm huj
      · rw [hvj] at hd
        have := Option.some.inj hd
        have := hb.size
        omega
    · rw [List.getElem?_set_ne hbm] at hvb
      by_cases hdm : m = d
      · subst hdm
        rw [List.getElem?_set_self hml] at hud
        obtain rfl := Option.some.inj hud
        have hbn : b < n := by
          have := h1.1
          rcases Nat.lt_or_ge b V.length with h | h
          · simp at this; omega
          · rw [List.getElem?_eq_none h] at hvb; cases hvb
        obtain ⟨u', f1, f2⟩ := h2 b hbn
        rw [hvb] at f1
        obtain rfl := Option.some.inj f1
        have hju := World.ownsRow.lt f2 j hvj
        rcases hd with hd | hd
        · rw [huj] at hd
          exact h3 b m _ _ j hne hvb hV hvj hd.symm
        · rw [huj] at hd
          have := Option.some.inj hd
          have := hb.size
          omega
      · rw [List.getElem?_set_ne hdm] at hud
        exact h3 b d v u j hne hvb hud hvj huj
theorem rt_start (w : World) (n : Nat) (hn : n ≤ 1000) : RT (w.alloc (.cells (madeCells #[.slice none 0 0] n) 23)) w.heap.size n (fun _ => []) := by
  refine ⟨by simp, List.replicate n (.slice none 0 0), ?_, ?_, ?_⟩
  · have h0 := World.ownsRow_lit (base := w.heap.size) (e := 23) (size := 1) w (madeCells #[.slice none 0 0] n) n (Nat.le_refl _) (by unfold maxLen; omega) (by simp [size_madeCells])
    rw [toList_madeCells_one] at h0
    exact h0
  · intro b hb
    exact ⟨.slice none 0 0, by simp [hb], World.ownsRow_nil _ _ _ _⟩
  · intro b c v u j hne hv hu hj
    rw [List.getElem?_replicate] at hv
    split at hv
    · obtain rfl := Option.some.inj hv
      simp [Value.ownBlock] at hj
    · cases hv
theorem RT.congr_lt {w : World} {g n : Nat} {P P' : Nat → List Nat} (R : RT w g n P) (h : ∀ b, b < n → P b = P' b) : RT w g n P' := by
  obtain ⟨V, h1, h2, h3⟩ := R.tab
  exact ⟨R.sz, V, h1, fun b hb => by rw [← h b hb]; exact h2 b hb, h3⟩
theorem RT.rg {w : World} {g : Nat} {gs : Gr} (R : RT w g gs.length (fun b => pre gs gs.length b)) : RGa w g (some ⟨g, 0, none⟩) (rev gs) :=
  ⟨fun k hk => by
    have hk' : k < gs.length := by rw [← rev_len gs]; exact hk
    obtain ⟨A, c, h1, _, h3⟩ := R.at_ hk'
    have hs := R.sz
    have e : (rev gs)[k] = ints (pre gs gs.length k) := by simp [rev, ints]
    refine ⟨⟨g, 0, none⟩, A, c, rfl, ⟨Nat.le_refl _, by show g < w.heap.size; omega⟩, ?_, ?_⟩
    · rw [show (⟨g, 0, none⟩ : Addr).add k = ⟨g, k, none⟩ by simp [Addr.add]; exact fun e => e.symm, h1, e, ints_len]
    · rw [e]
      intro j hj
      obtain ⟨a1, e1, hb1, hc1⟩ := row_at h3 j hj
      exact ⟨a1, e1, ⟨by omega, hb1.2⟩, hc1⟩⟩
theorem wpList_append_int_at {w : World} {ops : Array Oper} {rest : List Oper} {o : Oper} {a : Act} {Q : Exit → Act → World → Prop} (hgd : o.guard = none) (s x : Operand)
    (ho : o.op = .call { callee := .builtin .append, args := #[s, x], argTypes := #[23, 23] })
    (base : Nat) (v : Value) (acc : List Nat) (y : Nat) (hs : a.eval s = v) (hown : w.ownsRow base 3 1 v acc.length (icells (ints acc)))
    (g : Nat) (hx : a.eval x = .slice (some ⟨g, 0, none⟩) 1 1) (hb : w.heap[g]? = some (.cells #[.int .i64 (y : Int)] 3 (0, 0))) (hn : acc.length ≤ 1000) (hbase : base ≤ w.heap.size)
    (h : ∀ v' w', Hid (w'.ownsRow base 3 1 v' (acc ++ [y]).length (icells (ints (acc ++ [y])))) → w.grownBy w' v.ownBlock → (v'.ownBlock = v.ownBlock ∨ v'.ownBlock = some w.heap.size) → wpList Try.prog ops Q rest (a.put o.dst v') w') : wpList Try.prog ops Q (o :: rest) a w := by
  obtain ⟨i0, hi, hz0, hz1, hz2⟩ := info_parts Try.info3
  refine wpList_append_own_at w hgd s x 23 ho base 3 i0 (.int .i64 0) 1 8 Try.underlying23 hi hz0 hz1 hz2 rfl (by decide) v acc.length (icells (ints acc)) hs hown ⟨g, 0, none⟩ 1 1 [.int .i64 (y : Int)] hx rfl ?_ (by intro u hu; simp at hu; subst hu; rfl) (by unfold maxLen; omega) (by omega) hbase (fun v' w' h1 h2 _ h3 => h v' w' (show w'.ownsRow base 3 1 v' (acc ++ [y]).length (icells (ints (acc ++ [y]))) by
    rw [show icells (ints (acc ++ [y])) = icells (ints acc) ++ [.int .i64 (y : Int)] by simp [icells, ints], List.length_append]; exact h1) h2 h3)
  intro j u hj
  rw [show (⟨g, 0, none⟩ : Addr).add j = ⟨g, j, none⟩ by simp [Addr.add]; exact fun e => e.symm, Lib.cell_of_heap hb, ← Array.getElem?_toList]
  exact hj
/-- the rows while Reverse of the specification is at row b, source a -/
def preR (gs : Gr) (b a : Nat) : Nat → List Nat := fun k => if k < b then pre gs gs.length k else if k = b then pre gs a b else []
theorem preR_start (gs : Gr) (k : Nat) : preR gs 0 0 k = [] := by
  unfold preR
  rw [if_neg (by omega)]
  split <;> simp [pre_zero]
theorem preR_next (gs : Gr) (b k : Nat) : preR gs b gs.length k = preR gs (b + 1) 0 k := by
  unfold preR
  by_cases h1 : k < b
  · rw [if_pos h1, if_pos (by omega)]
  · rw [if_neg h1]
    by_cases h2 : k = b
    · subst h2; rw [if_pos rfl, if_pos (by omega)]
    · rw [if_neg h2, if_neg (by omega)]
      split <;> simp [pre_zero]
theorem preR_yes {gs : Gr} {b a : Nat} (h : (suc gs a).contains (b : Int) = true) (k : Nat) : (if k = b then preR gs b a b ++ [a] else preR gs b a k) = preR gs b (a + 1) k := by
  unfold preR
  by_cases h1 : k < b
  · rw [if_neg (by omega), if_pos h1, if_pos h1]
  · by_cases h2 : k = b
    · subst h2
      rw [if_pos rfl, if_neg h1, if_pos rfl, if_neg h1, if_pos rfl, pre_succ, h, if_pos rfl]
    · rw [if_neg h2, if_neg h1, if_neg h2, if_neg h1, if_neg h2]
theorem preR_no {gs : Gr} {b a : Nat} (h : (suc gs a).contains (b : Int) = false) (k : Nat) : preR gs b a k = preR gs b (a + 1) k := by
  unfold preR
  by_cases h1 : k < b
  · rw [if_pos h1, if_pos h1]
  · by_cases h2 : k = b
    · subst h2
      rw [if_neg h1, if_pos rfl, if_neg h1, if_pos rfl, pre_succ, h]; simp
    · rw [if_neg h1, if_neg h2, if_neg h1, if_neg h2]
theorem preR_end (gs : Gr) (k : Nat) (hk : k < gs.length) : preR gs gs.length 0 k = pre gs gs.length k := by
  unfold preR; rw [if_pos hk]
theorem preR_len (gs : Gr) (b a k : Nat) (ha : a ≤ gs.length) : (preR gs b a k).length ≤ gs.length := by
  unfold preR
  have hp : ∀ m k, (pre gs m k).length ≤ m := fun m k => by unfold pre; exact Nat.le_trans (List.length_filter_le _ _) (by simp)
  split
  · exact hp _ _
  · split
    · exact Nat.le_trans (hp _ _) ha
    · simp
theorem RT.set {w w1 w5 : World} {gs : Gr} {b a : Nat} {g l : Nat} {A : Option Addr} {c : Nat} {v5 : Value} (R : RT w g gs.length (preR gs b a)) (hm : b < gs.length) (hb : Below w.heap.size w w1) (hc : w.cell? ⟨g, b, none⟩ = some (.slice A l c)) (hll : (preR gs b a b).length = l) (hcn : (suc gs a).contains (b : Int) = true)
    (h5 : w5.ownsRow (g + 1) 3 1 v5 (preR gs b a b ++ [a]).length (icells (ints (preR gs b a b ++ [a])))) (hg : w1.grownBy w5 (Value.slice A l c).ownBlock) (hd : v5.ownBlock = (Value.slice A l c).ownBlock ∨ v5.ownBlock = some w1.heap.size) :
    RT (w5.setCell ⟨g, b, none⟩ v5) g gs.length (preR gs b (a + 1)) := by
  subst hll
  have := R.app hm hb hc h5 hg hd
  exact this.congr_lt (fun k _ => preR_yes hcn k)
theorem RT.row {w : World} {g n : Nat} {P : Nat → List Nat} (R : RT w g n P) {m : Nat} (hm : m < n) :
    ∃ A l c, (P m).length = l ∧ w.cell? ⟨g, m, none⟩ = some (.slice A l c) ∧ w.frozen? ⟨g, m, none⟩ = false ∧ w.ownsRow (g + 1) 3 1 (.slice A l c) (P m).length (icells (ints (P m))) ∧ ∀ j, (Value.slice A l c).ownBlock = some j → g + 1 ≤ j ∧ j < w.heap.size := by
  obtain ⟨A, c, h1, h2, h3⟩ := R.at_ hm
  exact ⟨A, _, c, rfl, h1, h2, h3, fun j hj => World.ownsRow.lt h3 j hj⟩
theorem RT.facts {w w1 w5 : World} {g k m l : Nat} {P : Nat → List Nat} {A : Option Addr} {c : Nat} (R : RT w g k P) (hc : w.cell? ⟨g, m, none⟩ = some (.slice A l c)) (hf : w.frozen? ⟨g, m, none⟩ = false) (hb : Below w.heap.size w w1) (hg : w1.grownBy w5 (Value.slice A l c).ownBlock) (hr : ∀ j, (Value.slice A l c).ownBlock = some j → g + 1 ≤ j ∧ j < w.heap.size) :
    w5.cell? ⟨g, m, none⟩ = some (.slice A l c) ∧ w5.frozen? ⟨g, m, none⟩ = false ∧ ∀ u, Below g w (w5.setCell ⟨g, m, none⟩ u) := by
  have hs := R.sz
  have hk : w5.heap[g]? = w.heap[g]? := by
    rw [hg.block g (by have := hb.size; omega) (fun e => by have := hr g e.symm; omega)]
    exact hb.block g (by omega)
  exact ⟨by rw [World.cell?_of_block (w := w) hk]; exact hc, by rw [World.frozen?_of_block (w := w) hk]; exact hf, fun u => ((hb.mono (show g ≤ w.heap.size by omega)).grown hg (by have := hb.size; omega) (fun j hj => by have := hr j hj; omega)).setCell (by show g ≤ g; omega) _⟩
set_option maxRecDepth 100000 in
set_option maxHeartbeats 4000000 in
theorem rreverse_any (A : Option Addr) (c : Nat) (gs : Gr) (w : World) (h : RG w w.heap.size A gs) (hl : gs.length ≤ 900) (hl2 : ∀ l ∈ gs, l.length ≤ 1000) :
    Calls Try.prog 19 #[.slice A gs.length c] w (GivesG (rev gs) w) := by
  have HR0 := Lib.hid (rt_start w gs.length (by omega))
  have HB0 := Lib.hid ((Below.refl w.heap.size w).alloc (Nat.le_refl _) (.cells (madeCells #[.slice none 0 0] gs.length) 23))
  have HMK := Try.make22 gs.length (by omega) w
  have HE : Hid (∀ (a : Nat) (b : Int) (W : World), a < gs.length → Below w.heap.size w W → Calls Try.prog 35 #[.slice A gs.length c, .int .i64 (a : Int), .int .i64 b] W fun e w' => e = .returned (.bool ((suc gs a).contains b)) ∧ Below W.heap.size W w') := Lib.hid fun a b W ha hb => by
    have := edge_any A c gs a b W (h.up hb) ha (by omega) (hl2 _ (List.getElem_mem ha))
    unfold suc
    rw [List.getElem?_eq_getElem ha]
    exact this
  have HRG := Lib.hid (fun (W : World) (R : RT W w.heap.size gs.length (preR gs gs.length 0)) => (R.congr_lt (fun b hb => preR_end gs b hb)).rg)
  have HST := Lib.hid (fun (W : World) (R : RT W w.heap.size gs.length (fun _ => [])) => (R.congr_lt (fun b hb => (preR_start gs b).symm)))
  have HNX := Lib.hid (fun (W : World) (b : Nat) (R : RT W w.heap.size gs.length (preR gs b gs.length)) => (R.congr_lt (fun k hb => preR_next gs b k)))
  have HSET := Lib.hid (fun (W W1 W5 : World) (b a l : Nat) (A : Option Addr) (c : Nat) (v5 : Value) (R : RT W w.heap.size gs.length (preR gs b a)) (hm : b < gs.length) => RT.set (w1 := W1) (w5 := W5) (A := A) (l := l) (c := c) (v5 := v5) R hm)
  have HPL := Lib.hid (fun b a k (h : a ≤ gs.length) => preR_len gs b a k h)
  have HLN := Lib.hid (rev_len gs)
  clear h hl2
  generalize rev gs = rg at *
  obtain ⟨k, hk⟩ : ∃ k, gs.length = k := ⟨_, rfl⟩
  rw [hk] at hl HR0 HB0 HMK HE HRG HLN HST HNX HSET HPL ⊢
  clear hk
  go_enter Try.func19, Try.ntmps19
  go_wp2_with fail
  generalize w.alloc (.cells (madeCells #[.slice none 0 0] k) 23) = w0 at *
  go_loopw [4, 5] (fun s4 _ wr => ∃ (b : Nat), s4 = .int .i64 (b : Int) ∧ b ≤ k ∧ Hid (RT wr w.heap.size k (preR gs b 0)) ∧ Hid (Below w.heap.size w wr)) (fun s4 _ _ => (k - intOf s4).toNat)
  case atStart => exact ⟨0, rfl, by omega, Lib.hid (HST.out _ HR0.out), HB0⟩
  case round =>
    obtain ⟨b, rfl, hb, HR, HB⟩ := hrel
    by_cases hlt : b < k
    · have hki : (b : Int) < (k : Int) := by omega
      have hk0 : (0 : Int) ≤ (b : Int) := by omega
      have HBK := Lib.hid (show b + 1 ≤ k by omega)
      have HBL := Lib.hid hlt
      clear hlt HR0 HB0 HST
      go_wp2_with fail
      go_loopw [5] (fun s5 wr => ∃ (a : Nat), s5 = .int .i64 (a : Int) ∧ a ≤ k ∧ Hid (RT wr w.heap.size k (preR gs b a)) ∧ Hid (Below w.heap.size w wr)) (fun s5 _ => (k - intOf s5).toNat)
      case atStart => exact ⟨0, rfl, by omega, HR, HB⟩
      case round =>
        clear HR HB
        obtain ⟨a, rfl, ha, HR, HB⟩ := hrel
        by_cases hlt : a < k
        · have hai : (a : Int) < (k : Int) := by omega
          have ha0 : (0 : Int) ≤ (a : Int) := by omega
          have HAK := Lib.hid (show a + 1 ≤ k by omega)
          have CE := Lib.hid (HE.out a (b : Int) wr hlt HB.out)
          have HSA := Lib.hid (fun W W1 W5 l A c v5 R hm => HSET.out W W1 W5 b a l A c v5 R hm)
          have HSN := Lib.hid (fun (h : (suc gs a).contains (b : Int) = false) k => preR_no (b := b) h k)
          have HPB := Lib.hid (HPL.out b a b ha)
          obtain ⟨E, hE⟩ : ∃ E, (suc gs a).contains (b : Int) = E := ⟨_, rfl⟩
          rw [hE] at CE
          have HEE := Lib.hid hE
          clear hE hlt
          go_wp2_with fail
          refine CE.out.mono ?_
          rintro e w2 ⟨rfl, hb2⟩
          have HR2 := Lib.hid (HR.out.keep hb2)
          have HB2 := Lib.hid (HB.out.trans (hb2.mono HB.out.size))
          clear hb2 CE HR HB
          cases E with
          | false =>
            have HR3 := Lib.hid (HR2.out.congr_lt (fun k _ => HSN.out HEE.out k))
            clear HSA HSN HEE
            go_wp2_with fail
            go_roundw
            case rel => exact ⟨a + 1, by go_num, HAK.out, HR3, HB2⟩
            case measure => have := HAK.out; first | (simp [intOf]; done) | (simp [intOf]; omega)
          | true =>
            obtain ⟨A1, l, c1, hll, hc, hf, ho, hbl⟩ := HR2.out.row HBL.out
            have HC := Lib.hid hc
            have HF := Lib.hid hf
            have HO := Lib.hid ho
            have HBl := Lib.hid hbl
            have HLL := Lib.hid hll
            have HP9 : Hid ((preR gs b a b).length ≤ 1000) := Lib.hid (by have := HPB.out; omega)
            have HSZ := Lib.hid HR2.out.sz
            clear ho hbl hll
            go_wp2_with (at_builtin; refine wpList_append_int_at rfl (.tmp 30) (.tmp 32) rfl (w.heap.size + 1) (.slice A1 l c1) (preR gs b a b) a rfl (own_below HO.out ((Below.refl _ _).alloc (Nat.le_refl _) _)) w2.heap.size rfl ((MapKept.heap_alloc _ _).1) HP9.out (by have := HSZ.out; simp; omega) ?_)
            intro v5 w5 HO5 hg5 hd5
            obtain ⟨A5, l5, c5, hv5⟩ : ∃ A l c, v5 = .slice A l c := by
              obtain ⟨A, c, h⟩ := own_vis HO5.out
              exact ⟨_, _, _, h⟩
            subst hv5
            obtain ⟨g1, g2, g3⟩ := HR2.out.facts HC.out HF.out ((Below.refl _ _).alloc (Nat.le_refl _) _) hg5 HBl.out
            have HR5 := Lib.hid (HSA.out w2 _ w5 l A1 c1 _ HR2.out HBL.out ((Below.refl _ _).alloc (Nat.le_refl _) _) HC.out HLL.out HEE.out (by rw [List.length_append]; exact HO5.out) hg5 (hd5.imp id (fun h => h.trans (by simp))))
            have HB5 := Lib.hid (HB2.out.trans (g3 (.slice A5 l5 c5)))
            clear HO5 hg5 hd5 g3 hc hf HO HBl HSA HSN HEE
            go_wp2_with fail
            go_roundw
            case rel => exact ⟨a + 1, by go_num, HAK.out, HR5, HB5⟩
            case measure => have := HAK.out; first | (simp [intOf]; done) | (simp [intOf]; omega)
        · obtain rfl : a = k := by omega
          have hki : ¬ (a : Int) < (a : Int) := by omega
          have HR3 := Lib.hid (HNX.out _ _ HR.out)
          clear hlt HR
          go_wp2_with fail
          go_roundw
          case rel => exact ⟨b + 1, by go_num, HBK.out, HR3, HB⟩
          case measure => have := HBK.out; first | (simp [intOf]; done) | (simp [intOf]; omega)
    · obtain rfl : b = k := by omega
      have hki : ¬ (b : Int) < (b : Int) := by omega
      clear hlt
      go_wp2_with fail
      go_ret
      exact ⟨some ⟨w.heap.size, 0, none⟩, b, by rw [HLN.out]; rfl, HRG.out _ HR.out, HB.out⟩
end Go.Proofs.Ythgfomjmkmkhkaa
