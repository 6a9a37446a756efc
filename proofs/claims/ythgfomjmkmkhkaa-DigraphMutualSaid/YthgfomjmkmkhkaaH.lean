/-
  Rows of Booleans that a call owns; the boxes of finished, and its closure enter. Conditions: the slice reads as a graph of at most 1000 nodes.
-/
import Derived.Test.YthgfomjmkmkhkaaG
namespace Go.Proofs.Ythgfomjmkmkhkaa
open Go.RowKit
set_option linter.unusedSimpArgs false
set_option linter.unusedVariables false
theorem Try.info4 : (Try.prog.info? 4).map (fun i => (i.zero, i.size, i.bytes)) = some (some (.bool false), 1, 1) := by kernel_rfl
def bcells (xs : List Bool) : List Value := xs.map Value.bool
/-- a row of Booleans at the head of a block -/
def BRow (w : World) (g n : Nat) (xs : List Bool) : Prop := w.ownsRow g 4 1 (.slice (some ⟨g, 0, none⟩) n n) n (bcells xs)
theorem br_len {w : World} {g n : Nat} {xs : List Bool} (h : BRow w g n xs) : xs.length = n := by
  have := h.1; simpa [bcells] using this
theorem br_lt {w : World} {g n : Nat} {xs : List Bool} (h : BRow w g n xs) (hn : 0 < n) : g < w.heap.size := by
  rcases h.2 with ⟨hv, _⟩ | ⟨g', cap, cur, hv, _, hg, _⟩
  · cases hv
  · cases hv; exact (Array.getElem?_eq_some_iff.1 hg).1
theorem br_at {w : World} {g n : Nat} {xs : List Bool} (h : BRow w g n xs) (j : Nat) (hj : j < n) (x : Bool) (hx : xs[j]? = some x) :
    g < w.heap.size ∧ w.cell? ⟨g, j, none⟩ = some (.bool x) ∧ w.frozen? ⟨g, j, none⟩ = false := by
  have hl := br_len h
  refine ⟨br_lt h (by omega), ?_, World.ownsRow.frozenAt h j⟩
  rw [World.ownsRow.cellAt h j (by omega)]
  simp [bcells, List.getD_eq_getElem?_getD, hx]
theorem br_set {w : World} {g n : Nat} {xs : List Bool} (h : BRow w g n xs) (j : Nat) (x : Bool) : BRow (w.setCell ⟨g, j, none⟩ (.bool x)) g n (xs.set j x) := by
  have := (World.ownsRow.stored h j (.bool x)).1
  unfold BRow
  rw [show bcells (xs.set j x) = (bcells xs).set j (.bool x) by simp [bcells, List.map_set]]
  exact this
theorem Try.make27 (n : Nat) (hn : n ≤ 100000) (w : World) : (Instr.makeSlice 27 (.int .i64 (n : Int)) (.int .i64 (n : Int))).run Try.prog w = .ok (.slice (some ⟨w.heap.size, 0, none⟩) n n) (w.alloc (.cells (madeCells #[.bool false] n) 4)) := by
  obtain ⟨i0, hi, hz0, hz1, hz2⟩ := info_parts Try.info4
  have := run_make (P := Try.prog) w 27 4 i0 (.bool false) Try.underlying27 hi hz0 .i64 .i64 n n (by omega) (Int.le_refl _) (by rw [hz2]; omega) (by omega)
  rw [hz1] at this
  simp at this
  exact this
theorem br_new (w : World) (n : Nat) (hn : n ≤ 100000) : BRow (w.alloc (.cells (madeCells #[.bool false] n) 4)) w.heap.size n (List.replicate n false) := by
  unfold BRow
  rw [show bcells (List.replicate n false) = (madeCells #[.bool false] n).toList by rw [toList_madeCells_one]; simp [bcells]]
  exact World.ownsRow_lit w _ n (Nat.le_refl _) (by unfold maxLen; omega) (by simp [size_madeCells])
theorem br_below {w w' : World} {g n : Nat} {xs : List Bool} (h : BRow w g n xs) (hb : Below w.heap.size w w') : BRow w' g n xs := own_below h hb
/-- a row keeps what it holds where its block stays -/
theorem row_block {w w' : World} {g : Nat} {e : TypeId} {n m : Nat} {xs : List Value} (h : w.ownsRow g e 1 (.slice (some ⟨g, 0, none⟩) n m) n xs) (hb : w'.heap[g]? = w.heap[g]?) : w'.ownsRow g e 1 (.slice (some ⟨g, 0, none⟩) n m) n xs := by
  refine ⟨h.1, ?_⟩
  rcases h.2 with h' | ⟨g', cap, cur, hv, hbg, hg, r⟩
  · exact .inl h'
  · have e : g' = g := by injection hv with e1; injection e1 with e1; injection e1 with e1; exact e1.symm
    subst e
    exact .inr ⟨_, cap, cur, hv, hbg, by rw [hb]; exact hg, r⟩
/-- what stands in the boxes of finished: the graph, what has been seen, the successor to examine next, the path; and the order, in a row of its own -/
structure FS (w wr : World) (A : Option Addr) (c n : Nat) (S : List Bool) (N : List Int) (p O : List Nat) (vo : Value) : Prop where
  below : Below w.heap.size w wr
  size : w.heap.size + 5 ≤ wr.heap.size
  g0 : wr.cell? ⟨w.heap.size, 0, none⟩ = some (.slice A n c)
  g2 : wr.cell? ⟨w.heap.size + 1 + 1, 0, none⟩ = some (.slice (some ⟨w.heap.size + 1, 0, none⟩) n n)
  sn : BRow wr (w.heap.size + 1) n S
  nx : IRow wr (w.heap.size + 1 + 1 + 1) n N
  pth : ∃ A1 c1, wr.cell? ⟨w.heap.size + 1 + 1 + 1 + 1, 0, none⟩ = some (.slice A1 p.length c1) ∧ wr.ownsRow (w.heap.size + 5) 3 1 (.slice A1 p.length c1) p.length (icells (ints p)) ∧ ∀ j, (Value.slice A1 p.length c1).ownBlock = some j → vo.ownBlock ≠ some j
  frz : wr.frozen? ⟨w.heap.size + 1 + 1 + 1 + 1, 0, none⟩ = false
  ord : wr.ownsRow (w.heap.size + 5) 3 1 vo O.length (icells (ints O))
theorem FS.keep {w wr w' : World} {A : Option Addr} {c n : Nat} {S : List Bool} {N : List Int} {p O : List Nat} {vo : Value} (F : FS w wr A c n S N p O vo) (hb : Below wr.heap.size wr w') : FS w w' A c n S N p O vo := by
  have hs := F.size
  obtain ⟨A1, c1, h1, h2, h3⟩ := F.pth
  exact ⟨F.below.trans (hb.mono F.below.size), Nat.le_trans hs hb.size, by rw [hb.cell (show w.heap.size < wr.heap.size by omega)]; exact F.g0, by rw [hb.cell (show w.heap.size + 1 + 1 < wr.heap.size by omega)]; exact F.g2, br_below F.sn hb, ir_below F.nx hb,
    ⟨A1, c1, by rw [hb.cell (show w.heap.size + 1 + 1 + 1 + 1 < wr.heap.size by omega)]; exact h1, own_below h2 hb, h3⟩, by rw [hb.frozen (show w.heap.size + 1 + 1 + 1 + 1 < wr.heap.size by omega)]; exact F.frz, own_below F.ord hb⟩
theorem FS.see {w wr : World} {A : Option Addr} {c n : Nat} {S : List Bool} {N : List Int} {p O : List Nat} {vo : Value} (F : FS w wr A c n S N p O vo) (x : Nat) (d : Bool) : FS w (wr.setCell ⟨w.heap.size + 1, x, none⟩ (.bool d)) A c n (S.set x d) N p O vo := by
  have hs := F.size
  obtain ⟨A1, c1, h1, h2, h3⟩ := F.pth
  have hk : ∀ k, k ≠ w.heap.size + 1 → (wr.setCell ⟨w.heap.size + 1, x, none⟩ (.bool d)).heap[k]? = wr.heap[k]? := fun k hk => Below.heap_setCell _ _ _ _ hk
  exact ⟨F.below.setCell (by show w.heap.size ≤ w.heap.size + 1; omega) _, by simp [World.setCell]; exact hs, by rw [World.cell?_of_block (w := wr) (hk w.heap.size (by omega))]; exact F.g0, by rw [World.cell?_of_block (w := wr) (hk (w.heap.size + 1 + 1) (by omega))]; exact F.g2, br_set F.sn x d, row_block F.nx (hk _ (by omega)),
    ⟨A1, c1, by rw [World.cell?_of_block (w := wr) (hk (w.heap.size + 1 + 1 + 1 + 1) (by omega))]; exact h1, ownsRow_setCell_below h2 (by show w.heap.size + 1 < w.heap.size + 5; omega) _, h3⟩, by rw [World.frozen?_of_block (w := wr) (hk (w.heap.size + 1 + 1 + 1 + 1) (by omega))]; exact F.frz, ownsRow_setCell_below F.ord (by show w.heap.size + 1 < w.heap.size + 5; omega) _⟩
theorem FS.nxt {w wr : World} {A : Option Addr} {c n : Nat} {S : List Bool} {N : List Int} {p O : List Nat} {vo : Value} (F : FS w wr A c n S N p O vo) (x : Nat) (d : Int) : FS w (wr.setCell ⟨w.heap.size + 1 + 1 + 1, x, none⟩ (.int .i64 d)) A c n S (N.set x d) p O vo := by
  have hs := F.size
  obtain ⟨A1, c1, h1, h2, h3⟩ := F.pth
  have hk : ∀ k, k ≠ w.heap.size + 1 + 1 + 1 → (wr.setCell ⟨w.heap.size + 1 + 1 + 1, x, none⟩ (.int .i64 d)).heap[k]? = wr.heap[k]? := fun k hk => Below.heap_setCell _ _ _ _ hk
  exact ⟨F.below.setCell (by show w.heap.size ≤ w.heap.size + 1 + 1 + 1; omega) _, by simp [World.setCell]; exact hs, by rw [World.cell?_of_block (w := wr) (hk w.heap.size (by omega))]; exact F.g0, by rw [World.cell?_of_block (w := wr) (hk (w.heap.size + 1 + 1) (by omega))]; exact F.g2, row_block F.sn (hk _ (by omega)), ir_set F.nx x d,
    ⟨A1, c1, by rw [World.cell?_of_block (w := wr) (hk (w.heap.size + 1 + 1 + 1 + 1) (by omega))]; exact h1, ownsRow_setCell_below h2 (by show w.heap.size + 1 + 1 + 1 < w.heap.size + 5; omega) _, h3⟩, by rw [World.frozen?_of_block (w := wr) (hk (w.heap.size + 1 + 1 + 1 + 1) (by omega))]; exact F.frz, ownsRow_setCell_below F.ord (by show w.heap.size + 1 + 1 + 1 < w.heap.size + 5; omega) _⟩
/-- the path's new value is stored -/
theorem FS.put {w wr w' : World} {A : Option Addr} {c n : Nat} {S : List Bool} {N : List Int} {p O : List Nat} {vo : Value} (F : FS w wr A c n S N p O vo) {q : List Nat} {v1 v2 : Value} (h1 : wr.cell? ⟨w.heap.size + 1 + 1 + 1 + 1, 0, none⟩ = some v1) (hg : wr.grownBy w' v1.ownBlock)
    (hd : v2.ownBlock = v1.ownBlock ∨ v2.ownBlock = some wr.heap.size) (hown : w'.ownsRow (w.heap.size + 5) 3 1 v2 q.length (icells (ints q))) : FS w (w'.setCell ⟨w.heap.size + 1 + 1 + 1 + 1, 0, none⟩ v2) A c n S N q O vo := by
  have hs := F.size
  obtain ⟨A1, c1, e1, h2, h3⟩ := F.pth
  rw [e1] at h1
  obtain rfl := Option.some.inj h1
  have hr : ∀ j, (Value.slice A1 p.length c1).ownBlock = some j → w.heap.size + 5 ≤ j := fun j hj => (World.ownsRow.lt h2 j hj).1
  have hk : ∀ k, k < w.heap.size + 5 → w'.heap[k]? = wr.heap[k]? := fun k hk => hg.block k (by omega) (fun e => by have := hr k e.symm; omega)
  have hk2 : ∀ k, k < w.heap.size + 5 → k ≠ w.heap.size + 1 + 1 + 1 + 1 → (w'.setCell ⟨w.heap.size + 1 + 1 + 1 + 1, 0, none⟩ v2).heap[k]? = wr.heap[k]? := fun k h1 h2 => by rw [Below.heap_setCell _ _ _ _ h2]; exact hk k h1
  have hb1 : Below w.heap.size w w' := F.below.grown hg (by omega) (fun j hj => by have := hr j hj; omega)
  obtain ⟨A2, c2, rfl⟩ := own_vis hown
  refine ⟨hb1.setCell (by show w.heap.size ≤ w.heap.size + 1 + 1 + 1 + 1; omega) _, by simp [World.setCell]; exact Nat.le_trans hs hg.size, by rw [World.cell?_of_block (w := wr) (hk2 w.heap.size (by omega) (by omega))]; exact F.g0, by rw [World.cell?_of_block (w := wr) (hk2 (w.heap.size + 1 + 1) (by omega) (by omega))]; exact F.g2, row_block F.sn (hk2 _ (by omega) (by omega)), row_block F.nx (hk2 _ (by omega) (by omega)), ⟨A2, c2, ?_, ownsRow_setCell_below hown (by show w.heap.size + 1 + 1 + 1 + 1 < w.heap.size + 5; omega) _, ?_⟩, ?_, ?_⟩
  · exact World.cell?_setCell_same (w := w') (a := ⟨w.heap.size + 1 + 1 + 1 + 1, 0, none⟩) (u := .slice A1 p.length c1) _ ((World.cell?_of_block (w := wr) (hk (w.heap.size + 1 + 1 + 1 + 1) (by omega))).trans e1)
  · intro j hj e
    rcases hd with hd | hd
    · rw [hj] at hd
      exact h3 j hd.symm e
    · rw [hj] at hd
      have h9 := Option.some.inj hd
      have := (World.ownsRow.lt F.ord j e).2
      omega
  · rw [World.frozen?_setCell, World.frozen?_of_block (w := wr) (hk _ (by show w.heap.size + 1 + 1 + 1 + 1 < _; omega))]; exact F.frz
  · refine ownsRow_setCell_below (World.ownsRow.kept F.ord hg ?_) (by show w.heap.size + 1 + 1 + 1 + 1 < w.heap.size + 5; omega) _
    rcases hv : (Value.slice A1 p.length c1).ownBlock with _ | j
    · rcases hvo : vo.ownBlock with _ | i
      · exact Or.inl rfl
      · right; simp
    · right; exact h3 j hv
theorem FS.facts {w wr w' : World} {A : Option Addr} {c n : Nat} {S : List Bool} {N : List Int} {p O : List Nat} {vo : Value} (F : FS w wr A c n S N p O vo) {v1 : Value} (h1 : wr.cell? ⟨w.heap.size + 1 + 1 + 1 + 1, 0, none⟩ = some v1) (hg : wr.grownBy w' v1.ownBlock) :
    w'.cell? ⟨w.heap.size + 1 + 1 + 1 + 1, 0, none⟩ = some v1 ∧ w'.frozen? ⟨w.heap.size + 1 + 1 + 1 + 1, 0, none⟩ = false := by
  have hs := F.size
  obtain ⟨A1, c1, e1, h2, h3⟩ := F.pth
  have h1' := h1
  rw [e1] at h1'
  obtain rfl := Option.some.inj h1'
  have hk : w'.heap[w.heap.size + 1 + 1 + 1 + 1]? = wr.heap[w.heap.size + 1 + 1 + 1 + 1]? := hg.block _ (by omega) (fun e => by have := (World.ownsRow.lt h2 _ e.symm).1; omega)
  exact ⟨(World.cell?_of_block (w := wr) hk).trans h1, (World.frozen?_of_block (w := wr) hk).trans F.frz⟩
/-- the order's new value -/
theorem FS.ordPut {w wr w' : World} {A : Option Addr} {c n : Nat} {S : List Bool} {N : List Int} {p O O' : List Nat} {vo vo' : Value} (F : FS w wr A c n S N p O vo) (hg : wr.grownBy w' vo.ownBlock)
    (hd : vo'.ownBlock = vo.ownBlock ∨ vo'.ownBlock = some wr.heap.size) (hown : w'.ownsRow (w.heap.size + 5) 3 1 vo' O'.length (icells (ints O'))) : FS w w' A c n S N p O' vo' := by
  have hs := F.size
  obtain ⟨A1, c1, e1, h2, h3⟩ := F.pth
  have hr : ∀ j, vo.ownBlock = some j → w.heap.size + 5 ≤ j := fun j hj => (World.ownsRow.lt F.ord j hj).1
  have hk : ∀ k, k < w.heap.size + 5 → w'.heap[k]? = wr.heap[k]? := fun k hk => hg.block k (by omega) (fun e => by have := hr k e.symm; omega)
  have hb1 : Below w.heap.size w w' := F.below.grown hg (by omega) (fun j hj => by have := hr j hj; omega)
  refine ⟨hb1, Nat.le_trans hs hg.size, by rw [World.cell?_of_block (w := wr) (hk w.heap.size (by omega))]; exact F.g0, by rw [World.cell?_of_block (w := wr) (hk (w.heap.size + 1 + 1) (by omega))]; exact F.g2, row_block F.sn (hk _ (by omega)), row_block F.nx (hk _ (by omega)), ⟨A1, c1, ?_, World.ownsRow.kept h2 hg ?_, ?_⟩, ?_, hown⟩
  · rw [World.cell?_of_block (w := wr) (hk (w.heap.size + 1 + 1 + 1 + 1) (by omega))]; exact e1
  · rcases hv : (Value.slice A1 p.length c1).ownBlock with _ | j
    · exact Or.inl rfl
    · right; intro e; exact h3 j hv e.symm
  · intro j hj e
    rcases hd with hd | hd
    · rw [e] at hd; exact h3 j hj hd.symm
    · rw [e] at hd
      have := Option.some.inj hd
      have := (World.ownsRow.lt h2 j hj).2
      omega
  · rw [World.frozen?_of_block (w := wr) (hk (w.heap.size + 1 + 1 + 1 + 1) (by omega))]; exact F.frz
set_option maxRecDepth 100000 in
set_option maxHeartbeats 4000000 in
theorem enter_any (A : Option Addr) (c n : Nat) (S : List Bool) (N : List Int) (p O : List Nat) (vo : Value) (x : Int) (w wr : World) (F : FS w wr A c n S N p O vo) (hn : n ≤ 1000) (hp : p.length ≤ 1000) :
    Calls Try.prog 50 #[.int .i64 x, .pointer (some ⟨w.heap.size, 0, none⟩), .pointer (some ⟨w.heap.size + 1 + 1, 0, none⟩), .pointer (some ⟨w.heap.size + 1 + 1 + 1 + 1, 0, none⟩)] wr fun e w' =>
      (∃ m : Nat, x = (m : Int) ∧ m < n ∧ S[m]? = some false ∧ e = .returned (.bool true) ∧ FS w w' A c n (S.set m true) N (p ++ [m]) O vo) ∨ ((∀ m : Nat, x = (m : Int) → m < n → S[m]? = some true) ∧ e = .returned (.bool false) ∧ FS w w' A c n S N p O vo) := by
  have HF := Lib.hid F
  have g0 := F.g0
  have HN := Lib.hid (fun (W : World) => by have := isnode_any A c (List.replicate n []) x W (by simp; omega); rw [List.length_replicate] at this; exact this)
  clear F
  go_enter Try.func50, Try.ntmps50
  go_wp2_with fail
  refine (HN.out wr).mono ?_
  rintro e w1 ⟨rfl, hb1⟩
  have HF1 := Lib.hid (HF.out.keep hb1)
  clear hb1 HF HN g0
  have g0 := HF1.out.g0
  have g2 := HF1.out.g2
  by_cases hx0 : 0 ≤ x
  · by_cases hx1 : x < (n : Int)
    · obtain ⟨m, rfl⟩ : ∃ m : Nat, x = (m : Int) := ⟨x.toNat, by omega⟩
      have hm : m < n := by omega
      rw [decide_eq_true hx0, decide_eq_true hx1]
      obtain ⟨u, hu⟩ : ∃ u, S[m]? = some u := ⟨_, List.getElem?_eq_getElem (by rw [br_len HF1.out.sn]; exact hm)⟩
      obtain ⟨hgl, hc, hf⟩ := br_at HF1.out.sn m hm u hu
      have HM := Lib.hid hm
      have HU := Lib.hid hu
      clear hm hu
      cases u with
      | false =>
        have HF2 := Lib.hid (HF1.out.see m true)
        obtain ⟨A1, c1, hfc, hfo, _⟩ := HF2.out.pth
        have hfr := HF2.out.frz
        have HFO := Lib.hid hfo
        have HP := Lib.hid hp
        have HSZ := Lib.hid HF2.out.size
        have HFC := Lib.hid hfc
        clear hfo hp
        go_wp2_with (at_builtin; refine wpList_append_int_at rfl (.tmp 19) (.tmp 21) rfl (w.heap.size + 5) (.slice A1 p.length c1) p m rfl (own_below HFO.out ((Below.refl _ _).alloc (Nat.le_refl _) _)) _ rfl ?c1 HP.out ?c3 ?_)
        case c1 => have := (MapKept.heap_alloc (w1.setCell ⟨w.heap.size + 1, m, none⟩ (.bool true)) (.cells #[.int .i64 (m : Int)] 3)).1; simpa using this
        case c3 => have := HSZ.out; simp at this ⊢; omega
        intro v5 w5 HO5 hg5 hd5
        obtain ⟨A5, l5, c5, hv5⟩ : ∃ A l c, v5 = .slice A l c := by
          obtain ⟨A, c, h⟩ := own_vis HO5.out
          exact ⟨_, _, _, h⟩
        subst hv5
        have HF3 := Lib.hid (HF2.out.keep ((Below.refl _ _).alloc (Nat.le_refl _) (.cells #[.int .i64 (m : Int)] 3)))
        have h9 : ((w1.setCell ⟨w.heap.size + 1, m, none⟩ (.bool true)).alloc (.cells #[.int .i64 (m : Int)] 3)).cell? ⟨w.heap.size + 1 + 1 + 1 + 1, 0, none⟩ = some (.slice A1 p.length c1) := by
          rw [((Below.refl _ _).alloc (Nat.le_refl (w1.setCell ⟨w.heap.size + 1, m, none⟩ (.bool true)).heap.size) (.cells #[.int .i64 (m : Int)] 3)).cell (by show w.heap.size + 1 + 1 + 1 + 1 < _; have := HSZ.out; omega)]
          exact HFC.out
        have HF4 := Lib.hid (HF3.out.put (q := p ++ [m]) h9 (v2 := .slice A5 l5 c5) hg5 (hd5.imp id (fun h => h.trans (by simp))) (by rw [List.length_append]; exact HO5.out))
        obtain ⟨hcb, hfb⟩ := HF3.out.facts h9 hg5
        clear HO5 hg5 hd5 HF3 HFO h9 hfc hfr hc hf g0 g2
        go_wp2_with fail
        go_ret
        exact Or.inl ⟨m, rfl, HM.out, HU.out, rfl, HF4.out⟩
      | true =>
        go_wp2_with fail
        go_ret
        exact Or.inr ⟨fun m' e hm' => by obtain rfl : m' = m := by omega
                                         exact HU.out, rfl, HF1.out⟩
    · rw [decide_eq_true hx0, decide_eq_false hx1]
      go_wp2_with fail
      go_ret
      exact Or.inr ⟨fun m e hm => by omega, rfl, HF1.out⟩
  · rw [decide_eq_false hx0]
    go_wp2_with fail
    go_ret
    exact Or.inr ⟨fun m e hm => by omega, rfl, HF1.out⟩
end Go.Proofs.Ythgfomjmkmkhkaa
