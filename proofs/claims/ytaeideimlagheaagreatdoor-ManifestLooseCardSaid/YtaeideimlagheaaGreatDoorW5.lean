/-
  Parse of the program: the loop over the lines. Conditions: the table of powers of ten, internal/bytealg.MaxLen holds some number, the two error variables of strconv hold interface values.
-/
import Derived.Test.YtaeideimlagheaaGreatDoorWB
import Derived.Test.YtaeideimlagheaaGreatDoorT
namespace Go.Proofs.YtaeideimlagheaaGreatDoor
open Go.RowKit Go.Sort Go.Shelf Go.Proofs
set_option linter.unusedSimpArgs false
set_option linter.unnecessarySimpa false
set_option linter.unusedVariables false
attribute [local go_sem] Oper.semAt_some
abbrev z28 : Array Value := #[.string ⟨#[]⟩, .int .i64 0, .int .i64 0, .int .i64 0, .slice none 0 0]
abbrev z38 : Array Value := #[.int .i64 0, .int .i64 0]
/-- what stands between two rounds: the list so far, the last number, the two results, in blocks from b on -/
def PI (w : World) (b : Nat) (pre : List Ln) (W : World) : Prop :=
  ((((∃ v, Boxed W (b + 1 + 1) 26 v ∧ W.ownsRow b 25 4 v (accM pre).length (flatM (accM pre)) ∧ True) ∧ Boxed W (b + 1 + 1 + 1) 3 (.int .i64 (lastN pre))) ∧ RowT W b z28 28) ∧ RowT W (b + 1) z38 38) ∧ OkP pre ∧ Below b w W
/-- how a round is left for good -/
def PX (w : World) (b : Nat) (c : Code) (pre : List Ln) (W : World) : Prop :=
  c = .ret ∧ ∃ (p : List Ln) (x : Ln), pre = p ++ [x] ∧ scanP pre = .inl (p.length + 1) ∧ (RowT W b z28 28 ∧ RowT W (b + 1) #[.int .i64 8, .int .i64 (x.1.1 : Int)] 38) ∧ Below b w W
theorem pi_own (w : World) (b B : Nat) (hb : b ≤ w.heap.size) (hB : b ≤ B) : OwnFrom B (PI w b) :=
  OwnFrom.and (OwnFrom.and (OwnFrom.and (OwnFrom.and (Own.from (holdsRow_own b (b + 1 + 1) 26 25 4 (fun pre => (accM pre).length) (fun pre => flatM (accM pre)) (fun _ _ => True)) _) (Own.from (boxed_own (b + 1 + 1 + 1) 3 (fun pre : List Ln => .int .i64 (lastN pre))) _)) (Own.from (rowT_own b z28 28) _)) (Own.from (rowT_own (b + 1) z38 38) _))
    (OwnFrom.and (Own.from (pure_own OkP) _) (ownFrom_below hb hB))
theorem px_own (w : World) (b B : Nat) (hb : b ≤ w.heap.size) (hB : b ≤ B) (c : Code) : OwnFrom B (PX w b c) := by
  rintro s W W' row ⟨h1, p, x, h2, h3, ⟨h4, h5⟩, h6⟩ hg hr
  exact ⟨h1, p, x, h2, h3, ⟨rowT_own (β := Unit) b z28 28 () W W' row h4 hg (fun r e => (hr r e).2), rowT_own (β := Unit) (b + 1) _ 38 () W W' row h5 hg (fun r e => (hr r e).2)⟩, ownFrom_below (β := Unit) hb hB () W W' row h6 hg hr⟩
theorem RowT.set {W : World} {g : Nat} {cs : Array Value} {T : TypeId} (h : RowT W g cs T) (j : Nat) (v : Value) (cs' : Array Value) (e : cs.setIfInBounds j v = cs') : RowT (W.setCell ⟨g, j, none⟩ v) g cs' T := by
  subst e
  unfold RowT at *
  simp [World.setCell, Array.getElem?_modify, h]
theorem RowT.drew {W : World} {g : Nat} {cs : Array Value} {T : TypeId} (h : RowT W g cs T) : RowT W.drew g cs T := h
theorem new4' (W : World) (t : TypeId) (x : Md) : ∀ j u, [Value.string x.1, .int .i64 x.2.1, .int .i64 x.2.2.1, .int .i64 x.2.2.2][j]? = some u → (W.alloc (.cells #[.string x.1, .int .i64 x.2.1, .int .i64 x.2.2.1, .int .i64 x.2.2.2] t)).cell? ((⟨W.heap.size, 0, none⟩ : Addr).add j) = some u := new4 W t x
theorem one4' (x : Md) : ∀ u ∈ [Value.string x.1, .int .i64 x.2.1, .int .i64 x.2.2.1, .int .i64 x.2.2.2], u.oneCell' = true := mc_one x
theorem flatM_snoc (l : List Md) (x : Md) : flatM (l ++ [x]) = flatM l ++ [.string x.1, .int .i64 x.2.1, .int .i64 x.2.2.1, .int .i64 x.2.2.2] := by rw [flatM_append]; rfl
theorem boxed_up {W W' : World} {N B : Nat} {t : TypeId} {v : Value} (h : Boxed W B t v) (hb : Below N W W') (hB : B < N) : Boxed W' B t v := (hb.block B hB).trans h
/-- the parts of what stands between two rounds, for a list and a number -/
structure PS (w : World) (b : Nat) (R : List Md) (n : Int) (v : Value) (W : World) : Prop where
  bx : Boxed W (b + 1 + 1) 26 v
  row : W.ownsRow b 25 4 v R.length (flatM R)
  nm : Boxed W (b + 1 + 1 + 1) 3 (.int .i64 n)
  r2 : RowT W b z28 28
  r3 : RowT W (b + 1) z38 38
  bel : Below b w W
theorem PS.lt {w : World} {b : Nat} {R : List Md} {n : Int} {v : Value} {W : World} (h : PS w b R n v W) : b + 1 + 1 + 1 < W.heap.size := h.nm.lt
theorem PS.up {w : World} {b : Nat} {R : List Md} {n : Int} {v : Value} {W W' : World} (h : PS w b R n v W) (hb : Below W.heap.size W W') : PS w b R n v W' :=
  ⟨boxed_up h.bx hb h.bx.lt, own_up h.row hb, boxed_up h.nm hb h.nm.lt, h.r2.up hb h.r2.lt, h.r3.up hb h.r3.lt, h.bel.trans (hb.mono (by have := h.lt; omega))⟩
theorem PS.num {w : World} {b : Nat} {R : List Md} {n : Int} {v : Value} {W : World} (h : PS w b R n v W) (m : Int) : PS w b R m v (W.setCell ⟨b + 1 + 1 + 1, 0, none⟩ (.int .i64 m)) :=
  ⟨h.bx.other (by omega) _, h.row.kept (grownBy_setCell' W _ _) (.inr (fun e => row_apart h.row (show RowT W (b + 1 + 1 + 1) #[.int .i64 n] 3 from h.nm) (by decide) e.symm)), h.nm.set _, h.r2.other (by omega) _, h.r3.other (by omega) _, h.bel.setCell (p := ⟨b + 1 + 1 + 1, 0, none⟩) (by show b ≤ b + 1 + 1 + 1; omega) _⟩
theorem PS.pi {w : World} {b : Nat} {pre : List Ln} {v : Value} {W : World} {R : List Md} {n : Int} (h : PS w b R n v W) (hR : R = accM pre) (hn : n = lastN pre) (hok : OkP pre) : PI w b pre W := by
  subst hR hn
  exact ⟨⟨⟨⟨⟨v, h.bx, h.row, trivial⟩, h.nm⟩, h.r2⟩, h.r3⟩, hok, h.bel⟩
theorem PS.app {w W w1 : World} {b : Nat} {R : List Md} {n : Int} {v v' : Value} {m : Md} {tmp : Obj} (h : PS w b R n v W) (hgrow : (W.alloc tmp).grownBy w1 v.ownBlock)
    (hown' : w1.ownsRow b 25 4 v' (R.length + 1) (flatM R ++ [.string m.1, .int .i64 m.2.1, .int .i64 m.2.2.1, .int .i64 m.2.2.2])) :
    Boxed w1 (b + 1 + 1) 26 v ∧ PS w b (R ++ [m]) n v' (w1.setCell ⟨b + 1 + 1, 0, none⟩ v') ∧ KeepsOthers W (w1.setCell ⟨b + 1 + 1, 0, none⟩ v') ∧ Below b W (w1.setCell ⟨b + 1 + 1, 0, none⟩ v') := by
  obtain ⟨hv1, hv2, hr2, hk2, hb2⟩ := h.bx.appended (by decide) h.row (by have := h.lt; omega) (by omega) hown' hgrow
  refine ⟨hv1, ⟨hv2, by rw [flatM_snoc, List.length_append]; exact hr2, ?_, ?_, ?_, h.bel.trans hb2⟩, hk2, hb2⟩
  · exact RowT.other (RowT.grown (show RowT W (b + 1 + 1 + 1) #[.int .i64 n] 3 from h.nm) hgrow (row_apart h.row (show RowT W (b + 1 + 1 + 1) #[.int .i64 n] 3 from h.nm) (by decide))) (by omega) _
  · exact (h.r2.grown hgrow (row_apart h.row h.r2 (by decide))).other (by omega) _
  · exact (h.r3.grown hgrow (row_apart h.row h.r3 (by decide))).other (by omega) _
theorem rm_tail {w : World} {B g : Nat} {m : Md} {r : List Md} (h : RM w B (some ⟨g, 0, none⟩) (m :: r)) : RM w B (some ⟨g, 4, none⟩) r :=
  ⟨fun i hi => by
    obtain ⟨b, o, e, hl, hc⟩ := h.at_ (i + 1) (by simp; omega)
    cases e
    refine ⟨g, 4, rfl, hl, fun c v hv => ?_⟩
    have := hc c v (by simpa using hv)
    rwa [show 0 + (i + 1) * 4 + c = 4 + i * 4 + c by omega] at this⟩
/-- the list in its box, and its first module -/
abbrev S5 (W0 : World) (p g : Nat) (v : Value) (m : Md) (W : World) : Prop := Below W0.heap.size W0 W ∧ W.cell? ⟨p, 0, none⟩ = some v ∧ W.cell? ⟨g, 0, none⟩ = some (.string m.1) ∧ W.cell? ⟨g, 1, none⟩ = some (.int .i64 m.2.1) ∧ W.cell? ⟨g, 2, none⟩ = some (.int .i64 m.2.2.1) ∧ W.cell? ⟨g, 3, none⟩ = some (.int .i64 m.2.2.2)
theorem S5.keep {W0 W W' : World} {p g : Nat} {v : Value} {m : Md} (h : S5 W0 p g v m W) (hb : Below W.heap.size W W') : S5 W0 p g v m W' :=
  ⟨h.1.trans (hb.mono h.1.size), cell_keep h.2.1 hb, cell_keep h.2.2.1 hb, cell_keep h.2.2.2.1 hb, cell_keep h.2.2.2.2.1 hb, cell_keep h.2.2.2.2.2 hb⟩
theorem S5.dal {W0 W : World} {p g : Nat} {v : Value} {m : Md} {o : Obj} (h : S5 W0 p g v m W.drew) : S5 W0 p g v m (W.alloc o).drew := by
  have e : W.drew.alloc o = (W.alloc o).drew := rfl
  exact e ▸ h.keep (bal W.drew o)
theorem tail_slice (g n c0 : Nat) (m : Md) (r : List Md) (W : World) (hr : r.length = n) (hc : n + 1 ≤ c0) (hR : RM W W.heap.size (some ⟨g, 0, none⟩) (m :: r)) :
    ∃ o, RM W W.heap.size (some ⟨g, o, none⟩) r ∧ ∀ W' : World, (Instr.slice 26 (.slice (some ⟨g, 0, none⟩) (n + 1) c0) (some (.int .i64 1)) none none).run Tryz.prog W' = .ok (.slice (some ⟨g, o, none⟩) n (c0 - 1)) W' := by
  have hrun : ∀ W' : World, (Instr.slice 26 (.slice (some ⟨g, 0, none⟩) (n + 1) c0) (some (.int .i64 1)) none none).run Tryz.prog W' = .ok (sliced (some ⟨g, 0, none⟩) 1 (n + 1) c0 4) W' := fun W' => by
    rw [run_slice_l (P := Tryz.prog) (t := 26) (a := some ⟨g, 0, none⟩) (len := n + 1) (cap := c0) (ht := by kernel_rfl) (kl := .i64) (l := 1) (h0 := by decide) (h1 := by omega)]
    have h4 : (Go.sizeOf (Tryz.prog.elem 26)).run Tryz.prog W' = .ok 4 W' := by
      have e : Tryz.prog.elem 26 = 25 := by kernel_rfl
      rw [e]; exact Tryz.sizeOf25 W'
    rw [h4]; rfl
  by_cases h1 : c0 = 1
  · have hr0 : r = [] := List.length_eq_zero_iff.1 (by omega)
    subst hr0
    refine ⟨0, rm_nil _ _ _, fun W' => ?_⟩
    rw [hrun W']; unfold sliced; rw [if_pos h1]; rfl
  · refine ⟨4, rm_tail hR, fun W' => ?_⟩
    rw [hrun W']; unfold sliced; rw [if_neg h1]; rfl
theorem newbox {W w8 : World} {a0 a1 a2 a3 a4 : Value} (hb : Below (W.alloc (.cells #[a0, a1, a2, a3, a4] 28)).heap.size (W.alloc (.cells #[a0, a1, a2, a3, a4] 28)) w8) :
    (w8.cell? ⟨W.heap.size, 0, none⟩ = some a0 ∧ w8.cell? ⟨W.heap.size, 1, none⟩ = some a1 ∧ w8.cell? ⟨W.heap.size, 2, none⟩ = some a2 ∧ w8.cell? ⟨W.heap.size, 3, none⟩ = some a3 ∧ w8.cell? ⟨W.heap.size, 4, none⟩ = some a4) ∧
    (w8.frozen? ⟨W.heap.size, 0, none⟩ = false ∧ w8.frozen? ⟨W.heap.size, 1, none⟩ = false ∧ w8.frozen? ⟨W.heap.size, 2, none⟩ = false ∧ w8.frozen? ⟨W.heap.size, 3, none⟩ = false ∧ w8.frozen? ⟨W.heap.size, 4, none⟩ = false) ∧ W.heap.size < w8.heap.size := by
  have hr : RowT w8 W.heap.size #[a0, a1, a2, a3, a4] 28 := (show RowT (W.alloc (.cells #[a0, a1, a2, a3, a4] 28)) W.heap.size #[a0, a1, a2, a3, a4] 28 from World.alloc_heap_new W _).up hb (by simp)
  exact ⟨⟨hr.cell 0, hr.cell 1, hr.cell 2, hr.cell 3, hr.cell 4⟩, ⟨hr.frozen 0, hr.frozen 1, hr.frozen 2, hr.frozen 3, hr.frozen 4⟩, hr.lt⟩
theorem newboxd {W w8 : World} {a0 a1 a2 a3 a4 : Value} (hb : Below (W.alloc (.cells #[a0, a1, a2, a3, a4] 28)).drew.heap.size (W.alloc (.cells #[a0, a1, a2, a3, a4] 28)).drew w8) :
    (w8.cell? ⟨W.heap.size, 0, none⟩ = some a0 ∧ w8.cell? ⟨W.heap.size, 1, none⟩ = some a1 ∧ w8.cell? ⟨W.heap.size, 2, none⟩ = some a2 ∧ w8.cell? ⟨W.heap.size, 3, none⟩ = some a3 ∧ w8.cell? ⟨W.heap.size, 4, none⟩ = some a4) ∧
    (w8.frozen? ⟨W.heap.size, 0, none⟩ = false ∧ w8.frozen? ⟨W.heap.size, 1, none⟩ = false ∧ w8.frozen? ⟨W.heap.size, 2, none⟩ = false ∧ w8.frozen? ⟨W.heap.size, 3, none⟩ = false ∧ w8.frozen? ⟨W.heap.size, 4, none⟩ = false) ∧ W.heap.size < w8.heap.size := newbox (W := W) ((Below.refl _ _).drew.trans hb)
theorem S5.keepN {W0 W W' : World} {p g : Nat} {v : Value} {m : Md} (h : S5 W0 p g v m W) (hp : p < W0.heap.size) (hg : g < W0.heap.size) (hb : Below W0.heap.size W W') : S5 W0 p g v m W' :=
  ⟨h.1.trans hb, (RowKit.Below.cell hb hp).trans h.2.1, (RowKit.Below.cell hb hg).trans h.2.2.1, (RowKit.Below.cell hb hg).trans h.2.2.2.1, (RowKit.Below.cell hb hg).trans h.2.2.2.2.1, (RowKit.Below.cell hb hg).trans h.2.2.2.2.2⟩
theorem S5.sets {W0 W : World} {p g q : Nat} {v a0 a1 a2 a3 a4 : Value} {m : Md} (h : S5 W0 p g v m W) (hp : p < W0.heap.size) (hg : g < W0.heap.size) (hq : W0.heap.size ≤ q) : S5 W0 p g v m (((((W.setCell ⟨q, 0, none⟩ a0).setCell ⟨q, 1, none⟩ a1).setCell ⟨q, 2, none⟩ a2).setCell ⟨q, 3, none⟩ a3).setCell ⟨q, 4, none⟩ a4) :=
  h.keepN hp hg ((((((Below.refl _ _).setCell (p := ⟨q, 0, none⟩) hq _).setCell (p := ⟨q, 1, none⟩) hq _).setCell (p := ⟨q, 2, none⟩) hq _).setCell (p := ⟨q, 3, none⟩) hq _).setCell (p := ⟨q, 4, none⟩) hq _)
/-- the manifest that was read, in its box -/
def CutP (W : World) (m : Md) (S : List Md) (p : Value) (wx : World) : Prop := ∃ q A1 c1, p = .pointer (some ⟨q, 0, none⟩) ∧ (W.heap.size ≤ q ∧ q < wx.heap.size) ∧ (wx.cell? ⟨q, 0, none⟩ = some (.string m.1) ∧ wx.cell? ⟨q, 1, none⟩ = some (.int .i64 m.2.1) ∧ wx.cell? ⟨q, 2, none⟩ = some (.int .i64 m.2.2.1) ∧ wx.cell? ⟨q, 3, none⟩ = some (.int .i64 m.2.2.2) ∧ wx.cell? ⟨q, 4, none⟩ = some (.slice A1 S.length c1)) ∧
  RM wx wx.heap.size A1 S ∧ Plain A1 c1 ∧ Hi W.heap.size A1 ∧ Below W.heap.size W wx
theorem rm_hi {w w' : World} {B N : Nat} {A : Option Addr} {l : List Md} (h : RM w B A l) (hi : Hi N A) (hk : ∀ b, N ≤ b → w'.heap[b]? = w.heap[b]?) : RM w' B A l :=
  ⟨fun i h1 => by
    obtain ⟨b, o, e, hl, hc⟩ := h.at_ i h1
    exact ⟨b, o, e, hl, fun c v hv => (cell_of_block (hk b (hi b o e))).trans (hc c v hv)⟩⟩
theorem setCell_block {W : World} {q j b : Nat} (v : Value) (h : q ≠ b) : (W.setCell ⟨q, j, none⟩ v).heap[b]? = W.heap[b]? := by
  simp [World.setCell, Array.getElem?_modify, h]
theorem cut_1 {W w8 : World} {m : Md} {S : List Md} {A1 : Option Addr} {c1 : Nat} (hre : RM w8 w8.heap.size A1 S) (hp : Plain A1 c1) (hh : Hi W.heap.size A1) (hb : Below W.heap.size W w8) :
    CutP W m S (.pointer (some ⟨w8.heap.size, 0, none⟩)) (w8.alloc (.cells #[.string m.1, .int .i64 m.2.1, .int .i64 m.2.2.1, .int .i64 m.2.2.2, .slice A1 S.length c1] 28)) := by
  have hr : RowT (w8.alloc (.cells #[.string m.1, .int .i64 m.2.1, .int .i64 m.2.2.1, .int .i64 m.2.2.2, .slice A1 S.length c1] 28)) w8.heap.size #[.string m.1, .int .i64 m.2.1, .int .i64 m.2.2.1, .int .i64 m.2.2.2, .slice A1 S.length c1] 28 := World.alloc_heap_new _ _
  exact ⟨_, A1, c1, rfl, ⟨hb.size, hr.lt⟩, ⟨hr.cell 0, hr.cell 1, hr.cell 2, hr.cell 3, hr.cell 4⟩, hre.up (bal _ _), hp, hh, hb.trans ((bal _ _).mono hb.size)⟩
theorem cut_2 {W w8 : World} {m : Md} {S : List Md} {A1 : Option Addr} {c1 : Nat} {a0 a1 a2 a3 a4 : Value} (hre : RM w8 w8.heap.size A1 S) (hp : Plain A1 c1) (hh : Hi (W.alloc (.cells #[a0, a1, a2, a3, a4] 28)).drew.heap.size A1) (hb : Below (W.alloc (.cells #[a0, a1, a2, a3, a4] 28)).drew.heap.size (W.alloc (.cells #[a0, a1, a2, a3, a4] 28)).drew w8) :
    CutP W m S (.pointer (some ⟨W.heap.size, 0, none⟩)) (((((w8.setCell ⟨W.heap.size, 0, none⟩ (.string m.1)).setCell ⟨W.heap.size, 1, none⟩ (.int .i64 m.2.1)).setCell ⟨W.heap.size, 2, none⟩ (.int .i64 m.2.2.1)).setCell ⟨W.heap.size, 3, none⟩ (.int .i64 m.2.2.2)).setCell ⟨W.heap.size, 4, none⟩ (.slice A1 S.length c1)) := by
  have hb1 : Below (W.alloc (.cells #[a0, a1, a2, a3, a4] 28)).heap.size (W.alloc (.cells #[a0, a1, a2, a3, a4] 28)) w8 := (Below.refl _ _).drew.trans hb
  have hs : (W.alloc (.cells #[a0, a1, a2, a3, a4] 28)).heap.size = W.heap.size + 1 := by simp
  have hh1 : Hi (W.heap.size + 1) A1 := hs ▸ (show Hi (W.alloc (.cells #[a0, a1, a2, a3, a4] 28)).heap.size A1 from hh)
  have hr0 : RowT w8 W.heap.size #[a0, a1, a2, a3, a4] 28 := (show RowT (W.alloc (.cells #[a0, a1, a2, a3, a4] 28)) W.heap.size #[a0, a1, a2, a3, a4] 28 from World.alloc_heap_new W _).up hb1 (by simp)
  have hb2 : Below W.heap.size W w8 := (bal W _).trans (hb1.mono (by rw [hs]; omega))
  have hr := ((((hr0.set 0 (.string m.1) _ rfl).set 1 (.int .i64 m.2.1) _ rfl).set 2 (.int .i64 m.2.2.1) _ rfl).set 3 (.int .i64 m.2.2.2) _ rfl).set 4 (.slice A1 S.length c1) #[.string m.1, .int .i64 m.2.1, .int .i64 m.2.2.1, .int .i64 m.2.2.2, .slice A1 S.length c1] (by simp)
  refine ⟨W.heap.size, A1, c1, rfl, ⟨Nat.le_refl _, hr.lt⟩, ⟨hr.cell 0, hr.cell 1, hr.cell 2, hr.cell 3, hr.cell 4⟩, ?_, hp, hh1.le (by omega), ?_⟩
  · have h2 := rm_hi (w' := ((((w8.setCell ⟨W.heap.size, 0, none⟩ (.string m.1)).setCell ⟨W.heap.size, 1, none⟩ (.int .i64 m.2.1)).setCell ⟨W.heap.size, 2, none⟩ (.int .i64 m.2.2.1)).setCell ⟨W.heap.size, 3, none⟩ (.int .i64 m.2.2.2)).setCell ⟨W.heap.size, 4, none⟩ (.slice A1 S.length c1)) hre hh1 (fun b hb => by
      rw [setCell_block _ (by omega), setCell_block _ (by omega), setCell_block _ (by omega), setCell_block _ (by omega), setCell_block _ (by omega)])
    exact h2.le (by simp)
  · exact (((((hb2.setCell (p := ⟨W.heap.size, 0, none⟩) (Nat.le_refl _) _).setCell (p := ⟨W.heap.size, 1, none⟩) (Nat.le_refl _) _).setCell (p := ⟨W.heap.size, 2, none⟩) (Nat.le_refl _) _).setCell (p := ⟨W.heap.size, 3, none⟩) (Nat.le_refl _) _).setCell (p := ⟨W.heap.size, 4, none⟩) (Nat.le_refl _) _)
theorem scan_le (V : List UInt8 → Option (Int × Int × Int)) : ∀ (L : List (List UInt8)) (n : Nat) (all R : List Md), scanL V L n all = .inr R → R.length ≤ all.length + L.length
  | [], n, all, R, h => by simp only [scanL, Sum.inr.injEq] at h; subst h; simp
  | x :: t, n, all, R, h => by
    rw [scanL] at h
    split at h
    · have := scan_le V t _ _ _ h; simp; omega
    · split at h
      · cases h
      · have := scan_le V t _ _ _ h; simp at this ⊢; omega
theorem acc_le (pre : List Ln) : (accM pre).length ≤ pre.length := by
  unfold accM
  cases h : scanP pre with
  | inl k => simp
  | inr R =>
    have := scan_le verV (txtsL pre) 1 [] R h
    simpa [txtsL] using this
theorem all_le (s : ByteArray) (hs : s.size ≤ 70000) : (allL s).length ≤ s.size := by
  rw [(allL_facts s hs).2.1]
  have := linesL_count s.data.toList
  simpa using this
def ParseIs (s : ByteArray) (w : World) (e : Ending) (w' : World) : Prop :=
  match parseL verV s.data.toList with
  | .inl (n, at_) => e = .returned (.tuple #[mf zeroMd none 0 0, .agg #[.int .i64 n, .int .i64 at_]]) ∧ Below w.heap.size w w'
  | .inr (m, R) => (∃ A c, e = .returned (.tuple #[mf m A R.length c, .agg #[.int .i64 0, .int .i64 0]]) ∧ RM w' w'.heap.size A R ∧ (Plain A c ∧ Hi w.heap.size A)) ∧ Below w.heap.size w w'
theorem parse_stop (s : ByteArray) (hs : s.size ≤ 65536) (p : List Ln) (x : Ln) (hp : p ++ [x] <+: allL s) (h : scanP (p ++ [x]) = .inl (p.length + 1)) : parseL verV s.data.toList = .inl (8, (x.1.1 : Int)) := by
  obtain ⟨h1, h2, h3⟩ := allL_facts s (by omega)
  obtain ⟨r, hr⟩ := hp
  have hscan : scanL verV (linesL s.data.toList) 1 [] = .inl (p.length + 1) := by
    rw [← h1, ← hr, show txtsL (p ++ [x] ++ r) = txtsL (p ++ [x]) ++ txtsL r by simp [txtsL]]
    exact scan_fail verV _ _ _ _ _ h
  have hi : p.length < (allL s).length := by rw [← hr]; simp
  have hx := h3 p.length hi
  have e : (allL s)[p.length] = x := by simp [← hr]
  rw [e] at hx
  have hl : ¬ 65536 < s.data.toList.length := by simp; omega
  unfold parseL
  rw [if_neg hl, hscan]
  simp only []
  rw [hx]
theorem lastN_bd (s : ByteArray) (hs : s.size ≤ 65536) : 0 ≤ lastN (allL s) ∧ lastN (allL s) ≤ 65536 := by
  rw [lastN_all s (by omega)]
  have := linesL_count s.data.toList
  simp at this
  omega
theorem parse_done (s : ByteArray) (hs : s.size ≤ 65536) (h : OkP (allL s)) : scanL verV (linesL s.data.toList) 1 [] = .inr (accM (allL s)) := by
  rw [← (allL_facts s (by omega)).1]; exact h
theorem parse_empty (s : ByteArray) (hs : s.size ≤ 65536) (h : OkP (allL s)) (ha : accM (allL s) = []) : parseL verV s.data.toList = .inl (8, lastN (allL s) + 1) := by
  have hl : ¬ 65536 < s.data.toList.length := by simp; omega
  unfold parseL
  rw [if_neg hl, parse_done s hs h, ha, lastN_all s (by omega)]
theorem parse_full (s : ByteArray) (hs : s.size ≤ 65536) (h : OkP (allL s)) (m : Md) (r : List Md) (ha : accM (allL s) = m :: r) : parseL verV s.data.toList = if chkM m (sortM r) ≠ 0 then .inl (chkM m (sortM r), 0) else .inr (m, sortM r) := by
  have hl : ¬ 65536 < s.data.toList.length := by simp; omega
  unfold parseL
  rw [if_neg hl, parse_done s hs h, ha]
/-- the results, where the deferred calls have been taken -/
theorem end_facts {W : World} {b D : Nat} {p q : Int} {cs : Array Value} (h2 : RowT W b cs 28) (h3 : RowT W (b + 1) #[.int .i64 p, .int .i64 q] 38) (hK : W.heap[D]? = some (.deferred (some []))) :
    (∀ j, (W.putObj D (.deferred none)).cell? ⟨b, j, none⟩ = cs[j]?) ∧ (W.putObj D (.deferred none)).cell? ⟨b + 1, 0, none⟩ = some (.int .i64 p) ∧ (W.putObj D (.deferred none)).cell? ⟨b + 1, 1, none⟩ = some (.int .i64 q) := by
  have hr2 : RowT (W.putObj D (.deferred none)) b cs 28 := rowT_own (β := Unit) b cs 28 () W _ (some D) h2 (grownBy_putObj' W D (.deferred none)) (fun r e => by cases e; exact ⟨_, hK, rfl⟩)
  have hr3 : RowT (W.putObj D (.deferred none)) (b + 1) #[.int .i64 p, .int .i64 q] 38 := rowT_own (β := Unit) (b + 1) _ 38 () W _ (some D) h3 (grownBy_putObj' W D (.deferred none)) (fun r e => by cases e; exact ⟨_, hK, rfl⟩)
  exact ⟨fun j => hr2.cell j, hr3.cell 0, hr3.cell 1⟩
/-- both results stored, and the deferred calls taken -/
theorem both_ends {w w2 WE : World} {b D N : Nat} (h2 : RowT w2 b z28 28) (h3 : RowT w2 (b + 1) z38 38) (hK : w2.heap[D]? = some (.deferred (some []))) (hB : Below b w w2) (hw : w.heap.size = b) (hbD : b ≤ D) (hD : D < N) (hN : b + 1 < N) (a0 a1 a2 a3 a4 : Value) (p q : Int)
    (e : WE = (((((((w2.setCell ⟨b, 0, none⟩ a0).setCell ⟨b, 1, none⟩ a1).setCell ⟨b, 2, none⟩ a2).setCell ⟨b, 3, none⟩ a3).setCell ⟨b, 4, none⟩ a4).setCell ⟨b + 1, 0, none⟩ (.int .i64 p)).setCell ⟨b + 1, 1, none⟩ (.int .i64 q))) :
    WE.heap[D]? = some (.deferred (some [])) ∧ ((WE.putObj D (.deferred none)).cell? ⟨b, 0, none⟩ = some a0 ∧ (WE.putObj D (.deferred none)).cell? ⟨b, 1, none⟩ = some a1 ∧ (WE.putObj D (.deferred none)).cell? ⟨b, 2, none⟩ = some a2 ∧ (WE.putObj D (.deferred none)).cell? ⟨b, 3, none⟩ = some a3 ∧ (WE.putObj D (.deferred none)).cell? ⟨b, 4, none⟩ = some a4) ∧
    ((WE.putObj D (.deferred none)).cell? ⟨b + 1, 0, none⟩ = some (.int .i64 p) ∧ (WE.putObj D (.deferred none)).cell? ⟨b + 1, 1, none⟩ = some (.int .i64 q)) ∧ Below b w (WE.putObj D (.deferred none)) ∧ (∀ j, N ≤ j → (WE.putObj D (.deferred none)).heap[j]? = w2.heap[j]?) ∧ (WE.putObj D (.deferred none)).heap.size = w2.heap.size := by
  have hko : KeepsOthers w2 (((((((w2.setCell ⟨b, 0, none⟩ a0).setCell ⟨b, 1, none⟩ a1).setCell ⟨b, 2, none⟩ a2).setCell ⟨b, 3, none⟩ a3).setCell ⟨b, 4, none⟩ a4).setCell ⟨b + 1, 0, none⟩ (.int .i64 p)).setCell ⟨b + 1, 1, none⟩ (.int .i64 q)) := ((((((KeepsOthers.setCell _ _ _).trans (KeepsOthers.setCell _ _ _)).trans (KeepsOthers.setCell _ _ _)).trans (KeepsOthers.setCell _ _ _)).trans (KeepsOthers.setCell _ _ _)).trans (KeepsOthers.setCell _ _ _)).trans (KeepsOthers.setCell _ _ _)
  have hbe : Below b w (((((((w2.setCell ⟨b, 0, none⟩ a0).setCell ⟨b, 1, none⟩ a1).setCell ⟨b, 2, none⟩ a2).setCell ⟨b, 3, none⟩ a3).setCell ⟨b, 4, none⟩ a4).setCell ⟨b + 1, 0, none⟩ (.int .i64 p)).setCell ⟨b + 1, 1, none⟩ (.int .i64 q)) := (((((((hB.setCell (p := ⟨b, 0, none⟩) (Nat.le_refl _) _).setCell (p := ⟨b, 1, none⟩) (Nat.le_refl _) _).setCell (p := ⟨b, 2, none⟩) (Nat.le_refl _) _).setCell (p := ⟨b, 3, none⟩) (Nat.le_refl _) _).setCell (p := ⟨b, 4, none⟩) (Nat.le_refl _) _).setCell (p := ⟨b + 1, 0, none⟩) (by show b ≤ b + 1; omega) _).setCell (p := ⟨b + 1, 1, none⟩) (by show b ≤ b + 1; omega) _)
  have hr2 : RowT (((((((w2.setCell ⟨b, 0, none⟩ a0).setCell ⟨b, 1, none⟩ a1).setCell ⟨b, 2, none⟩ a2).setCell ⟨b, 3, none⟩ a3).setCell ⟨b, 4, none⟩ a4).setCell ⟨b + 1, 0, none⟩ (.int .i64 p)).setCell ⟨b + 1, 1, none⟩ (.int .i64 q)) b #[a0, a1, a2, a3, a4] 28 := (((((((h2.set 0 a0 #[a0, .int .i64 0, .int .i64 0, .int .i64 0, .slice none 0 0] rfl).set 1 a1 #[a0, a1, .int .i64 0, .int .i64 0, .slice none 0 0] rfl).set 2 a2 #[a0, a1, a2, .int .i64 0, .slice none 0 0] rfl).set 3 a3 #[a0, a1, a2, a3, .slice none 0 0] rfl).set 4 a4 #[a0, a1, a2, a3, a4] rfl).other (by omega) _).other (by omega) _)
  have hr3 : RowT (((((((w2.setCell ⟨b, 0, none⟩ a0).setCell ⟨b, 1, none⟩ a1).setCell ⟨b, 2, none⟩ a2).setCell ⟨b, 3, none⟩ a3).setCell ⟨b, 4, none⟩ a4).setCell ⟨b + 1, 0, none⟩ (.int .i64 p)).setCell ⟨b + 1, 1, none⟩ (.int .i64 q)) (b + 1) #[.int .i64 p, .int .i64 q] 38 := (((((((h3.other (by omega) _).other (by omega) _).other (by omega) _).other (by omega) _).other (by omega) _).set 0 (.int .i64 p) #[.int .i64 p, .int .i64 0] rfl).set 1 (.int .i64 q) #[.int .i64 p, .int .i64 q] rfl)
  have hblk : ∀ j, N ≤ j → (((((((w2.setCell ⟨b, 0, none⟩ a0).setCell ⟨b, 1, none⟩ a1).setCell ⟨b, 2, none⟩ a2).setCell ⟨b, 3, none⟩ a3).setCell ⟨b, 4, none⟩ a4).setCell ⟨b + 1, 0, none⟩ (.int .i64 p)).setCell ⟨b + 1, 1, none⟩ (.int .i64 q)).heap[j]? = w2.heap[j]? := fun j hj => by
    rw [setCell_block _ (by omega), setCell_block _ (by omega), setCell_block _ (by omega), setCell_block _ (by omega), setCell_block _ (by omega), setCell_block _ (by omega), setCell_block _ (by omega)]
  have hsz : (((((((w2.setCell ⟨b, 0, none⟩ a0).setCell ⟨b, 1, none⟩ a1).setCell ⟨b, 2, none⟩ a2).setCell ⟨b, 3, none⟩ a3).setCell ⟨b, 4, none⟩ a4).setCell ⟨b + 1, 0, none⟩ (.int .i64 p)).setCell ⟨b + 1, 1, none⟩ (.int .i64 q)).heap.size = w2.heap.size := by simp
  rw [← e] at hko hbe hr2 hr3 hblk hsz
  have hKE : WE.heap[D]? = some (.deferred (some [])) := hko.same D _ hK rfl
  obtain ⟨e2, y0, y1⟩ := end_facts hr2 hr3 hKE
  subst hw
  refine ⟨hKE, ⟨e2 0, e2 1, e2 2, e2 3, e2 4⟩, ⟨y0, y1⟩, hbe.trans (belowK_b (w := w) (Nat.le_refl _) WE D _ _ hbD hKE rfl rfl), fun j hj => ?_, ?_⟩
  · rw [← hblk j hj]
    simp [World.putObj, Array.getElem?_setIfInBounds, show D ≠ j by omega]
  · rw [← hsz]; simp [World.putObj]
set_option maxRecDepth 100000 in
set_option maxHeartbeats 4000000 in
theorem parse_loop (s : ByteArray) (hs : s.size ≤ 65536) (w : World) (hC : Cond w) : Calls Tryz.prog 20 #[.string s] w (ParseIs s w) := by
  have hw : 0 < w.heap.size := hC.max.1
  have hns : ¬ (65536 : Int) < (s.size : Int) := by omega
  have HC := Lib.hid hC
  clear hC
  refine (callsIn_wide (n := 8)).1 ?_
  refine callsIn_of_wp_marks Tryz.func20 rfl trivial ?_ rfl
  simp only [Tryz.ntmps20, List.size_toArray, List.length_cons, List.length_nil, Nat.reduceAdd, Nat.reduceSub, Array.replicate_succ, Array.replicate_zero, List.push_toArray, List.append_toArray, List.nil_append, List.cons_append]
  gi_wp2_with fail
  have bP := ((Boxed.new ((w.alloc (.cells z28 28)).alloc (.cells z38 38)) 26 (.slice none 0 0)).alloc (.cells #[.int .i64 0] 3))
  have bQ := Boxed.new (((w.alloc (.cells z28 28)).alloc (.cells z38 38)).alloc (.cells #[.slice none 0 0] 26)) 3 (.int .i64 0)
  have r0 : RowT ((((w.alloc (.cells z28 28)).alloc (.cells z38 38)).alloc (.cells #[.slice none 0 0] 26)).alloc (.cells #[.int .i64 0] 3)) w.heap.size z28 28 :=
    (show RowT (w.alloc (.cells z28 28)) w.heap.size z28 28 from World.alloc_heap_new w _).up (N := w.heap.size + 1) ((((Below.refl _ _).alloc (by simp) _).alloc (by simp) _).alloc (by simp) _) (by omega)
  have r1 : RowT ((((w.alloc (.cells z28 28)).alloc (.cells z38 38)).alloc (.cells #[.slice none 0 0] 26)).alloc (.cells #[.int .i64 0] 3)) (w.heap.size + 1) z38 38 :=
    (show RowT ((w.alloc (.cells z28 28)).alloc (.cells z38 38)) (w.heap.size + 1) z38 38 by have := World.alloc_heap_new (w.alloc (.cells z28 28)) (.cells z38 38); rwa [World.size_alloc] at this).up (N := w.heap.size + 2) (((Below.refl _ _).alloc (by simp) _).alloc (by simp) _) (by omega)
  have hb1 : Below w.heap.size w ((((w.alloc (.cells z28 28)).alloc (.cells z38 38)).alloc (.cells #[.slice none 0 0] 26)).alloc (.cells #[.int .i64 0] 3)) := ((((Below.refl _ _).alloc (Nat.le_refl _) _).alloc (by simp) _).alloc (by simp; omega) _).alloc (by simp; omega) _
  simp only [World.size_alloc] at bP bQ
  obtain ⟨w1, hw1⟩ : ∃ w1, w1 = ((((w.alloc (.cells z28 28)).alloc (.cells z38 38)).alloc (.cells #[.slice none 0 0] 26)).alloc (.cells #[.int .i64 0] 3)) := ⟨_, rfl⟩
  rw [← hw1] at bP bQ r0 r1 hb1 ⊢
  clear hw1
  have HC1 := Lib.hid (HC.out.keep hb1)
  have HHI := Lib.hid (show PI w w.heap.size [] w1 from ⟨⟨⟨⟨⟨_, bP, World.ownsRow_nil _ _ _ _, trivial⟩, bQ⟩, r0⟩, r1⟩, okP_nil, hb1⟩)
  clear bP bQ r0 r1
  refine ⟨trivial, (callsIn_wide.2 (lines_any s w1)).mono ?_⟩
  rintro e w2 ⟨rfl, rfl⟩
  have hB2 := Lib.hid (hb1.alloc hb1.size (.cells #[.string s] 9))
  have HI2 := Lib.hid (pi_own w w.heap.size w1.heap.size (Nat.le_refl _) hb1.size _ _ _ none HHI.out (World.grownBy_alloc w1 (.cells #[.string s] 9) none) (fun r e => by cases e))
  have HC2 := Lib.hid (HC.out.keep hB2.out)
  have hc2 : (w1.alloc (.cells #[.string s] 9)).cell? ⟨w1.heap.size, 0, none⟩ = some (.string s) := by simp
  have hl2 : w1.heap.size < (w1.alloc (.cells #[.string s] 9)).heap.size := by simp
  clear hb1 HHI HC1
  gi_wp2_with fail
  generalize w1.alloc (.cells #[.string s] 9) = W0 at *
  refine wpIn_rangeFunc_ownF rfl (by omega) (gf := 67) (lb := #[.pointer (some ⟨w1.heap.size, 0, none⟩)]) rfl trivial (enters_of Tryz.func67 (by kernel_rfl) rfl)
    (lines_stops 7 (by omega) w1.heap.size w.heap.size s (by omega) hw W0 HC2.out.max hl2 hc2) (fun h k => belowK_t h k) (belowK_b hB2.out.size) (Below.refl _ _) (fun _ => rfl)
    (PI w w.heap.size) (PX w w.heap.size) (pi_own w w.heap.size _ (Nat.le_refl _) hB2.out.size) (px_own w w.heap.size _ (Nat.le_refl _) hB2.out.size) HI2.out
    (fun x => { tmps := #[.string s, undef, .pointer (some ⟨w.heap.size, 0, none⟩), .pointer (some ⟨w.heap.size + 1, 0, none⟩), .pointer (some ⟨w.heap.size + 1 + 1, 0, none⟩), .pointer (some ⟨w.heap.size + 1 + 1 + 1, 0, none⟩), .int .i64 (x.1.1 : Int), .string x.1.2, undef, undef, undef, undef, undef, undef, .string s, .int .i64 (s.size : Int), .bool false, undef, undef, .string s, .func (.func 67) #[] #[.pointer (some ⟨w1.heap.size, 0, none⟩)], .int .i64 (x.1.1 : Int), .string x.1.2, undef, undef, undef, undef, undef, undef, undef, undef, undef, undef, undef, undef, undef, undef, undef, undef, undef, undef, undef, undef, undef, undef, undef, undef, undef, undef, undef, undef, undef, undef, undef, undef, undef, undef, undef, undef, undef, undef, undef, undef, undef, undef, undef, undef, undef, undef, undef], defers := [] }) ?assign ?body ?done ?stop
  case assign =>
    intro l x W K hK
    gi_wp2
    exact hK
  case body =>
    rintro l pre x W ⟨⟨⟨⟨⟨v, hv, hrow, _⟩, h5⟩, r2⟩, r3⟩, hok, hB⟩ hlen
    have hP0 : PS w w.heap.size (accM pre) (lastN pre) v W := ⟨hv, hrow, h5, r2, r3, hB⟩
    have hP1 := hP0.num (x.1.1 : Int)
    have HP1 := Lib.hid hP1
    have KW := Lib.hid (words_any x.1.2 x.2.2 _ (HC.out.keep hP1.bel).max)
    have c5 := h5.cell
    have f5 := h5.frozen
    have HOK := Lib.hid hok
    have HKO := Lib.hid (KeepsOthers.setCell W ⟨w.heap.size + 1 + 1 + 1, 0, none⟩ (.int .i64 (x.1.1 : Int)))
    have HKB := Lib.hid ((Below.refl w.heap.size W).setCell (p := ⟨w.heap.size + 1 + 1 + 1, 0, none⟩) (by show w.heap.size ≤ w.heap.size + 1 + 1 + 1; omega) (.int .i64 (x.1.1 : Int)))
    have hlW : w.heap.size ≤ W.heap.size := hB.size
    clear hv hrow h5 r2 r3 hok hB hP0 hP1 hB2 HI2 HC2 hc2 hl2
    gi_wp2_with fail
    refine ⟨trivial, (CallsIn.inRound l (callsIn_wide.2 KW.out)).mono ?_⟩
    rintro e W2 ⟨L, hL, A, c, rfl, hrs, _, hb2⟩
    have HP2 := Lib.hid (HP1.out.up hb2)
    have HKO2 := Lib.hid (HKO.out.trans (keepsB hb2))
    have HKB2 := Lib.hid (HKB.out.trans (hb2.mono (by simp; omega)))
    have HL := Lib.hid hL
    have HRS := Lib.hid hrs
    clear hb2 HP1 HKO HKB KW hL hrs c5 f5
    by_cases hLn : L = []
    · subst hLn
      have hw0 : wordsC x.1.2.data.toList = [] := HL.out.symm
      obtain ⟨hok2, hacc⟩ := okP_blank HOK.out hw0
      have HPI := Lib.hid (HP2.out.pi hacc.symm (lastN_snoc pre x).symm hok2)
      clear hok2 hacc hw0 HL HRS
      gi_wp2_with fail
      exact ⟨HKO2.out, HKB2.out, HPI.out⟩
    · have hL0 : 0 < L.length := List.length_pos_iff.2 hLn
      have hwn : wordsC x.1.2.data.toList ≠ [] := by rw [← HL.out]; simpa using hLn
      have q0 : ((L.length : Int) == 0) = false := by rw [beq_eq_false_iff_ne]; omega
      have q0' : ¬ (L.length : Int) = 0 := by omega
      have HWN := Lib.hid hwn
      have HLB := Lib.hid (show ∀ y ∈ L, y.size ≤ 100000 from fun y hy => by
        have hm : y.data.toList ∈ wordsC x.1.2.data.toList := by rw [← HL.out]; exact List.mem_map_of_mem hy
        have := words_len hm
        have h2 := x.2.2
        simp at this; omega)
      have HC2 := Lib.hid (HC.out.keep HP2.out.bel)
      obtain ⟨A0, c0, hv0⟩ : ∃ A0 c0, v = .slice A0 (accM pre).length c0 := by
        rcases own_cell HP2.out.row with ⟨h1, h2⟩ | ⟨g, c0, h1, _⟩
        · exact ⟨none, 0, by rw [h1, h2]⟩
        · exact ⟨_, c0, h1⟩
      subst hv0
      have c4 := HP2.out.bx.cell
      have f4 := HP2.out.bx.frozen
      clear hLn hwn
      by_cases hacc : accM pre = []
      · have HIF := Lib.hid (show (if accM pre = [] then kwM else kwR) = kM.data.toList by rw [if_pos hacc]; rfl)
        have qa : (((accM pre).length : Int) == 0) = true := by rw [beq_iff_eq, hacc]; rfl
        have qa' : ((accM pre).length : Int) = 0 := by simpa using qa
        have KR := Lib.hid (mread_any kM A c L W2 HC2.out HRS.out HLB.out)
        have HRD := Lib.hid (show rdS kM L = readL verV (if accM pre = [] then kwM else kwR) (wordsC x.1.2.data.toList) by rw [HIF.out, ← HL.out]; rfl)
        clear hacc
        generalize hlen0 : (accM pre).length = n0 at *
        have HN0 := Lib.hid hlen0
        clear hlen0
        gi_wp2_with fail
        refine ⟨trivial, (CallsIn.inRound l (callsIn_wide.2 KR.out)).mono ?_⟩
        rintro e W3 ⟨⟨m, rfl, hm⟩, hb3⟩
        have HP3 := Lib.hid (HP2.out.up hb3)
        have HKO3 := Lib.hid (HKO2.out.trans (keepsB hb3))
        have HKB3 := Lib.hid (HKB2.out.trans (hb3.mono (Nat.le_of_lt (Nat.lt_of_lt_of_le (by omega) (Nat.le_of_lt HP2.out.lt)))))
        have HMM := Lib.hid hm
        clear hb3 hm c4 f4 KR q0 q0' qa qa'
        cases hO : rdS kM L with
        | none =>
          have HBAD := Lib.hid (okP_bad HOK.out HWN.out (HRD.out.symm.trans hO))
          rw [hO] at *
          clear hO HRD HMM
          simp only [Option.isSome_none] at *
          have hb4 := bal W3 (.cells #[.string m.1, .int .i64 m.2.1, .int .i64 m.2.2.1, .int .i64 m.2.2.2] 25)
          have HP4 := Lib.hid (HP3.out.up hb4)
          have HKO4 := Lib.hid (HKO3.out.trans (keepsB hb4))
          have HKB4 := Lib.hid (HKB3.out.trans (hb4.mono (Nat.le_of_lt (Nat.lt_of_lt_of_le (by omega) (Nat.le_of_lt HP3.out.lt)))))
          obtain ⟨W4, hW4⟩ : ∃ W4, W4 = W3.alloc (.cells #[.string m.1, .int .i64 m.2.1, .int .i64 m.2.2.1, .int .i64 m.2.2.2] 25) := ⟨_, rfl⟩
          rw [← hW4] at HP4 HKO4 HKB4
          have x0 : W4.cell? ⟨w.heap.size, 0, none⟩ = some (.string ⟨#[]⟩) := HP4.out.r2.cell 0
          have x1 : W4.cell? ⟨w.heap.size, 1, none⟩ = some (.int .i64 0) := HP4.out.r2.cell 1
          have x2 : W4.cell? ⟨w.heap.size, 2, none⟩ = some (.int .i64 0) := HP4.out.r2.cell 2
          have x3 : W4.cell? ⟨w.heap.size, 3, none⟩ = some (.int .i64 0) := HP4.out.r2.cell 3
          have x4 : W4.cell? ⟨w.heap.size, 4, none⟩ = some (.slice none 0 0) := HP4.out.r2.cell 4
          have g0 := HP4.out.r2.frozen 0
          have g1 := HP4.out.r2.frozen 1
          have g2 := HP4.out.r2.frozen 2
          have g3 := HP4.out.r2.frozen 3
          have g4 := HP4.out.r2.frozen 4
          have y0 : W4.cell? ⟨w.heap.size + 1, 0, none⟩ = some (.int .i64 0) := HP4.out.r3.cell 0
          have y1 : W4.cell? ⟨w.heap.size + 1, 1, none⟩ = some (.int .i64 0) := HP4.out.r3.cell 1
          have k0 := HP4.out.r3.frozen 0
          have k1 := HP4.out.r3.frozen 1
          have HFIN := Lib.hid (show KeepsOthers W (((((((W4.setCell ⟨w.heap.size, 0, none⟩ (.string ⟨#[]⟩)).setCell ⟨w.heap.size, 1, none⟩ (.int .i64 0)).setCell ⟨w.heap.size, 2, none⟩ (.int .i64 0)).setCell ⟨w.heap.size, 3, none⟩ (.int .i64 0)).setCell ⟨w.heap.size, 4, none⟩ (.slice none 0 0)).setCell ⟨w.heap.size + 1, 0, none⟩ (.int .i64 8)).setCell ⟨w.heap.size + 1, 1, none⟩ (.int .i64 (x.1.1 : Int))) ∧
              PX w w.heap.size .ret (pre ++ [x]) (((((((W4.setCell ⟨w.heap.size, 0, none⟩ (.string ⟨#[]⟩)).setCell ⟨w.heap.size, 1, none⟩ (.int .i64 0)).setCell ⟨w.heap.size, 2, none⟩ (.int .i64 0)).setCell ⟨w.heap.size, 3, none⟩ (.int .i64 0)).setCell ⟨w.heap.size, 4, none⟩ (.slice none 0 0)).setCell ⟨w.heap.size + 1, 0, none⟩ (.int .i64 8)).setCell ⟨w.heap.size + 1, 1, none⟩ (.int .i64 (x.1.1 : Int))) from
            ⟨(((((((HKO4.out.trans (KeepsOthers.setCell _ _ _)).trans (KeepsOthers.setCell _ _ _)).trans (KeepsOthers.setCell _ _ _)).trans (KeepsOthers.setCell _ _ _)).trans (KeepsOthers.setCell _ _ _)).trans (KeepsOthers.setCell _ _ _)).trans (KeepsOthers.setCell _ _ _)),
             rfl, pre, x, rfl, HBAD.out,
             ⟨(((((((HP4.out.r2.set 0 (.string ⟨#[]⟩) z28 rfl).set 1 (.int .i64 0) z28 rfl).set 2 (.int .i64 0) z28 rfl).set 3 (.int .i64 0) z28 rfl).set 4 (.slice none 0 0) z28 rfl).other (by omega) _).other (by omega) _),
              (((((((HP4.out.r3.other (by omega) _).other (by omega) _).other (by omega) _).other (by omega) _).other (by omega) _).set 0 (.int .i64 8) #[.int .i64 8, .int .i64 0] rfl).set 1 (.int .i64 (x.1.1 : Int)) #[.int .i64 8, .int .i64 (x.1.1 : Int)] rfl)⟩,
             (((((((HP4.out.bel.setCell (p := ⟨w.heap.size, 0, none⟩) (Nat.le_refl _) _).setCell (p := ⟨w.heap.size, 1, none⟩) (Nat.le_refl _) _).setCell (p := ⟨w.heap.size, 2, none⟩) (Nat.le_refl _) _).setCell (p := ⟨w.heap.size, 3, none⟩) (Nat.le_refl _) _).setCell (p := ⟨w.heap.size, 4, none⟩) (Nat.le_refl _) _).setCell (p := ⟨w.heap.size + 1, 0, none⟩) (by show w.heap.size ≤ w.heap.size + 1; omega) _).setCell (p := ⟨w.heap.size + 1, 1, none⟩) (by show w.heap.size ≤ w.heap.size + 1; omega) _)⟩)
          subst hW4
          clear hb4 HP3 HKO3 HKB3 HP4 HKO4 HKB4
          gi_wp2_with fail
          exact HFIN.out
        | some m' =>
          have hmm := HMM.out m' hO
          subst hmm
          have hok2 := okP_read HOK.out HWN.out (HRD.out.symm.trans hO)
          rw [hO] at *
          clear hO HRD HMM
          simp only [Option.isSome_some] at *
          obtain ⟨hok2, hac2⟩ := hok2
          have HOK2 := Lib.hid hok2
          have HAC2 := Lib.hid hac2
          clear hok2 hac2
          have hb4 := bal W3 (.cells #[.string m.1, .int .i64 m.2.1, .int .i64 m.2.2.1, .int .i64 m.2.2.2] 25)
          have HP4 := Lib.hid (HP3.out.up hb4)
          have HKO4 := Lib.hid (HKO3.out.trans (keepsB hb4))
          have HKB4 := Lib.hid (HKB3.out.trans (hb4.mono (Nat.le_of_lt (Nat.lt_of_lt_of_le (by omega) (Nat.le_of_lt HP3.out.lt)))))
          have m0 : (W3.alloc (.cells #[.string m.1, .int .i64 m.2.1, .int .i64 m.2.2.1, .int .i64 m.2.2.2] 25)).cell? ⟨W3.heap.size, 0, none⟩ = some (.string m.1) := by simp
          have m1 : (W3.alloc (.cells #[.string m.1, .int .i64 m.2.1, .int .i64 m.2.2.1, .int .i64 m.2.2.2] 25)).cell? ⟨W3.heap.size, 1, none⟩ = some (.int .i64 m.2.1) := by simp
          have m2 : (W3.alloc (.cells #[.string m.1, .int .i64 m.2.1, .int .i64 m.2.2.1, .int .i64 m.2.2.2] 25)).cell? ⟨W3.heap.size, 2, none⟩ = some (.int .i64 m.2.2.1) := by simp
          have m3 : (W3.alloc (.cells #[.string m.1, .int .i64 m.2.1, .int .i64 m.2.2.1, .int .i64 m.2.2.2] 25)).cell? ⟨W3.heap.size, 3, none⟩ = some (.int .i64 m.2.2.2) := by simp
          have c4 := HP4.out.bx.cell
          have f4 := HP4.out.bx.frozen
          have hv4 := HP4.out.bx
          have hrow4 := HP4.out.row
          have hbel4 := HP4.out.bel
          have hsz4 : w.heap.size ≤ (W3.alloc (.cells #[.string m.1, .int .i64 m.2.1, .int .i64 m.2.2.1, .int .i64 m.2.2.2] 25)).heap.size := hbel4.size
          rw [HN0.out] at hrow4
          have hle : n0 ≤ 100000 := by
            have h1 := acc_le pre
            have h2 := all_le s (by omega)
            have := HN0.out
            omega
          obtain ⟨i0, hi, hz0, hz1, hz2⟩ := info_parts info25
          have hnew : ∀ j u, [Value.string m.1, .int .i64 m.2.1, .int .i64 m.2.2.1, .int .i64 m.2.2.2][j]? = some u → ((W3.alloc (.cells #[.string m.1, .int .i64 m.2.1, .int .i64 m.2.2.1, .int .i64 m.2.2.2] 25)).alloc (.cells #[.string m.1, .int .i64 m.2.1, .int .i64 m.2.2.1, .int .i64 m.2.2.2] 25)).cell? ((⟨W3.heap.size + 1, 0, none⟩ : Addr).add j) = some u := by simpa using new4' (W3.alloc (.cells #[.string m.1, .int .i64 m.2.1, .int .i64 m.2.2.1, .int .i64 m.2.2.2] 25)) 25 m
          have HAPP := Lib.hid (fun v' w1 tmp hg ho => (HN0.out ▸ HP4.out.app (m := m) (v' := v') (w1 := w1) (tmp := tmp) hg (by rw [HN0.out]; exact ho)))
          clear hb4 HP4
          gi_wp2_with (gi_at_builtin; refine wpListIn_append_own_at _ rfl _ _ 26 rfl w.heap.size 25 i0 (.agg #[.string ⟨#[]⟩, .int .i64 0, .int .i64 0, .int .i64 0]) 4 40 Tryz.underlying26 hi hz0 hz1 hz2 rfl (by decide) _ _ _ rfl (hrow4.alloc _) ⟨W3.heap.size + 1, 0, none⟩ 1 1 [.string m.1, .int .i64 m.2.1, .int .i64 m.2.2.1, .int .i64 m.2.2.2] rfl rfl hnew (one4' m) (by unfold maxLen; omega) (by omega) (by simp at hsz4 ⊢; omega) ?_; intro v' w1 hown' hgrow _ hat; obtain ⟨g', cap', rfl⟩ := ownsRow_succ hown'; obtain ⟨hv1, hps, hko, hkb⟩ := HAPP.out _ _ _ hgrow hown'; have hc1 := hv1.cell; have hf1 := hv1.frozen)
          exact ⟨HKO4.out.trans hko, HKB4.out.trans hkb, hps.pi HAC2.out.symm (lastN_snoc pre x).symm HOK2.out⟩
      · have HIF := Lib.hid (show (if accM pre = [] then kwM else kwR) = kR.data.toList by rw [if_neg hacc]; rfl)
        have qa : (((accM pre).length : Int) == 0) = false := by rw [beq_eq_false_iff_ne]; intro h; exact hacc (List.length_eq_zero_iff.1 (by omega))
        have qa' : ¬ ((accM pre).length : Int) = 0 := by simpa using qa
        have KR := Lib.hid (mread_any kR A c L W2 HC2.out HRS.out HLB.out)
        have HRD := Lib.hid (show rdS kR L = readL verV (if accM pre = [] then kwM else kwR) (wordsC x.1.2.data.toList) by rw [HIF.out, ← HL.out]; rfl)
        clear hacc
        generalize hlen0 : (accM pre).length = n0 at *
        have HN0 := Lib.hid hlen0
        clear hlen0
        gi_wp2_with fail
        refine ⟨trivial, (CallsIn.inRound l (callsIn_wide.2 KR.out)).mono ?_⟩
        rintro e W3 ⟨⟨m, rfl, hm⟩, hb3⟩
        have HP3 := Lib.hid (HP2.out.up hb3)
        have HKO3 := Lib.hid (HKO2.out.trans (keepsB hb3))
        have HKB3 := Lib.hid (HKB2.out.trans (hb3.mono (Nat.le_of_lt (Nat.lt_of_lt_of_le (by omega) (Nat.le_of_lt HP2.out.lt)))))
        have HMM := Lib.hid hm
        clear hb3 hm c4 f4 KR q0 q0' qa qa'
        cases hO : rdS kR L with
        | none =>
          have HBAD := Lib.hid (okP_bad HOK.out HWN.out (HRD.out.symm.trans hO))
          rw [hO] at *
          clear hO HRD HMM
          simp only [Option.isSome_none] at *
          have hb4 := bal W3 (.cells #[.string m.1, .int .i64 m.2.1, .int .i64 m.2.2.1, .int .i64 m.2.2.2] 25)
          have HP4 := Lib.hid (HP3.out.up hb4)
          have HKO4 := Lib.hid (HKO3.out.trans (keepsB hb4))
          have HKB4 := Lib.hid (HKB3.out.trans (hb4.mono (Nat.le_of_lt (Nat.lt_of_lt_of_le (by omega) (Nat.le_of_lt HP3.out.lt)))))
          obtain ⟨W4, hW4⟩ : ∃ W4, W4 = W3.alloc (.cells #[.string m.1, .int .i64 m.2.1, .int .i64 m.2.2.1, .int .i64 m.2.2.2] 25) := ⟨_, rfl⟩
          rw [← hW4] at HP4 HKO4 HKB4
          have x0 : W4.cell? ⟨w.heap.size, 0, none⟩ = some (.string ⟨#[]⟩) := HP4.out.r2.cell 0
          have x1 : W4.cell? ⟨w.heap.size, 1, none⟩ = some (.int .i64 0) := HP4.out.r2.cell 1
          have x2 : W4.cell? ⟨w.heap.size, 2, none⟩ = some (.int .i64 0) := HP4.out.r2.cell 2
          have x3 : W4.cell? ⟨w.heap.size, 3, none⟩ = some (.int .i64 0) := HP4.out.r2.cell 3
          have x4 : W4.cell? ⟨w.heap.size, 4, none⟩ = some (.slice none 0 0) := HP4.out.r2.cell 4
          have g0 := HP4.out.r2.frozen 0
          have g1 := HP4.out.r2.frozen 1
          have g2 := HP4.out.r2.frozen 2
          have g3 := HP4.out.r2.frozen 3
          have g4 := HP4.out.r2.frozen 4
          have y0 : W4.cell? ⟨w.heap.size + 1, 0, none⟩ = some (.int .i64 0) := HP4.out.r3.cell 0
          have y1 : W4.cell? ⟨w.heap.size + 1, 1, none⟩ = some (.int .i64 0) := HP4.out.r3.cell 1
          have k0 := HP4.out.r3.frozen 0
          have k1 := HP4.out.r3.frozen 1
          have HFIN := Lib.hid (show KeepsOthers W (((((((W4.setCell ⟨w.heap.size, 0, none⟩ (.string ⟨#[]⟩)).setCell ⟨w.heap.size, 1, none⟩ (.int .i64 0)).setCell ⟨w.heap.size, 2, none⟩ (.int .i64 0)).setCell ⟨w.heap.size, 3, none⟩ (.int .i64 0)).setCell ⟨w.heap.size, 4, none⟩ (.slice none 0 0)).setCell ⟨w.heap.size + 1, 0, none⟩ (.int .i64 8)).setCell ⟨w.heap.size + 1, 1, none⟩ (.int .i64 (x.1.1 : Int))) ∧
              PX w w.heap.size .ret (pre ++ [x]) (((((((W4.setCell ⟨w.heap.size, 0, none⟩ (.string ⟨#[]⟩)).setCell ⟨w.heap.size, 1, none⟩ (.int .i64 0)).setCell ⟨w.heap.size, 2, none⟩ (.int .i64 0)).setCell ⟨w.heap.size, 3, none⟩ (.int .i64 0)).setCell ⟨w.heap.size, 4, none⟩ (.slice none 0 0)).setCell ⟨w.heap.size + 1, 0, none⟩ (.int .i64 8)).setCell ⟨w.heap.size + 1, 1, none⟩ (.int .i64 (x.1.1 : Int))) from
            ⟨(((((((HKO4.out.trans (KeepsOthers.setCell _ _ _)).trans (KeepsOthers.setCell _ _ _)).trans (KeepsOthers.setCell _ _ _)).trans (KeepsOthers.setCell _ _ _)).trans (KeepsOthers.setCell _ _ _)).trans (KeepsOthers.setCell _ _ _)).trans (KeepsOthers.setCell _ _ _)),
             rfl, pre, x, rfl, HBAD.out,
             ⟨(((((((HP4.out.r2.set 0 (.string ⟨#[]⟩) z28 rfl).set 1 (.int .i64 0) z28 rfl).set 2 (.int .i64 0) z28 rfl).set 3 (.int .i64 0) z28 rfl).set 4 (.slice none 0 0) z28 rfl).other (by omega) _).other (by omega) _),
              (((((((HP4.out.r3.other (by omega) _).other (by omega) _).other (by omega) _).other (by omega) _).other (by omega) _).set 0 (.int .i64 8) #[.int .i64 8, .int .i64 0] rfl).set 1 (.int .i64 (x.1.1 : Int)) #[.int .i64 8, .int .i64 (x.1.1 : Int)] rfl)⟩,
             (((((((HP4.out.bel.setCell (p := ⟨w.heap.size, 0, none⟩) (Nat.le_refl _) _).setCell (p := ⟨w.heap.size, 1, none⟩) (Nat.le_refl _) _).setCell (p := ⟨w.heap.size, 2, none⟩) (Nat.le_refl _) _).setCell (p := ⟨w.heap.size, 3, none⟩) (Nat.le_refl _) _).setCell (p := ⟨w.heap.size, 4, none⟩) (Nat.le_refl _) _).setCell (p := ⟨w.heap.size + 1, 0, none⟩) (by show w.heap.size ≤ w.heap.size + 1; omega) _).setCell (p := ⟨w.heap.size + 1, 1, none⟩) (by show w.heap.size ≤ w.heap.size + 1; omega) _)⟩)
          subst hW4
          clear hb4 HP3 HKO3 HKB3 HP4 HKO4 HKB4
          gi_wp2_with fail
          exact HFIN.out
        | some m' =>
          have hmm := HMM.out m' hO
          subst hmm
          have hok2 := okP_read HOK.out HWN.out (HRD.out.symm.trans hO)
          rw [hO] at *
          clear hO HRD HMM
          simp only [Option.isSome_some] at *
          obtain ⟨hok2, hac2⟩ := hok2
          have HOK2 := Lib.hid hok2
          have HAC2 := Lib.hid hac2
          clear hok2 hac2
          have hb4 := bal W3 (.cells #[.string m.1, .int .i64 m.2.1, .int .i64 m.2.2.1, .int .i64 m.2.2.2] 25)
          have HP4 := Lib.hid (HP3.out.up hb4)
          have HKO4 := Lib.hid (HKO3.out.trans (keepsB hb4))
          have HKB4 := Lib.hid (HKB3.out.trans (hb4.mono (Nat.le_of_lt (Nat.lt_of_lt_of_le (by omega) (Nat.le_of_lt HP3.out.lt)))))
          have m0 : (W3.alloc (.cells #[.string m.1, .int .i64 m.2.1, .int .i64 m.2.2.1, .int .i64 m.2.2.2] 25)).cell? ⟨W3.heap.size, 0, none⟩ = some (.string m.1) := by simp
          have m1 : (W3.alloc (.cells #[.string m.1, .int .i64 m.2.1, .int .i64 m.2.2.1, .int .i64 m.2.2.2] 25)).cell? ⟨W3.heap.size, 1, none⟩ = some (.int .i64 m.2.1) := by simp
          have m2 : (W3.alloc (.cells #[.string m.1, .int .i64 m.2.1, .int .i64 m.2.2.1, .int .i64 m.2.2.2] 25)).cell? ⟨W3.heap.size, 2, none⟩ = some (.int .i64 m.2.2.1) := by simp
          have m3 : (W3.alloc (.cells #[.string m.1, .int .i64 m.2.1, .int .i64 m.2.2.1, .int .i64 m.2.2.2] 25)).cell? ⟨W3.heap.size, 3, none⟩ = some (.int .i64 m.2.2.2) := by simp
          have c4 := HP4.out.bx.cell
          have f4 := HP4.out.bx.frozen
          have hv4 := HP4.out.bx
          have hrow4 := HP4.out.row
          have hbel4 := HP4.out.bel
          have hsz4 : w.heap.size ≤ (W3.alloc (.cells #[.string m.1, .int .i64 m.2.1, .int .i64 m.2.2.1, .int .i64 m.2.2.2] 25)).heap.size := hbel4.size
          rw [HN0.out] at hrow4
          have hle : n0 ≤ 100000 := by
            have h1 := acc_le pre
            have h2 := all_le s (by omega)
            have := HN0.out
            omega
          obtain ⟨i0, hi, hz0, hz1, hz2⟩ := info_parts info25
          have hnew : ∀ j u, [Value.string m.1, .int .i64 m.2.1, .int .i64 m.2.2.1, .int .i64 m.2.2.2][j]? = some u → ((W3.alloc (.cells #[.string m.1, .int .i64 m.2.1, .int .i64 m.2.2.1, .int .i64 m.2.2.2] 25)).alloc (.cells #[.string m.1, .int .i64 m.2.1, .int .i64 m.2.2.1, .int .i64 m.2.2.2] 25)).cell? ((⟨W3.heap.size + 1, 0, none⟩ : Addr).add j) = some u := by simpa using new4' (W3.alloc (.cells #[.string m.1, .int .i64 m.2.1, .int .i64 m.2.2.1, .int .i64 m.2.2.2] 25)) 25 m
          have HAPP := Lib.hid (fun v' w1 tmp hg ho => (HN0.out ▸ HP4.out.app (m := m) (v' := v') (w1 := w1) (tmp := tmp) hg (by rw [HN0.out]; exact ho)))
          clear hb4 HP4
          gi_wp2_with (gi_at_builtin; refine wpListIn_append_own_at _ rfl _ _ 26 rfl w.heap.size 25 i0 (.agg #[.string ⟨#[]⟩, .int .i64 0, .int .i64 0, .int .i64 0]) 4 40 Tryz.underlying26 hi hz0 hz1 hz2 rfl (by decide) _ _ _ rfl (hrow4.alloc _) ⟨W3.heap.size + 1, 0, none⟩ 1 1 [.string m.1, .int .i64 m.2.1, .int .i64 m.2.2.1, .int .i64 m.2.2.2] rfl rfl hnew (one4' m) (by unfold maxLen; omega) (by omega) (by simp at hsz4 ⊢; omega) ?_; intro v' w1 hown' hgrow _ hat; obtain ⟨g', cap', rfl⟩ := ownsRow_succ hown'; obtain ⟨hv1, hps, hko, hkb⟩ := HAPP.out _ _ _ hgrow hown'; have hc1 := hv1.cell; have hf1 := hv1.frozen)
          exact ⟨HKO4.out.trans hko, HKB4.out.trans hkb, hps.pi HAC2.out.symm (lastN_snoc pre x).symm HOK2.out⟩
  case done =>
    rintro D xs W hD rfl ⟨⟨⟨⟨⟨v, hv, hrow, _⟩, h5⟩, r2⟩, r3⟩, hok, hB⟩ hK
    have hP := (show PS w w.heap.size (accM (allL s)) (lastN (allL s)) v W from ⟨hv, hrow, h5, r2, r3, hB⟩)
    have HP := Lib.hid hP
    have HK := Lib.hid hK
    have HOK := Lib.hid hok
    obtain ⟨A0, c0, hv0, hre0, hpl0, hhi0, _⟩ := rm_of_own hrow
    subst hv0
    have HRE := Lib.hid (And.intro hre0 hpl0)
    have c4 := hv.cell
    have c5 := h5.cell
    clear hP hK hok hv hrow h5 r2 r3 hB hre0 hpl0 hhi0
    by_cases hacc : accM (allL s) = []
    · have HE := Lib.hid (parse_empty s hs HOK.out hacc)
      have qa : (((accM (allL s)).length : Int) == 0) = true := by rw [hacc]; rfl
      have qa' : ((accM (allL s)).length : Int) = 0 := by rw [hacc]; rfl
      have hbd := lastN_bd s hs
      generalize lastN (allL s) = LN at *
      clear hacc
      have x0 : W.cell? ⟨w.heap.size, 0, none⟩ = some (.string ⟨#[]⟩) := HP.out.r2.cell 0
      have x1 : W.cell? ⟨w.heap.size, 1, none⟩ = some (.int .i64 0) := HP.out.r2.cell 1
      have x2 : W.cell? ⟨w.heap.size, 2, none⟩ = some (.int .i64 0) := HP.out.r2.cell 2
      have x3 : W.cell? ⟨w.heap.size, 3, none⟩ = some (.int .i64 0) := HP.out.r2.cell 3
      have x4 : W.cell? ⟨w.heap.size, 4, none⟩ = some (.slice none 0 0) := HP.out.r2.cell 4
      have g0 := HP.out.r2.frozen 0
      have g1 := HP.out.r2.frozen 1
      have g2 := HP.out.r2.frozen 2
      have g3 := HP.out.r2.frozen 3
      have g4 := HP.out.r2.frozen 4
      have y0 : W.cell? ⟨w.heap.size + 1, 0, none⟩ = some (.int .i64 0) := HP.out.r3.cell 0
      have y1 : W.cell? ⟨w.heap.size + 1, 1, none⟩ = some (.int .i64 0) := HP.out.r3.cell 1
      have k0 := HP.out.r3.frozen 0
      have k1 := HP.out.r3.frozen 1
      have hko : KeepsOthers W ((((((((W.setCell ⟨w.heap.size, 0, none⟩ (.string ⟨#[]⟩)).setCell ⟨w.heap.size, 1, none⟩ (.int .i64 0)).setCell ⟨w.heap.size, 2, none⟩ (.int .i64 0)).setCell ⟨w.heap.size, 3, none⟩ (.int .i64 0)).setCell ⟨w.heap.size, 4, none⟩ (.slice none 0 0)).setCell ⟨w.heap.size + 1, 0, none⟩ (.int .i64 8)).setCell ⟨w.heap.size + 1, 1, none⟩ (.int .i64 (LN + 1))).drew) := (((((((KeepsOthers.setCell _ _ _).trans (KeepsOthers.setCell _ _ _)).trans (KeepsOthers.setCell _ _ _)).trans (KeepsOthers.setCell _ _ _)).trans (KeepsOthers.setCell _ _ _)).trans (KeepsOthers.setCell _ _ _)).trans (KeepsOthers.setCell _ _ _)).trans (KeepsOthers.drew _)
      have hbe : Below w.heap.size w ((((((((W.setCell ⟨w.heap.size, 0, none⟩ (.string ⟨#[]⟩)).setCell ⟨w.heap.size, 1, none⟩ (.int .i64 0)).setCell ⟨w.heap.size, 2, none⟩ (.int .i64 0)).setCell ⟨w.heap.size, 3, none⟩ (.int .i64 0)).setCell ⟨w.heap.size, 4, none⟩ (.slice none 0 0)).setCell ⟨w.heap.size + 1, 0, none⟩ (.int .i64 8)).setCell ⟨w.heap.size + 1, 1, none⟩ (.int .i64 (LN + 1))).drew) := (((((((HP.out.bel.setCell (p := ⟨w.heap.size, 0, none⟩) (Nat.le_refl _) _).setCell (p := ⟨w.heap.size, 1, none⟩) (Nat.le_refl _) _).setCell (p := ⟨w.heap.size, 2, none⟩) (Nat.le_refl _) _).setCell (p := ⟨w.heap.size, 3, none⟩) (Nat.le_refl _) _).setCell (p := ⟨w.heap.size, 4, none⟩) (Nat.le_refl _) _).setCell (p := ⟨w.heap.size + 1, 0, none⟩) (by show w.heap.size ≤ w.heap.size + 1; omega) _).setCell (p := ⟨w.heap.size + 1, 1, none⟩) (by show w.heap.size ≤ w.heap.size + 1; omega) _).drew
      have hr2 : RowT ((((((((W.setCell ⟨w.heap.size, 0, none⟩ (.string ⟨#[]⟩)).setCell ⟨w.heap.size, 1, none⟩ (.int .i64 0)).setCell ⟨w.heap.size, 2, none⟩ (.int .i64 0)).setCell ⟨w.heap.size, 3, none⟩ (.int .i64 0)).setCell ⟨w.heap.size, 4, none⟩ (.slice none 0 0)).setCell ⟨w.heap.size + 1, 0, none⟩ (.int .i64 8)).setCell ⟨w.heap.size + 1, 1, none⟩ (.int .i64 (LN + 1))).drew) w.heap.size z28 28 := (((((((HP.out.r2.set 0 (.string ⟨#[]⟩) z28 rfl).set 1 (.int .i64 0) z28 rfl).set 2 (.int .i64 0) z28 rfl).set 3 (.int .i64 0) z28 rfl).set 4 (.slice none 0 0) z28 rfl).other (by omega) _).other (by omega) _).drew
      have hr3 : RowT ((((((((W.setCell ⟨w.heap.size, 0, none⟩ (.string ⟨#[]⟩)).setCell ⟨w.heap.size, 1, none⟩ (.int .i64 0)).setCell ⟨w.heap.size, 2, none⟩ (.int .i64 0)).setCell ⟨w.heap.size, 3, none⟩ (.int .i64 0)).setCell ⟨w.heap.size, 4, none⟩ (.slice none 0 0)).setCell ⟨w.heap.size + 1, 0, none⟩ (.int .i64 8)).setCell ⟨w.heap.size + 1, 1, none⟩ (.int .i64 (LN + 1))).drew) (w.heap.size + 1) #[.int .i64 8, .int .i64 (LN + 1)] 38 := (((((((HP.out.r3.other (by omega) _).other (by omega) _).other (by omega) _).other (by omega) _).other (by omega) _).set 0 (.int .i64 8) #[.int .i64 8, .int .i64 0] rfl).set 1 (.int .i64 (LN + 1)) #[.int .i64 8, .int .i64 (LN + 1)] rfl).drew
      obtain ⟨WE, hWE⟩ : ∃ WE, WE = (((((((W.setCell ⟨w.heap.size, 0, none⟩ (.string ⟨#[]⟩)).setCell ⟨w.heap.size, 1, none⟩ (.int .i64 0)).setCell ⟨w.heap.size, 2, none⟩ (.int .i64 0)).setCell ⟨w.heap.size, 3, none⟩ (.int .i64 0)).setCell ⟨w.heap.size, 4, none⟩ (.slice none 0 0)).setCell ⟨w.heap.size + 1, 0, none⟩ (.int .i64 8)).setCell ⟨w.heap.size + 1, 1, none⟩ (.int .i64 (LN + 1))).drew := ⟨_, rfl⟩
      rw [← hWE] at hko hbe hr2 hr3
      have HWE := Lib.hid hWE
      have hKE : WE.heap[D]? = some (.deferred (some [])) := hko.same D _ HK.out rfl
      have HKE := Lib.hid hKE
      have HEF := Lib.hid (end_facts hr2 hr3 hKE)
      have hbf : Below w.heap.size w (WE.putObj D (.deferred none)) := hbe.trans (belowK_b (w := w) (Nat.le_refl _) WE D _ _ (by have := hB2.out.size; omega) hKE rfl rfl)
      have HF := Lib.hid (show ParseIs s w (.returned (.tuple #[mf zeroMd none 0 0, .agg #[.int .i64 8, .int .i64 (LN + 1)]])) (WE.putObj D (.deferred none)) by unfold ParseIs; rw [HE.out]; exact ⟨rfl, hbf⟩)
      clear hko hbe hr2 hr3 hWE hKE hbf
      gi_wp2_with fail
      gi_region
      rw [← HWE.out]
      clear x0 x1 x2 x3 x4 g0 g1 g2 g3 g4 y0 y1 k0 k1 c4 c5 HWE
      gi_wp2_with fail
      refine ⟨by simp, .inl ⟨_, _, rfl, run_takeDeferred HKE.out, ?_⟩⟩
      obtain ⟨e2, y0, y1⟩ := HEF.out
      have x0 := e2 0
      have x1 := e2 1
      have x2 := e2 2
      have x3 := e2 3
      have x4 := e2 4
      simp only [List.getElem?_toArray, List.getElem?_cons_zero, List.getElem?_cons_succ] at x0 x1 x2 x3 x4
      exact ⟨.tuple #[mf zeroMd none 0 0, .agg #[.int .i64 8, .int .i64 (LN + 1)]], by simp [results, Tryz.results20, go_sem, x0, x1, x2, x3, x4, y0, y1], HF.out⟩
    · obtain ⟨m, r, hmr⟩ : ∃ m r, accM (allL s) = m :: r := List.exists_cons_of_ne_nil hacc
      have HE := Lib.hid (parse_full s hs HOK.out m r hmr)
      have hle : r.length + 1 ≤ 65536 := by
        have h1 := acc_le (allL s)
        have h2 := all_le s (by omega)
        rw [hmr, List.length_cons] at h1; omega
      rw [hmr] at HP HRE c4
      clear hacc hmr
      obtain ⟨g, hA0, hgl, hcap, hcm⟩ : ∃ g, A0 = some ⟨g, 0, none⟩ ∧ g < W.heap.size ∧ r.length + 1 ≤ c0 ∧ c0 ≤ maxLen := by
        rcases own_cell HP.out.row with ⟨h1, h2⟩ | ⟨g, c, h1, _, h2, h3, h4, _⟩
        · simp at h2
        · cases h1; exact ⟨g, rfl, h2, h3, h4⟩
      subst hA0
      obtain ⟨gb, go, hge, _, d0, d1, d2, d3⟩ := HRE.out.1.four 0 (by simp)
      cases hge
      simp only [List.getElem_cons_zero, Nat.zero_mul, Nat.add_zero, Nat.zero_add] at d0 d1 d2 d3
      simp only [List.length_cons] at c4 HRE
      have hS : S5 W (w.heap.size + 1 + 1) g (.slice (some ⟨g, 0, none⟩) (r.length + 1) c0) m W := ⟨Below.refl _ _, c4, d0, d1, d2, d3⟩
      have qa : ((r.length : Int) + 1 == 0) = false := by rw [beq_eq_false_iff_ne]; omega
      obtain ⟨oo, hRT, hsl⟩ := tail_slice g r.length c0 m r W rfl hcap HRE.out.1
      have HRT := Lib.hid hRT
      have HSL := Lib.hid hsl
      have hpl : w.heap.size + 1 + 1 < W.heap.size := by have := HP.out.lt; omega
      have KS := Lib.hid (fun W' (hb : Below W.heap.size W W') => sorted_any (some ⟨g, oo, none⟩) (c0 - 1) r W' (HRT.out.up hb) (by omega) (.inr ⟨g, oo, rfl⟩))
      clear c5 hRT hsl hcm
      gi_wp2_with fail
      refine wpIn_wide.2 ?_
      go_cut [12] from 54 to 60 (fun p wx => CutP W m (sortM r) p wx)
      case first =>
        have hsl := HSL.out
        go_region_held3 (fun w' => S5 W (w.heap.size + 1 + 1) g (.slice (some ⟨g, 0, none⟩) (r.length + 1) c0) m w') (first | (with_reducible assumption) | ((with_reducible refine S5.sets ?_ hpl hgl (Nat.le_refl _)); with_reducible exact Hid.out (by with_reducible assumption)) | ((with_reducible refine S5.keep ?_ ((Below.refl _ _).drew)); with_reducible assumption) | ((with_reducible refine S5.dal ?_); with_reducible assumption) | ((with_reducible refine S5.keep ?_ (bal _ _)); first | with_reducible assumption | with_reducible exact Hid.out (by with_reducible assumption)) | with_reducible exact Hid.out (by with_reducible assumption))
          (first | (go_at_call 44; ((with_reducible refine (KS.out _ (show S5 W (w.heap.size + 1 + 1) g (.slice (some ⟨g, 0, none⟩) (r.length + 1) c0) m _ by assumption).1).mono ?_)); rintro e w8 ⟨A1, c1, rfl, hre8, ⟨hpl8, hhi8, hty8⟩, hb8⟩; with_reducible have hS8 := S5.keep (W' := w8) (by assumption) hb8; obtain ⟨HH, hHH⟩ : ∃ h : Hid (S5 W (w.heap.size + 1 + 1) g (Value.slice (some ⟨g, 0, none⟩) (r.length + 1) c0) m w8), h = h := ⟨Lib.hid hS8, rfl⟩; clear hHH hS8; first | (with_reducible have hy := newboxd hb8; obtain ⟨⟨b0, b1, b2, b3, b4⟩, ⟨bf0, bf1, bf2, bf3, bf4⟩, bl⟩ := hy) | skip))
        · go_wp2_with fail
          go_meet
          exact cut_1 hre8 hpl8 (hhi8.le (Nat.le_refl _)) ((Below.refl _ _).drew.trans hb8)
        · go_wp2_with fail
          go_meet
          exact cut_2 hre8 hpl8 hhi8 hb8
      case rest =>
        obtain ⟨q, A1, c1, rfl, ⟨hq1, hq2⟩, ⟨q0, q1, q2, q3, q4⟩, hRM, hPl, hHi, hBe⟩ := hcut
        have hsl := sortM_length r
        have hCw := HC.out.keep (HP.out.bel.trans (hBe.mono HP.out.bel.size))
        have HPc := Lib.hid (HP.out.up hBe)
        have HP0 := Lib.hid HP.out
        have hDl : D < W.heap.size := by
          have := HK.out
          exact (Array.getElem?_eq_some_iff.1 this).1
        have HKc := Lib.hid ((hBe.block D hDl).trans HK.out)
        have HRM := Lib.hid hRM
        have HPL := Lib.hid (And.intro hPl hHi)
        have KC := Lib.hid (fun W' (hb : Below wc.heap.size wc W') => check_any m A1 c1 (sortM r) W' ((hCw.keep hb).max) (HRM.out.up hb) hPl (by omega))
        clear HP HK HRE HRT HSL KS hS d0 d1 d2 d3 c4 hRM hPl hHi hCw HOK hsl
        refine ‹∀ (a : Act) (w_1 : World), Code.wpIn Fence.wide 8 Tryz.prog _ _ a w_1 → _› _ _ ?_
        refine wpIn_wide.2 ?_
        by_cases hch : chkM m (sortM r) = 0
        · have HCH := Lib.hid hch
          have qb : (chkM m (sortM r) != 0) = false := by simp [hch]
          clear hch
          go_wp2_with fail
          refine (KC.out _ (by first | exact Below.refl _ _ | exact (Below.refl _ _).drew)).mono ?_
          rintro e w2 ⟨rfl, hb2⟩
          have hb2 : Below wc.heap.size wc w2 := by first | exact hb2 | exact (Below.refl _ _).drew.trans hb2
          have HP := Lib.hid (HPc.out.up hb2)
          have HK := Lib.hid ((hb2.block D (Nat.lt_of_lt_of_le hDl hBe.size)).trans HKc.out)
          have HRM2 := Lib.hid (HRM.out.up hb2)
          have HE2 := Lib.hid (HE.out.trans (if_neg (fun h => h HCH.out)))
          have q0' := cell_keep q0 hb2
          have q1' := cell_keep q1 hb2
          have q2' := cell_keep q2 hb2
          have q3' := cell_keep q3 hb2
          have q4' := cell_keep q4 hb2
          generalize chkM m (sortM r) = n at *
          clear hb2 HPc HKc KC HRM q0 q1 q2 q3 q4 HE
          have x0 : w2.cell? ⟨w.heap.size, 0, none⟩ = some (.string ⟨#[]⟩) := HP.out.r2.cell 0
          have x1 : w2.cell? ⟨w.heap.size, 1, none⟩ = some (.int .i64 0) := HP.out.r2.cell 1
          have x2 : w2.cell? ⟨w.heap.size, 2, none⟩ = some (.int .i64 0) := HP.out.r2.cell 2
          have x3 : w2.cell? ⟨w.heap.size, 3, none⟩ = some (.int .i64 0) := HP.out.r2.cell 3
          have x4 : w2.cell? ⟨w.heap.size, 4, none⟩ = some (.slice none 0 0) := HP.out.r2.cell 4
          have g0 := HP.out.r2.frozen 0
          have g1 := HP.out.r2.frozen 1
          have g2 := HP.out.r2.frozen 2
          have g3 := HP.out.r2.frozen 3
          have g4 := HP.out.r2.frozen 4
          have y0 : w2.cell? ⟨w.heap.size + 1, 0, none⟩ = some (.int .i64 0) := HP.out.r3.cell 0
          have y1 : w2.cell? ⟨w.heap.size + 1, 1, none⟩ = some (.int .i64 0) := HP.out.r3.cell 1
          have k0 := HP.out.r3.frozen 0
          have k1 := HP.out.r3.frozen 1
          go_wp2_with fail
          obtain ⟨WE, hWE⟩ : ∃ WE, WE = (((((((w2.setCell ⟨w.heap.size, 0, none⟩ (.string m.1)).setCell ⟨w.heap.size, 1, none⟩ (.int .i64 m.2.1)).setCell ⟨w.heap.size, 2, none⟩ (.int .i64 m.2.2.1)).setCell ⟨w.heap.size, 3, none⟩ (.int .i64 m.2.2.2)).setCell ⟨w.heap.size, 4, none⟩ (.slice A1 (sortM r).length c1)).setCell ⟨w.heap.size + 1, 0, none⟩ (.int .i64 0)).setCell ⟨w.heap.size + 1, 1, none⟩ (.int .i64 0)) := ⟨_, rfl⟩
          have HEF := Lib.hid (both_ends (w := w) HP.out.r2 HP.out.r3 HK.out HP.out.bel rfl (by have := hB2.out.size; omega) hDl (by omega) _ _ _ _ _ _ _ hWE)
          rw [← hWE]
          clear x0 x1 x2 x3 x4 g0 g1 g2 g3 g4 y0 y1 k0 k1 hWE HK q0' q1' q2' q3' q4'
          refine ⟨by simp, .inl ⟨_, _, rfl, run_takeDeferred HEF.out.1, ?_⟩⟩
          obtain ⟨_, ⟨x0, x1, x2, x3, x4⟩, ⟨y0, y1⟩, hbl, hblk, hsz⟩ := HEF.out
          refine ⟨.tuple #[mf m A1 (sortM r).length c1, .agg #[.int .i64 0, .int .i64 0]], by simp [results, Tryz.results20, go_sem, x0, x1, x2, x3, x4, y0, y1], ?_⟩
          unfold ParseIs; rw [HE2.out]
          exact ⟨⟨A1, c1, rfl, by rw [hsz]; exact rm_hi HRM2.out HPL.out.2 hblk, HPL.out.1, HPL.out.2.le HP0.out.bel.size⟩, hbl⟩
        · have HCH := Lib.hid hch
          have qb : (chkM m (sortM r) != 0) = true := by simp [hch]
          clear hch
          go_wp2_with fail
          refine (KC.out _ (by first | exact Below.refl _ _ | exact (Below.refl _ _).drew)).mono ?_
          rintro e w2 ⟨rfl, hb2⟩
          have hb2 : Below wc.heap.size wc w2 := by first | exact hb2 | exact (Below.refl _ _).drew.trans hb2
          have HP := Lib.hid (HPc.out.up hb2)
          have HK := Lib.hid ((hb2.block D (Nat.lt_of_lt_of_le hDl hBe.size)).trans HKc.out)
          have HBE := Lib.hid (hBe.trans (hb2.mono hBe.size))
          have HE2 := Lib.hid (HE.out.trans (if_pos HCH.out))
          generalize chkM m (sortM r) = n at *
          clear hb2 HPc HKc KC HRM HPL q0 q1 q2 q3 q4 hBe hq1 hq2 HE
          have x0 : w2.cell? ⟨w.heap.size, 0, none⟩ = some (.string ⟨#[]⟩) := HP.out.r2.cell 0
          have x1 : w2.cell? ⟨w.heap.size, 1, none⟩ = some (.int .i64 0) := HP.out.r2.cell 1
          have x2 : w2.cell? ⟨w.heap.size, 2, none⟩ = some (.int .i64 0) := HP.out.r2.cell 2
          have x3 : w2.cell? ⟨w.heap.size, 3, none⟩ = some (.int .i64 0) := HP.out.r2.cell 3
          have x4 : w2.cell? ⟨w.heap.size, 4, none⟩ = some (.slice none 0 0) := HP.out.r2.cell 4
          have g0 := HP.out.r2.frozen 0
          have g1 := HP.out.r2.frozen 1
          have g2 := HP.out.r2.frozen 2
          have g3 := HP.out.r2.frozen 3
          have g4 := HP.out.r2.frozen 4
          have y0 : w2.cell? ⟨w.heap.size + 1, 0, none⟩ = some (.int .i64 0) := HP.out.r3.cell 0
          have y1 : w2.cell? ⟨w.heap.size + 1, 1, none⟩ = some (.int .i64 0) := HP.out.r3.cell 1
          have k0 := HP.out.r3.frozen 0
          have k1 := HP.out.r3.frozen 1
          go_wp2_with fail
          obtain ⟨WE, hWE⟩ : ∃ WE, WE = (((((((w2.setCell ⟨w.heap.size, 0, none⟩ (.string ⟨#[]⟩)).setCell ⟨w.heap.size, 1, none⟩ (.int .i64 0)).setCell ⟨w.heap.size, 2, none⟩ (.int .i64 0)).setCell ⟨w.heap.size, 3, none⟩ (.int .i64 0)).setCell ⟨w.heap.size, 4, none⟩ (.slice none 0 0)).setCell ⟨w.heap.size + 1, 0, none⟩ (.int .i64 n)).setCell ⟨w.heap.size + 1, 1, none⟩ (.int .i64 0)) := ⟨_, rfl⟩
          have HEF := Lib.hid (both_ends (w := w) HP.out.r2 HP.out.r3 HK.out HP.out.bel rfl (by have := hB2.out.size; omega) hDl (by omega) _ _ _ _ _ _ _ hWE)
          rw [← hWE]
          clear x0 x1 x2 x3 x4 g0 g1 g2 g3 g4 y0 y1 k0 k1 hWE HK HBE
          refine ⟨by simp, .inl ⟨_, _, rfl, run_takeDeferred HEF.out.1, ?_⟩⟩
          obtain ⟨_, ⟨x0, x1, x2, x3, x4⟩, ⟨y0, y1⟩, hbl, _⟩ := HEF.out
          exact ⟨.tuple #[mf zeroMd none 0 0, .agg #[.int .i64 n, .int .i64 0]], by simp [results, Tryz.results20, go_sem, x0, x1, x2, x3, x4, y0, y1], by unfold ParseIs; rw [HE2.out]; exact ⟨rfl, hbl⟩⟩
  case stop =>
    rintro D c pre W hD hSp ⟨rfl, p, x, rfl, hscan, ⟨r2, r3⟩, hB⟩ hK
    have HE := Lib.hid (parse_stop s hs p x hSp hscan)
    have hr2 := rowT_own (β := Unit) w.heap.size z28 28 () W _ (some D) r2 (grownBy_putObj' W D (.deferred none)) (fun r e => by cases e; exact ⟨_, hK, rfl⟩)
    have hr3 := rowT_own (β := Unit) (w.heap.size + 1) #[.int .i64 8, .int .i64 (x.1.1 : Int)] 38 () W _ (some D) r3 (grownBy_putObj' W D (.deferred none)) (fun r e => by cases e; exact ⟨_, hK, rfl⟩)
    have hr2 : RowT (W.putObj D (.deferred none)) w.heap.size z28 28 := hr2
    have hr3 : RowT (W.putObj D (.deferred none)) (w.heap.size + 1) #[.int .i64 8, .int .i64 (x.1.1 : Int)] 38 := hr3
    have x0 : (W.putObj D (.deferred none)).cell? ⟨w.heap.size, 0, none⟩ = some (.string ⟨#[]⟩) := hr2.cell 0
    have x1 : (W.putObj D (.deferred none)).cell? ⟨w.heap.size, 1, none⟩ = some (.int .i64 0) := hr2.cell 1
    have x2 : (W.putObj D (.deferred none)).cell? ⟨w.heap.size, 2, none⟩ = some (.int .i64 0) := hr2.cell 2
    have x3 : (W.putObj D (.deferred none)).cell? ⟨w.heap.size, 3, none⟩ = some (.int .i64 0) := hr2.cell 3
    have x4 : (W.putObj D (.deferred none)).cell? ⟨w.heap.size, 4, none⟩ = some (.slice none 0 0) := hr2.cell 4
    have y0 : (W.putObj D (.deferred none)).cell? ⟨w.heap.size + 1, 0, none⟩ = some (.int .i64 8) := hr3.cell 0
    have y1 : (W.putObj D (.deferred none)).cell? ⟨w.heap.size + 1, 1, none⟩ = some (.int .i64 (x.1.1 : Int)) := hr3.cell 1
    have hbf : Below w.heap.size w (W.putObj D (.deferred none)) := hB.trans (belowK_b (w := w) (Nat.le_refl _) W D _ _ (by have := hB2.out.size; omega) hK rfl rfl)
    have HF := Lib.hid (show ParseIs s w (.returned (.tuple #[mf zeroMd none 0 0, .agg #[.int .i64 8, .int .i64 (x.1.1 : Int)]])) (W.putObj D (.deferred none)) by unfold ParseIs; rw [HE.out]; exact ⟨rfl, hbf⟩)
    clear hr2 hr3 hbf
    gi_wp2_with fail
    refine ⟨by simp, .inl ⟨_, _, rfl, run_takeDeferred hK, ?_⟩⟩
    exact ⟨.tuple #[mf zeroMd none 0 0, .agg #[.int .i64 8, .int .i64 (x.1.1 : Int)]], by simp [results, Tryz.results20, go_sem, x0, x1, x2, x3, x4, y0, y1], HF.out⟩
end Go.Proofs.YtaeideimlagheaaGreatDoor
