/-
  The specification's Parse: what stands between two rounds of its loop. Texts of at most 65536 bytes. No other condition.
-/
import Derived.Test.YtaeideimlagheaaGreatDoorRL
import Derived.Test.YtaeideimlagheaaGreatDoorRW
import Derived.Test.YtaeideimlagheaaGreatDoorRO
import Derived.Test.YtaeideimlagheaaGreatDoorSW
import Derived.Test.YtaeideimlagheaaGreatDoorOC
import Derived.Test.YtaeideimlagheaaGreatDoorW5
namespace Go.Proofs.YtaeideimlagheaaGreatDoor
open Go.RowKit Go.Sort Go.Lib Go.Shelf Go.Proofs
set_option linter.unusedSimpArgs false
set_option linter.unnecessarySimpa false
set_option linter.unusedVariables false
/-- what the first k lines gave: found or not, the module, the requirements -/
def ScI (L : List ByteArray) (k : Nat) (f : Bool) (x : Md) (R : List Md) : Prop :=
  scanL verV ((L.take k).map (·.data.toList)) 1 [] = .inr (if f = true then x :: R else []) ∧ (f = false → x = zeroMd ∧ R = [])
theorem ScI.start (L : List ByteArray) : ScI L 0 false zeroMd [] := ⟨rfl, fun _ => ⟨rfl, rfl⟩⟩
theorem take_map {L : List ByteArray} {k : Nat} (h : k < L.length) : (L.take (k + 1)).map (·.data.toList) = (L.take k).map (·.data.toList) ++ [L[k].data.toList] := by
  rw [← List.take_append_getElem h, List.map_append]; rfl
theorem ScI.step {L : List ByteArray} {k : Nat} {f : Bool} {x : Md} {R : List Md} (h : ScI L k f x R) (hk : k < L.length) :
    scanL verV ((L.take (k + 1)).map (·.data.toList)) 1 [] = stepL verV L[k].data.toList (k + 1) (if f = true then x :: R else []) := by
  rw [take_map hk, scan_snoc, h.1]
  simp only [List.length_map, List.length_take]
  rw [show 1 + min k L.length = k + 1 by omega]
theorem ScI.blank {L : List ByteArray} {k : Nat} {f : Bool} {x : Md} {R : List Md} (h : ScI L k f x R) (hk : k < L.length) (hw : wordsC L[k].data.toList = []) : ScI L (k + 1) f x R := by
  refine ⟨?_, h.2⟩
  rw [h.step hk, stepL, if_pos hw]
def kwF (f : Bool) : ByteArray := if f = true then kR else kM
theorem kwF_list (f : Bool) (x : Md) (R : List Md) : (if (if f = true then x :: R else []) = [] then kwM else kwR) = (kwF f).data.toList := by
  cases f
  · simp [kwF]; rfl
  · simp [kwF]; rfl
theorem ScI.first {L : List ByteArray} {k : Nat} {x : Md} {R : List Md} {m : Md} (h : ScI L k false x R) (hk : k < L.length) (hw : wordsC L[k].data.toList ≠ []) (hm : readL verV (kwF false).data.toList (wordsC L[k].data.toList) = some m) : ScI L (k + 1) true m [] := by
  refine ⟨?_, fun h => by cases h⟩
  rw [h.step hk, stepL, if_neg hw, kwF_list, hm]
  simp
theorem ScI.more {L : List ByteArray} {k : Nat} {x : Md} {R : List Md} {m : Md} (h : ScI L k true x R) (hk : k < L.length) (hw : wordsC L[k].data.toList ≠ []) (hm : readL verV (kwF true).data.toList (wordsC L[k].data.toList) = some m) : ScI L (k + 1) true x (R ++ [m]) := by
  refine ⟨?_, fun h => by cases h⟩
  rw [h.step hk, stepL, if_neg hw, kwF_list, hm]
  simp
theorem ScI.bad {L : List ByteArray} {k : Nat} {f : Bool} {x : Md} {R : List Md} {s : List UInt8} (h : ScI L k f x R) (hk : k < L.length) (hL : L.map (·.data.toList) = linesL s) (hs : s.length ≤ 65536) (hw : wordsC L[k].data.toList ≠ []) (hm : readL verV (kwF f).data.toList (wordsC L[k].data.toList) = none) : parseL verV s = .inl (8, ((k + 1 : Nat) : Int)) := by
  have h1 : scanL verV ((L.take (k + 1)).map (·.data.toList)) 1 [] = .inl (k + 1) := by
    rw [h.step hk, stepL, if_neg hw, kwF_list, hm]
  have h2 := scan_fail verV ((L.drop (k + 1)).map (·.data.toList)) (k + 1) _ _ _ h1
  rw [← List.map_append, List.take_append_drop, hL] at h2
  unfold parseL
  rw [if_neg (by omega), h2]
theorem ScI.none {L : List ByteArray} {x : Md} {R : List Md} {s : List UInt8} (h : ScI L L.length false x R) (hL : L.map (·.data.toList) = linesL s) (hs : s.length ≤ 65536) : parseL verV s = .inl (8, ((L.length + 1 : Nat) : Int)) := by
  have h1 := h.1
  rw [List.take_length, hL] at h1
  unfold parseL
  rw [if_neg (by omega), h1]
  have : (linesL s).length = L.length := by rw [← hL, List.length_map]
  simp [this]
theorem ScI.done {L : List ByteArray} {x : Md} {R : List Md} {s : List UInt8} (h : ScI L L.length true x R) (hL : L.map (·.data.toList) = linesL s) (hs : s.length ≤ 65536) : parseL verV s = if chkM x R ≠ 0 then .inl (chkM x R, 0) else .inr (x, sortM R) := by
  have h1 := h.1
  rw [List.take_length, hL] at h1
  unfold parseL
  rw [if_neg (by omega), h1]
  simp only [if_true]
  rw [chkM_turn (sortM_perm R)]
theorem ScI.few {L : List ByteArray} {k : Nat} {f : Bool} {x : Md} {R : List Md} (h : ScI L k f x R) : R.length ≤ L.length := by
  cases f
  · rw [(h.2 rfl).2]; simp
  · have := scan_le verV _ _ _ _ h.1
    simp at this; omega
theorem read_path {V : List UInt8 → Option (Int × Int × Int)} {kw : List UInt8} {W : List (List UInt8)} {m : Md} (h : readL V kw W = some m) : pathB m.1.data.toList = true := by
  unfold readL at h
  split at h
  · rename_i k p v
    split at h
    · rename_i h1
      cases hv : V v with
      | none => rw [hv] at h; cases h
      | some t => rw [hv] at h; cases h; exact h1.2
    · cases h
  · cases h
theorem scan_path (V : List UInt8 → Option (Int × Int × Int)) : ∀ (L : List (List UInt8)) (n : Nat) (all R : List Md), (∀ y ∈ all, pathB y.1.data.toList = true) → scanL V L n all = .inr R → ∀ y ∈ R, pathB y.1.data.toList = true
  | [], n, all, R, ha, h => by simp only [scanL, Sum.inr.injEq] at h; subst h; exact ha
  | x :: t, n, all, R, ha, h => by
    rw [scanL] at h
    split at h
    · exact scan_path V t _ _ _ ha h
    · split at h
      · cases h
      · rename_i m hm
        refine scan_path V t _ _ _ (fun y hy => ?_) h
        rcases List.mem_append.1 hy with hy | hy
        · exact ha y hy
        · simp only [List.mem_singleton] at hy; subst hy; exact read_path hm
theorem ScI.paths {L : List ByteArray} {k : Nat} {x : Md} {R : List Md} (h : ScI L k true x R) : ∀ y ∈ x :: R, y.1.size ≤ 60 := fun y hy => by
  have := scan_path verV _ _ _ _ (fun _ h => by cases h) h.1 y (by simpa using hy)
  unfold pathB at this
  rw [Bool.and_eq_true, decide_eq_true_eq] at this
  have h2 := this.1
  simpa using h2
/-- what stands in the boxes between two rounds -/
structure PR (w w1 : World) (x : Md) (v : Value) (R : List Md) (W : World) : Prop where
  bel : Below w.heap.size w W
  r2 : RowT W w.heap.size z28 28
  r3 : RowT W (w.heap.size + 1) z38 38
  r4 : RowT W (w.heap.size + 1 + 1) #[.string x.1, .int .i64 x.2.1, .int .i64 x.2.2.1, .int .i64 x.2.2.2, v] 28
  row : W.ownsRow w1.heap.size 25 4 v R.length (flatM R)
  sz : w1.heap.size ≤ W.heap.size
  lo : w.heap.size + 1 + 1 + 1 ≤ w1.heap.size
  kp : ∀ g, w.heap.size + 1 + 1 + 1 ≤ g → g < w1.heap.size → W.heap[g]? = w1.heap[g]?
theorem PR.up {w w1 W W' : World} {x : Md} {v : Value} {R : List Md} (h : PR w w1 x v R W) (hb : Below W.heap.size W W') : PR w w1 x v R W' :=
  ⟨h.bel.trans (hb.mono h.bel.size), h.r2.up hb h.r2.lt, h.r3.up hb h.r3.lt, h.r4.up hb h.r4.lt, own_up h.row hb, Nat.le_trans h.sz hb.size, h.lo, fun g h1 h2 => (hb.block g (Nat.lt_of_lt_of_le h2 h.sz)).trans (h.kp g h1 h2)⟩
theorem PR.cell {w w1 W : World} {x : Md} {v : Value} {R : List Md} (h : PR w w1 x v R W) {g o : Nat} (hg : w.heap.size + 1 + 1 + 1 ≤ g) (hl : g < w1.heap.size) : W.cell? ⟨g, o, none⟩ = w1.cell? ⟨g, o, none⟩ := cell_of_block (h.kp g hg hl)
theorem gset (W : World) (b i : Nat) (v : Value) : W.grownBy (W.setCell ⟨b, i, none⟩ v) (some b) :=
  ⟨rfl, rfl, rfl, (KeepsWalks.setCell W _ v).size, fun k _ hk => Below.heap_setCell _ _ _ k (fun e => hk (by rw [e]))⟩
theorem own_set {W : World} {B n : Nat} {v : Value} {xs : List Value} (h : W.ownsRow B 25 4 v n xs) {b i : Nat} (hb : some b ≠ v.ownBlock) (u : Value) : (W.setCell ⟨b, i, none⟩ u).ownsRow B 25 4 v n xs :=
  World.ownsRow.kept h (gset W b i u) (.inr fun e => hb e.symm)
/-- the module is put into its box -/
theorem PR.put {w w1 W : World} {x m : Md} {v : Value} {R : List Md} (h : PR w w1 x v R W) :
    PR w w1 m v R ((((W.setCell ⟨w.heap.size + 1 + 1, 0, none⟩ (.string m.1)).setCell ⟨w.heap.size + 1 + 1, 1, none⟩ (.int .i64 m.2.1)).setCell ⟨w.heap.size + 1 + 1, 2, none⟩ (.int .i64 m.2.2.1)).setCell ⟨w.heap.size + 1 + 1, 3, none⟩ (.int .i64 m.2.2.2)) := by
  have hap := row_apart h.row h.r4 (by decide)
  refine ⟨(((h.bel.setCell (p := ⟨w.heap.size + 1 + 1, 0, none⟩) (by show w.heap.size ≤ w.heap.size + 1 + 1; omega) _).setCell (p := ⟨w.heap.size + 1 + 1, 1, none⟩) (by show w.heap.size ≤ w.heap.size + 1 + 1; omega) _).setCell (p := ⟨w.heap.size + 1 + 1, 2, none⟩) (by show w.heap.size ≤ w.heap.size + 1 + 1; omega) _).setCell (p := ⟨w.heap.size + 1 + 1, 3, none⟩) (by show w.heap.size ≤ w.heap.size + 1 + 1; omega) _,
    (((h.r2.other (by omega) _).other (by omega) _).other (by omega) _).other (by omega) _,
    (((h.r3.other (by omega) _).other (by omega) _).other (by omega) _).other (by omega) _,
    (((h.r4.set 0 (.string m.1) #[.string m.1, .int .i64 x.2.1, .int .i64 x.2.2.1, .int .i64 x.2.2.2, v] rfl).set 1 (.int .i64 m.2.1) #[.string m.1, .int .i64 m.2.1, .int .i64 x.2.2.1, .int .i64 x.2.2.2, v] rfl).set 2 (.int .i64 m.2.2.1) #[.string m.1, .int .i64 m.2.1, .int .i64 m.2.2.1, .int .i64 x.2.2.2, v] rfl).set 3 (.int .i64 m.2.2.2) #[.string m.1, .int .i64 m.2.1, .int .i64 m.2.2.1, .int .i64 m.2.2.2, v] rfl,
    ?_, by simp; exact h.sz, h.lo, fun g h1 h2 => ?_⟩
  · exact own_set (own_set (own_set (own_set h.row hap _) hap _) hap _) hap _
  · rw [setCell_block _ (by omega), setCell_block _ (by omega), setCell_block _ (by omega), setCell_block _ (by omega)]
    exact h.kp g h1 h2
/-- a module is appended, and the new slice put into its box -/
theorem PR.app {w w1 W W2 : World} {x m : Md} {v v' : Value} {R : List Md} {o : Obj} (h : PR w w1 x v R W) (hg : (W.alloc o).grownBy W2 v.ownBlock)
    (hown : W2.ownsRow w1.heap.size 25 4 v' (R.length + 1) (flatM R ++ flatM [m])) : PR w w1 x v' (R ++ [m]) (W2.setCell ⟨w.heap.size + 1 + 1, 4, none⟩ v') := by
  have hb : ∀ k, some k = v.ownBlock → w1.heap.size ≤ k := fun k hk => (h.row.lt k hk.symm).1
  have hB2 : Below w1.heap.size W W2 := ((Below.refl _ _).alloc h.sz o).grown hg (by have := h.sz; simp; omega) (fun k hk => (h.row.lt k hk).1)
  have hlo := h.lo
  have r4' : RowT W2 (w.heap.size + 1 + 1) #[.string x.1, .int .i64 x.2.1, .int .i64 x.2.2.1, .int .i64 x.2.2.2, v] 28 := h.r4.up hB2 (by omega)
  have hap := row_apart hown r4' (by decide)
  refine ⟨(h.bel.trans (hB2.mono (by omega))).setCell (p := ⟨w.heap.size + 1 + 1, 4, none⟩) (by show w.heap.size ≤ w.heap.size + 1 + 1; omega) _, (h.r2.up hB2 (by omega)).other (by omega) _, (h.r3.up hB2 (by omega)).other (by omega) _, r4'.set 4 v' _ rfl, ?_, by simp; exact Nat.le_trans h.sz hB2.size, hlo, fun g h1 h2 => ?_⟩
  · rw [List.length_append, flatM_append]
    exact own_set hown hap _
  · rw [setCell_block _ (by omega), hB2.block g h2]; exact h.kp g h1 h2
end Go.Proofs.YtaeideimlagheaaGreatDoor
