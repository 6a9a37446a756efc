/-
  container/heap over the queue of Topo: Less, Swap, up, down, Push, Pop. Conditions: at most 1000 numbers.
-/
import Derived.Test.YthgfomjmkmkhkaaQa
import Derived.Test.YthgfomjmkmkhkaaM8
namespace Go.Proofs.Ythgfomjmkmkhkaa
open Go.RowKit
set_option linter.unusedSimpArgs false
set_option linter.unusedVariables false
/-- the queue in the box q: its slice v, which reads as xs, in a row of its own in blocks from B on -/
structure QS (w : World) (q B : Nat) (v : Value) (xs : List Int) : Prop where
  qB : q < B
  qs : q < w.heap.size
  box : w.cell? ⟨q, 0, none⟩ = some v
  frz : w.frozen? ⟨q, 0, none⟩ = false
  row : w.ownsRow B 3 1 v xs.length (icells xs)
/-- what the queue's calls change: the box, the row, new blocks -/
structure HStep (q : Nat) (w : World) (v : Value) (w' : World) (v' : Value) : Prop where
  os : w'.os = w.os
  tape : w'.tape = w.tape
  output : w'.output = w.output
  size : w.heap.size ≤ w'.heap.size
  block : ∀ k, k < w.heap.size → k ≠ q → v.ownBlock ≠ some k → w'.heap[k]? = w.heap[k]?
  own : v'.ownBlock = v.ownBlock ∨ ∃ j, w.heap.size ≤ j ∧ v'.ownBlock = some j
theorem HStep.refl (q : Nat) (w : World) (v : Value) : HStep q w v w v := ⟨rfl, rfl, rfl, Nat.le_refl _, fun _ _ _ _ => rfl, Or.inl rfl⟩
theorem HStep.trans {q : Nat} {w w1 w2 : World} {v v1 v2 : Value} (h : HStep q w v w1 v1) (k : HStep q w1 v1 w2 v2) : HStep q w v w2 v2 where
  os := k.os.trans h.os
  tape := k.tape.trans h.tape
  output := k.output.trans h.output
  size := Nat.le_trans h.size k.size
  block := by
    intro i hi hq hv
    rw [k.block i (Nat.lt_of_lt_of_le hi h.size) hq ?_, h.block i hi hq hv]
    rcases h.own with e | ⟨j, hj, e⟩
    · rw [e]; exact hv
    · rw [e]; intro e'; have := Option.some.inj e'; omega
  own := by
    rcases k.own with e | ⟨j, hj, e⟩
    · rw [e]; exact h.own
    · exact Or.inr ⟨j, Nat.le_trans h.size hj, e⟩
theorem HStep.below {q : Nat} {w w1 w2 : World} {v v1 : Value} (h : HStep q w v w1 v1) (k : Below w1.heap.size w1 w2) : HStep q w v w2 v1 where
  os := k.os.trans h.os
  tape := k.tape.trans h.tape
  output := k.output.trans h.output
  size := Nat.le_trans h.size k.size
  block := by intro i hi hq hv; rw [k.block i (Nat.lt_of_lt_of_le hi h.size)]; exact h.block i hi hq hv
  own := h.own
theorem QS.keep {w w' : World} {q B : Nat} {v : Value} {xs : List Int} (Q : QS w q B v xs) (hb : Below w.heap.size w w') : QS w' q B v xs :=
  ⟨Q.qB, Nat.lt_of_lt_of_le Q.qs hb.size, by rw [hb.cell Q.qs]; exact Q.box, by rw [hb.frozen Q.qs]; exact Q.frz, own_below Q.row hb⟩
/-- the queue as the interface's value -/
abbrev qi (q : Nat) : Value := .iface 46 (.pointer (some ⟨q, 0, none⟩))
theorem qs_slice {w : World} {q B : Nat} {v : Value} {xs : List Int} (Q : QS w q B v xs) (h0 : 0 < xs.length) : ∃ g c, v = .slice (some ⟨g, 0, none⟩) xs.length c ∧ B ≤ g ∧ g < w.heap.size := by
  rcases Q.row.2 with ⟨hv, h1⟩ | ⟨g, cap, cur, hv, hb, hg, _⟩
  · omega
  · exact ⟨g, cap, hv, hb, (Array.getElem?_eq_some_iff.1 hg).1⟩
theorem less_q {w : World} {q B : Nat} {v : Value} {xs : List Int} (Q : QS w q B v xs) {i j : Nat} (hi : i < xs.length) (hj : j < xs.length) (hl : xs.length ≤ 2000) :
    Calls Try.prog 69 #[v, .int .i64 (i : Int), .int .i64 (j : Int)] w fun e w' => e = .returned (.bool (decide (gt xs i < gt xs j))) ∧ ∃ n, w' = w.drewN n := by
  obtain ⟨g, c, rfl, hb, hg⟩ := qs_slice Q (by omega)
  refine Try.IntSlice_Less g 0 c xs.length w (fun t => gt xs t) (fun t ht => ?_) i j hi hj (by omega)
  rw [Nat.zero_add, World.ownsRow.cellAt Q.row t (by omega)]
  simp [icells, some_gt ht]
theorem swap_q {w : World} {q B : Nat} {v : Value} {xs : List Int} (Q : QS w q B v xs) {i j : Nat} (hi : i < xs.length) (hj : j < xs.length) (hl : xs.length ≤ 2000) :
    Calls Try.prog 73 #[v, .int .i64 (i : Int), .int .i64 (j : Int)] w fun e w' => e = .returned (.tuple #[]) ∧ QS w' q B v (swp xs i j) ∧ HStep q w v w' v := by
  obtain ⟨g, c, rfl, hb, hg⟩ := qs_slice Q (by omega)
  have hc : ∀ t, t < xs.length → w.cell? ⟨g, t, none⟩ = some (.int .i64 (gt xs t)) := fun t ht => by
    rw [World.ownsRow.cellAt Q.row t (by omega)]; simp [icells, some_gt ht]
  refine (Try.IntSlice_Swap g 0 c xs.length w (gt xs i) (gt xs j) i j hi hj (by omega) (by rw [Nat.zero_add]; exact hc i hi) (by rw [Nat.zero_add]; exact hc j hj) (by rw [Nat.zero_add]; exact World.ownsRow.frozenAt Q.row i) (by rw [Nat.zero_add]; exact World.ownsRow.frozenAt Q.row j)).mono ?_
  rintro e w' ⟨rfl, n, rfl⟩
  rw [Nat.zero_add, Nat.zero_add]
  have r1 := (World.ownsRow.stored Q.row i (.int .i64 (gt xs j))).1
  have r2 := (World.ownsRow.stored r1 j (.int .i64 (gt xs i))).1
  have e2 : ((icells xs).set i (.int .i64 (gt xs j))).set j (.int .i64 (gt xs i)) = icells (swp xs i j) := by simp [icells, swp, List.map_set]
  rw [e2] at r2
  have hqg : q ≠ g := by have := Q.qB; omega
  have hk : ∀ k, k ≠ g → ((w.setCell ⟨g, i, none⟩ (.int .i64 (gt xs j))).setCell ⟨g, j, none⟩ (.int .i64 (gt xs i))).heap[k]? = w.heap[k]? := fun k hk => by
    rw [Below.heap_setCell _ _ _ _ hk, Below.heap_setCell _ _ _ _ hk]
  have hst : HStep q w (.slice (some ⟨g, 0, none⟩) xs.length c) ((w.setCell ⟨g, i, none⟩ (.int .i64 (gt xs j))).setCell ⟨g, j, none⟩ (.int .i64 (gt xs i))) (.slice (some ⟨g, 0, none⟩) xs.length c) := ⟨rfl, rfl, rfl, by simp, fun k hk1 hk2 hk3 => hk k (fun e => hk3 (by rw [e]; rfl)), Or.inl rfl⟩
  refine ⟨rfl, QS.keep ⟨Q.qB, by simp; exact Q.qs, by rw [World.cell?_of_block (w := w) (hk q hqg)]; exact Q.box, by rw [World.frozen?_of_block (w := w) (hk q hqg)]; exact Q.frz, by rw [swp_len]; exact r2⟩ (bdrewN (Below.refl _ _) n), hst.below (bdrewN (Below.refl _ _) n)⟩
set_option maxRecDepth 100000 in
set_option maxHeartbeats 4000000 in
theorem up_any (q B : Nat) (v : Value) (xs : List Int) (j : Nat) (w : World) (Q : QS w q B v xs) (U : UpI xs xs.length j) (hj : j < xs.length) (hl : xs.length ≤ 1001) :
    Calls Try.prog 51 #[qi q, .int .i64 (j : Int)] w fun e w' => e = .returned (.tuple #[]) ∧ ∃ ys, QS w' q B v ys ∧ ys.Perm xs ∧ Heap ys ys.length ∧ HStep q w v w' v := by
  have HQ := Lib.hid Q
  have HU := Lib.hid U
  clear Q U
  go_enter Try.func51, Try.ntmps51
  go_wp2_with fail
  go_loopw [1, 4] (fun s1 _ wr => ∃ (j : Nat) (ys : List Int), s1 = .int .i64 (j : Int) ∧ j < xs.length ∧ Hid (ys.length = xs.length) ∧ Hid (QS wr q B v ys) ∧ Hid (UpI ys ys.length j) ∧ Hid (ys.Perm xs) ∧ Hid (HStep q w v wr v)) (fun s1 _ _ => (intOf s1).toNat)
  case atStart => exact ⟨j, xs, rfl, hj, Lib.hid rfl, HQ, HU, Lib.hid (List.Perm.refl _), Lib.hid (HStep.refl _ _ _)⟩
  case round =>
    clear HQ HU hj
    obtain ⟨j, ys, rfl, hj, HYL, HQ, HU, HP, HS⟩ := hrel
    by_cases hj0 : j = 0
    · subst hj0
      have HH := Lib.hid (up_stop HU.out (Or.inl rfl))
      go_wp2_with fail
      go_end0
      exact ⟨rfl, ys, HQ.out, HP.out, HH.out, HS.out⟩
    · have hw2 : ((j : Int) - 1) = ((j - 1 : Nat) : Int) := by omega
      have hw : IntKind.i64.wrap ((j : Int) - 1) = ((j - 1 : Nat) : Int) := by rw [IntWalk.i64_in _ (by omega), hw2]
      have hdv : (((j - 1 : Nat) : Int)) / 2 = (((j - 1) / 2 : Nat) : Int) := by omega
      obtain ⟨p, hp⟩ : ∃ p, (j - 1) / 2 = p := ⟨_, rfl⟩
      rw [hp] at hdv
      have hpj : ((p : Int) == (j : Int)) = false := beq_eq_false_iff_ne.2 (by omega)
      have hpl : p < j := by omega
      have hm1 := via find_less HQ.out.box
      have HPL := Lib.hid hpl
      have HPE := Lib.hid hp
      have CL := Lib.hid (less_q HQ.out (i := j) (j := p) (by have := HYL.out; omega) (by have := HYL.out; omega) (by have := HYL.out; omega))
      have HJ0 := Lib.hid hj0
      clear hp hpl
      go_wp2_with fail
      refine CL.out.mono ?_
      rintro e w2 ⟨rfl, n2, rfl⟩
      have HQ2 := Lib.hid (HQ.out.keep (bdrewN (Below.refl _ _) n2))
      have HS2 := Lib.hid (HS.out.below (bdrewN (Below.refl _ _) n2))
      generalize wr.drewN n2 = w3 at *
      clear CL hm1
      by_cases hlt : gt ys j < gt ys p
      · have hm2 := via find_swap HQ2.out.box
        have CS := Lib.hid (swap_q HQ2.out (i := p) (j := j) (by have := HYL.out; have := HPL.out; omega) (by have := HYL.out; omega) (by have := HYL.out; omega))
        have HU5 := Lib.hid (up_step HU.out (Nat.le_refl _) (by have := HJ0.out; omega) (by have := HYL.out; omega) (by rw [HPE.out]; exact hlt))
        have HP5 := Lib.hid ((swp_perm (i := p) (j := j) (xs := ys) (by have := HYL.out; have := HPL.out; omega) (by have := HYL.out; omega)).trans HP.out)
        rw [decide_eq_true hlt]
        clear hlt
        go_wp2_with fail
        refine CS.out.mono ?_
        rintro e w5 ⟨rfl, hq5, hs5⟩
        have HQ5 := Lib.hid hq5
        have HS5 := Lib.hid (HS2.out.trans hs5)
        have HU6 : Hid (UpI (swp ys p j) (swp ys p j).length p) := Lib.hid (by rw [swp_len]; have h := HU5.out; rw [HPE.out] at h; exact h)
        have HYL6 : Hid ((swp ys p j).length = xs.length) := Lib.hid (by rw [swp_len]; exact HYL.out)
        clear hq5 hs5 CS hm2 HU5
        go_wp2_with fail
        go_roundw
        case rel => exact ⟨p, _, rfl, by have := HPL.out; omega, HYL6, HQ5, HU6, HP5, HS5⟩
        case measure => have := HPL.out; first | (simp [intOf]; done) | (simp [intOf]; omega)
      · have HH := Lib.hid (up_stop HU.out (Or.inr (by rw [HPE.out]; omega)))
        rw [decide_eq_false hlt]
        clear hlt
        go_wp2_with fail
        go_end0
        exact ⟨rfl, ys, HQ2.out, HP.out, HH.out, HS2.out⟩
end Go.Proofs.Ythgfomjmkmkhkaa
