/-
  The iterator over the gaps: what it yields, span by span. No condition but that the spans lie within the range of valid numbers.
-/
import Derived.RangeFuncNested
import Derived.RangeFuncBound
import Derived.RangeFuncCalls
import Derived.RangeFuncLeaves
import Derived.RangeFuncFrom
import Derived.Shelf.Abstract
import Derived.Shelf.RegionOpen
import Derived.OwnWalkIn
import Derived.TacticsInMore
import Derived.LoopNIn
import Derived.LoopIn
import Derived.Test.YteekccjfokoglaaI
namespace Go.Proofs.Yteekccjfokoglaa
open Go.RowKit Go.Sort Go.Lib Go.Shelf Go.Proofs
set_option linter.unusedSimpArgs false
set_option linter.unnecessarySimpa false
set_option linter.unusedVariables false
attribute [local go_sem] Oper.semAt_some
theorem gaps_any (b : Bool) (A : Option Addr) (n c : Nat) (w : World) : Calls Try.prog 86 #[axv b, .slice A n c] w fun e w' =>
    e = .returned (.func (.func 94) #[] #[.pointer (some ⟨w.heap.size, 0, none⟩), .pointer (some ⟨w.heap.size + 1, 0, none⟩)]) ∧ w' = (w.alloc (.cells #[.int .i64 (lim b), .bool b] 51)).alloc (.cells #[.slice A n c] 22) := by
  go_enter Try.func86, Try.ntmps86
  go_wp2
  go_ret
  exact ⟨rfl, rfl⟩
/-- what the iterator reads -/
structure Gs (b : Bool) (A : Option Addr) (l : List Sp) (c p0 p1 N : Nat) (w : World) : Prop where
  a0 : w.cell? ⟨p0, 0, none⟩ = some (.int .i64 (lim b))
  s0 : w.cell? ⟨p1, 0, none⟩ = some (.slice A l.length c)
  re : Re w N A l
  l0 : p0 < N
  l1 : p1 < N
theorem Gs.below {b : Bool} {A : Option Addr} {l : List Sp} {c p0 p1 N : Nat} {w w' : World} (h : Gs b A l c p0 p1 N w) (hb : Below N w w') : Gs b A l c p0 p1 N w' :=
  ⟨by rw [hb.cell (p := ⟨p0, 0, none⟩) h.l0]; exact h.a0, by rw [hb.cell (p := ⟨p1, 0, none⟩) h.l1]; exact h.s0, h.re.below hb, h.l0, h.l1⟩
def bdL (l : List Sp) : Prop := l.length ≤ 1000000 ∧ ∀ s ∈ l, -1000000000000000 ≤ s.1 ∧ s.1 ≤ 1000000000000000 ∧ -1000000000000000 ≤ s.2 ∧ s.2 ≤ 1000000000000000
theorem lim_bd (b : Bool) : 0 ≤ lim b ∧ lim b ≤ 1000000000000000 := by cases b <;> simp [lim]
/-- the block of the slice that lies in the box Bs -/
def rowOf (Bs : Nat) (W : World) : Option Nat := (W.cell? ⟨Bs, 0, none⟩).bind Value.ownBlock
/-- what a round keeps: all cells but the box Bs and its row -/
structure KpR (Bs N : Nat) (W W' : World) : Prop where
  bel : Below N W W'
  kept : ∀ k o, W.heap[k]? = some o → o.isCells = true → k ≠ Bs → rowOf Bs W ≠ some k → W'.heap[k]? = some o
  low : (∀ r, rowOf Bs W = some r → r < W.heap.size) → ∀ r, rowOf Bs W' = some r → r < W'.heap.size
  row : ∀ r, rowOf Bs W' = some r → rowOf Bs W = some r ∨ W.heap.size ≤ r
theorem kpR_t {Bs N : Nat} {A B C : World} (h : KpR Bs N A B) (k : KpR Bs N B C) : KpR Bs N A C where
  bel := h.bel.trans k.bel
  kept j o hj ho hne hr := k.kept j o (h.kept j o hj ho hne hr) ho hne fun e => by
    rcases h.row j e with h' | h'
    · exact hr h'
    · have := (Array.getElem?_eq_some_iff.1 hj).1; omega
  low hl := k.low (h.low hl)
  row r hr := by
    rcases k.row r hr with h' | h'
    · exact h.row r h'
    · exact .inr (Nat.le_trans h.bel.size h')
theorem kpR_b {Bs N : Nat} {w : World} (hBs : Bs < w.heap.size) (hN : N ≤ w.heap.size) (W : World) (l : Nat) (o o' : Obj) (hl : w.heap.size ≤ l) (h : W.heap[l]? = some o) (ho : o.isCells = false) (hw : o.isWalk = false) : KpR Bs N W (W.putObj l o') := by
  have e : rowOf Bs (W.putObj l o') = rowOf Bs W := by
    unfold rowOf World.cell?
    rw [World.putObj_heap_other]
    show Bs ≠ l
    omega
  have hs : (W.putObj l o').heap.size = W.heap.size := by simp [World.putObj]
  refine ⟨belowK_b hN W l o o' hl h ho hw, fun k ok hk hok hne hr => ?_, fun hl r hr => by rw [e] at hr; rw [hs]; exact hl r hr, fun r hr => by rw [e] at hr; exact .inl hr⟩
  rw [World.putObj_heap_other]
  · exact hk
  · intro e; subst e; rw [hk] at h; cases h; rw [hok] at ho; cases ho
theorem rowOf_alloc {Bs : Nat} {W : World} (h : Bs < W.heap.size) (o : Obj) : rowOf Bs (W.alloc o) = rowOf Bs W := by
  unfold rowOf World.cell?
  rw [show (W.alloc o).heap[(⟨Bs, 0, none⟩ : Addr).block]? = W.heap[Bs]? from ((Below.refl W.heap.size W).alloc (Nat.le_refl _) o).block Bs h]
set_option maxRecDepth 100000 in
set_option maxHeartbeats 2000000 in
theorem gaps_in (n : Nat) (hn : 4 ≤ n) (l0 p0 p1 N Bs c : Nat) (b : Bool) (A : Option Addr) (l : List Sp) (hl : bdL l) (J Jx : List Sp → World → Prop)
    (hY : ∀ pre x W, J pre W → pre.length < l.length + 1 → YieldAt Fence.wide (n - 1) Try.prog l0 #[sv x] W fun e W' =>
      (e = .returned (.bool true) ∧ J (pre ++ [x]) W' ∧ KpR Bs N W W') ∨ (e = .returned (.bool false) ∧ Jx (pre ++ [x]) W'))
    (W : World) (hN : N ≤ W.heap.size) (hBs : Bs < W.heap.size) (hlow : ∀ r, rowOf Bs W = some r → r < W.heap.size) (hJ : ∀ pre A o, N ≤ A.heap.size → J pre A → J pre (A.alloc o)) (hG : Gs b A l c p0 p1 N W) (h0 : J [] W) :
    CallsIn Fence.wide n Try.prog 94 #[.func (.yield l0) #[] #[], .pointer (some ⟨p0, 0, none⟩), .pointer (some ⟨p1, 0, none⟩)] W fun e W' => (∃ v, e = .returned v) ∧
      ((∃ ys, ys = gapsL b (-lim b) l ∧ J ys W') ∨ (∃ pre, pre <+: gapsL b (-lim b) l ∧ Jx pre W')) := by
  have hlb := lim_bd b
  have HG := Lib.hid hG
  have HL := Lib.hid hl
  have hlen := hl.1
  have q0 := hG.a0
  have q1 := hG.s0
  have HLow := Lib.hid hlow
  clear hG hl hlow
  refine callsIn_of_wp Try.func94 rfl trivial ?_ rfl
  simp only [Try.ntmps94, List.size_toArray, List.length_cons, List.length_nil, Nat.reduceAdd, Nat.reduceSub, Array.replicate_succ, Array.replicate_zero, List.push_toArray, List.append_toArray, List.nil_append, List.cons_append]
  gi_wp2
  gi_loopw [4, 6, 12] (fun s4 _ s12 wr => ∃ (k : Nat) (x : Int) (ys : List Sp), s12 = .int .i64 k ∧ s4 = .int .i64 x ∧ k ≤ l.length ∧ ys.length = k ∧ -1000000000000000 ≤ x ∧ x ≤ 1000000000000001 ∧ Hid (gapsL b (-lim b) l = ys ++ gapsL b x (l.drop k)) ∧ Hid (J ys wr) ∧ Hid (Below N W wr) ∧ Hid (∀ r, rowOf Bs wr = some r → r < wr.heap.size))
    (fun _ _ s12 _ => l.length - (intOf s12).toNat)
  case atStart => exact ⟨0, -lim b, [], rfl, rfl, by omega, rfl, by omega, by omega, Lib.hid (by simp), Lib.hid h0, Lib.hid (Below.refl _ _), HLow⟩
  case round =>
    obtain ⟨k, x, ys, rfl, rfl, hk, hyk, hx1, hx2, HE, HJ, HB, HLo⟩ := hrel
    have hwN : N ≤ wr.heap.size := Nat.le_trans hN HB.out.size
    by_cases hlt : k < l.length
    · obtain ⟨bb, o, hA, hbl, c0, c1⟩ := (HG.out.below HB.out).re.at_ k hlt
      subst hA
      have hsb := HL.out.2 l[k] (List.getElem_mem hlt)
      have HD := Lib.hid (List.drop_eq_getElem_cons hlt)
      obtain ⟨y, hy⟩ : ∃ y, y = l[k] := ⟨_, rfl⟩
      rw [← hy] at c0 c1 hsb HD
      have hkl : (k : Int) < (l.length : Int) := by omega
      clear hy
      have hJ1 := Lib.hid (hJ _ _ (.cells #[.int .i64 y.1, .int .i64 y.2] 46) hwN HJ.out)
      have HB1 := Lib.hid (HB.out.alloc hwN (.cells #[.int .i64 y.1, .int .i64 y.2] 46))
      obtain ⟨fn, tmps, assign, body, hy, hR⟩ := hY _ (x, y.1 - 1) _ hJ1.out (by omega)
      gi_wp2_with fail
      refine ⟨fun _ => by omega, hR.mono ?_⟩
      rintro e W3 (⟨rfl, hJ3, hk3⟩ | ⟨rfl, hJx3⟩)
      · have hr0 : rowOf Bs (wr.alloc (.cells #[.int .i64 y.1, .int .i64 y.2] 46)) = rowOf Bs wr := rowOf_alloc (Nat.lt_of_lt_of_le hBs HB.out.size) _
        have b1 : W3.cell? ⟨wr.heap.size, 1, none⟩ = some (.int .i64 y.2) := by
          have hx := hk3.kept wr.heap.size _ (World.alloc_heap_new wr (.cells #[.int .i64 y.1, .int .i64 y.2] 46)) rfl (by have := HB.out.size; omega) (by rw [hr0]; intro e; have := HLo.out _ e; omega)
          simp [World.cell?, hx]
        have HL3 := Lib.hid (hk3.low (by rw [hr0]; intro r hr; have := HLo.out r hr; simp; omega))
        have HB3 := Lib.hid (HB1.out.trans hk3.bel)
        have HJ3 := Lib.hid hJ3
        have HE3 := Lib.hid (show gapsL b (-lim b) l = (ys ++ [(x, y.1 - 1)]) ++ gapsL b (y.2 + 1) (l.drop (k + 1)) by rw [HE.out, HD.out]; simp [gapsL])
        clear hk3 hr0 hJ3 c0 c1 HE HD
        gi_wp2_with fail
        go_roundw
        case rel => exact ⟨k + 1, y.2 + 1, ys ++ [(x, y.1 - 1)], by go_num, rfl, by omega, by simp; omega, by omega, by omega, HE3, HJ3, HB3, HL3⟩
        case measure => simp [intOf]; omega
      · have HE3 := Lib.hid (show (ys ++ [(x, y.1 - 1)]) <+: gapsL b (-lim b) l by rw [HE.out, HD.out]; exact ⟨gapsL b (y.2 + 1) (l.drop (k + 1)), by simp [gapsL]⟩)
        have HJ3 := Lib.hid hJx3
        clear HE HD hJx3
        gi_wp2_with fail
        refine bodyPost_ret (results_none rfl _ _ _) rfl ?_
        exact ⟨⟨_, rfl⟩, .inr ⟨_, HE3.out, HJ3.out⟩⟩
    · obtain rfl : k = l.length := by omega
      have q0 := (HG.out.below HB.out).a0
      have HE3 := Lib.hid (show gapsL b (-lim b) l = ys ++ [(x, lim b)] by rw [HE.out, List.drop_length]; rfl)
      obtain ⟨fn, tmps, assign, body, hy, hR⟩ := hY _ (x, lim b) _ HJ.out (by omega)
      gi_wp2_with fail
      refine ⟨fun _ => by omega, hR.mono ?_⟩
      rintro e W3 (⟨rfl, hJ3, hk3⟩ | ⟨rfl, hJx3⟩)
      · have HJ3 := Lib.hid hJ3
        clear hJ3 hk3
        gi_wp2_with fail
        go_end0
        exact ⟨⟨_, rfl⟩, .inl ⟨_, HE3.out.symm, HJ3.out⟩⟩
      · have HJ3 := Lib.hid hJx3
        clear hJx3
        gi_wp2_with fail
        go_end0
        exact ⟨⟨_, rfl⟩, .inr ⟨_, by rw [HE3.out]; exact List.prefix_refl _, HJ3.out⟩⟩
end Go.Proofs.Yteekccjfokoglaa
