/-
  Collect over the gaps: a list of the call's own. No condition but that the spans lie within the range of valid numbers.
-/
import Derived.Test.YteekccjfokoglaaJ
import Derived.RangeFuncBox
import Derived.Maps.AppendAt
import Derived.RangeFuncWrites
import Derived.Maps.OwnIn
namespace Go.Proofs.Yteekccjfokoglaa
open Go.RowKit Go.Sort Go.Lib Go.Shelf Go.Proofs
set_option linter.unusedSimpArgs false
set_option linter.unnecessarySimpa false
set_option linter.unusedVariables false
attribute [local go_sem] Oper.semAt_some
theorem gaps_stops (n : Nat) (hn : 4 ≤ n) (p0 p1 N Bs c : Nat) (b : Bool) (A : Option Addr) (l : List Sp) (hl : bdL l) (w : World) (hN : N ≤ w.heap.size) (hBs : Bs < w.heap.size) (hlow : ∀ r, rowOf Bs w = some r → r < w.heap.size) (hG : Gs b A l c p0 p1 N w) :
    SeqStopsK Fence.wide n Try.prog 94 #[.pointer (some ⟨p0, 0, none⟩), .pointer (some ⟨p1, 0, none⟩)] (fun x : Sp => #[sv x]) (KpR Bs N) (fun ys => ys = gapsL b (-lim b) l) (fun pre => pre <+: gapsL b (-lim b) l) (l.length + 1) w := fun l0 J Jx W hW hA hAx hY h0 => by
  have e : rowOf Bs W = rowOf Bs w := by unfold rowOf; rw [hW.cell (p := ⟨Bs, 0, none⟩) hBs]
  exact gaps_in n hn l0 p0 p1 N Bs c b A l hl J Jx hY W (Nat.le_trans hN hW.size) (Nat.lt_of_lt_of_le hBs hW.size) (fun r hr => by rw [e] at hr; exact Nat.lt_of_lt_of_le (hlow r hr) hW.size)
    (fun pre A o _ hs => hA pre A (A.alloc o) none hs (World.grownBy_alloc A o none) (fun r e => by cases e)) (hG.below (hW.mono hN)) h0
theorem row_own {X Y : World} {B : Nat} {cs : List Value} {row : Option Nat} (hs : Row X B cs) (hg : X.grownBy Y row) (hr : ∀ r, row = some r → ∃ o : Obj, X.heap[r]? = some o ∧ o.isCells = false) : Row Y B cs := by
  have hlt := hs.lt
  unfold Row at *
  rw [hg.block B hlt (fun e => by obtain ⟨o, ho, hc⟩ := hr B e.symm; rw [hs] at ho; cases ho; cases hc)]
  exact hs
/-- what stands between two rounds -/
def CI (w : World) (n0 : Nat) (pre : List Sp) (W : World) : Prop := (∃ v, Boxed W n0 22 v ∧ W.ownsRow n0 46 2 v pre.length (flat pre) ∧ True) ∧ Below n0 w W
theorem ci_row {w W : World} {n0 : Nat} {pre : List Sp} (h : CI w n0 pre W) : ∀ r, rowOf n0 W = some r → n0 ≤ r ∧ r < W.heap.size := by
  obtain ⟨⟨v, hv, hr, _⟩, _⟩ := h
  intro r e
  have hc := hv.cell
  unfold rowOf at e
  rw [hc] at e
  exact hr.lt r e
theorem kpR_alloc {Bs N : Nat} {W : World} (hBs : Bs < W.heap.size) (hN : N ≤ W.heap.size) (o : Obj) : KpR Bs N W (W.alloc o) where
  bel := (Below.refl N W).alloc hN o
  kept k ok hk _ _ _ := by
    have hlt := (Array.getElem?_eq_some_iff.1 hk).1
    rw [((Below.refl W.heap.size W).alloc (Nat.le_refl _) o).block k hlt]; exact hk
  low hl r hr := by rw [rowOf_alloc hBs] at hr; have := hl r hr; simp; omega
  row r hr := by rw [rowOf_alloc hBs] at hr; exact .inl hr
theorem ci_alloc {w W : World} {n0 : Nat} {pre : List Sp} (h : CI w n0 pre W) (o : Obj) (hn : n0 ≤ W.heap.size) : CI w n0 pre (W.alloc o) := by
  obtain ⟨⟨v, hv, hr, _⟩, hB⟩ := h
  exact ⟨⟨v, hv.alloc o, hr.alloc o, trivial⟩, hB.alloc hn o⟩
theorem rowOf_boxed {W : World} {B : Nat} {v : Value} (h : Boxed W B 22 v) : rowOf B W = v.ownBlock := by
  unfold rowOf; rw [h.cell]; rfl
theorem kpR_app {Bs : Nat} {W w1 : World} {tmp : Obj} {v v' : Value} {k m : Nat} {xs ys : List Value} (hv : Boxed W Bs 22 v) (hrow : W.ownsRow Bs 46 2 v k xs) (hb : Below Bs W (w1.setCell ⟨Bs, 0, none⟩ v')) (hv2 : Boxed (w1.setCell ⟨Bs, 0, none⟩ v') Bs 22 v')
    (hr2 : (w1.setCell ⟨Bs, 0, none⟩ v').ownsRow Bs 46 2 v' m ys) (hg : (W.alloc tmp).grownBy w1 v.ownBlock) (hat : v'.ownBlock = v.ownBlock ∨ v'.ownBlock = some (W.alloc tmp).heap.size) : KpR Bs Bs W (w1.setCell ⟨Bs, 0, none⟩ v') where
  bel := hb
  kept k ok hk hok hne hr := by
    rw [rowOf_boxed hv] at hr
    have hlt := (Array.getElem?_eq_some_iff.1 hk).1
    have h1 : w1.heap[k]? = some ok := by
      rw [hg.block k (by simp; omega) (fun e => hr e.symm), ((Below.refl W.heap.size W).alloc (Nat.le_refl _) tmp).block k hlt]; exact hk
    have hne' : Bs ≠ k := fun e => hne e.symm
    simp [World.setCell, Array.getElem?_modify, hne', h1]
  low _ r hr := by
    rw [rowOf_boxed hv2] at hr
    exact (hr2.lt r hr).2
  row r hr := by
    rw [rowOf_boxed hv2] at hr
    rw [rowOf_boxed hv]
    rcases hat with h | h
    · exact .inl (by rw [← h]; exact hr)
    · rw [h] at hr; simp at hr; exact .inr (by omega)
theorem flat_snoc (pre : List Sp) (x : Sp) : flat (pre ++ [x]) = flat pre ++ [.int .i64 x.1, .int .i64 x.2] := by rw [flat_append]; rfl
set_option maxRecDepth 100000 in
set_option maxHeartbeats 4000000 in
theorem append_in (n : Nat) (hn : 6 ≤ n) (p0 p1 c : Nat) (b : Bool) (A : Option Addr) (l : List Sp) (hl : bdL l) (w : World) (hG : Gs b A l c p0 p1 w.heap.size w) :
    CallsIn Fence.wide n Try.prog 93 #[.slice none 0 0, .func (.func 94) #[] #[.pointer (some ⟨p0, 0, none⟩), .pointer (some ⟨p1, 0, none⟩)]] w fun e W' =>
      ∃ v, e = .returned v ∧ W'.ownsRow w.heap.size 46 2 v (gapsL b (-lim b) l).length (flat (gapsL b (-lim b) l)) ∧ Below w.heap.size w W' := by
  have h1 : 1 ≤ n := by omega
  obtain ⟨i0, hi, hz0, hz1, hz2⟩ := info_parts info46
  have hlen := hl.1
  have hgl := gapsL_len b (-lim b) l
  refine callsIn_of_wp_marks Try.func93 rfl trivial ?_ rfl
  simp only [Try.ntmps93, List.size_toArray, List.length_cons, List.length_nil, Nat.reduceAdd, Nat.reduceSub, Array.replicate_succ, Array.replicate_zero, List.push_toArray, List.append_toArray, List.nil_append, List.cons_append]
  gi_wp2_with fail
  have bO := Boxed.new w 22 (.slice none 0 0)
  have hB0 : Below w.heap.size w (w.alloc (.cells #[.slice none 0 0] 22)) := (Below.refl _ w).alloc (Nat.le_refl _) _
  have hsz : (w.alloc (.cells #[.slice none 0 0] 22)).heap.size = w.heap.size + 1 := by simp
  have hI0 : CI w w.heap.size [] (w.alloc (.cells #[.slice none 0 0] 22)) := ⟨⟨_, bO, World.ownsRow_nil _ _ _ _, trivial⟩, hB0⟩
  obtain ⟨W0, hW0⟩ : ∃ W0, W0 = w.alloc (.cells #[.slice none 0 0] 22) := ⟨_, rfl⟩
  rw [← hW0] at bO hB0 hsz hI0 ⊢
  clear hW0
  refine wpIn_rangeFunc_ownH rfl h1 (gf := 94) (lb := #[.pointer (some ⟨p0, 0, none⟩), .pointer (some ⟨p1, 0, none⟩)]) rfl trivial (enters_of Try.func94 (by kernel_rfl) rfl)
    (gaps_stops (n - 1) (by omega) p0 p1 w.heap.size w.heap.size c b A l hl W0 (by omega) (by omega) (fun r hr => (ci_row hI0 r hr).2) (hG.below hB0)) kpR_t (kpR_b (by omega) (by omega)) (Below.refl _ _) (fun _ => rfl)
    (fun pre W => CI w w.heap.size pre W)
    (fun _ _ _ => False)
    (OwnFrom.and (Own.from (holdsRow_own w.heap.size w.heap.size 22 46 2 (fun pre => pre.length) (fun pre => flat pre) (fun _ _ => True)) _) (ownFrom_below (Nat.le_refl _) (by omega)))
    (fun _ _ _ _ _ hs _ _ => hs)
    hI0
    (fun x a' W => ∃ Bx, w.heap.size < Bx ∧ Row W Bx [.int .i64 x.1, .int .i64 x.2] ∧ a' = { tmps := #[.slice none 0 0, .func (.func 94) #[] #[.pointer (some ⟨p0, 0, none⟩), .pointer (some ⟨p1, 0, none⟩)], .pointer (some ⟨w.heap.size, 0, none⟩), undef, .slice none 0 0, .pointer (some ⟨Bx, 0, none⟩), .func (.func 94) #[] #[.pointer (some ⟨p0, 0, none⟩), .pointer (some ⟨p1, 0, none⟩)], sv x, undef, undef, undef, undef, undef], defers := [] })
    (fun x a' _ X Y row hs hg hr => by obtain ⟨Bx, h1, h2, h3⟩ := hs; exact ⟨Bx, h1, row_own h2 hg (fun r e => (hr r e).2), h3⟩)
    ?assign ?body ?done ?stop
  case assign =>
    rintro l pre x W K hC hK
    have hrow := ci_row hC
    obtain ⟨⟨v, hv, hr, _⟩, hB⟩ := id hC
    gi_wp2_with fail
    have hlt := hv.lt
    exact hK _ _ ((KeepsOthers.alloc _ _).from _) (kpR_alloc hlt (by omega) _) (ci_alloc hC _ (by omega)) ⟨W.heap.size, hlt, World.alloc_heap_new _ _, rfl⟩
  case body =>
    rintro l0 pre x a' W _ _ ⟨⟨v, hv, hrow, _⟩, hB⟩ ⟨Bx, hBx, hX, rfl⟩ hlt
    have q0 := hv.cell
    have qf := hv.frozen
    have x0 := hX.cell 0
    have x1 := hX.cell 1
    simp only [List.getElem?_cons_zero, List.getElem?_cons_succ] at x0 x1
    have hpl : pre.length ≤ 1000001 := by omega
    gi_wp2_with (gi_at_builtin; refine wpListIn_append_own_at _ rfl _ _ 22 rfl w.heap.size 46 i0 (.agg #[.int .i64 0, .int .i64 0]) 2 16 Try.underlying22 hi hz0 hz1 hz2 rfl (by decide) _ _ _ rfl (hrow.alloc _) ⟨W.heap.size, 0, none⟩ 1 1 [.int .i64 x.1, .int .i64 x.2] rfl rfl (new2 _ _ _ _) (one2 _ _) (by unfold maxLen; omega) (by omega) (by have := hB.size; simp; omega) ?_; intro v' w1 hown' hgrow _ hat; obtain ⟨g', cap', rfl⟩ := ownsRow_succ hown'; obtain ⟨hv1, hv2, hr2, hk2, hb2⟩ := hv.appended (by decide) hrow hB.size (Nat.le_refl _) hown' hgrow; have hc1 := hv1.cell; have hf1 := hv1.frozen)
    exact ⟨hk2.from _, kpR_app hv hrow hb2 hv2 hr2 hgrow hat, ⟨⟨_, hv2, by rw [flat_snoc]; simpa using hr2, trivial⟩, hB.trans hb2⟩⟩
  case done =>
    rintro D xs W hD rfl ⟨⟨v, hv, hrow, _⟩, hB⟩ hK
    have q0 := hv.cell
    gi_wp2_with fail
    refine ⟨by simp, .inl ⟨_, _, rfl, run_takeDeferred hK, ?_⟩⟩
    exact ⟨_, results_tmp rfl _ _ _, v, rfl, ownsRow_putObj hrow _ hK rfl, hB.trans (belowK_b (w := w) (Nat.le_refl _) W D _ _ (by omega) hK rfl rfl)⟩
  case stop =>
    rintro D c pre W _ _ h _
    exact h.elim
theorem collect_any (p0 p1 c : Nat) (b : Bool) (A : Option Addr) (l : List Sp) (hl : bdL l) (w : World) (hG : Gs b A l c p0 p1 w.heap.size w) :
    Calls Try.prog 85 #[.func (.func 94) #[] #[.pointer (some ⟨p0, 0, none⟩), .pointer (some ⟨p1, 0, none⟩)]] w fun e W' =>
      ∃ v, e = .returned v ∧ W'.ownsRow w.heap.size 46 2 v (gapsL b (-lim b) l).length (flat (gapsL b (-lim b) l)) ∧ Below w.heap.size w W' := by
  have HC := Lib.hid (callsIn_wide.1 (append_in 8 (by omega) p0 p1 c b A l hl w hG))
  go_enter Try.func85, Try.ntmps85
  go_wp2_with fail
  refine HC.out.mono ?_
  rintro e w1 ⟨v, rfl, h1, h2⟩
  have H1 := Lib.hid h1
  have H2 := Lib.hid h2
  clear h1 h2
  go_wp2_with fail
  go_ret
  exact ⟨v, rfl, H1.out, H2.out⟩
end Go.Proofs.Yteekccjfokoglaa
