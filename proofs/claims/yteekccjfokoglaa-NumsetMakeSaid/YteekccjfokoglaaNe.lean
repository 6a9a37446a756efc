/-
  The specification's of. Condition: at most 200000 spans of the second list, their ends between -2 * 10^15 and 2 * 10^15.
-/
import Derived.Test.YteekccjfokoglaaNd
import Derived.Test.YteekccjfokoglaaAi
namespace Go.Proofs.Yteekccjfokoglaa
open Go.RowKit Go.Sort Go.Lib Go.Proofs
set_option linter.unusedSimpArgs false
set_option linter.unnecessarySimpa false
set_option linter.unusedVariables false
def OfIs (A1 : Option Addr) (c1 : Nat) (S : NS) (w : World) (e : Ending) (w' : World) : Prop :=
  ∃ A2 c2, e = .returned (nv A1 S.1.length c1 A2 S.2.length c2) ∧ Ns w' A1 c1 A2 c2 S ∧ Hi w.heap.size A2 ∧ Below w.heap.size w w'
theorem step_call79 {ops : Array Oper} {o : Oper} {a : Act} {w : World} {K : Act → World → Prop} {Q : Exit → Act → World → Prop} {E : Prop} (hgd : o.guard = none) (x : Nat)
    (ho : o.op = .call { callee := .value (.func 79), args := #[.tmp x], argTypes := #[2] }) (u r : Value) (hx : a.eval (.tmp x) = u) (hc : Calls Try.prog 79 #[u] w fun e w' => e = .returned r ∧ w = w') (h : K (a.put o.dst r) w) :
    if Region.wanted o (yielded ops a.tmps) = true then Oper.wp Try.prog o a w K Q else E := by
  have hw : Region.wanted o (yielded ops a.tmps) = true := by simp [Region.wanted, hgd]
  rw [if_pos hw]
  unfold Oper.wp execOp
  rw [ho]
  have hx2 : a.tmps[x]?.getD undef = u := by rw [← hx]; simp [Act.eval]
  go_simp
  (with_reducible refine hc.mono ?_)
  rintro e w' ⟨rfl, rfl⟩
  exact h
theorem step_append_sp2 {ops : Array Oper} {o : Oper} {a : Act} {w : World} {K : Act → World → Prop} {Q : Exit → Act → World → Prop} {E : Prop} (hgd : o.guard = none) (s x : Operand)
    (ho : o.op = .call { callee := .builtin .append, args := #[s, x], argTypes := #[22, 22] }) (base : Nat) (v : Value) (acc : List Sp) (y : Sp) (hs : a.eval s = v)
    (hown : w.ownsRow base 46 2 v acc.length (flat acc)) (b : Nat) (hx : a.eval x = .slice (some ⟨b, 0, none⟩) 1 1)
    (hb : w.heap[b]? = some (.cells #[.int .i64 y.1, .int .i64 y.2] 46 (0, 0))) (hlen : acc.length ≤ 200000) (hbase : base ≤ w.heap.size)
    (h : ∀ v' w', Hid (w'.ownsRow base 46 2 v' (acc ++ [y]).length (flat (acc ++ [y]))) → w.grownBy w' v.ownBlock → K (a.put o.dst v') w') :
    if Region.wanted o (yielded ops a.tmps) = true then Oper.wp Try.prog o a w K Q else E := by
  have hw : Region.wanted o (yielded ops a.tmps) = true := by simp [Region.wanted, hgd]
  rw [if_pos hw]
  obtain ⟨i0, hi, hz0, hz1, hz2⟩ := info_parts info46
  refine wp_append_own w s x 22 ho base 46 i0 (.agg #[.int .i64 0, .int .i64 0]) 2 16 Try.underlying22 hi hz0 hz1 hz2 rfl (by decide) v acc.length (flat acc) hs hown ⟨b, 0, none⟩ 1 1 [.int .i64 y.1, .int .i64 y.2] hx rfl ?_ ?_ ?_ ?_ hbase ?_
  · intro j u hj
    rw [show (⟨b, 0, none⟩ : Addr).add j = ⟨b, j, none⟩ by simp [Addr.add]; exact fun e => e.symm, Lib.cell_of_heap hb, ← Array.getElem?_toList]
    exact hj
  · exact one2 _ _
  · unfold maxLen; omega
  · omega
  · intro v' w' h1 h2 _
    exact h v' w' (show w'.ownsRow base 46 2 v' (acc ++ [y]).length (flat (acc ++ [y])) by rw [flat_append, List.length_append]; exact h1) h2
set_option maxRecDepth 100000 in
set_option maxHeartbeats 4000000 in
theorem rof_any (A1 A2 : Option Addr) (c1 c2 : Nat) (s : NS) (w : World) (hN : Ns w A1 c1 A2 c2 s) (hl : s.2.length ≤ 200000) (hb : ∀ x ∈ s.2, bdu x.1 ∧ bdu x.2) :
    Calls Try.prog 54 #[.slice A1 s.1.length c1, .slice A2 s.2.length c2] w (OfIs A1 c1 (s.1, s.2.map unS) w) := by
  have HN := Lib.hid hN
  have HBd := Lib.hid hb
  obtain ⟨w1, hw1⟩ : ∃ w1, w1 = w.alloc (.cells #[.slice none 0 0, .slice none 0 0] 24) := ⟨_, rfl⟩
  obtain ⟨Wf, hWf⟩ : ∃ Wf, Wf = w1.alloc (.cells #[.slice A1 s.1.length c1, .slice none 0 0] 24) := ⟨_, rfl⟩
  obtain ⟨bk, hbk⟩ : ∃ bk, bk = w.heap.size + 1 := ⟨_, rfl⟩
  have hb1 : Below w.heap.size w w1 := by rw [hw1]; exact bal w _
  have hs1 : w1.heap.size = bk := by rw [hw1, hbk]; simp
  have hb2 : Below w1.heap.size w1 Wf := by rw [hWf]; exact bal w1 _
  have hsf : Wf.heap.size = bk + 1 := by rw [hWf]; simp [hs1]
  have y0 : Wf.cell? ⟨w.heap.size, 0, none⟩ = some (.slice none 0 0) ∧ Wf.cell? ⟨w.heap.size, 1, none⟩ = some (.slice none 0 0) ∧ Wf.frozen? ⟨w.heap.size, 0, none⟩ = false ∧ Wf.frozen? ⟨w.heap.size, 1, none⟩ = false := by
    have hlt : w.heap.size < w1.heap.size := by omega
    refine ⟨?_, ?_, ?_, ?_⟩
    · rw [hb2.cell (p := ⟨w.heap.size, 0, none⟩) hlt, hw1]; simp
    · rw [hb2.cell (p := ⟨w.heap.size, 1, none⟩) hlt, hw1]; simp
    · rw [hb2.frozen (p := ⟨w.heap.size, 0, none⟩) hlt, hw1]; simp
    · rw [hb2.frozen (p := ⟨w.heap.size, 1, none⟩) hlt, hw1]; simp
  have HY := Lib.hid y0
  have hbf : Below w.heap.size w Wf := hb1.trans (hb2.mono hb1.size)
  have HS := Lib.hid (show Rv Wf bk Wf.heap.size 1 0 (.slice none 0 0) (.slice A1 s.1.length c1) A1 ((s.2.take 0).map unS) s.1 Wf from by
    refine ⟨?_, ?_, ?_, ?_, World.ownsRow_nil _ _ _ _, (hN.r1.below hbf).le hbf.size, Below.refl _ _, by omega, Nat.le_refl _⟩ <;> rw [hWf, ← hs1] <;> simp)
  have HR2 := Lib.hid ((hN.r2.below hbf).le (show w.heap.size ≤ bk by omega))
  have HBF := Lib.hid hbf
  have HH := Lib.hid (And.intro hbk hsf)
  clear hN hb hb1 hb2 y0 hbf
  go_enter Try.func54, Try.ntmps54
  go_wp2_with fail
  rw [← hw1, ← hWf, ← hbk]
  clear hw1 hWf hbk hs1 hsf
  go_loopw [12] (fun s12 wr => ∃ (k : Nat) (v : Value), s12 = .int .i64 (k : Int) ∧ k ≤ s.2.length ∧ Hid (Rv Wf bk Wf.heap.size 1 0 v (.slice A1 s.1.length c1) A1 ((s.2.take k).map unS) s.1 wr)) (fun s12 _ => (s.2.length - intOf s12).toNat)
  case atStart => exact ⟨0, _, rfl, by omega, HS⟩
  case round =>
    obtain ⟨k, v, rfl, hk, HR⟩ := hrel
    clear HS
    by_cases hlt : k < s.2.length
    · obtain ⟨b, o, hA, hbl, d0, d1⟩ := HR2.out.at_ k hlt
      subst hA
      rw [← HR.out.bel.cell (p := ⟨b, o + k * 2, none⟩) hbl] at d0
      rw [← HR.out.bel.cell (p := ⟨b, o + k * 2 + 1, none⟩) hbl] at d1
      have HT := Lib.hid (show (s.2.take (k + 1)).map unS = (s.2.take k).map unS ++ [unS s.2[k]] by rw [← List.take_append_getElem hlt, List.map_append]; rfl)
      have hbd := HBd.out s.2[k] (List.getElem_mem hlt)
      obtain ⟨x, hx⟩ : ∃ x, x = s.2[k] := ⟨_, rfl⟩
      rw [← hx] at d0 d1 HT hbd
      have hal : ((s.2.take k).map unS).length = k := by simp; omega
      obtain ⟨acc, hacc⟩ : ∃ acc, acc = (s.2.take k).map unS := ⟨_, rfl⟩
      rw [← hacc] at HR HT hal
      have HAL := Lib.hid hal
      have hkl : (k : Int) < (s.2.length : Int) := by omega
      have HU1 := Lib.hid (fun W => runrank_any x.1 W hbd.1)
      have HU2 := Lib.hid (fun W => runrank_any x.2 W hbd.2)
      have lb : bk < wr.heap.size := Nat.lt_of_lt_of_le HR.out.lt HR.out.le
      obtain ⟨W, hW⟩ : ∃ W, W = wr.alloc (.cells #[.int .i64 x.1, .int .i64 x.2] 46) := ⟨_, rfl⟩
      obtain ⟨b9, hb9⟩ : ∃ b9, b9 = wr.heap.size := ⟨_, rfl⟩
      have hbW : Below wr.heap.size wr W := by rw [hW]; exact bal wr _
      have e0 : W.cell? ⟨b9, 0, none⟩ = some (.int .i64 x.1) := by rw [hW, hb9]; simp
      have e1 : W.cell? ⟨b9, 1, none⟩ = some (.int .i64 x.2) := by rw [hW, hb9]; simp
      have l9 : b9 < W.heap.size := by rw [hW, hb9]; simp
      have ck : W.cell? ⟨bk, 1, none⟩ = some v := by rw [hbW.cell (p := ⟨bk, 1, none⟩) lb]; exact HR.out.ck
      have fk : W.frozen? ⟨bk, 1, none⟩ = false := by rw [hbW.frozen (p := ⟨bk, 1, none⟩) lb]; exact HR.out.fk
      have lbW : bk < W.heap.size := Nat.lt_of_lt_of_le lb hbW.size
      have hBW : Wf.heap.size ≤ W.heap.size := Nat.le_trans HR.out.le hbW.size
      have HBW := Lib.hid hbW
      have HO1 := Lib.hid (own_up HR.out.own hbW)
      clear hx hacc hbd hal hbW
      go_upto_region 5 with fail
      rw [← hW, ← hb9]
      clear hW hb9 d0 d1 hkl
      have hacl : acc.length ≤ 200000 := by have := HAL.out; omega
      go_region_law (first
        | (refine step_call79 rfl 19 rfl (.int .i64 x.1) (.int .i64 (un x.1)) rfl (HU1.out _) ?_)
        | (refine step_call79 rfl 22 rfl (.int .i64 x.2) (.int .i64 (un x.2)) rfl (HU2.out _) ?_)
        | (refine step_append_sp2 rfl (.tmp 17) (.tmp 25) rfl Wf.heap.size v acc (unS x) rfl ((own_up HO1.out (drewB W)).alloc _) W.heap.size rfl ((MapKept.heap_alloc _ _).1) hacl (by simp; omega) ?_; intro v5 w5 HO5 hg5; obtain ⟨A5, c5, rfl⟩ := own_slice HO5.out; obtain ⟨g1x, g2x⟩ := HR.out.facts (HBW.out.trans (((drewB W).alloc (by simp) _).mono HBW.out.size)) hg5))
      all_goals
        have h5 := HR.out.app (by decide) (HBW.out.trans (((drewB W).alloc (by simp) _).mono HBW.out.size)) HO5.out hg5
        rw [show (acc ++ [unS x]).length = acc.length + 1 by simp, ← HT.out] at h5
        have HR5 := Lib.hid h5
        clear h5
        clear HR HT HO5 hg5 g1x g2x ck fk e0 e1
        go_wp2_with fail
        go_roundw
        case rel => exact ⟨k + 1, _, by go_num, by omega, HR5⟩
        case measure => simp [intOf] <;> omega
    · obtain rfl : k = s.2.length := by omega
      rw [List.take_length] at HR
      obtain ⟨A3, c3, hv, hre3, hp3, hhi3⟩ := re_of_own HR.out.own
      rw [List.length_map] at hv
      subst hv
      have lb : bk < wr.heap.size := Nat.lt_of_lt_of_le HR.out.lt HR.out.le
      have lr : w.heap.size < bk := by have := HH.out.1; omega
      have k0 := HR.out.co
      have k1 := HR.out.ck
      have r0 : wr.cell? ⟨w.heap.size, 0, none⟩ = some (.slice none 0 0) := by rw [HR.out.bel.cell (p := ⟨w.heap.size, 0, none⟩) lr]; exact HY.out.1
      have r1 : wr.cell? ⟨w.heap.size, 1, none⟩ = some (.slice none 0 0) := by rw [HR.out.bel.cell (p := ⟨w.heap.size, 1, none⟩) lr]; exact HY.out.2.1
      have f0 : wr.frozen? ⟨w.heap.size, 0, none⟩ = false := by rw [HR.out.bel.frozen (p := ⟨w.heap.size, 0, none⟩) lr]; exact HY.out.2.2.1
      have f1 : wr.frozen? ⟨w.heap.size, 1, none⟩ = false := by rw [HR.out.bel.frozen (p := ⟨w.heap.size, 1, none⟩) lr]; exact HY.out.2.2.2
      obtain ⟨q0, q1, hup⟩ := st_cell r0 r1 A1 s.1.length c1 A3 s.2.length c3
      have hns : Ns wr A1 c1 A3 c3 (s.1, s.2.map unS) := ⟨HR.out.re.le HR.out.le, hre3, HN.out.p1, hp3⟩
      have hbw : Below w.heap.size w (stW wr w.heap.size A1 s.1.length c1 A3 s.2.length c3) :=
        ((HBF.out.trans (HR.out.bel.mono (Nat.le_of_lt lr))).setCell (p := ⟨w.heap.size, 0, none⟩) (Nat.le_refl _) _).setCell (p := ⟨w.heap.size, 1, none⟩) (Nat.le_refl _) _
      have HE := Lib.hid (show OfIs A1 c1 (s.1, s.2.map unS) w (.returned (nv A1 s.1.length c1 A3 s.2.length c3)) (stW wr w.heap.size A1 s.1.length c1 A3 s.2.length c3) from
        ⟨A3, c3, by simp, hup hns, hhi3.le (by have := HH.out.2; omega), hbw⟩)
      clear hup hns hbw hre3 hp3 hhi3 HR
      unfold stW at q0 q1 HE
      go_wp2_with fail
      refine bodyPost_ret (v := nv A1 s.1.length c1 A3 s.2.length c3) (by simp [results, Try.results54, go_sem, q0, q1]) rfl HE.out
end Go.Proofs.Yteekccjfokoglaa
