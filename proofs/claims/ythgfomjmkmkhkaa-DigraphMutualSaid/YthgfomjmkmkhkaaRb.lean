/-
  container/heap over the queue of Topo: Push and Pop. Conditions: at most 1000 numbers.
-/
import Derived.Test.YthgfomjmkmkhkaaRa
namespace Go.Proofs.Ythgfomjmkmkhkaa
open Go.RowKit
set_option linter.unusedSimpArgs false
set_option linter.unusedVariables false
theorem step_append_q {ops : Array Oper} {o : Oper} {a : Act} {w : World} {K : Act → World → Prop} {Q : Exit → Act → World → Prop} {E : Prop} (hgd : o.guard = none) (s x : Operand)
    (ho : o.op = .call { callee := .builtin .append, args := #[s, x], argTypes := #[47, 47] }) (base : Nat) (v : Value) (acc : List Int) (y : Int) (hs : a.eval s = v)
    (hown : w.ownsRow base 3 1 v acc.length (icells acc)) (b : Nat) (hx : a.eval x = .slice (some ⟨b, 0, none⟩) 1 1)
    (hb : w.heap[b]? = some (.cells #[.int .i64 y] 3 (0, 0))) (hlen : acc.length ≤ 1000) (hbase : base ≤ w.heap.size)
    (h : ∀ v' w', Hid (w'.ownsRow base 3 1 v' (acc ++ [y]).length (icells (acc ++ [y]))) → w.grownBy w' v.ownBlock → (v'.ownBlock = v.ownBlock ∨ v'.ownBlock = some w.heap.size) → K (a.put o.dst v') w') :
    if Region.wanted o (yielded ops a.tmps) = true then Oper.wp Try.prog o a w K Q else E := by
  have hw : Region.wanted o (yielded ops a.tmps) = true := by simp [Region.wanted, hgd]
  rw [if_pos hw]
  obtain ⟨i0, hi, hz0, hz1, hz2⟩ := info_parts Try.info3
  obtain ⟨v', w', hr, h2, h3, h4, h5⟩ := run_append_own_at (P := Try.prog) w base 47 o.type 3 i0 (.int .i64 0) 1 8 Try.underlying47 hi hz0 hz1 hz2 rfl (by decide) v acc.length (icells acc) hown ⟨b, 0, none⟩ 1 1 [.int .i64 y] rfl
    (by
      intro j u hj
      rw [show (⟨b, 0, none⟩ : Addr).add j = ⟨b, j, none⟩ by simp [Addr.add]; exact fun e => e.symm, Lib.cell_of_heap hb, ← Array.getElem?_toList]
      exact hj)
    (by intro u hu; simp at hu; subst hu; rfl) (by unfold maxLen; omega) (by omega) hbase
  unfold Oper.wp execOp
  simp only [ho, resolve, invoke, builtin, Sem.run_bind, Sem.run_pure, Result.andThen_ok, List.map_toArray, List.map_cons, List.map_nil, hs, hx, hr]
  exact h v' w' (show w'.ownsRow base 3 1 v' (acc ++ [y]).length (icells (acc ++ [y])) by
    rw [show icells (acc ++ [y]) = icells acc ++ [.int .i64 y] by simp [icells], List.length_append]; exact h2) h3 h5
theorem QS.facts {w w1 w5 : World} {q B : Nat} {v : Value} {xs : List Int} (Q : QS w q B v xs) (hb : Below w.heap.size w w1) (hg : w1.grownBy w5 v.ownBlock) : w5.cell? ⟨q, 0, none⟩ = some v ∧ w5.frozen? ⟨q, 0, none⟩ = false := by
  have hq : w5.heap[q]? = w.heap[q]? := by
    rw [hg.block q (Nat.lt_of_lt_of_le Q.qs hb.size) (fun e => by have := (World.ownsRow.lt Q.row q e.symm).1; have := Q.qB; omega)]
    exact hb.block q Q.qs
  exact ⟨by rw [World.cell?_of_block (w := w) hq]; exact Q.box, by rw [World.frozen?_of_block (w := w) hq]; exact Q.frz⟩
theorem QS.put {w w1 w5 : World} {q B : Nat} {v v5 : Value} {xs ys : List Int} (Q : QS w q B v xs) (hb : Below w.heap.size w w1) (hg : w1.grownBy w5 v.ownBlock) (hd : v5.ownBlock = v.ownBlock ∨ v5.ownBlock = some w1.heap.size)
    (h5 : w5.ownsRow B 3 1 v5 ys.length (icells ys)) : QS (w5.setCell ⟨q, 0, none⟩ v5) q B v5 ys ∧ HStep q w v (w5.setCell ⟨q, 0, none⟩ v5) v5 := by
  obtain ⟨f1, f2⟩ := Q.facts hb hg
  refine ⟨⟨Q.qB, by simp; exact Nat.lt_of_lt_of_le Q.qs (Nat.le_trans hb.size hg.size), World.cell?_setCell_same (w := w5) (a := ⟨q, 0, none⟩) (u := v) _ f1, by rw [World.frozen?_setCell]; exact f2, ownsRow_setCell_below h5 (by show q < B; exact Q.qB) _⟩, ?_⟩
  refine ⟨hg.os.trans hb.os, hg.tape.trans hb.tape, hg.output.trans hb.output, by simp; exact Nat.le_trans hb.size hg.size, fun k h1 h2 h3 => ?_, ?_⟩
  · rw [Below.heap_setCell _ _ _ _ h2, hg.block k (Nat.lt_of_lt_of_le h1 hb.size) (fun e => h3 e.symm)]
    exact hb.block k h1
  · rcases hd with hd | hd
    · exact Or.inl hd
    · exact Or.inr ⟨_, hb.size, hd⟩
theorem any_slice {w : World} {B : Nat} {e : TypeId} {k : Nat} {v : Value} {n : Nat} {xs : List Value} (h : w.ownsRow B e k v n xs) : ∃ A l c, v = .slice A l c := by
  obtain ⟨A, c, h⟩ := own_vis h
  exact ⟨_, _, _, h⟩
theorem as3 (v : Value) (w : World) : (Instr.typeAssert (.iface 3 v) 20 3 false).run Try.prog w = .ok v w := by kernel_rfl
theorem qv {w : World} {q B : Nat} {v : Value} {xs : List Int} (Q : QS w q B v xs) : ∃ A c, v = .slice A xs.length c := own_vis Q.row
set_option maxRecDepth 100000 in
set_option maxHeartbeats 4000000 in
theorem qpush_any (q B : Nat) (v : Value) (xs : List Int) (x : Int) (w : World) (Q : QS w q B v xs) (hB : B ≤ w.heap.size) (hl : xs.length ≤ 1000) :
    Calls Try.prog 71 #[.pointer (some ⟨q, 0, none⟩), .iface 3 (.int .i64 x)] w fun e w' => e = .returned (.tuple #[]) ∧ ∃ v', QS w' q B v' (xs ++ [x]) ∧ HStep q w v w' v' := by
  have HQ := Lib.hid Q
  have hbx := Q.box
  have hbx2 : ∀ o, (w.alloc o).cell? ⟨q, 0, none⟩ = some v := fun o => by
    rw [((Below.refl _ _).alloc (Nat.le_refl w.heap.size) o).cell Q.qs]; exact Q.box
  have hfz := Q.frz
  have hta : ∀ w', (Instr.typeAssert (.iface 3 (.int .i64 x)) 20 3 false).run Try.prog w' = .ok (.int .i64 x) w' := fun w' => as3 _ w'
  obtain ⟨A, c, hv⟩ := qv Q
  subst hv
  clear Q
  go_enter Try.func71, Try.ntmps71
  go_wp2_with fail
  go_region_law (first | (refine step_append_q rfl (.tmp 8) (.tmp 11) rfl B (.slice A xs.length c) xs x rfl (own_below HQ.out.row ((drewB w).alloc (Nat.le_refl _) _)) w.heap.size rfl ((MapKept.heap_alloc _ _).1) hl (by simp; omega) ?_; intro v5 w5 HO5 hg5 hd5; obtain ⟨A5, l5, c5, hv5⟩ := any_slice HO5.out; subst hv5; obtain ⟨g1, g2⟩ := HQ.out.facts ((drewB w).alloc (Nat.le_refl _) _) hg5))
  all_goals
    obtain ⟨hq5, hs5⟩ := HQ.out.put (v5 := .slice A5 l5 c5) (ys := xs ++ [x]) ((drewB w).alloc (Nat.le_refl _) _) hg5 hd5 HO5.out
    have HQ5 := Lib.hid hq5
    have HS5 := Lib.hid hs5
    clear hq5 hs5 HO5 hg5 hd5 g1 g2 hbx hbx2 hfz
    go_wp2_with fail
    go_end0
    exact ⟨rfl, .slice A5 l5 c5, HQ5.out, HS5.out⟩
theorem len_q {w : World} (A : Option Addr) (n c : Nat) : Calls Try.prog 43 #[.slice A n c] w fun e w' => e = .returned (.int .i64 (n : Int)) ∧ w' = w := by
  go_enter Try.func43, Try.ntmps43
  go_wp2_with fail
  go_ret
  exact ⟨rfl, rfl⟩
theorem own_takeI {w : World} {B : Nat} {A : Option Addr} {c n : Nat} {xs : List Int} (h : w.ownsRow B 3 1 (.slice A xs.length c) xs.length (icells xs)) (hn : xs.length = n + 1) : w.ownsRow B 3 1 (.slice A n c) (xs.take n).length (icells (xs.take n)) ∧ n ≤ c := by
  rcases h.2 with ⟨hv, h1⟩ | ⟨g, cap, cur, hv, hb, hg, hnc, hm, hs, ht⟩
  · omega
  · injection hv with e1 e2 e3
    subst e1 e3
    have hpl : n ≤ c := by omega
    have el : (xs.take n).length = n := by simp; omega
    rw [el]
    refine ⟨⟨by simp [icells]; omega, .inr ⟨g, c, cur, rfl, hb, hg, hpl, hm, hs, ?_⟩⟩, hpl⟩
    have e : icells (xs.take n) = (icells xs).take n := by simp [icells, List.map_take]
    rw [e, ← ht, List.take_take]
    congr 1
    omega
set_option maxRecDepth 100000 in
set_option maxHeartbeats 4000000 in
theorem qpop_any (q B : Nat) (v : Value) (xs : List Int) (n : Nat) (w : World) (Q : QS w q B v xs) (hn : xs.length = n + 1) (hl : xs.length ≤ 1001) :
    Calls Try.prog 70 #[.pointer (some ⟨q, 0, none⟩)] w fun e w' => e = .returned (.iface 3 (.int .i64 (gt xs n))) ∧ ∃ v', QS w' q B v' (xs.take n) ∧ HStep q w v w' v' := by
  have HQ := Lib.hid Q
  have hbx := Q.box
  have hfz := Q.frz
  obtain ⟨g, c, hv, hgb, hgs⟩ := qs_slice Q (by omega)
  subst hv
  have hc : w.cell? ⟨g, n, none⟩ = some (.int .i64 (gt xs n)) := by
    rw [World.ownsRow.cellAt Q.row n (by omega)]; simp [icells, some_gt (show n < xs.length by omega)]
  obtain ⟨ht1, ht2⟩ := own_takeI Q.row hn
  obtain ⟨hq5, hs5⟩ := Q.put (v5 := .slice (some ⟨g, 0, none⟩) n c) (ys := xs.take n) (Below.refl _ _) (World.grownBy.rfl' w _) (Or.inl rfl) ht1
  have HQ5 := Lib.hid hq5
  have HS5 := Lib.hid hs5
  rw [hn] at hbx
  obtain ⟨l, hl9⟩ : ∃ l, n + 1 = l := ⟨_, rfl⟩
  rw [hl9] at hbx
  have hw2 : ((l : Int) - 1) = (n : Int) := by omega
  have hw : IntKind.i64.wrap ((l : Int) - 1) = (n : Int) := by rw [IntWalk.i64_in _ (by omega), hw2]
  have hn0 : (0 : Int) ≤ (n : Int) := by omega
  have hn1 : (n : Int) < (l : Int) := by omega
  have hn2 : n ≤ l := by omega
  have hn3 : n < l := by omega
  have hnb : n ≤ 1001 := by omega
  clear Q ht1 hq5 hs5 hl9 hn
  go_enter Try.func70, Try.ntmps70
  go_wp2_with fail
  refine (len_q (some ⟨g, 0, none⟩) l c).mono ?_
  rintro e w2 ⟨rfl, rfl⟩
  go_wp2_with fail
  go_ret
  exact ⟨rfl, _, HQ5.out, HS5.out⟩
set_option maxRecDepth 100000 in
set_option maxHeartbeats 4000000 in
theorem push_any (q B : Nat) (v : Value) (xs : List Int) (x : Int) (w : World) (Q : QS w q B v xs) (hB : B ≤ w.heap.size) (hl : xs.length ≤ 1000) (hh : Heap xs xs.length) :
    Calls Try.prog 42 #[qi q, .iface 3 (.int .i64 x)] w fun e w' => e = .returned (.tuple #[]) ∧ ∃ v' ys, QS w' q B v' ys ∧ PushOk xs ys x ∧ HStep q w v w' v' := by
  have CP := Lib.hid (qpush_any q B v xs x w Q hB hl)
  have hm1 := direct find_push w q
  have HH := Lib.hid hh
  clear Q hh
  go_enter Try.func42, Try.ntmps42
  go_wp2_with fail
  refine CP.out.mono ?_
  rintro e w2 ⟨rfl, v2, hq2, hs2⟩
  have HQ2 := Lib.hid hq2
  have HS2 := Lib.hid hs2
  have hm2 := via find_len hq2.box
  obtain ⟨A2, c2, hv2⟩ := qv hq2
  subst hv2
  have hle : (xs ++ [x]).length = xs.length + 1 := by simp
  have CU := Lib.hid (up_any q B (.slice A2 (xs ++ [x]).length c2) (xs ++ [x]) xs.length w2 hq2 (by rw [hle]; exact up_start HH.out) (by omega) (by omega))
  clear hq2 hs2 CP hm1
  obtain ⟨l, hl9⟩ : ∃ l, (xs ++ [x]).length = l := ⟨_, rfl⟩
  rw [hl9] at CU HQ2 HS2 hm2
  have hw2 : ((l : Int) - 1) = (xs.length : Int) := by omega
  have hw : IntKind.i64.wrap ((l : Int) - 1) = (xs.length : Int) := by rw [IntWalk.i64_in _ (by omega), hw2]
  clear hl9 hle
  go_wp2_with fail
  refine (len_q A2 l c2).mono ?_
  rintro e w3 ⟨rfl, rfl⟩
  go_wp2_with fail
  refine CU.out.mono ?_
  rintro e w4 ⟨rfl, ys, hq4, hp4, hh4, hs4⟩
  have HQ4 := Lib.hid hq4
  have HP4 := Lib.hid hp4
  have HH4 := Lib.hid hh4
  have HS4 := Lib.hid (HS2.out.trans hs4)
  clear hq4 hp4 hh4 hs4 CU hm2
  go_wp2_with fail
  go_end0
  exact ⟨rfl, _, ys, HQ4.out, ⟨HP4.out, HH4.out⟩, HS4.out⟩
set_option maxRecDepth 100000 in
set_option maxHeartbeats 4000000 in
theorem pop_any (q B : Nat) (v : Value) (xs : List Int) (n : Nat) (w : World) (Q : QS w q B v xs) (hn : xs.length = n + 1) (hl : xs.length ≤ 1001) (hh : Heap xs xs.length) :
    Calls Try.prog 44 #[qi q] w fun e w' => ∃ x, e = .returned (.iface 3 (.int .i64 x)) ∧ ∃ v' ys, QS w' q B v' ys ∧ PopOk xs ys x ∧ HStep q w v w' v' := by
  have HQ := Lib.hid Q
  have HH := Lib.hid hh
  have hm1 := via find_len Q.box
  have hm2 := via find_swap Q.box
  have CS := Lib.hid (swap_q Q (i := 0) (j := n) (by omega) (by omega) (by omega))
  obtain ⟨g, c, hv, _, _⟩ := qs_slice Q (by omega)
  have HN := Lib.hid hn
  have HDS : Hid (DownI (swp xs 0 n) n 0) := Lib.hid (down_start (hn ▸ hh) hn)
  have HLE : Hid (n + 1 ≤ 1001) := Lib.hid (by omega)
  obtain ⟨l, hl9⟩ : ∃ l, xs.length = l := ⟨_, rfl⟩
  rw [hl9] at hv
  have hw2 : ((l : Int) - 1) = (n : Int) := by omega
  have hw : IntKind.i64.wrap ((l : Int) - 1) = (n : Int) := by rw [IntWalk.i64_in _ (by omega), hw2]
  have HL9 := Lib.hid hl9
  have hnb : n ≤ 1001 := by omega
  subst hv
  clear Q hh hl9 hn
  go_enter Try.func44, Try.ntmps44
  go_wp2_with fail
  refine (len_q (some ⟨g, 0, none⟩) l c).mono ?_
  rintro e w3 ⟨rfl, rfl⟩
  go_wp2_with fail
  refine CS.out.mono ?_
  rintro e w4 ⟨rfl, hq4, hs4⟩
  have HQ4 := Lib.hid hq4
  have HS4 := Lib.hid hs4
  have hsl : (swp xs 0 n).length = n + 1 := (swp_len xs 0 n).trans HN.out
  have CD := Lib.hid (down_any q B _ (swp xs 0 n) n w4 hq4 HDS.out (hsl ▸ Nat.le_succ n) (hsl ▸ HLE.out))
  clear hsl
  clear hq4 hs4 CS hm1 hm2
  go_wp2_with fail
  refine CD.out.mono ?_
  rintro e w5 ⟨⟨b, rfl⟩, ys, hq5, hp5, hh5, hf5, hs5⟩
  have HQ5 := Lib.hid hq5
  have HS5 := Lib.hid (HS4.out.trans hs5)
  have hyl : ys.length = n + 1 := by rw [hp5.length_eq, swp_len, HN.out]
  have HPOP : Hid (PopOk xs (ys.take n) (gt ys n)) := Lib.hid (by
    refine pop_ok HH.out HN.out (hp5.trans (swp_perm (by rw [HN.out]; omega) (by rw [HN.out]; omega))) hh5 ?_
    rw [hf5 n (Nat.le_refl _), swp_at (by rw [HN.out]; omega) (by rw [HN.out]; omega), if_pos rfl])
  have CP := Lib.hid (qpop_any q B _ ys n w5 hq5 hyl (hyl ▸ HLE.out))
  have hm3 := direct find_pop w5 q
  clear hq5 hp5 hh5 hf5 hs5 CD hyl
  go_wp2_with fail
  refine CP.out.mono ?_
  rintro e w6 ⟨rfl, v6, hq6, hs6⟩
  have HQ6 := Lib.hid hq6
  have HS6 := Lib.hid (HS5.out.trans hs6)
  clear hq6 hs6 CP hm3
  go_wp2_with fail
  go_ret
  exact ⟨_, rfl, v6, _, HQ6.out, HPOP.out, HS6.out⟩
end Go.Proofs.Ythgfomjmkmkhkaa
