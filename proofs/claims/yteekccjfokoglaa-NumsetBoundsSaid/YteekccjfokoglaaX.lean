/-
  The iterator over the nearest numbers of the spans. No condition but that the set is valid.
-/
import Derived.Test.YteekccjfokoglaaW
namespace Go.Proofs.Yteekccjfokoglaa
open Go.RowKit Go.Sort Go.Lib Go.Shelf Go.Proofs
set_option linter.unusedSimpArgs false
set_option linter.unnecessarySimpa false
set_option linter.unusedVariables false
attribute [local go_sem] Oper.semAt_some
/-- what a round keeps: all cells but two boxes -/
structure Kp2 (B p q : Nat) (W W' : World) : Prop where
  bel : Below B W W'
  kept : ∀ k o, W.heap[k]? = some o → o.isCells = true → k ≠ p → k ≠ q → W'.heap[k]? = some o
theorem kp2_t {B p q : Nat} {X Y Z : World} (h : Kp2 B p q X Y) (k : Kp2 B p q Y Z) : Kp2 B p q X Z :=
  ⟨h.bel.trans k.bel, fun j o hj ho h1 h2 => k.kept j o (h.kept j o hj ho h1 h2) ho h1 h2⟩
theorem kp2_b {B p q : Nat} {w : World} (hB : B ≤ w.heap.size) (W : World) (l : Nat) (o o' : Obj) (hl : w.heap.size ≤ l) (h : W.heap[l]? = some o) (ho : o.isCells = false) (hw : o.isWalk = false) : Kp2 B p q W (W.putObj l o') := by
  refine ⟨belowK_b hB W l o o' hl h ho hw, fun k ok hk hok _ _ => ?_⟩
  rw [World.putObj_heap_other]
  · exact hk
  · intro e; subst e; rw [hk] at h; cases h; rw [hok] at ho; cases ho
theorem cell_kp {B p q : Nat} {W W' : World} {b j : Nat} {v : Value} (h : Kp2 B p q W W') (hc : W.cell? ⟨b, j, none⟩ = some v) (h1 : b ≠ p) (h2 : b ≠ q) : W'.cell? ⟨b, j, none⟩ = some v := by
  unfold World.cell? at *
  simp only at *
  cases hb : W.heap[b]? with
  | none => rw [hb] at hc; simp at hc
  | some o =>
    cases o with
    | cells cs t fr => rw [h.kept b _ hb rfl h1 h2]; rw [hb] at hc; exact hc
    | _ => rw [hb] at hc; simp at hc
/-- what the iterator reads -/
structure Gn (A1 : Option Addr) (c1 : Nat) (A2 : Option Addr) (c2 : Nat) (M : NS) (ps N : Nat) (w : World) : Prop where
  a0 : w.cell? ⟨ps, 0, none⟩ = some (.slice A1 M.1.length c1)
  a1 : w.cell? ⟨ps, 1, none⟩ = some (.slice A2 M.2.length c2)
  ns : Ns w A1 c1 A2 c2 M
  h1 : Hi N A1
  h2 : Hi N A2
  hp : N ≤ ps
theorem Re.kp {B p q N : Nat} {W W' : World} {A : Option Addr} {l : List Sp} (h : Re W W.heap.size A l) (hh : Hi N A) (hp : p < N) (hq : q < N) (hk : Kp2 B p q W W') : Re W' W'.heap.size A l :=
  ⟨fun i hi => by
    obtain ⟨b, o, e, hl, x0, x1⟩ := h.at_ i hi
    have hb := hh b o e
    exact ⟨b, o, e, Nat.lt_of_lt_of_le hl hk.bel.size, cell_kp hk x0 (by omega) (by omega), cell_kp hk x1 (by omega) (by omega)⟩⟩
theorem Gn.kp {B p q N ps : Nat} {W W' : World} {A1 A2 : Option Addr} {c1 c2 : Nat} {M : NS} (h : Gn A1 c1 A2 c2 M ps N W) (hp : p < N) (hq : q < N) (hk : Kp2 B p q W W') : Gn A1 c1 A2 c2 M ps N W' :=
  ⟨cell_kp hk h.a0 (by have := h.hp; omega) (by have := h.hp; omega), cell_kp hk h.a1 (by have := h.hp; omega) (by have := h.hp; omega), ⟨h.ns.r1.kp h.h1 hp hq hk, h.ns.r2.kp h.h2 hp hq hk, h.ns.p1, h.ns.p2⟩, h.h1, h.h2, h.hp⟩
theorem kp2_alloc {B p q : Nat} {W : World} (hB : B ≤ W.heap.size) (o : Obj) : Kp2 B p q W (W.alloc o) :=
  ⟨(Below.refl B W).alloc hB o, fun k ok hk _ _ _ => by rw [(bal W o).block k (Array.getElem?_eq_some_iff.1 hk).1]; exact hk⟩
theorem candI_bd {M : NS} (h : CanS M) {x : Sp} (hx : x ∈ M.1) : -100000000000 ≤ x.1 ∧ x.1 ≤ 100000000000 ∧ -100000000000 ≤ x.2 ∧ x.2 ≤ 100000000000 := by
  obtain ⟨_, ⟨h1, h2, _⟩, h3, h4, _⟩ := h.1.1 x hx
  simp only [lim] at *; omega
/-- a valid number -/
abbrev V := { x : Int // -1000000000000000 ≤ x ∧ x ≤ 1000000000000000 }
def toV (x : Int) : V := if h : -1000000000000000 ≤ x ∧ x ≤ 1000000000000000 then ⟨x, h⟩ else ⟨0, by omega⟩
theorem toV_val {x : Int} (h1 : -1000000000000000 ≤ x) (h2 : x ≤ 1000000000000000) : (toV x).1 = x := by unfold toV; rw [dif_pos ⟨h1, h2⟩]
def cI (s : Sp) : V := toV (candI s)
def cF (s : Sp) : V := toV (candF s)
def cV (M : NS) : List V := M.1.map cI ++ M.2.map cF
theorem cI_val {y : Sp} (h : y.1 ≤ y.2) (hb : -100000000000 ≤ y.1 ∧ y.1 ≤ 100000000000 ∧ -100000000000 ≤ y.2 ∧ y.2 ≤ 100000000000) : (cI y).1 = min (max y.1 0) y.2 * 10000 := by
  unfold cI candI; rw [toV_val] <;> omega
theorem cF_val {y : Sp} (h : y.1 ≤ y.2) (hb : -1000000000000000 ≤ y.1 ∧ y.1 ≤ 1000000000000000 ∧ -1000000000000000 ≤ y.2 ∧ y.2 ≤ 1000000000000000) : (cF y).1 = min (max y.1 1) y.2 := by
  unfold cF candF; rw [toV_val] <;> omega
theorem cV_cands {M : NS} (h : CanS M) : (cV M).map (·.1) = cands M := by
  unfold cV cands
  rw [List.map_append, List.map_map, List.map_map]
  congr 1
  · apply List.map_congr_left
    intro x hx
    have hb := candI_bd h hx
    have hl := (h.1.1 x hx).1
    show (cI x).1 = candI x
    rw [cI_val hl hb]; rfl
  · apply List.map_congr_left
    intro x hx
    have hb := ok_bd (h.2.1 x hx)
    have hl := (h.2.1 x hx).1
    show (cF x).1 = candF x
    rw [cF_val hl hb]; rfl
theorem near_any (A1 A2 : Option Addr) (c1 c2 : Nat) (n1 n2 : Nat) (w : World) : Calls Try.prog 69 #[nv A1 n1 c1 A2 n2 c2] w fun e w' =>
    e = .returned (.func (.func 87) #[] #[.pointer (some ⟨w.heap.size, 0, none⟩)]) ∧ w' = w.alloc (.cells #[.slice A1 n1 c1, .slice A2 n2 c2] 24) := by
  go_enter Try.func69, Try.ntmps69
  go_wp2
  go_ret
  exact ⟨rfl, rfl⟩
set_option maxRecDepth 100000 in
set_option maxHeartbeats 2000000 in
theorem near_in (n : Nat) (hn : 4 ≤ n) (l0 ps N B p q c1 c2 : Nat) (A1 A2 : Option Addr) (M : NS) (hM : CanS M) (hk : okN 1000 M) (hp : p < N) (hq : q < N) (J Jx : List V → World → Prop)
    (hY : ∀ pre x W, J pre W → pre.length < (cV M).length → YieldAt Fence.wide (n - 1) Try.prog l0 #[.int .i64 x.1] W fun e W' =>
      (e = .returned (.bool true) ∧ J (pre ++ [x]) W' ∧ Kp2 B p q W W') ∨ (e = .returned (.bool false) ∧ Jx (pre ++ [x]) W'))
    (W : World) (hB : B ≤ W.heap.size) (hJ : ∀ pre A o, J pre A → J pre (A.alloc o)) (hG : Gn A1 c1 A2 c2 M ps N W) (h0 : J [] W) :
    CallsIn Fence.wide n Try.prog 87 #[.func (.yield l0) #[] #[], .pointer (some ⟨ps, 0, none⟩)] W fun e W' => (∃ v, e = .returned v) ∧
      ((∃ ys, ys = cV M ∧ J ys W') ∨ (∃ pre, pre <+: cV M ∧ Jx pre W')) := by
  have HG := Lib.hid hG
  have HM := Lib.hid hM
  have k1 := hk.1
  have k2 := hk.2.1
  have q0 := hG.a0
  have q1 := hG.a1
  have hcl : (cV M).length = M.1.length + M.2.length := by simp [cV]
  clear hG hM hk
  refine callsIn_of_wp Try.func87 rfl trivial ?_ rfl
  simp only [Try.ntmps87, List.size_toArray, List.length_cons, List.length_nil, Nat.reduceAdd, Nat.reduceSub, Array.replicate_succ, Array.replicate_zero, List.push_toArray, List.append_toArray, List.nil_append, List.cons_append]
  gi_wp2
  gi_loopw [4, 10] (fun _ s10 wr => ∃ k : Nat, s10 = .int .i64 k ∧ k ≤ M.1.length ∧ Hid (J ((M.1.take k).map cI) wr) ∧ Hid (Kp2 B p q W wr))
    (fun _ s10 _ => M.1.length - (intOf s10).toNat)
  case atStart => exact ⟨0, rfl, by omega, Lib.hid (by simpa using h0), Lib.hid ⟨Below.refl _ _, fun _ _ h _ _ _ => h⟩⟩
  case round =>
    obtain ⟨k, rfl, hk, HJ, HB⟩ := hrel
    have hwB : B ≤ wr.heap.size := Nat.le_trans hB HB.out.bel.size
    by_cases hlt : k < M.1.length
    · obtain ⟨bb, o, hA, hbl, x0, x1⟩ := (HG.out.kp hp hq HB.out).ns.r1.at_ k hlt
      subst hA
      have hsb := candI_bd HM.out (List.getElem_mem hlt)
      have HT := Lib.hid (show (M.1.take (k + 1)).map cI = (M.1.take k).map cI ++ [cI M.1[k]] by rw [take_snoc _ _ hlt, List.map_append]; rfl)
      have hxl := (HM.out.1.1 M.1[k] (List.getElem_mem hlt)).1
      obtain ⟨y, hy⟩ : ∃ y, y = M.1[k] := ⟨_, rfl⟩
      rw [← hy] at x0 x1 hsb HT hxl
      have hkl : (k : Int) < (M.1.length : Int) := by omega
      clear hy
      have hJ1 := Lib.hid (hJ _ _ (.cells #[.int .i64 y.1, .int .i64 y.2] 46) HJ.out)
      have HB1 := Lib.hid (kp2_t HB.out (kp2_alloc hwB (.cells #[.int .i64 y.1, .int .i64 y.2] 46)))
      obtain ⟨fn, tmps, assign, body, hy, hR⟩ := hY _ (cI y) _ hJ1.out (by simp; omega)
      rw [cI_val hxl hsb] at hy
      gi_wp2_with fail
      refine ⟨fun _ => by omega, hR.mono ?_⟩
      rintro e W3 (⟨rfl, hJ3, hk3⟩ | ⟨rfl, hJx3⟩)
      · have HB3 := Lib.hid (kp2_t HB1.out hk3)
        have HJ3 := Lib.hid (show J ((M.1.take (k + 1)).map cI) W3 by rw [HT.out]; exact hJ3)
        clear hk3 hJ3 x0 x1 HT
        gi_wp2_with fail
        go_roundw
        case rel => exact ⟨k + 1, by go_num, by omega, HJ3, HB3⟩
        case measure => simp [intOf]; omega
      · have HE3 := Lib.hid (show ((M.1.take k).map cI ++ [cI y]) <+: cV M by
          rw [← HT.out]; exact (List.IsPrefix.map cI (List.take_prefix (k + 1) M.1)).trans (List.prefix_append _ _))
        have HJ3 := Lib.hid hJx3
        clear hJx3 HT
        gi_wp2_with fail
        refine bodyPost_ret (results_none rfl _ _ _) rfl ?_
        exact ⟨⟨_, rfl⟩, .inr ⟨_, HE3.out, HJ3.out⟩⟩
    · obtain rfl : k = M.1.length := by omega
      have q1' := (HG.out.kp hp hq HB.out).a1
      have HJ0 := Lib.hid (show J (M.1.map cI ++ (M.2.take 0).map cF) wr by have := HJ.out; rw [List.take_length] at this; simpa using this)
      have HB0 := HB
      clear HJ q0 q1
      gi_wp2_with fail
      gi_loopw [6, 28] (fun _ s28 wr => ∃ k : Nat, s28 = .int .i64 k ∧ k ≤ M.2.length ∧ Hid (J (M.1.map cI ++ (M.2.take k).map cF) wr) ∧ Hid (Kp2 B p q W wr))
        (fun _ s28 _ => M.2.length - (intOf s28).toNat)
      case atStart => exact ⟨0, rfl, by omega, HJ0, HB0⟩
      case round =>
        clear HJ0 HB0 q1' HB hwB
        obtain ⟨k, rfl, hk, HJ, HB⟩ := hrel
        have hwB : B ≤ wr.heap.size := Nat.le_trans hB HB.out.bel.size
        by_cases hlt : k < M.2.length
        · obtain ⟨bb, o, hA, hbl, x0, x1⟩ := (HG.out.kp hp hq HB.out).ns.r2.at_ k hlt
          subst hA
          have hsb := ok_bd (HM.out.2.1 _ (List.getElem_mem hlt))
          have hxl := (HM.out.2.1 M.2[k] (List.getElem_mem hlt)).1
          have HT := Lib.hid (show M.1.map cI ++ (M.2.take (k + 1)).map cF = (M.1.map cI ++ (M.2.take k).map cF) ++ [cF M.2[k]] by rw [take_snoc _ _ hlt, List.map_append, List.append_assoc]; rfl)
          obtain ⟨y, hy⟩ : ∃ y, y = M.2[k] := ⟨_, rfl⟩
          rw [← hy] at x0 x1 hsb HT hxl
          have hkl : (k : Int) < (M.2.length : Int) := by omega
          clear hy
          have hJ1 := Lib.hid (hJ _ _ (.cells #[.int .i64 y.1, .int .i64 y.2] 46) HJ.out)
          have HB1 := Lib.hid (kp2_t HB.out (kp2_alloc hwB (.cells #[.int .i64 y.1, .int .i64 y.2] 46)))
          obtain ⟨fn, tmps, assign, body, hy, hR⟩ := hY _ (cF y) _ hJ1.out (by simp; omega)
          rw [cF_val hxl hsb] at hy
          gi_wp2_with fail
          refine ⟨fun _ => by omega, hR.mono ?_⟩
          rintro e W3 (⟨rfl, hJ3, hk3⟩ | ⟨rfl, hJx3⟩)
          · have HB3 := Lib.hid (kp2_t HB1.out hk3)
            have HJ3 := Lib.hid (show J (M.1.map cI ++ (M.2.take (k + 1)).map cF) W3 by rw [HT.out]; exact hJ3)
            clear hk3 hJ3 x0 x1 HT
            gi_wp2_with fail
            go_roundw
            case rel => exact ⟨k + 1, by go_num, by omega, HJ3, HB3⟩
            case measure => simp [intOf]; omega
          · have HE3 := Lib.hid (show ((M.1.map cI ++ (M.2.take k).map cF) ++ [cF y]) <+: cV M by
              rw [← HT.out]; exact (List.prefix_append_right_inj _).2 (List.IsPrefix.map cF (List.take_prefix (k + 1) M.2)))
            have HJ3 := Lib.hid hJx3
            clear hJx3 HT
            gi_wp2_with fail
            refine bodyPost_ret (results_none rfl _ _ _) rfl ?_
            exact ⟨⟨_, rfl⟩, .inr ⟨_, HE3.out, HJ3.out⟩⟩
        · obtain rfl : k = M.2.length := by omega
          have HJE := Lib.hid (show J (cV M) wr by have := HJ.out; rw [List.take_length] at this; exact this)
          clear HJ
          gi_wp2_with fail
          go_end0
          exact ⟨⟨_, rfl⟩, .inl ⟨_, rfl, HJE.out⟩⟩
theorem near_stops (n : Nat) (hn : 4 ≤ n) (ps N B p q c1 c2 : Nat) (A1 A2 : Option Addr) (M : NS) (hM : CanS M) (hk : okN 1000 M) (hp : p < N) (hq : q < N) (w : World) (hB : B ≤ w.heap.size) (hps : ps < w.heap.size) (hG : Gn A1 c1 A2 c2 M ps N w) :
    SeqStopsK Fence.wide n Try.prog 87 #[.pointer (some ⟨ps, 0, none⟩)] (fun x : V => #[.int .i64 x.1]) (Kp2 B p q) (fun ys => ys = cV M) (fun pre => pre <+: cV M) (cV M).length w := fun l0 J Jx W hW hA hAx hY h0 =>
  near_in n hn l0 ps N B p q c1 c2 A1 A2 M hM hk hp hq J Jx hY W (Nat.le_trans hB hW.size) (fun pre A o hs => hA pre A (A.alloc o) none hs (World.grownBy_alloc A o none) (fun r e => by cases e))
    ⟨by rw [hW.cell (p := ⟨ps, 0, none⟩) hps]; exact hG.a0, by rw [hW.cell (p := ⟨ps, 1, none⟩) hps]; exact hG.a1, hG.ns.up hW, hG.h1, hG.h2, hG.hp⟩ h0
end Go.Proofs.Yteekccjfokoglaa
