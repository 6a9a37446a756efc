/-
  collect: the nodes that lead to a node and have no component. Conditions: a graph of at most 900 nodes.
-/
import Derived.Test.YthgfomjmkmkhkaaI
import Derived.Test.YthgfomjmkmkhkaaM6
namespace Go.Proofs.Ythgfomjmkmkhkaa
open Go.RowKit
set_option linter.unusedSimpArgs false
set_option linter.unusedVariables false
theorem gtrans {w a b : World} {g : Nat} {r : Option Nat} (h : w.grownBy a (some g)) (k : a.grownBy b r) (hr : ∀ j, r = some j → w.heap.size ≤ j) : w.grownBy b (some g) :=
  ⟨k.os.trans h.os, k.tape.trans h.tape, k.output.trans h.output, Nat.le_trans h.size k.size, fun i hi hne => (k.block i (Nat.lt_of_lt_of_le hi h.size) (fun e => by have := hr i e.symm; omega)).trans (h.block i hi hne)⟩
theorem gset {w a : World} {g o : Nat} (h : w.grownBy a (some g)) (u : Value) : w.grownBy (a.setCell ⟨g, o, none⟩ u) (some g) :=
  ⟨h.os, h.tape, h.output, by simp; exact h.size, fun i hi hne => (Below.heap_setCell _ _ _ _ (fun e => hne (by rw [e]))).trans (h.block i hi hne)⟩
theorem gbelow {w a b : World} {g : Nat} (h : w.grownBy a (some g)) (k : Below a.heap.size a b) : w.grownBy b (some g) :=
  ⟨k.os.trans h.os, k.tape.trans h.tape, k.output.trans h.output, Nat.le_trans h.size k.size, fun i hi hne => (k.block i (Nat.lt_of_lt_of_le hi h.size)).trans (h.block i hi hne)⟩
/-- what stands while collect is at work -/
structure CS (w wr : World) (g0 k : Nat) (D : List Int) (M : List Nat) (vm : Value) : Prop where
  gr : w.grownBy wr (some g0)
  row : IRow wr g0 k D
  mem : wr.ownsRow w.heap.size 3 1 vm M.length (icells (ints M))
theorem CS.set {w wr : World} {g0 k : Nat} {D : List Int} {M : List Nat} {vm : Value} (C : CS w wr g0 k D M vm) (hg : g0 < w.heap.size) (x : Nat) (d : Int) : CS w (wr.setCell ⟨g0, x, none⟩ (.int .i64 d)) g0 k (D.set x d) M vm :=
  ⟨gset C.gr _, ir_set C.row x d, ownsRow_setCell_below C.mem (by show g0 < _; exact hg) _⟩
theorem CS.keep {w wr w' : World} {g0 k : Nat} {D : List Int} {M : List Nat} {vm : Value} (C : CS w wr g0 k D M vm) (hb : Below wr.heap.size wr w') : CS w w' g0 k D M vm :=
  ⟨gbelow C.gr hb, ir_below C.row hb, own_below C.mem hb⟩
theorem CS.app {w wr w' : World} {g0 k : Nat} {D : List Int} {M : List Nat} {vm v2 : Value} (C : CS w wr g0 k D M vm) (hg0 : g0 < w.heap.size) (hg : wr.grownBy w' vm.ownBlock) {M' : List Nat} (hown : w'.ownsRow w.heap.size 3 1 v2 M'.length (icells (ints M'))) : CS w w' g0 k D M' v2 := by
  have hr : ∀ j, vm.ownBlock = some j → w.heap.size ≤ j := fun j hj => (World.ownsRow.lt C.mem j hj).1
  have hgs := C.gr.size
  exact ⟨gtrans C.gr hg hr, row_block C.row (hg.block g0 (by omega) (fun e => by have := hr g0 e.symm; omega)), hown⟩
theorem CS.at_ {w wr : World} {g0 k : Nat} {D : List Int} {M : List Nat} {vm : Value} (C : CS w wr g0 k D M vm) {i m : Nat} (hi : M[i]? = some m) :
    ∃ a c, vm = .slice (some a) M.length c ∧ wr.cell? (a.add i) = some (.int .i64 (m : Int)) := by
  have hl : i < M.length := by
    rcases Nat.lt_or_ge i M.length with h | h
    · exact h
    · rw [List.getElem?_eq_none h] at hi; cases hi
  have hm := C.mem
  obtain ⟨A, c, rfl⟩ := own_vis hm
  obtain ⟨a1, rfl, _, hc⟩ := row_at hm i (by rw [ints_len]; exact hl)
  refine ⟨a1, c, rfl, ?_⟩
  rw [hc]
  rw [List.getElem?_eq_getElem hl] at hi
  simp [ints, Option.some.inj hi]
theorem RGa.suc_at {w : World} {lo : Nat} {A : Option Addr} {gs : Gr} (h : RGa w lo A gs) {k : Nat} (hk : k < gs.length) : ∃ ad A1 c1, A = some ad ∧ w.cell? (ad.add k) = some (.slice A1 (suc gs k).length c1) ∧
    ∀ j (x : Int), (suc gs k)[j]? = some x → ∃ a1, A1 = some a1 ∧ w.cell? (a1.add j) = some (.int .i64 x) := by
  have e : suc gs k = gs[k] := by unfold suc; rw [List.getElem?_eq_getElem hk]; rfl
  obtain ⟨ad, A1, c1, e1, _, hc, hr⟩ := h.at_ k hk
  rw [e]
  refine ⟨ad, A1, c1, e1, hc, fun j x hx => ?_⟩
  have hj : j < gs[k].length := by
    rcases Nat.lt_or_ge j gs[k].length with h' | h'
    · exact h'
    · rw [List.getElem?_eq_none h'] at hx; cases hx
  obtain ⟨a1, e2, _, hc1⟩ := hr j hj
  rw [List.getElem?_eq_getElem hj] at hx
  exact ⟨a1, e2, by rw [← Option.some.inj hx]; exact hc1⟩
theorem RGa.suc_in {w : World} {lo g : Nat} {A : Option Addr} {gs : Gr} (h : RGa w lo A gs) (hlt : g < lo) {k : Nat} (hk : k < gs.length) : ∃ ad A1 c1, A = some ad ∧ ∀ wr, w.grownBy wr (some g) → wr.cell? (ad.add k) = some (.slice A1 (suc gs k).length c1) ∧
    ∀ j (x : Int), (suc gs k)[j]? = some x → ∃ a1, A1 = some a1 ∧ wr.cell? (a1.add j) = some (.int .i64 x) := by
  have e : suc gs k = gs[k] := by unfold suc; rw [List.getElem?_eq_getElem hk]; rfl
  obtain ⟨ad, A1, c1, e1, hb, hc, hr⟩ := h.at_ k hk
  rw [e]
  refine ⟨ad, A1, c1, e1, fun wr hg => ?_⟩
  have hk : ∀ b, lo ≤ b → b < w.heap.size → wr.heap[b]? = w.heap[b]? := fun b h1 h2 => hg.block b h2 (by intro e; have := Option.some.inj e; omega)
  refine ⟨by rw [World.cell?_of_block (w := w) (by rw [block_of_add]; exact hk _ hb.1 hb.2)]; exact hc, fun j x hx => ?_⟩
  have hj : j < gs[k].length := by
    rcases Nat.lt_or_ge j gs[k].length with h' | h'
    · exact h'
    · rw [List.getElem?_eq_none h'] at hx; cases hx
  obtain ⟨a1, e2, hb1, hc1⟩ := hr j hj
  rw [List.getElem?_eq_getElem hj] at hx
  exact ⟨a1, e2, by rw [← Option.some.inj hx, World.cell?_of_block (w := w) (by rw [block_of_add]; exact hk _ hb1.1 hb1.2)]; exact hc1⟩
theorem rev_node {gs : Gr} {m j : Nat} {x : Int} (hx : (suc (rev gs) m)[j]? = some x) (hm : m < gs.length) : ∃ p : Nat, x = (p : Int) ∧ p < gs.length ∧ Edge gs p m := by
  have h1 := List.mem_of_getElem? hx
  rw [suc_rev hm, List.mem_map] at h1
  obtain ⟨p, hp, e⟩ := h1
  have hp2 := mem_pre.1 hp
  exact ⟨p, e.symm, hp2.1, hp2.1, hm, hp2.2⟩
theorem rev_edge {gs : Gr} {m p : Nat} (e : Edge gs p m) : ∃ j, j < (suc (rev gs) m).length ∧ (suc (rev gs) m)[j]? = some (p : Int) := by
  have h1 := (edge_rev (g := gs) (a := p) (b := m)).2 e
  obtain ⟨j, hj, ej⟩ := List.mem_iff_getElem.1 h1.2.2
  exact ⟨j, hj, by rw [List.getElem?_eq_getElem hj, ej]⟩
theorem rev_suc_len (gs : Gr) (m : Nat) : (suc (rev gs) m).length ≤ gs.length := by
  unfold suc
  rcases Nat.lt_or_ge m (rev gs).length with h | h
  · rw [List.getElem?_eq_getElem h]
    simp only [Option.getD_some, rev, List.getElem_map, List.length_map]
    unfold pre
    exact Nat.le_trans (List.length_filter_le _ _) (by simp)
  · rw [List.getElem?_eq_none h]; simp
theorem set_nonneg {D : List Int} {m n p : Nat} {v : Int} (hp : ∃ v, D[p]? = some v ∧ 0 ≤ v) (hm : m < D.length) : ∃ v, (D.set m (n : Int))[p]? = some v ∧ 0 ≤ v := by
  obtain ⟨v, hv, h0⟩ := hp
  by_cases h : m = p
  · subst h; exact ⟨n, List.getElem?_set_self hm, by omega⟩
  · exact ⟨v, by rw [List.getElem?_set_ne h]; exact hv, h0⟩
/-- what collect gives -/
def GivesM (gs : Gr) (g0 k n : Nat) (D : List Int) (w : World) : Ending → World → Prop := fun e w' => ∃ A c M D', e = .returned (.slice A M.length c) ∧ CS w w' g0 k D' M (.slice A M.length c) ∧ CM gs n D D' M
set_option maxRecDepth 100000 in
set_option maxHeartbeats 8000000 in
theorem collect_any (Ab : Option Addr) (cb : Nat) (gs : Gr) (g0 lo n : Nat) (D : List Int) (w : World) (hB : RGa w lo Ab (rev gs)) (hlo : g0 < lo) (hg0 : g0 < w.heap.size) (hrow : IRow w g0 gs.length D) (hl : gs.length ≤ 900) (hD : ∃ v, D[n]? = some v ∧ v < 0) :
    Calls Try.prog 39 #[.slice Ab gs.length cb, .int .i64 (n : Int), .slice (some ⟨g0, 0, none⟩) gs.length gs.length] w (GivesM gs g0 gs.length n D w) := by
  obtain ⟨v, hv, hv0⟩ := hD
  have HB := Lib.hid hB
  have HG0 := Lib.hid hg0
  have hnl : n < gs.length := by
    rw [← ir_len hrow]
    rcases Nat.lt_or_ge n D.length with h | h
    · exact h
    · rw [List.getElem?_eq_none h] at hv; cases hv
  have HC0 := Lib.hid (co_start (n := n) (ir_len hrow) hv hv0)
  obtain ⟨_, hcn, hfn⟩ := ir_at hrow n hnl v hv
  have HS0 : Hid (CS w ((w.setCell ⟨g0, n, none⟩ (.int .i64 (n : Int))).alloc (.cells #[.int .i64 (n : Int)] 3)) g0 gs.length (D.set n (n : Int)) [n] (.slice (some ⟨w.heap.size, 0, none⟩) 1 1)) := Lib.hid (by
    have es : (w.setCell ⟨g0, n, none⟩ (.int .i64 (n : Int))).heap.size = w.heap.size := by simp
    have hb : Below (w.setCell ⟨g0, n, none⟩ (.int .i64 (n : Int))).heap.size (w.setCell ⟨g0, n, none⟩ (.int .i64 (n : Int))) ((w.setCell ⟨g0, n, none⟩ (.int .i64 (n : Int))).alloc (.cells #[.int .i64 (n : Int)] 3)) := (Below.refl _ _).alloc (Nat.le_refl _) _
    have h9 := World.ownsRow_lit (base := w.heap.size) (e := 3) (size := 1) (w.setCell ⟨g0, n, none⟩ (.int .i64 (n : Int))) #[.int .i64 (n : Int)] 1 (by rw [es]; exact Nat.le_refl _) (by unfold maxLen; omega) rfl
    rw [es] at h9
    exact ⟨gbelow (gset (World.grownBy.rfl' w _) _) hb, ir_below (ir_set hrow n _) hb, h9⟩)
  have hcn2 : (w.alloc (.cells #[.int .i64 (n : Int)] 3)).cell? ⟨g0, n, none⟩ = some (.int .i64 v) := by
    rw [((Below.refl _ _).alloc (Nat.le_refl w.heap.size) (.cells #[.int .i64 (n : Int)] 3)).cell (show g0 < w.heap.size from hg0)]; exact hcn
  have hn0 : (0 : Int) ≤ (n : Int) := by omega
  have hn1 : (n : Int) < (gs.length : Int) := by omega
  have HRL := Lib.hid (fun m => rev_suc_len gs m)
  have HLR := Lib.hid (rev_len gs)
  obtain ⟨k, hk⟩ : ∃ k, gs.length = k := ⟨_, rfl⟩
  have HK := Lib.hid hk
  rw [hk] at hn1 HS0 hl HRL HLR ⊢
  clear hB hrow hv hv0 hk hcn hnl
  go_enter Try.func39, Try.ntmps39
  go_wp2_with fail
  generalize (w.setCell ⟨g0, n, none⟩ (.int .i64 (n : Int))).alloc (.cells #[.int .i64 (n : Int)] 3) = w0 at *
  clear hcn2 hfn
  go_loopw [7, 8] (fun s7 s8 wr => ∃ (i : Nat) (D' : List Int) (M : List Nat) (vm : Value), s8 = .int .i64 (i : Int) ∧ vm = s7 ∧ i ≤ M.length ∧ Hid (CS w wr g0 k D' M vm) ∧ Hid (CO gs n D D' M i)) (fun _ s8 _ => (k + 1 - intOf s8).toNat)
  case atStart => exact ⟨0, _, _, _, rfl, rfl, by simp, HS0, HC0⟩
  case round =>
    clear HS0 HC0
    obtain ⟨i, D', M, vm, rfl, rfl, hi, HS, HC⟩ := hrel
    have hMk : M.length ≤ k := by have := HC.out.room; have := HK.out; omega
    by_cases hif : i < M.length
    · have hki : (i : Int) < (M.length : Int) := by omega
      have hk0 : (0 : Int) ≤ (i : Int) := by omega
      obtain ⟨m, hm⟩ : ∃ m, M[i]? = some m := ⟨_, List.getElem?_eq_getElem hif⟩
      obtain ⟨am, cm, rfl, hci⟩ := HS.out.at_ hm
      have hmk : m < gs.length := (HC.out.frm m (List.mem_of_getElem? hm)).1
      obtain ⟨ad, A1, c1, hA, HRD0⟩ := HB.out.suc_in hlo (k := m) (by rw [HLR.out]; have := HK.out; omega)
      subst hA
      have hm0 : (0 : Int) ≤ (m : Int) := by omega
      have hm1 : (m : Int) < (k : Int) := by have := HK.out; omega
      have hgl := HRL.out m
      have HM := Lib.hid hm
      have HMK := Lib.hid hmk
      have HI1 := Lib.hid (show i + 1 ≤ M.length from hif)
      obtain ⟨ys, hys⟩ : ∃ ys, suc (rev gs) m = ys := ⟨_, rfl⟩
      rw [hys] at hgl HRD0
      have HYS := Lib.hid hys
      have HRD := Lib.hid HRD0
      have hga := (HRD0 wr HS.out.gr).1
      clear HRD0
      have HGR := Lib.hid HS.out.gr
      have HS0 := HS
      have HC0 := HC
      clear hm hmk hif hys hi
      go_wp2_with fail
      clear hki hk0 hci hga HS HC
      go_loopw [7, 31] (fun s7 s31 wr => ∃ (j : Nat) (D' : List Int) (M : List Nat) (vm : Value), s31 = .int .i64 (j : Int) ∧ vm = s7 ∧ j ≤ ys.length ∧ Hid (CS w wr g0 k D' M vm) ∧ Hid (CO gs n D D' M i) ∧ Hid (M[i]? = some m) ∧ Hid (∀ j', j' < j → ∀ p : Nat, ys[j']? = some (p : Int) → ∃ v, D'[p]? = some v ∧ 0 ≤ v)) (fun _ s31 _ => (ys.length - intOf s31).toNat)
      case atStart => exact ⟨0, _, _, _, rfl, rfl, by omega, HS0, HC0, HM, Lib.hid (fun j' hj => by omega)⟩
      case round =>
        clear HS0 HC0 HM HI1 hMk HGR
        obtain ⟨j, D', M, vm, rfl, rfl, hj, HS, HC, HM, HJ⟩ := hrel
        by_cases hjl : j < ys.length
        · have hki : (j : Int) < (ys.length : Int) := by omega
          have hk0 : (0 : Int) ≤ (j : Int) := by omega
          have HJ1 := Lib.hid (show j + 1 ≤ ys.length by omega)
          have hx9 : ys[j]? = some ys[j] := List.getElem?_eq_getElem hjl
          obtain ⟨p, hp, hpl, hpe⟩ := rev_node (gs := gs) (m := m) (j := j) (x := ys[j]) (by rw [HYS.out]; exact hx9) HMK.out
          rw [hp] at hx9
          obtain ⟨a1, hA1, c0⟩ := (HRD.out wr HS.out.gr).2 j p hx9
          subst hA1
          have hp0 : (0 : Int) ≤ (p : Int) := by omega
          have hp1 : (p : Int) < (k : Int) := by have := HK.out; omega
          obtain ⟨u, hu⟩ : ∃ u, D'[p]? = some u := ⟨_, List.getElem?_eq_getElem (by rw [HC.out.len]; exact hpl)⟩
          obtain ⟨_, hcp, hfp⟩ := ir_at HS.out.row p (by have := HK.out; omega) u hu
          have HU := Lib.hid hu
          have HPE := Lib.hid hpe
          have HX9 := Lib.hid hx9
          have HPL := Lib.hid hpl
          have HMl := Lib.hid (show M.length ≤ 1000 by have := HC.out.room; have := HK.out; omega)
          clear hu hpe hx9 hp hpl hjl hj
          by_cases hu0 : u < 0
          · have HS1 := Lib.hid (HS.out.set HG0.out p (n : Int))
            have HS2 := Lib.hid (HS1.out.keep ((Below.refl _ _).alloc (Nat.le_refl _) (.cells #[.int .i64 (p : Int)] 3)))
            have HC1 := Lib.hid (co_add HC.out (List.mem_of_getElem? HM.out) HPE.out HU.out hu0)
            have HSZ := Lib.hid HS2.out.gr.size
            go_wp2_with (at_builtin; refine wpList_append_int_at rfl (.tmp 44) (.tmp 46) rfl w.heap.size vm M p rfl HS2.out.mem _ rfl ?c1 HMl.out HSZ.out ?_)
            case c1 => have := (MapKept.heap_alloc (wr.setCell ⟨g0, p, none⟩ (.int .i64 (n : Int))) (.cells #[.int .i64 (p : Int)] 3)).1; rw [show (wr.setCell ⟨g0, p, none⟩ (.int .i64 (n : Int))).heap.size = wr.heap.size by simp] at this; exact this
            intro v5 w5 HO5 hg5 hd5
            have HS3 := Lib.hid (HS2.out.app HG0.out hg5 (M' := M ++ [p]) (v2 := v5) (by rw [List.length_append]; exact HO5.out))
            have HM3 : Hid ((M ++ [p])[i]? = some m) := Lib.hid (by
              rw [List.getElem?_append_left ?_]; exact HM.out
              rcases Nat.lt_or_ge i M.length with h | h
              · exact h
              · have := HM.out; rw [List.getElem?_eq_none h] at this; cases this)
            have HJ3 : Hid (∀ j', j' < j + 1 → ∀ q : Nat, ys[j']? = some (q : Int) → ∃ v, (D'.set p (n : Int))[q]? = some v ∧ 0 ≤ v) := Lib.hid (fun j' hj' q hq => by
              have hpl9 : p < D'.length := by rw [HC.out.len]; exact HPL.out
              rcases Nat.lt_or_ge j' j with h | h
              · exact set_nonneg (v := 0) (HJ.out j' h q hq) hpl9
              · obtain rfl : j' = j := by omega
                rw [HX9.out] at hq
                obtain rfl : p = q := by have := Option.some.inj hq; omega
                exact ⟨n, List.getElem?_set_self hpl9, by omega⟩)
            clear HO5 hg5 hd5 HS1 HS2 c0 hcp hfp HS HC HJ HM
            go_wp2_with fail
            go_roundw
            case rel => exact ⟨j + 1, _, _, _, by go_num, rfl, HJ1.out, HS3, HC1, HM3, HJ3⟩
            case measure => have := HJ1.out; first | (simp [intOf]; done) | (simp [intOf]; omega)
          · have HJ3 : Hid (∀ j', j' < j + 1 → ∀ q : Nat, ys[j']? = some (q : Int) → ∃ v, D'[q]? = some v ∧ 0 ≤ v) := Lib.hid (fun j' hj' q hq => by
              rcases Nat.lt_or_ge j' j with h | h
              · exact HJ.out j' h q hq
              · obtain rfl : j' = j := by omega
                rw [HX9.out] at hq
                obtain rfl : p = q := by have := Option.some.inj hq; omega
                exact ⟨u, HU.out, by omega⟩)
            clear hfp HJ
            go_wp2_with fail
            go_roundw
            case rel => exact ⟨j + 1, _, _, _, by go_num, rfl, HJ1.out, HS, HC, HM, HJ3⟩
            case measure => have := HJ1.out; first | (simp [intOf]; done) | (simp [intOf]; omega)
        · obtain rfl : j = ys.length := by omega
          have hki : ¬ (ys.length : Int) < (ys.length : Int) := by omega
          have HC4 := Lib.hid (co_next HC.out HM.out (fun p e => by
            obtain ⟨j', hj', e'⟩ := rev_edge e
            rw [HYS.out] at hj' e'
            exact HJ.out j' hj' p e'))
          have HI4 := Lib.hid HC4.out.le
          have HK4 := Lib.hid (show M.length ≤ k by have := HC4.out.room; have := HK.out; omega)
          have hi9 : i < 1000 := by have := HI4.out; have := HK4.out; omega
          clear HC hjl hj HJ
          go_wp2_with fail
          go_roundw
          case rel => exact ⟨i + 1, _, _, _, by go_num, rfl, HI4.out, HS, HC4⟩
          case measure => have := HI4.out; have := HK4.out; first | (simp [intOf]; done) | (simp [intOf]; omega)
    · obtain rfl : i = M.length := by omega
      have hki : ¬ (M.length : Int) < (M.length : Int) := by omega
      obtain ⟨A1, c1, hvm⟩ := own_vis HS.out.mem
      subst hvm
      have HZ := Lib.hid (co_end HC.out)
      clear hif hi
      go_wp2_with fail
      go_ret
      exact ⟨A1, c1, M, D', rfl, HS.out, HZ.out⟩
end Go.Proofs.Ythgfomjmkmkhkaa
