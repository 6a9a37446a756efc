/-
  The law of Limit. Conditions: the table of powers of ten, internal/bytealg.MaxLen holds some number, the two error variables of strconv hold interface values.
-/
import Derived.Test.YtaeideimlagheaaGreatDoorM7
import Derived.Deep.RegionLaw
namespace Go.Proofs.YtaeideimlagheaaGreatDoor
open Go.RowKit Go.Sort Go.Lib Go.Shelf Go.Proofs
set_option linter.unusedSimpArgs false
set_option linter.unnecessarySimpa false
set_option linter.unusedVariables false
/-- the manifest under construction, in its box b -/
structure PB (w : World) (b : Nat) (x : Md) (v : Value) (R : List Md) (W : World) : Prop where
  bel : Below w.heap.size w W
  hb : w.heap.size ≤ b
  r4 : RowT W b #[.string x.1, .int .i64 x.2.1, .int .i64 x.2.2.1, .int .i64 x.2.2.2, v] 28
  row : W.ownsRow (b + 1) 25 4 v R.length (flatM R)
theorem PB.up {w W W' : World} {b : Nat} {x : Md} {v : Value} {R : List Md} (h : PB w b x v R W) (hb : Below W.heap.size W W') : PB w b x v R W' :=
  ⟨h.bel.trans (hb.mono h.bel.size), h.hb, h.r4.up hb h.r4.lt, own_up h.row hb⟩
theorem PB.box {w W : World} {b : Nat} {x : Md} {v : Value} {R : List Md} (h : PB w b x v R W) : OutB W b x v :=
  ⟨h.r4.lt, h.r4.cell 0, h.r4.cell 1, h.r4.cell 2, h.r4.cell 3, h.r4.cell 4, h.r4.frozen 0, h.r4.frozen 1, h.r4.frozen 2, h.r4.frozen 3, h.r4.frozen 4⟩
theorem PB.app {w W W2 : World} {b : Nat} {x m : Md} {v v' : Value} {R : List Md} {o : Obj} (h : PB w b x v R W) (hg : (W.alloc o).grownBy W2 v.ownBlock)
    (hown : W2.ownsRow (b + 1) 25 4 v' (R.length + 1) (flatM R ++ flatM [m])) : PB w b x v' (R ++ [m]) (W2.setCell ⟨b, 4, none⟩ v') ∧ OutB W2 b x v ∧ ∀ p j, p < b → (W2.setCell ⟨b, 4, none⟩ v').cell? ⟨p, j, none⟩ = W.cell? ⟨p, j, none⟩ := by
  have hl := h.r4.lt
  have hB2 : Below (b + 1) W W2 := ((Below.refl _ _).alloc hl o).grown hg (by simp; omega) (fun k hk => (h.row.lt k hk).1)
  have r4' : RowT W2 b #[.string x.1, .int .i64 x.2.1, .int .i64 x.2.2.1, .int .i64 x.2.2.2, v] 28 := h.r4.up hB2 (by omega)
  have hap := row_apart hown r4' (by decide)
  have hwb := h.hb
  refine ⟨⟨(h.bel.trans (hB2.mono (by omega))).setCell (p := ⟨b, 4, none⟩) (by show w.heap.size ≤ b; omega) _, hwb, r4'.set 4 v' _ rfl, ?_⟩, ⟨r4'.lt, r4'.cell 0, r4'.cell 1, r4'.cell 2, r4'.cell 3, r4'.cell 4, r4'.frozen 0, r4'.frozen 1, r4'.frozen 2, r4'.frozen 3, r4'.frozen 4⟩, fun p j hp => ((hB2.mono (by omega : b ≤ b + 1)).setCell (p := ⟨b, 4, none⟩) (Nat.le_refl _) v').cell (p := ⟨p, j, none⟩) hp⟩
  rw [List.length_append, flatM_append]
  exact own_set hown hap _
/-- append of one module to a row of the call's own, as a step of a region that draws -/
theorem step_append_md {ops : Array Oper} {o : Oper} {a : Act} {w : World} {K : Act → World → Prop} {Q : Exit → Act → World → Prop} {E : Prop} (hgd : o.guard = none) (s x : Operand)
    (ho : o.op = .call { callee := .builtin .append, args := #[s, x], argTypes := #[26, 26] }) (base : Nat) (v : Value) (acc : List Md) (y : Md) (hs : a.eval s = v)
    (hown : w.ownsRow base 25 4 v acc.length (flatM acc)) (b : Nat) (hx : a.eval x = .slice (some ⟨b, 0, none⟩) 1 1)
    (hb : w.heap[b]? = some (.cells #[.string y.1, .int .i64 y.2.1, .int .i64 y.2.2.1, .int .i64 y.2.2.2] 25 (0, 0))) (hlen : acc.length ≤ 1000) (hbase : base ≤ w.heap.size)
    (h : ∀ v' w', Hid (w'.ownsRow base 25 4 v' (acc.length + 1) (flatM acc ++ flatM [y])) → w.grownBy w' v.ownBlock → K (a.put o.dst v') w') :
    if Region.wanted o (yielded ops a.tmps) = true then Oper.wp Tryz.prog o a w K Q else E := by
  have hw : Region.wanted o (yielded ops a.tmps) = true := by simp [Region.wanted, hgd]
  rw [if_pos hw]
  obtain ⟨i0, hi, hz0, hz1, hz2⟩ := info_parts info25
  refine wp_append_own w s x 26 ho base 25 i0 (.agg #[.string ⟨#[]⟩, .int .i64 0, .int .i64 0, .int .i64 0]) 4 40 Tryz.underlying26 hi hz0 hz1 hz2 rfl (by decide) v acc.length (flatM acc) hs hown ⟨b, 0, none⟩ 1 1 (mc y) hx rfl ?_ (mc_one y) ?_ ?_ hbase ?_
  · intro j u hj
    rw [show (⟨b, 0, none⟩ : Addr).add j = ⟨b, j, none⟩ by simp [Addr.add]; exact fun e => e.symm, Lib.cell_of_heap hb, ← Array.getElem?_toList]
    exact hj
  · unfold maxLen; omega
  · omega
  · intro v' w' h1 h2 _
    refine h v' w' (Lib.hid ?_) h2
    have e : flatM [y] = mc y := by rw [flatM_cons, flatM_nil, List.append_nil]
    rw [e]; exact h1
theorem own_shape {w : World} {B n : Nat} {v : Value} {xs : List Value} (h : w.ownsRow B 25 4 v (n + 1) xs) : ∃ q d, v = .slice (some ⟨q, 0, none⟩) (n + 1) d := by
  rcases own_cell h with ⟨_, e⟩ | ⟨q, d, e, _⟩
  · simp at e
  · exact ⟨q, d, e⟩
abbrev letL : ByteArray := ⟨#[97, 98, 99, 100, 101, 102, 103, 104, 105, 106]⟩
theorem let_at (p : Nat) (h : p < 10) : letL.extract p (p + 1) = ⟨#[UInt8.ofNat (97 + p)]⟩ := by
  have hall : ((List.range 10).all fun p => decide ((letL.extract p (p + 1)).data.toList = [UInt8.ofNat (97 + p)])) = true := by kernel_rfl
  have := List.all_eq_true.1 hall p (List.mem_range.2 h)
  simp only [decide_eq_true_eq] at this
  exact ByteArray.ext (Array.ext' this)
theorem let_path (i : Nat) (h : i < 70) : (⟨#[120]⟩ : ByteArray) ++ letL.extract (i / 10) (i / 10 + 1) ++ letL.extract (i % 10) (i % 10 + 1) = pathN i := by
  rw [let_at _ (by omega), let_at _ (by omega)]
  apply ByteArray.ext; apply Array.ext'
  simp [pathN, ByteArray.data_append]
structure Row3c (W : World) (p : Nat) (a b c : Int) : Prop where
  c0 : W.cell? ⟨p, 0, none⟩ = some (.int .i64 a)
  c1 : W.cell? ⟨p, 1, none⟩ = some (.int .i64 b)
  c2 : W.cell? ⟨p, 2, none⟩ = some (.int .i64 c)
theorem Row3c.keep {W W' : World} {p : Nat} {a b c : Int} (h : Row3c W p a b c) (hb : Below W.heap.size W W') : Row3c W' p a b c := ⟨cell_keep h.c0 hb, cell_keep h.c1 hb, cell_keep h.c2 hb⟩
set_option maxRecDepth 100000 in
set_option maxHeartbeats 4000000 in
theorem limit_no (k : Nat) (a b c : Int) (w : World) (hC : Cond w) (hk : k ≤ 255) (hn : 70 < k ∨ okV a b c = false) :
    Calls Tryz.prog 10 #[.int .u8 (k : Int), vv a b c] w fun e w' => e = .returned (.bool true) ∧ Below w.heap.size w w' := by
  have hb0 := bal w (.cells #[.int .i64 a, .int .i64 b, .int .i64 c] 23)
  have KA := Lib.hid (alive_any _ (hC.keep hb0))
  have HB0 := Lib.hid hb0
  have r0 : (w.alloc (.cells #[.int .i64 a, .int .i64 b, .int .i64 c] 23)).cell? ⟨w.heap.size, 0, none⟩ = some (.int .i64 a) := by simp
  have r1 : (w.alloc (.cells #[.int .i64 a, .int .i64 b, .int .i64 c] 23)).cell? ⟨w.heap.size, 1, none⟩ = some (.int .i64 b) := by simp
  have r2 : (w.alloc (.cells #[.int .i64 a, .int .i64 b, .int .i64 c] 23)).cell? ⟨w.heap.size, 2, none⟩ = some (.int .i64 c) := by simp
  clear hb0 hC
  by_cases h0 : 70 < k
  ·
    have i0 : (70 : Int) < (k : Int) := by omega
    clear hn
    go_enter Tryz.func10, Tryz.ntmps10
    go_wp2_with fail
    refine KA.out.mono ?_
    rintro e w2 ⟨rfl, hb2⟩
    have HE := Lib.hid (HB0.out.trans (hb2.mono HB0.out.size))
    clear hb2
    go_wp2_with fail
    go_ret
    exact ⟨rfl, HE.out⟩
  ·
    have i0 : ¬ (70 : Int) < (k : Int) := by omega
    by_cases h1 : a < 0
    ·
      clear hn
      go_enter Tryz.func10, Tryz.ntmps10
      go_wp2_with fail
      refine KA.out.mono ?_
      rintro e w2 ⟨rfl, hb2⟩
      have HE := Lib.hid (HB0.out.trans (hb2.mono HB0.out.size))
      clear hb2
      go_wp2_with fail
      go_ret
      exact ⟨rfl, HE.out⟩
    ·
      by_cases h2 : 9999 < a
      ·
        clear hn
        go_enter Tryz.func10, Tryz.ntmps10
        go_wp2_with fail
        refine KA.out.mono ?_
        rintro e w2 ⟨rfl, hb2⟩
        have HE := Lib.hid (HB0.out.trans (hb2.mono HB0.out.size))
        clear hb2
        go_wp2_with fail
        go_ret
        exact ⟨rfl, HE.out⟩
      ·
        by_cases h3 : b < 0
        ·
          clear hn
          go_enter Tryz.func10, Tryz.ntmps10
          go_wp2_with fail
          refine KA.out.mono ?_
          rintro e w2 ⟨rfl, hb2⟩
          have HE := Lib.hid (HB0.out.trans (hb2.mono HB0.out.size))
          clear hb2
          go_wp2_with fail
          go_ret
          exact ⟨rfl, HE.out⟩
        ·
          by_cases h4 : 9999 < b
          ·
            clear hn
            go_enter Tryz.func10, Tryz.ntmps10
            go_wp2_with fail
            refine KA.out.mono ?_
            rintro e w2 ⟨rfl, hb2⟩
            have HE := Lib.hid (HB0.out.trans (hb2.mono HB0.out.size))
            clear hb2
            go_wp2_with fail
            go_ret
            exact ⟨rfl, HE.out⟩
          ·
            by_cases h5 : c < 0
            ·
              clear hn
              go_enter Tryz.func10, Tryz.ntmps10
              go_wp2_with fail
              refine KA.out.mono ?_
              rintro e w2 ⟨rfl, hb2⟩
              have HE := Lib.hid (HB0.out.trans (hb2.mono HB0.out.size))
              clear hb2
              go_wp2_with fail
              go_ret
              exact ⟨rfl, HE.out⟩
            ·
              by_cases h6 : 9999 < c
              ·
                clear hn
                go_enter Tryz.func10, Tryz.ntmps10
                go_wp2_with fail
                refine KA.out.mono ?_
                rintro e w2 ⟨rfl, hb2⟩
                have HE := Lib.hid (HB0.out.trans (hb2.mono HB0.out.size))
                clear hb2
                go_wp2_with fail
                go_ret
                exact ⟨rfl, HE.out⟩
              ·
                exact absurd hn (by simp [okV, okN]; omega)
set_option maxRecDepth 100000 in
set_option maxHeartbeats 4000000 in
theorem limit_yes (n : Nat) (a b c : Int) (w : World) (hC : Cond w) (hk : n ≤ 70) (hv : okV a b c = true) :
    Calls Tryz.prog 10 #[.int .u8 (n : Int), vv a b c] w fun e w' => e = .returned (.bool true) ∧ Below w.heap.size w w' := by
  obtain ⟨⟨a0, a1⟩, ⟨b0, b1⟩, ⟨c0, c1⟩⟩ := okV_parts hv
  have hb0 := bal w (.cells #[.int .i64 a, .int .i64 b, .int .i64 c] 23)
  have HC := Lib.hid hC
  have KA := Lib.hid (fun W (hb : Below w.heap.size w W) => alive_any W (HC.out.keep hb))
  have HCH := Lib.hid (lim_chk a b c n hk hv)
  have HSO := Lib.hid (lim_sort a b c n hk)
  have H23 := Lib.hid hb0
  have h70 : ¬ (70 : Int) < (n : Int) := by omega
  have m0 : ¬ a < 0 := by omega
  have m1 : ¬ 9999 < a := by omega
  have m2 : ¬ b < 0 := by omega
  have m3 : ¬ 9999 < b := by omega
  have m4 : ¬ c < 0 := by omega
  have m5 : ¬ 9999 < c := by omega
  have HN := Lib.hid hk
  have HP0 : Hid (PB w (w.heap.size + 1) (pM, a, b, c) (.slice none 0 0) [] ((w.alloc (.cells #[.int .i64 a, .int .i64 b, .int .i64 c] 23)).alloc (mblk (pM, a, b, c) none 0 0 28))) := Lib.hid (by
    have b2 := bal (w.alloc (.cells #[.int .i64 a, .int .i64 b, .int .i64 c] 23)) (mblk (pM, a, b, c) none 0 0 28)
    have h1 : (w.alloc (.cells #[.int .i64 a, .int .i64 b, .int .i64 c] 23)).heap.size = w.heap.size + 1 := by simp
    refine ⟨(bal w _).trans (b2.mono (by omega)), by omega, ?_, World.ownsRow_nil _ _ _ _⟩
    rw [← h1]; exact World.alloc_heap_new _ _)
  have HV3 : Hid (Row3c ((w.alloc (.cells #[.int .i64 a, .int .i64 b, .int .i64 c] 23)).alloc (mblk (pM, a, b, c) none 0 0 28)) w.heap.size a b c) := Lib.hid (Row3c.keep ⟨by simp, by simp, by simp⟩ (bal _ _))
  have r0 : (w.alloc (.cells #[.int .i64 a, .int .i64 b, .int .i64 c] 23)).cell? ⟨w.heap.size, 0, none⟩ = some (.int .i64 a) := by simp
  have r1 : (w.alloc (.cells #[.int .i64 a, .int .i64 b, .int .i64 c] 23)).cell? ⟨w.heap.size, 1, none⟩ = some (.int .i64 b) := by simp
  have r2 : (w.alloc (.cells #[.int .i64 a, .int .i64 b, .int .i64 c] 23)).cell? ⟨w.heap.size, 2, none⟩ = some (.int .i64 c) := by simp
  clear hb0 hC hv hk
  go_enter Tryz.func10, Tryz.ntmps10
  go_wp2_with fail
  go_loopw [6, 7] (fun s6 _ wr => ∃ (i : Nat) (v : Value), s6 = .int .i64 (i : Int) ∧ i ≤ n ∧ Hid (PB w (w.heap.size + 1) (pM, a, b, c) v (limL a b c i) wr) ∧ Hid (Row3c wr w.heap.size a b c)) (fun s6 _ _ => (n - intOf s6).toNat)
  case atStart => exact ⟨0, _, rfl, by omega, HP0, HV3⟩
  case round =>
    clear HP0 HV3 r0 r1 r2
    obtain ⟨i, v, rfl, hi, HP, HV⟩ := hrel
    have hi70 : i ≤ 70 := by have := HN.out; omega
    have w1 : IntKind.i64.wrap (n : Int) = (n : Int) := IntWalk.i64_in _ (by have := HN.out; omega)
    by_cases hlt : i < n
    · have hil : (i : Int) < (n : Int) := by omega
      have HI1 := Lib.hid (show i + 1 ≤ n by omega)
      have e1 : (i : Int).tdiv 10 = ((i / 10 : Nat) : Int) := by rw [Int.tdiv_eq_ediv_of_nonneg (by omega)]; omega
      have e2 : (i : Int).tmod 10 = ((i % 10 : Nat) : Int) := by rw [Int.tmod_eq_emod_of_nonneg (by omega)]; omega
      obtain ⟨z0, x0, x1, x2, x3, x4, f0, f1, f2, f3, f4⟩ := HP.out.box
      obtain ⟨v0, v1, v2⟩ := HV.out
      have hown := HP.out.row
      obtain ⟨p, hp⟩ : ∃ p, p = i / 10 := ⟨_, rfl⟩
      obtain ⟨r, hr⟩ : ∃ r, r = i % 10 := ⟨_, rfl⟩
      rw [← hp] at e1
      rw [← hr] at e2
      have HPT := Lib.hid (show (⟨#[120]⟩ : ByteArray) ++ letL.extract p (p + 1) ++ letL.extract r (r + 1) = pathN i by rw [hp, hr]; exact let_path i (by omega))
      have hp6 : p ≤ 6 := by omega
      have hr9 : r ≤ 9 := by omega
      have s1 : (letL.extract p (p + 1)).size = 1 := by rw [let_at p (by omega)]; rfl
      have s2 : (letL.extract r (r + 1)).size = 1 := by rw [let_at r (by omega)]; rfl
      have hlen : (limL a b c i).length ≤ 1000 := by rw [lim_len]; omega
      have HLS := Lib.hid (lim_snoc a b c i)
      have HLL := Lib.hid (lim_len a b c i)
      generalize limL a b c i = acc at *
      have hltb := HP.out.r4.lt
      have HPD := Lib.hid (HP.out.up (Below.refl _ _).drew)
      have wp0 : IntKind.i64.wrap (p : Int) = (p : Int) := IntWalk.i64_in _ (by omega)
      have wp1 : IntKind.i64.wrap ((p : Int) + 1) = (p : Int) + 1 := IntWalk.i64_in _ (by omega)
      have wr0 : IntKind.i64.wrap (r : Int) = (r : Int) := IntWalk.i64_in _ (by omega)
      have wr1 : IntKind.i64.wrap ((r : Int) + 1) = (r : Int) + 1 := IntWalk.i64_in _ (by omega)
      have b1' : (p : Int) + 1 ≤ 10 := by omega
      have b2' : (r : Int) + 1 ≤ 10 := by omega
      have b3' : (p : Int) ≤ (p : Int) + 1 := by omega
      have b4' : (r : Int) ≤ (r : Int) + 1 := by omega
      have b5' : (0 : Int) ≤ (p : Int) + 1 := by omega
      have b6' : (0 : Int) ≤ (r : Int) + 1 := by omega
      have tp : ((p : Int) + 1).toNat = p + 1 := by omega
      have tr : ((r : Int) + 1).toNat = r + 1 := by omega
      clear hp hr hlt
      go_wp2_with fail
      go_region_law (first | (refine step_append_md rfl (.tmp 55) (.tmp 74) rfl (w.heap.size + 1 + 1) v acc ((⟨#[120]⟩ : ByteArray) ++ letL.extract p (p + 1) ++ letL.extract r (r + 1), a, b, c) rfl (hown.alloc _) wr.heap.size rfl ((MapKept.heap_alloc _ _).1) hlen (by simp; omega) ?_; intro v5 w5 HO5 hg5; have HA5 := Lib.hid (PB.app (m := ((⟨#[120]⟩ : ByteArray) ++ letL.extract p (p + 1) ++ letL.extract r (r + 1), a, b, c)) HPD.out hg5 HO5.out); obtain ⟨q5, d5, rfl⟩ := own_shape HO5.out; obtain ⟨z5, y0, y1, y2, y3, y4, g0, g1, g2, g3, g4⟩ := HA5.out.2.1))
      all_goals
        have HV5 := Lib.hid (show Row3c _ w.heap.size a b c from ⟨(HA5.out.2.2 w.heap.size 0 (by omega)).trans HV.out.c0, (HA5.out.2.2 w.heap.size 1 (by omega)).trans HV.out.c1, (HA5.out.2.2 w.heap.size 2 (by omega)).trans HV.out.c2⟩)
        have HP5 := Lib.hid HA5.out.1
        rw [HPT.out, ← HLS.out] at HP5
        clear HA5 HO5 hg5 z5 y0 y1 y2 y3 y4 g0 g1 g2 g3 g4 z0 x0 x1 x2 x3 x4 f0 f1 f2 f3 f4 v0 v1 v2 hown HPD
        go_wp2_with fail
        go_roundw
        case rel => exact ⟨i + 1, _, by go_num, HI1.out, HP5, HV5⟩
        case measure => have := HI1.out; first | (simp [intOf]; done) | (simp [intOf]; omega)
    · have hil : ¬ (i : Int) < (n : Int) := by omega
      obtain rfl : i = n := by omega
      obtain ⟨A9, c9, rfl, hm9, hpl9, hh9, _⟩ := rm_of_own HP.out.row
      have hll : (limL a b c i).length = i := lim_len a b c i
      have HM := Lib.hid hm9
      have HPL := Lib.hid hpl9
      have HBE := Lib.hid HP.out.bel
      have HBX := Lib.hid (show B5 wr (w.heap.size + 1) (pM, a, b, c) A9 (limL a b c i).length c9 from ⟨HP.out.r4.cell 0, HP.out.r4.cell 1, HP.out.r4.cell 2, HP.out.r4.cell 3, HP.out.r4.cell 4⟩)
      have K18 := Lib.hid (text_any (pM, a, b, c) A9 c9 (limL a b c i) wr (HC.out.keep HBE.out).max (HC.out.keep HBE.out).tab hm9 hpl9 (by rw [lim_len]; omega))
      have HPT := Lib.hid (fun (h : chkM (pM, a, b, c) (limL a b c i) = 0) => parse_text h)
      have HTB : Hid (textB (pM, a, b, c) (limL a b c i) = if 64 < i then ⟨#[]⟩ else ⟨(textL (pM, a, b, c) (limL a b c i)).toArray⟩) := Lib.hid (by
        unfold textB; rw [HSO.out, HCH.out]
        by_cases h : 64 < i
        · rw [if_pos h, if_pos h, if_neg (by decide)]
        · rw [if_neg h, if_neg h, if_pos rfl])
      have K14 := Lib.hid (fun W (hb : Below w.heap.size w W) (hr : RM W W.heap.size A9 (limL a b c i)) => check_any (pM, a, b, c) A9 c9 (limL a b c i) W (HC.out.keep hb).max hr hpl9 (by rw [lim_len]; omega))
      have HLL := Lib.hid hll
      rw [HSO.out] at HPT
      obtain ⟨x0, x1, x2, x3, x4⟩ := HBX.out
      clear hm9 hpl9 hh9 hlt hll
      generalize limL a b c i = L at *
      by_cases h64 : 64 < i
      · have i64 : (64 : Int) < (i : Int) := by omega
        have HCE := Lib.hid (HCH.out.trans (if_pos h64))
        have HTE := Lib.hid (HTB.out.trans (if_pos h64))
        rw [HTE.out, HCE.out] at K18
        simp only [HCE.out] at K14
        clear h64 HPT HTB HCH HTE HCE HSO
        go_wp2_with fail
        refine K18.out.mono ?_
        rintro e w2 ⟨rfl, hb2⟩
        have HB2 := Lib.hid (HBE.out.trans (hb2.mono HBE.out.size))
        have HM2 := Lib.hid (HM.out.up hb2)
        obtain ⟨y0, y1, y2, y3, y4⟩ := HBX.out.keep hb2
        clear hb2 K18 x0 x1 x2 x3 x4 HM HBX
        go_wp2_with fail
        refine (K14.out _ HB2.out HM2.out).mono ?_
        rintro e w3 ⟨rfl, hb3⟩
        have HB3 := Lib.hid (HB2.out.trans (hb3.mono HB2.out.size))
        clear hb3
        go_wp2_with fail
        refine (KA.out _ HB3.out).mono ?_
        rintro e w4 ⟨rfl, hb4⟩
        have HE := Lib.hid (HB3.out.trans (hb4.mono HB3.out.size))
        clear hb4
        go_wp2_with fail
        go_ret
        exact ⟨rfl, HE.out⟩
      · have i64 : ¬ (64 : Int) < (i : Int) := by omega
        have HCE := Lib.hid (HCH.out.trans (if_neg h64))
        have HTE := Lib.hid (HTB.out.trans (if_neg h64))
        have HPO := Lib.hid (show outP (textB (pM, a, b, c) L).data.toList = (((pM, a, b, c), L), 0, 0) by rw [HTE.out]; exact outP_inr (HPT.out HCE.out))
        rw [HCE.out] at K18
        generalize textB (pM, a, b, c) L = q at *
        clear h64 HPT HTB HCH HTE HCE HSO K14
        go_wp2_with fail
        refine K18.out.mono ?_
        rintro e w2 ⟨rfl, hb2⟩
        have HB2 := Lib.hid (HBE.out.trans (hb2.mono HBE.out.size))
        have HM2 := Lib.hid (HM.out.up hb2)
        have HBX2 := Lib.hid (HBX.out.keep hb2)
        clear hb2 K18 x0 x1 x2 x3 x4 HM HBX
        go_wp2_with fail
        refine (parse_any q w2 (HC.out.keep HB2.out)).mono ?_
        intro e w3 he
        obtain ⟨A1, c1, rfl, hre, hpl, hb3⟩ := parse_out he HPO.out
        have HB3 := Lib.hid (HB2.out.trans (hb3.mono HB2.out.size))
        obtain ⟨h5, h2, hn⟩ := two_new w3 (pM, a, b, c) A1 L.length c1 0 0
        have HB4 := Lib.hid (HB3.out.trans (hn.mono HB3.out.size))
        have HR4 := Lib.hid (hre.up hn)
        have HM4 := Lib.hid ((HM2.out.up hb3).up hn)
        obtain ⟨x0, x1, x2, x3, x4⟩ := (HBX2.out.keep hb3).keep hn
        obtain ⟨y0, y1, y2, y3, y4⟩ := h5
        obtain ⟨z0, z1⟩ := h2
        clear he hre hpl hb3 hn HM2 HBX2 HB3
        go_wp2_with fail
        generalize ((w3.alloc (mblk (pM, a, b, c) A1 L.length c1 28)).alloc (.cells #[.int .i64 0, .int .i64 0] 38)) = w4 at *
        have KS := Lib.hid (same_any (pM, a, b, c) (pM, a, b, c) A1 A9 c1 c9 L L w4 HR4.out HM4.out (by have := HLL.out; omega) (by have := HLL.out; omega))
        rw [show decide ((pM, a, b, c) = (pM, a, b, c) ∧ L = L) = true from by simp] at KS
        refine KS.out.mono ?_
        rintro e w5 ⟨rfl, hb5⟩
        have HB5 := Lib.hid (HB4.out.trans (hb5.mono HB4.out.size))
        clear hb5
        go_wp2_with fail
        refine (KA.out _ HB5.out).mono ?_
        rintro e w6 ⟨rfl, hb6⟩
        have HE := Lib.hid (HB5.out.trans (hb6.mono HB5.out.size))
        clear hb6
        go_wp2_with fail
        go_ret
        exact ⟨rfl, HE.out⟩
theorem law_limit (k : Nat) (a b c : Int) (w : World) (hC : Cond w) (hk : k ≤ 255) :
    Calls Tryz.prog 10 #[.int .u8 (k : Int), vv a b c] w fun e w' => e = .returned (.bool true) ∧ Below w.heap.size w w' := by
  by_cases h1 : 70 < k
  · exact limit_no k a b c w hC hk (.inl h1)
  · cases h2 : okV a b c with
    | true => exact limit_yes k a b c w hC (by omega) h2
    | false => exact limit_no k a b c w hC hk (.inr h2)
end Go.Proofs.YtaeideimlagheaaGreatDoor
