/-
  List of the specification. Conditions: the table of powers of ten, internal/bytealg.MaxLen holds some number; at most 6 releases, each with at most 20 requirements and 8 sources, names of at most 200 bytes, texts of at most 1000; paths of at most 2000000 bytes.
-/
import Derived.Test.YthlcdimofagmfaaGreatDoorLNP
import Derived.Test.YthlcdimofagmfaaGreatDoorRR
namespace Go.Proofs.YthlcdimofagmfaaGreatDoor
open Go.RowKit Go.Sort Go.Lib Go.Shelf Go.Proofs
open Dg (txtH hsum txtL txtL_len hsum_lt)
set_option linter.unusedSimpArgs false
set_option linter.unnecessarySimpa false
set_option linter.unusedVariables false
theorem run_eql34 (x y : Md) (w : World) : (binOp .eql 34 (mdk x) (mdk y)).run Tryz.prog w = .ok (.bool (decide (x = y))) w := by
  have h := eqk x y w
  simp only [binOp]
  simp [h]
/-- the lines so far, and the module at hand -/
structure RH (w6 : World) (v : Value) (L : List ByteArray) (p : Nat) (x : Md) (W : World) : Prop where
  bel : Below w6.heap.size w6 W
  own : W.ownsRow w6.heap.size 9 1 v L.length (L.map Value.string)
  box : C4 W p x
  ty : ∃ cs fz, W.heap[p]? = some (.cells cs 34 fz)
abbrev SH (p : Nat) (x : Md) (W : World) : Prop := W.cell? ⟨p, 0, none⟩ = some (.string x.1) ∧ W.cell? ⟨p, 1, none⟩ = some (.int .i64 x.2.1) ∧ W.cell? ⟨p, 2, none⟩ = some (.int .i64 x.2.2.1) ∧ W.cell? ⟨p, 3, none⟩ = some (.int .i64 x.2.2.2)
section
variable {w6 W W' : World} {p : Nat} {v : Value} {L : List ByteArray} {x : Md}
theorem RH.up (h : RH w6 v L p x W) (hb : Below W.heap.size W W') : RH w6 v L p x W' := ⟨h.bel.trans (hb.mono h.bel.size), own_up h.own hb, C4.keep h.box hb, by
  obtain ⟨cs, fz, e⟩ := h.ty
  exact ⟨cs, fz, by rw [hb.block _ (Array.getElem?_eq_some_iff.1 e).1]; exact e⟩⟩
theorem RH.ne (h : RH w6 v L p x W) : some p ≠ v.ownBlock := fun e => by
  obtain ⟨cs, fz, e1⟩ := h.ty
  rcases h.own.2 with ⟨h1, _⟩ | ⟨g, cap, cur, hv, _, hg, _⟩
  · rw [h1] at e; cases e
  · rw [hv] at e
    have e2 : p = g := Option.some.inj e
    subst e2
    rw [hg] at e1
    simp at e1
theorem RH.drew (h : RH w6 v L p x W) : RH w6 v L p x W.drew := h.up (Below.refl _ _).drew
theorem RH.alloc (h : RH w6 v L p x W) (o : Obj) : RH w6 v L p x (W.alloc o) := h.up (bal W o)
theorem RH.all (h : RH w6 v L p x W) : SH p x W := ⟨h.box.1, h.box.2.1, h.box.2.2.1, h.box.2.2.2⟩
theorem RH.app {v' : Value} {L' : List ByteArray} (h : RH w6 v L p x W) (hg : W.grownBy W' v.ownBlock) (hO : W'.ownsRow w6.heap.size 9 1 v' L'.length (L'.map Value.string)) : RH w6 v' L' p x W' := by
  have hne := h.ne
  obtain ⟨cs, fz, e⟩ := h.ty
  exact ⟨h.bel.grown hg h.bel.size fun k hk => (h.own.lt k hk).1, hO, ⟨hg.cell h.box.1 hne, hg.cell h.box.2.1 hne, hg.cell h.box.2.2.1 hne, hg.cell h.box.2.2.2 hne⟩, cs, fz, (hg.block p (Array.getElem?_eq_some_iff.1 e).1 (fun e' => hne e')).trans e⟩
end
set_option maxRecDepth 100000 in
set_option maxHeartbeats 4000000 in
theorem rlist_any (A : Option Addr) (c : Nat) (rs : List Rl) (w : World) (hM : Mx w) (hT : P10 w) (hR : RR6 w w.heap.size A rs) (hl : rs.length ≤ 6) (hz : ∀ r ∈ rs, okRl r) (hp : ∀ r ∈ rs, ∀ y ∈ r.1 :: r.2.1, y.1.size ≤ 2000000) :
    Calls Tryz.prog 22 #[.slice A rs.length c] w (StrsIs (listOut rs) w) := by
  have HZ := Lib.hid (And.intro hl (And.intro hz hp))
  have HERR := Lib.hid (fun k (hk : k < rs.length) h0 he => out_err (rs := rs) (k := k) hk h0 he)
  have HDUP := Lib.hid (fun h0 hd => out_dup (rs := rs) h0 hd)
  have HOK := Lib.hid (fun h0 hd => out_ok (rs := rs) h0 hd)
  generalize listOut rs = O at *
  have HR0 := Lib.hid hR
  have hM' := hM
  have hT' := hT
  clear hM hT hR hl hz hp
  go_enter Tryz.func22, Tryz.ntmps22
  go_wp2_with fail
  go_loopw [4, 6, 7, 8, 18] (fun s4 _ _ _ s18 wr => ∃ k : Nat, s18 = .int .i64 (k : Int) ∧ k ≤ rs.length ∧ Hid (∀ r ∈ rs.take k, er r = 0) ∧ Hid (wr.ownsRow w.heap.size 34 4 s4 k (flatM ((rs.take k).map (·.1)))) ∧ Hid (Below w.heap.size w wr)) (fun _ _ _ _ s18 _ => (rs.length - intOf s18).toNat)
  case atStart => exact ⟨0, rfl, by omega, Lib.hid (by simp), Lib.hid (World.ownsRow_nil _ _ _ _), Lib.hid (Below.refl _ _)⟩
  case round =>
    obtain ⟨k, rfl, hk, HE, HO, HB⟩ := hrel
    by_cases hlt : k < rs.length
    · obtain ⟨b, o, A1, A2, c1, c2, hA, hbl, kk⟩ := HR0.out.at_ k hlt
      subst hA
      obtain ⟨z0, z1, z2, z3, z4, z5, hrm, hpm, hrn, hpn⟩ := kk.below HB.out hbl
      have hkl : (k : Int) < (rs.length : Int) := by omega
      have hk6 : k ≤ 5 := by have := HZ.out.1; omega
      have HER := Lib.hid (show er rs[k] ≠ 0 → O = ([], er rs[k]) from fun h => HERR.out k hlt HE.out h)
      have HEN := Lib.hid (show er rs[k] = 0 → ∀ r ∈ rs.take (k + 1), er r = 0 from fun h r hr => by
        rw [← List.take_append_getElem hlt] at hr
        rcases List.mem_append.1 hr with hr | hr
        · exact HE.out r hr
        · simp at hr; subst hr; exact h)
      have HTK := Lib.hid (show (rs.take (k + 1)).map (·.1) = (rs.take k).map (·.1) ++ [rs[k].1] by rw [← List.take_append_getElem hlt, List.map_append]; rfl)
      have hmem := List.getElem_mem hlt
      have hzk := HZ.out.2.1 rs[k] hmem
      have hpk := HZ.out.2.2 rs[k] hmem
      have HK1 := Lib.hid (show k + 1 ≤ rs.length by omega)
      have ERD : er rs[k] = (relOut rs[k].1 rs[k].2.1 rs[k].2.2).2 := rfl
      clear hmem
      generalize rs[k] = r at *
      clear hlt
      obtain ⟨x, l, S⟩ := r
      simp only at z0 z1 z2 z3 z4 z5 hrm hrn HTK ERD hpk
      obtain ⟨hz1, hz2, hz3⟩ := hzk
      have hb0 := bal wr (rblk x A1 l.length c1 A2 S.length c2 40)
      have hsz := HB.out.size
      have KR := Lib.hid (rrel_any x A1 A2 c1 c2 l S (wr.alloc (rblk x A1 l.length c1 A2 S.length c2 40)) ((hM'.keep HB.out hM'.1).keep hb0 (hM'.keep HB.out hM'.1).1) (P10.keep (P10.keep hT' HB.out) hb0) ((hrm.leB hsz).up hb0) hpm hz1 hpk ((hrn.le hsz).up hb0) hpn hz2 hz3)
      have HX := Lib.hid (B6.new wr x A1 A2 l.length c1 S.length c2 40)
      have HB1 := Lib.hid (HB.out.alloc hsz (rblk x A1 l.length c1 A2 S.length c2 40))
      have HO1 := Lib.hid (HO.out.alloc (rblk x A1 l.length c1 A2 S.length c2 40))
      rw [ERD] at HER HEN
      generalize relOut x l S = OO at *
      obtain ⟨T, n⟩ := OO
      simp only at HER HEN
      clear hb0 hrm hpm hrn hpn hz1 hz2 hz3 hpk kk HO ERD hsz
      unfold rl at *
      unfold rblk at *
      by_cases hn : n = 0
      · have q0 : (n != 0) = false := by simp [hn]
        have HN0 := Lib.hid hn
        clear hn
        go_wp2_with fail
        obtain ⟨y0, y1, y2, y3, y4, y5⟩ := HX.out
        clear z0 z1 z2 z3 z4 z5
        go_wp2_with fail
        refine KR.out.mono ?_
        rintro e w4 ⟨rfl, hb3⟩
        obtain ⟨q0', q1', q2', q3', _, _⟩ := B6.keep HX.out hb3
        have hO3 := own_up HO1.out hb3
        have HB4 := Lib.hid (HB1.out.trans (hb3.mono HB1.out.size))
        clear hb3 y0 y1 y2 y3 y4 y5 KR HX HB1 HO1
        have hone := rm_one w4 x
        have hown1 := hO3.alloc (.cells #[.string x.1, .int .i64 x.2.1, .int .i64 x.2.2.1, .int .i64 x.2.2.2] 34)
        have HSZ4 := Lib.hid HB4.out.size
        go_wp2_with (at_builtin; refine wpList_append_rm rfl _ _ rfl w.heap.size _ _ k _ rfl hown1 (some ⟨w4.heap.size, 0, none⟩) 1 [x] rfl hone (.inr ⟨_, _, rfl⟩) ?_ ?_ ?_)
        · simp; omega
        · have := HSZ4.out; simp; omega
        intro v5 w5 h5 g5
        have HO5 := Lib.hid (show w5.ownsRow w.heap.size 34 4 v5 (k + 1) (flatM ((rs.take (k + 1)).map (·.1))) by
          rw [HTK.out, flatM_append]; first | exact h5 | (rw [List.map_take]; exact h5))
        have HB5 := Lib.hid ((HB4.out.alloc HB4.out.size (.cells #[.string x.1, .int .i64 x.2.1, .int .i64 x.2.2.1, .int .i64 x.2.2.2] 34)).grown g5 (by have := HB4.out.size; simp; omega) (fun k hk => by have := (hown1.lt k hk).1; omega))
        have HEN2 := Lib.hid (HEN.out HN0.out)
        clear h5 g5 hown1 hone hO3 q0' q1' q2' q3'
        go_wp2_with fail
        go_roundw
        case rel => exact ⟨k + 1, by go_num, HK1.out, HEN2, HO5, HB5⟩
        case measure => have := HK1.out; first | (simp [intOf]; done) | (simp [intOf]; omega)
      · have q0 : (n != 0) = true := by simp [hn]
        have HOE := Lib.hid (HER.out hn)
        clear hn
        go_wp2_with fail
        obtain ⟨y0, y1, y2, y3, y4, y5⟩ := HX.out
        clear z0 z1 z2 z3 z4 z5
        go_wp2_with fail
        refine KR.out.mono ?_
        rintro e w3 ⟨rfl, hb3⟩
        have HB3 := Lib.hid (HB1.out.trans (hb3.mono HB1.out.size))
        clear hb3 y0 y1 y2 y3 y4 y5 KR HX
        go_wp2_with fail
        go_ret2
        refine ⟨none, 0, ?_, ?_, .inl ⟨rfl, rfl⟩, HB3.out⟩
        · rw [HOE.out]; rfl
        · rw [HOE.out]; exact rt_nil _ _ _
    · obtain rfl : k = rs.length := by omega
      rw [List.take_length] at HO HE
      have hkl : ¬ (rs.length : Int) < (rs.length : Int) := by omega
      obtain ⟨ms, hms⟩ : ∃ ms, ms = rs.map (·.1) := ⟨_, rfl⟩
      have hml : ms.length = rs.length := by rw [hms]; simp
      obtain ⟨A5, c5, hA5, hr5, hp5, _⟩ := rm_of_own (l := ms) (show wr.ownsRow w.heap.size 34 4 u4 ms.length (flatM ms) by rw [hml, hms]; exact HO.out)
      have hl6 := HZ.out.1
      have KS := Lib.hid (rsorted_any A5 c5 ms wr hr5 (by omega))
      rw [hml] at hA5
      subst hA5
      rw [hml] at KS
      have HMS := Lib.hid hms
      have HML := Lib.hid hml
      clear HO hms hml hr5 hp5 hk hlt
      go_wp2_with fail
      refine KS.out.mono ?_
      rintro e w6 ⟨A6, c6, rfl, hr6, _, hb6⟩
      have HB6 := Lib.hid (HB.out.trans (hb6.mono HB.out.size))
      obtain ⟨D, hD⟩ : ∃ D, D = sortM ms := ⟨_, rfl⟩
      have hDl : D.length = rs.length := by rw [hD, sortM_length, HML.out]
      rw [← hD] at hr6 ⊢
      have HRD := Lib.hid hr6
      have HDD := Lib.hid hD
      have HDL := Lib.hid hDl
      have hd6 : D.length ≤ 6 := by omega
      clear hb6 hr6 hD hDl KS HB
      have HNOT := Lib.hid (show ¬ D.Nodup → O = ([], 6) from fun h => HDUP.out HE.out (fun hn => h (by rw [HDD.out]; exact (sortM_perm ms).nodup_iff.2 (by rw [HMS.out]; exact hn))))
      have HYES := Lib.hid (show noAdjM D D.length → O = (linesTo rs D, 0) from fun h => by
        have hn := nodup_adjM (by rw [HDD.out]; exact sortM_sorted ms) h
        have hd : (rs.map (·.1)).Nodup := by
          rw [← HMS.out]
          exact (sortM_perm ms).nodup_iff.1 (by rw [← HDD.out]; exact hn)
        rw [HOK.out HE.out hd, linesTo_all hd (fun m hm => by
          rw [← HMS.out]
          exact (sortM_perm ms).mem_iff.1 (by rw [← HDD.out]; exact hm)), HDD.out, HMS.out])
      have HM9 := Lib.hid (show ∀ r ∈ rs, (tx r).size = 18 ∧ r.1.1.size ≤ 60 from fun r hr => ⟨(er_ok (HE.out r hr)).2, chk_path (er_ok (HE.out r hr)).1 r.1 (by simp)⟩)
      have HR6 := Lib.hid (HR0.out.up HB6.out)
      go_wp2_with fail
      go_loopw [9, 10, 11, 13, 14, 15, 41] (fun s9 _ _ _ _ _ s41 wr => ∃ i : Nat, s41 = .int .i64 (i : Int) ∧ i ≤ D.length ∧ Hid (noAdjM D i) ∧ Hid (wr.ownsRow w6.heap.size 9 1 s9 (linesTo rs (D.take i)).length ((linesTo rs (D.take i)).map Value.string)) ∧ Hid (Below w6.heap.size w6 wr)) (fun _ _ _ _ _ _ s41 _ => (D.length - intOf s41).toNat)
      case atStart => exact ⟨0, rfl, by omega, Lib.hid (fun i _ h => by omega), Lib.hid (World.ownsRow_nil _ _ _ _), Lib.hid (Below.refl _ _)⟩
      case round =>
        obtain ⟨i, rfl, hi, HNA, HO, HW⟩ := hrel
        by_cases hil : i < D.length
        · obtain ⟨g, o, hA, hgl, d0, d1, d2, d3⟩ := HRD.out.four i hil
          subst hA
          rw [← HW.out.cell (p := ⟨g, o + i * 4, none⟩) hgl] at d0
          rw [← HW.out.cell (p := ⟨g, o + i * 4 + 1, none⟩) hgl] at d1
          rw [← HW.out.cell (p := ⟨g, o + i * 4 + 2, none⟩) hgl] at d2
          rw [← HW.out.cell (p := ⟨g, o + i * 4 + 3, none⟩) hgl] at d3
          have hik : (i : Int) < (D.length : Int) := by omega
          have hi5 : i ≤ 5 := by omega
          have HI1 := Lib.hid (show i + 1 ≤ D.length by omega)
          have HLT := Lib.hid (linesTo_next (rs := rs) hil)
          have hll := linesTo_len rs (D.take i)
          have hll2 : (linesTo rs (D.take i)).length ≤ 40 := by
            have h1 : (D.take i).length ≤ 6 := by rw [List.length_take]; omega
            have h2 : (D.take i).length * rs.length ≤ 6 * 6 := Nat.mul_le_mul h1 hl6
            omega
          have HLL := Lib.hid hll2
          have HNN := Lib.hid (show (∀ j (h : j + 1 = i), D[j]'(by omega) ≠ D[i]) → noAdjM D (i + 1) from fun h => noAdjM_next HNA.out (fun j hj _ => h j hj))
          have HDJ := Lib.hid (show ∀ j (h : j + 1 = i), D[j]'(by omega) = D[i] → O = ([], 6) from fun j hj e => HNOT.out (by subst hj; exact dup_adjM hil e))
          have HBX := Lib.hid (HW.out.alloc HW.out.size (.cells #[.string D[i].1, .int .i64 D[i].2.1, .int .i64 D[i].2.2.1, .int .i64 D[i].2.2.2] 34))
          have HC4 := Lib.hid (C4.new wr D[i] 34)
          have HO2 := Lib.hid (HO.out.alloc (.cells #[.string D[i].1, .int .i64 D[i].2.1, .int .i64 D[i].2.2.1, .int .i64 D[i].2.2.2] 34))
          have HNE := Lib.hid (show some wr.heap.size ≠ u9.ownBlock from fun e => by have := (HO.out.lt _ e.symm).2; omega)
          clear hll hll2
          by_cases hi0 : i = 0
          · have hj0 : ¬ (0 : Int) < (i : Int) := by omega
            have hjn : ¬ 0 < i := by omega
            have HNA2 := Lib.hid (HNN.out (fun j hj => by omega))
            clear hi0 HNA
            go_wp2_with fail
            go_region
            have HRH := Lib.hid (show RH w6 u9 (linesTo rs (D.take i)) wr.heap.size D[i] (wr.alloc (.cells #[.string D[i].1, .int .i64 D[i].2.1, .int .i64 D[i].2.2.1, .int .i64 D[i].2.2.2] 34)).drew from
              RH.drew ⟨HBX.out, HO2.out, HC4.out, _, _, heap_alloc_new wr _⟩)
            clear d0 d1 d2 d3 HBX HO2 HC4 HO HNN HDJ
            generalize hy : D[i] = y at *
            clear hy hil
            generalize (wr.alloc (.cells #[.string y.1, .int .i64 y.2.1, .int .i64 y.2.2.1, .int .i64 y.2.2.2] 34)).drew = W2 at *
            generalize wr.heap.size = bY at *
            generalize linesTo rs (D.take i) = L0 at *
            go_wp2_with fail
            go_loopw [9, 13, 14, 15, 59] (fun s9 _ _ _ s59 wz => ∃ j : Nat, s59 = .int .i64 (j : Int) ∧ j ≤ rs.length ∧ Hid (RH w6 s9 (L0 ++ linesOf (rs.take j) y) bY y wz)) (fun _ _ _ _ s59 _ => (rs.length - intOf s59).toNat)
            case atStart => exact ⟨0, rfl, by omega, by rw [show linesOf (rs.take 0) y = [] from rfl, List.append_nil]; exact HRH⟩
            case round =>
              obtain ⟨j, rfl, hj, HH⟩ := hrel
              by_cases hjl : j < rs.length
              · obtain ⟨b, o, A1, A2, c1, c2, hA, hbl, kk⟩ := HR6.out.at_ j hjl
                subst hA
                obtain ⟨z0, z1, z2, z3, z4, z5, hrm, hpm, hrn, hpn⟩ := kk.below HH.out.bel hbl
                have hjk : (j : Int) < (rs.length : Int) := by omega
                have hj5 : j ≤ 5 := by omega
                have HJ1 := Lib.hid (show j + 1 ≤ rs.length by omega)
                have hmem := List.getElem_mem hjl
                have hzk := HZ.out.2.1 rs[j] hmem
                have hpk := HZ.out.2.2 rs[j] hmem
                have hm9 := HM9.out rs[j] hmem
                have he0 := HE.out rs[j] hmem
                have HLY := Lib.hid (show rs[j].1 = y → linesOf (rs.take (j + 1)) y = linesOf (rs.take j) y ++ [nmM y ++ (⟨#[32]⟩ : ByteArray) ++ tx rs[j]] from fun e => linesOf_yes hjl e)
                have HLNo := Lib.hid (show rs[j].1 ≠ y → linesOf (rs.take (j + 1)) y = linesOf (rs.take j) y from fun e => linesOf_no hjl e)
                have hlen0 := linesOf_len (rs.take j) y
                have hlen1 : (L0 ++ linesOf (rs.take j) y).length ≤ 100 := by
                  have h1 : (rs.take j).length ≤ 6 := by rw [List.length_take]; omega
                  have := HLL.out
                  rw [List.length_append]; omega
                have HL1 := Lib.hid hlen1
                have ERD : er rs[j] = (relOut rs[j].1 rs[j].2.1 rs[j].2.2).2 := rfl
                have TXD : tx rs[j] = (relOut rs[j].1 rs[j].2.1 rs[j].2.2).1 := rfl
                clear hmem hlen0 hlen1
                generalize rs[j] = r at *
                clear hjl
                obtain ⟨x, l, S⟩ := r
                simp only at z0 z1 z2 z3 z4 z5 hrm hrn hpk hm9 HLY HLNo ERD TXD
                obtain ⟨hz1, hz2, hz3⟩ := hzk
                have hQ := fun W => run_eql34 x y W
                have HH2 := Lib.hid (HH.out.alloc (rblk x A1 l.length c1 A2 S.length c2 40))
                have HX := Lib.hid (B6.new wr x A1 A2 l.length c1 S.length c2 40)
                have hsz := HH.out.bel.size
                have hb0 := bal wr (rblk x A1 l.length c1 A2 S.length c2 40)
                have hbw := HB6.out.trans (HH.out.bel.mono HB6.out.size)
                by_cases hxy : x = y
                · have hd : decide (x = y) = true := by simpa using hxy
                  have hly := HLY.out hxy
                  have KR := Lib.hid (rrel_any x A1 A2 c1 c2 l S (wr.alloc (rblk x A1 l.length c1 A2 S.length c2 40)) ((hM'.keep hbw hM'.1).keep hb0 (hM'.keep hbw hM'.1).1) (P10.keep (P10.keep hT' hbw) hb0) ((hrm.leB hsz).up hb0) hpm hz1 hpk ((hrn.le hsz).up hb0) hpn hz2 hz3)
                  obtain ⟨T, hTT⟩ : ∃ T, T = tx (x, l, S) := ⟨_, rfl⟩
                  have hRO : relOut x l S = (T, 0) := by rw [hTT, ← he0]; rfl
                  rw [hRO] at KR
                  rw [← hTT] at hly hm9
                  have HLX := Lib.hid (show L0 ++ linesOf (rs.take (j + 1)) y = (L0 ++ linesOf (rs.take j) y) ++ [nmM y ++ (⟨#[32]⟩ : ByteArray) ++ T] by rw [hly, List.append_assoc])
                  obtain ⟨hT18, hx60⟩ := hm9
                  have hy60 : y.1.size ≤ 60 := by rw [← hxy]; exact hx60
                  have htl := txt_le y.2.1 y.2.2.1 y.2.2.2
                  rw [hd] at hQ
                  clear hly HLY HLNo hRO hTT hxy hd he0 ERD TXD hrm hpm hrn hpn hpk hz1 hz2 hz3 kk hb0 hbw
                  unfold rl at *
                  unfold rblk at *
                  unfold mdk at hQ
                  obtain ⟨m0, m1, m2, m3⟩ := HH2.out.box
                  go_wp2_with fail
                  refine KR.out.mono ?_
                  rintro e w7 ⟨rfl, hb7⟩
                  have HH7 := Lib.hid (HH2.out.up hb7)
                  have HLn := HL1.out
                  clear hb7 m0 m1 m2 m3 z0 z1 z2 z3 z4 z5 KR HX HH2 HH hQ
                  generalize L0 ++ linesOf (rs.take j) y = L at *
                  generalize ht : txt y.2.1 y.2.2.1 y.2.2.2 = t at *
                  have KT := Lib.hid (fun W => rtext_at y.2.1 y.2.2.1 y.2.2.2 t ht W)
                  have e1 : (⟨#[32]⟩ : ByteArray).size = 1 := rfl
                  have f1 : ¬ (9223372036854775807 < y.1.size + 1) := by omega
                  have f2 : ¬ (9223372036854775807 < y.1.size + 1 + t.size) := by omega
                  have f3 : ¬ (9223372036854775807 < y.1.size + 1 + t.size + 1) := by omega
                  have f4 : ¬ (9223372036854775807 < y.1.size + 1 + t.size + 1 + T.size) := by omega
                  have f5 : ¬ (9223372036854775807 < (y.1 ++ ⟨#[32]⟩ : ByteArray).size + t.size) := by rw [ByteArray.size_append, e1]; omega
                  have f6 : ¬ (9223372036854775807 < (y.1 ++ ⟨#[32]⟩ ++ t : ByteArray).size + 1) := by rw [ByteArray.size_append, ByteArray.size_append, e1]; omega
                  have f7 : ¬ (9223372036854775807 < (y.1 ++ ⟨#[32]⟩ ++ t ++ ⟨#[32]⟩ : ByteArray).size + T.size) := by rw [ByteArray.size_append, ByteArray.size_append, ByteArray.size_append, e1]; omega
                  have HNM := Lib.hid (show nmM y ++ (⟨#[32]⟩ : ByteArray) ++ T = y.1 ++ ⟨#[32]⟩ ++ t ++ ⟨#[32]⟩ ++ T by unfold nmM; rw [ht])
                  clear e1 hT18 hx60 hy60 htl ht
                  have hrh := HH7.out
                  have hSS := hrh.all
                  unfold vv at KT
                  go_wp2_with fail
                  go_region_held3 (fun w' => SH bY y w')
                    (first | assumption | exact RH.all (w6 := w6) (v := u9) (L := L) (by assumption) | exact RH.all (w6 := w6) (v := u9) (L := L) (RH.drew (by assumption)) | exact RH.all (w6 := w6) (v := u9) (L := L) (RH.alloc (by assumption) _) | exact hr9.all | fail)
                    (first
                      | (go_at_call 42; (with_reducible refine (KT.out _).mono ?_); rintro e w8 ⟨rfl, hb8⟩; have hr8 := RH.up (w6 := w6) (v := u9) (L := L) (p := bY) (x := y) (by repeat' (first | assumption | refine RH.drew ?_)) hb8)
                      | (refine step_append_g rfl (.tmp 73) (.tmp 84) rfl w6.heap.size u9 L (y.1 ++ ⟨#[32]⟩ ++ t ++ ⟨#[32]⟩ ++ T) rfl (RH.own (w6 := w6) (p := bY) (x := y) (by repeat' (first | assumption | refine RH.drew ?_ | refine RH.alloc ?_ _))) _ rfl (heap_alloc_new _ _) (by omega) (RH.bel (w6 := w6) (v := u9) (L := L) (p := bY) (x := y) (by repeat' (first | assumption | refine RH.drew ?_ | refine RH.alloc ?_ _))).size ?_; intro v9 w9 HO9 hg9; have hr9 := RH.app (w6 := w6) (v := u9) (L := L) (p := bY) (x := y) (by repeat' (first | assumption | refine RH.drew ?_ | refine RH.alloc ?_ _)) hg9 HO9.out))
                  all_goals
                    have HR9 := Lib.hid hr9
                    rw [← HNM.out, ← HLX.out] at HR9
                    clear hr9 hg9 HO9
                    go_wp2_with fail
                    go_roundw
                    case rel => exact ⟨j + 1, by go_num, HJ1.out, HR9⟩
                    case measure => have := HJ1.out; first | (simp [intOf]; done) | (simp [intOf]; omega)
                · have hd : decide (x = y) = false := by simpa using hxy
                  have hly := HLNo.out hxy
                  rw [hd] at hQ
                  have HH3 := Lib.hid (show RH w6 u9 (L0 ++ linesOf (rs.take (j + 1)) y) bY y (wr.alloc (rblk x A1 l.length c1 A2 S.length c2 40)) by rw [hly]; exact HH2.out)
                  clear hly HLY HLNo hxy hd he0 ERD TXD hrm hpm hrn hpn hpk hz1 hz2 hz3 kk hb0 hbw
                  unfold rl at *
                  unfold rblk at *
                  unfold mdk at hQ
                  obtain ⟨m0, m1, m2, m3⟩ := HH2.out.box
                  go_wp2_with fail
                  go_roundw
                  case rel => exact ⟨j + 1, by go_num, HJ1.out, HH3⟩
                  case measure => have := HJ1.out; first | (simp [intOf]; done) | (simp [intOf]; omega)
              · obtain rfl : j = rs.length := by omega
                rw [List.take_length] at HH
                have hjk : ¬ (rs.length : Int) < (rs.length : Int) := by omega
                have HO9 := Lib.hid (show wr.ownsRow w6.heap.size 9 1 u9 (linesTo rs (D.take (i + 1))).length ((linesTo rs (D.take (i + 1))).map Value.string) by rw [HLT.out]; exact HH.out.own)
                have HB9 := Lib.hid HH.out.bel
                clear hj hjl HH
                go_wp2_with fail
                go_roundw
                case rel => exact ⟨i + 1, by go_num, HI1.out, HNA2, HO9, HB9⟩
                case measure => have := HI1.out; first | (simp [intOf]; done) | (simp [intOf]; omega)
          · obtain ⟨m, hm⟩ : ∃ m, m + 1 = i := ⟨i - 1, by omega⟩
            have hml2 : m < D.length := by omega
            obtain ⟨g', o', hA', hgl', e0, e1, e2, e3⟩ := HRD.out.four m hml2
            simp only [Option.some.injEq, Addr.mk.injEq] at hA'
            obtain ⟨rfl, rfl, _⟩ := hA'
            rw [← HW.out.cell (p := ⟨g, o + m * 4, none⟩) hgl] at e0
            rw [← HW.out.cell (p := ⟨g, o + m * 4 + 1, none⟩) hgl] at e1
            rw [← HW.out.cell (p := ⟨g, o + m * 4 + 2, none⟩) hgl] at e2
            rw [← HW.out.cell (p := ⟨g, o + m * 4 + 3, none⟩) hgl] at e3
            have hbx := bal wr (.cells #[.string D[i].1, .int .i64 D[i].2.1, .int .i64 D[i].2.2.1, .int .i64 D[i].2.2.2] 34)
            have e0' := cell_keep e0 hbx
            have e1' := cell_keep e1 hbx
            have e2' := cell_keep e2 hbx
            have e3' := cell_keep e3 hbx
            have hj0 : (0 : Int) < (i : Int) := by omega
            have hjn : 0 < i := by omega
            have hmi : (m : Int) < (D.length : Int) := by omega
            have hm0 : (0 : Int) ≤ (m : Int) := by omega
            have t1 : IntKind.i64.wrap ((i : Int) - 1) = (m : Int) := by rw [show (i : Int) - 1 = (m : Int) by omega]; exact IntWalk.i64_in _ (by omega)
            have HRH := Lib.hid (show RH w6 u9 (linesTo rs (D.take i)) wr.heap.size D[i] (wr.alloc (.cells #[.string D[i].1, .int .i64 D[i].2.1, .int .i64 D[i].2.2.1, .int .i64 D[i].2.2.2] 34)) from
              ⟨HBX.out, HO2.out, HC4.out, _, _, heap_alloc_new wr _⟩)
            have HEE := Lib.hid (And.intro e0' (And.intro e1' (And.intro e2' e3')))
            have hQ := fun W => run_eql34 D[m] D[i] W
            by_cases hEq : D[m] = D[i]
            · have HOD := Lib.hid (HDJ.out m hm hEq)
              have hd : decide (D[m] = D[i]) = true := by simpa using hEq
              rw [hd] at hQ
              have HBE := Lib.hid (HB6.out.trans (HBX.out.mono HB6.out.size))
              unfold mdk at hQ
              clear hi0 hbx hm hEq hd e0' e1' e2' e3' e0 e1 e2 e3
              go_wp2_with fail
              clear d0 d1 d2 d3 HO2 HC4 HO HNN HDJ
              generalize hz : D[m] = z at *
              generalize hy : D[i] = y at *
              clear hz hy hml2 hil
              generalize linesTo rs (D.take i) = L0 at *
              generalize wr.alloc (.cells #[.string y.1, .int .i64 y.2.1, .int .i64 y.2.2.1, .int .i64 y.2.2.2] 34) = W1 at *
              generalize wr.heap.size = bY at *
              obtain ⟨q0, q1, q2, q3⟩ := HEE.out
              obtain ⟨x0, x1, x2, x3⟩ := HRH.out.box
              go_region
              go_wp2_with fail
              go_ret2
              refine ⟨none, 0, ?_, ?_, .inl ⟨rfl, rfl⟩, HBE.out.drew⟩
              · rw [HOD.out]; rfl
              · rw [HOD.out]; exact rt_nil _ _ _
            · have hd : decide (D[m] = D[i]) = false := by simpa using hEq
              rw [hd] at hQ
              have HNA2 := Lib.hid (HNN.out (fun j hj => by
                have hjm : j = m := by omega
                simp only [hjm]
                exact hEq))
              unfold mdk at hQ
              clear hi0 hbx hm hEq hd HNA e0' e1' e2' e3' e0 e1 e2 e3
              go_wp2_with fail
              clear d0 d1 d2 d3 HO2 HC4 HO HNN HDJ
              generalize hz : D[m] = z at *
              generalize hy : D[i] = y at *
              clear hz hy hml2 hil
              generalize linesTo rs (D.take i) = L0 at *
              generalize wr.alloc (.cells #[.string y.1, .int .i64 y.2.1, .int .i64 y.2.2.1, .int .i64 y.2.2.2] 34) = W1 at *
              generalize wr.heap.size = bY at *
              obtain ⟨q0, q1, q2, q3⟩ := HEE.out
              obtain ⟨x0, x1, x2, x3⟩ := HRH.out.box
              go_region
              clear q0 q1 q2 q3 hQ x0 x1 x2 x3
              have HRH := Lib.hid HRH.out.drew
              generalize W1.drew = W2 at *
              go_wp2_with fail
              go_loopw [9, 13, 14, 15, 59] (fun s9 _ _ _ s59 wz => ∃ j : Nat, s59 = .int .i64 (j : Int) ∧ j ≤ rs.length ∧ Hid (RH w6 s9 (L0 ++ linesOf (rs.take j) y) bY y wz)) (fun _ _ _ _ s59 _ => (rs.length - intOf s59).toNat)
              case atStart => exact ⟨0, rfl, by omega, by rw [show linesOf (rs.take 0) y = [] from rfl, List.append_nil]; exact HRH⟩
              case round =>
                obtain ⟨j, rfl, hj, HH⟩ := hrel
                by_cases hjl : j < rs.length
                · obtain ⟨b, o, A1, A2, c1, c2, hA, hbl, kk⟩ := HR6.out.at_ j hjl
                  subst hA
                  obtain ⟨z0, z1, z2, z3, z4, z5, hrm, hpm, hrn, hpn⟩ := kk.below HH.out.bel hbl
                  have hjk : (j : Int) < (rs.length : Int) := by omega
                  have hj5 : j ≤ 5 := by omega
                  have HJ1 := Lib.hid (show j + 1 ≤ rs.length by omega)
                  have hmem := List.getElem_mem hjl
                  have hzk := HZ.out.2.1 rs[j] hmem
                  have hpk := HZ.out.2.2 rs[j] hmem
                  have hm9 := HM9.out rs[j] hmem
                  have he0 := HE.out rs[j] hmem
                  have HLY := Lib.hid (show rs[j].1 = y → linesOf (rs.take (j + 1)) y = linesOf (rs.take j) y ++ [nmM y ++ (⟨#[32]⟩ : ByteArray) ++ tx rs[j]] from fun e => linesOf_yes hjl e)
                  have HLNo := Lib.hid (show rs[j].1 ≠ y → linesOf (rs.take (j + 1)) y = linesOf (rs.take j) y from fun e => linesOf_no hjl e)
                  have hlen0 := linesOf_len (rs.take j) y
                  have hlen1 : (L0 ++ linesOf (rs.take j) y).length ≤ 100 := by
                    have h1 : (rs.take j).length ≤ 6 := by rw [List.length_take]; omega
                    have := HLL.out
                    rw [List.length_append]; omega
                  have HL1 := Lib.hid hlen1
                  have ERD : er rs[j] = (relOut rs[j].1 rs[j].2.1 rs[j].2.2).2 := rfl
                  have TXD : tx rs[j] = (relOut rs[j].1 rs[j].2.1 rs[j].2.2).1 := rfl
                  clear hmem hlen0 hlen1
                  generalize rs[j] = r at *
                  clear hjl
                  obtain ⟨x, l, S⟩ := r
                  simp only at z0 z1 z2 z3 z4 z5 hrm hrn hpk hm9 HLY HLNo ERD TXD
                  obtain ⟨hz1, hz2, hz3⟩ := hzk
                  have hQ := fun W => run_eql34 x y W
                  have HH2 := Lib.hid (HH.out.alloc (rblk x A1 l.length c1 A2 S.length c2 40))
                  have HX := Lib.hid (B6.new wr x A1 A2 l.length c1 S.length c2 40)
                  have hsz := HH.out.bel.size
                  have hb0 := bal wr (rblk x A1 l.length c1 A2 S.length c2 40)
                  have hbw := HB6.out.trans (HH.out.bel.mono HB6.out.size)
                  by_cases hxy : x = y
                  · have hd : decide (x = y) = true := by simpa using hxy
                    have hly := HLY.out hxy
                    have KR := Lib.hid (rrel_any x A1 A2 c1 c2 l S (wr.alloc (rblk x A1 l.length c1 A2 S.length c2 40)) ((hM'.keep hbw hM'.1).keep hb0 (hM'.keep hbw hM'.1).1) (P10.keep (P10.keep hT' hbw) hb0) ((hrm.leB hsz).up hb0) hpm hz1 hpk ((hrn.le hsz).up hb0) hpn hz2 hz3)
                    obtain ⟨T, hTT⟩ : ∃ T, T = tx (x, l, S) := ⟨_, rfl⟩
                    have hRO : relOut x l S = (T, 0) := by rw [hTT, ← he0]; rfl
                    rw [hRO] at KR
                    rw [← hTT] at hly hm9
                    have HLX := Lib.hid (show L0 ++ linesOf (rs.take (j + 1)) y = (L0 ++ linesOf (rs.take j) y) ++ [nmM y ++ (⟨#[32]⟩ : ByteArray) ++ T] by rw [hly, List.append_assoc])
                    obtain ⟨hT18, hx60⟩ := hm9
                    have hy60 : y.1.size ≤ 60 := by rw [← hxy]; exact hx60
                    have htl := txt_le y.2.1 y.2.2.1 y.2.2.2
                    rw [hd] at hQ
                    clear hly HLY HLNo hRO hTT hxy hd he0 ERD TXD hrm hpm hrn hpn hpk hz1 hz2 hz3 kk hb0 hbw
                    unfold rl at *
                    unfold rblk at *
                    unfold mdk at hQ
                    obtain ⟨m0, m1, m2, m3⟩ := HH2.out.box
                    go_wp2_with fail
                    refine KR.out.mono ?_
                    rintro e w7 ⟨rfl, hb7⟩
                    have HH7 := Lib.hid (HH2.out.up hb7)
                    have HLn := HL1.out
                    clear hb7 m0 m1 m2 m3 z0 z1 z2 z3 z4 z5 KR HX HH2 HH hQ
                    generalize L0 ++ linesOf (rs.take j) y = L at *
                    generalize ht : txt y.2.1 y.2.2.1 y.2.2.2 = t at *
                    have KT := Lib.hid (fun W => rtext_at y.2.1 y.2.2.1 y.2.2.2 t ht W)
                    have e1 : (⟨#[32]⟩ : ByteArray).size = 1 := rfl
                    have f1 : ¬ (9223372036854775807 < y.1.size + 1) := by omega
                    have f2 : ¬ (9223372036854775807 < y.1.size + 1 + t.size) := by omega
                    have f3 : ¬ (9223372036854775807 < y.1.size + 1 + t.size + 1) := by omega
                    have f4 : ¬ (9223372036854775807 < y.1.size + 1 + t.size + 1 + T.size) := by omega
                    have f5 : ¬ (9223372036854775807 < (y.1 ++ ⟨#[32]⟩ : ByteArray).size + t.size) := by rw [ByteArray.size_append, e1]; omega
                    have f6 : ¬ (9223372036854775807 < (y.1 ++ ⟨#[32]⟩ ++ t : ByteArray).size + 1) := by rw [ByteArray.size_append, ByteArray.size_append, e1]; omega
                    have f7 : ¬ (9223372036854775807 < (y.1 ++ ⟨#[32]⟩ ++ t ++ ⟨#[32]⟩ : ByteArray).size + T.size) := by rw [ByteArray.size_append, ByteArray.size_append, ByteArray.size_append, e1]; omega
                    have HNM := Lib.hid (show nmM y ++ (⟨#[32]⟩ : ByteArray) ++ T = y.1 ++ ⟨#[32]⟩ ++ t ++ ⟨#[32]⟩ ++ T by unfold nmM; rw [ht])
                    clear e1 hT18 hx60 hy60 htl ht
                    have hrh := HH7.out
                    have hSS := hrh.all
                    unfold vv at KT
                    go_wp2_with fail
                    go_region_held3 (fun w' => SH bY y w')
                      (first | assumption | exact RH.all (w6 := w6) (v := u9) (L := L) (by assumption) | exact RH.all (w6 := w6) (v := u9) (L := L) (RH.drew (by assumption)) | exact RH.all (w6 := w6) (v := u9) (L := L) (RH.alloc (by assumption) _) | exact hr9.all | fail)
                      (first
                        | (go_at_call 42; (with_reducible refine (KT.out _).mono ?_); rintro e w8 ⟨rfl, hb8⟩; have hr8 := RH.up (w6 := w6) (v := u9) (L := L) (p := bY) (x := y) (by repeat' (first | assumption | refine RH.drew ?_)) hb8)
                        | (refine step_append_g rfl (.tmp 73) (.tmp 84) rfl w6.heap.size u9 L (y.1 ++ ⟨#[32]⟩ ++ t ++ ⟨#[32]⟩ ++ T) rfl (RH.own (w6 := w6) (p := bY) (x := y) (by repeat' (first | assumption | refine RH.drew ?_ | refine RH.alloc ?_ _))) _ rfl (heap_alloc_new _ _) (by omega) (RH.bel (w6 := w6) (v := u9) (L := L) (p := bY) (x := y) (by repeat' (first | assumption | refine RH.drew ?_ | refine RH.alloc ?_ _))).size ?_; intro v9 w9 HO9 hg9; have hr9 := RH.app (w6 := w6) (v := u9) (L := L) (p := bY) (x := y) (by repeat' (first | assumption | refine RH.drew ?_ | refine RH.alloc ?_ _)) hg9 HO9.out))
                    all_goals
                      have HR9 := Lib.hid hr9
                      rw [← HNM.out, ← HLX.out] at HR9
                      clear hr9 hg9 HO9
                      go_wp2_with fail
                      go_roundw
                      case rel => exact ⟨j + 1, by go_num, HJ1.out, HR9⟩
                      case measure => have := HJ1.out; first | (simp [intOf]; done) | (simp [intOf]; omega)
                  · have hd : decide (x = y) = false := by simpa using hxy
                    have hly := HLNo.out hxy
                    rw [hd] at hQ
                    have HH3 := Lib.hid (show RH w6 u9 (L0 ++ linesOf (rs.take (j + 1)) y) bY y (wr.alloc (rblk x A1 l.length c1 A2 S.length c2 40)) by rw [hly]; exact HH2.out)
                    clear hly HLY HLNo hxy hd he0 ERD TXD hrm hpm hrn hpn hpk hz1 hz2 hz3 kk hb0 hbw
                    unfold rl at *
                    unfold rblk at *
                    unfold mdk at hQ
                    obtain ⟨m0, m1, m2, m3⟩ := HH2.out.box
                    go_wp2_with fail
                    go_roundw
                    case rel => exact ⟨j + 1, by go_num, HJ1.out, HH3⟩
                    case measure => have := HJ1.out; first | (simp [intOf]; done) | (simp [intOf]; omega)
                · obtain rfl : j = rs.length := by omega
                  rw [List.take_length] at HH
                  have hjk : ¬ (rs.length : Int) < (rs.length : Int) := by omega
                  have HO9 := Lib.hid (show wr.ownsRow w6.heap.size 9 1 u9 (linesTo rs (D.take (i + 1))).length ((linesTo rs (D.take (i + 1))).map Value.string) by rw [HLT.out]; exact HH.out.own)
                  have HB9 := Lib.hid HH.out.bel
                  clear hj hjl HH
                  go_wp2_with fail
                  go_roundw
                  case rel => exact ⟨i + 1, by go_num, HI1.out, HNA2, HO9, HB9⟩
                  case measure => have := HI1.out; first | (simp [intOf]; done) | (simp [intOf]; omega)
        · obtain rfl : i = D.length := by omega
          rw [List.take_length] at HO
          have hik : ¬ (D.length : Int) < (D.length : Int) := by omega
          have HOE := Lib.hid (HYES.out HNA.out)
          obtain ⟨A9, c9, hA9, hrt, hpl⟩ := rt_of_own HO.out
          have HEND := Lib.hid (show StrsIs O w (.returned (.tuple #[.slice A9 (linesTo rs D).length c9, .int .i64 0])) wr from ⟨A9, c9, by rw [HOE.out], by rw [HOE.out]; exact hrt, hpl, HB6.out.trans (HW.out.mono HB6.out.size)⟩)
          subst hA9
          clear hrt hpl HO hi hil
          generalize (linesTo rs D).length = nl at *
          go_wp2_with fail
          go_ret2
          exact HEND.out
end Go.Proofs.YthlcdimofagmfaaGreatDoor
