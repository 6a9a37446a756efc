/-
  List of the program. Conditions: the table of powers of ten, internal/bytealg.MaxLen holds some number; at most 1000 releases, each with at most 20 requirements and 8 sources, names of at most 200 bytes, texts of at most 1000.
-/
import Derived.Test.YthlcdimofagmfaaGreatDoorMNH
import Derived.Test.YthlcdimofagmfaaGreatDoorSRW
namespace Go.Proofs.YthlcdimofagmfaaGreatDoor
open Go.RowKit Go.Sort Go.Lib Go.Shelf Go.Proofs
open Dg (txtH hsum txtL txtL_len hsum_lt)
set_option linter.unusedSimpArgs false
set_option linter.unnecessarySimpa false
set_option linter.unusedVariables false
/-- what a list of strings and an error look like when they come back -/
def StrsIs (o : List ByteArray × Int) (w : World) (e : Ending) (w' : World) : Prop :=
  ∃ A c, e = .returned (.tuple #[.slice A o.1.length c, .int .i64 o.2]) ∧ RT1 w' w'.heap.size A o.1 ∧ Plain A c ∧ Below w.heap.size w w'
/-- the lines so far, the module at hand, the map -/
structure RG (w6 : World) (m : Nat) (es : List En) (clock : Nat) (v : Value) (L : List ByteArray) (p : Nat) (x : Md) (W : World) : Prop where
  bel : Below w6.heap.size w6 W
  own : W.ownsRow w6.heap.size 9 1 v L.length (L.map Value.string)
  box : C4 W p x
  mp : W.heap[m]? = some (.map (es.map ent).toArray clock)
abbrev SG (m p : Nat) (x : Md) (t : ByteArray) (W : World) : Prop := W.cell? ⟨p, 0, none⟩ = some (.string x.1) ∧ W.cell? ⟨p, 1, none⟩ = some (.int .i64 x.2.1) ∧ W.cell? ⟨p, 2, none⟩ = some (.int .i64 x.2.2.1) ∧ W.cell? ⟨p, 3, none⟩ = some (.int .i64 x.2.2.2) ∧
  (Instr.lookup 70 (.map (some m)) (.agg #[.string x.1, .int .i64 x.2.1, .int .i64 x.2.2.1, .int .i64 x.2.2.2]) false).run Tryz.prog W = .ok (.string t) W
section
variable {w6 W W' : World} {m clock p i : Nat} {es : List En} {v : Value} {L : List ByteArray} {x : Md} {t : ByteArray}
theorem RG.up (h : RG w6 m es clock v L p x W) (hb : Below W.heap.size W W') : RG w6 m es clock v L p x W' :=
  ⟨h.bel.trans (hb.mono h.bel.size), own_up h.own hb, C4.keep h.box hb, map_keep h.mp hb⟩
theorem RG.drew (h : RG w6 m es clock v L p x W) : RG w6 m es clock v L p x W.drew := h.up (Below.refl _ _).drew
theorem RG.alloc (h : RG w6 m es clock v L p x W) (o : Obj) : RG w6 m es clock v L p x (W.alloc o) := h.up (bal W o)
theorem RG.all (hf : fnd x es 0 = some (i, .string t)) (h : RG w6 m es clock v L p x W) : SG m p x t W := ⟨h.box.1, h.box.2.1, h.box.2.2.1, h.box.2.2.2, look_any h.mp hf⟩
theorem RG.app (h : RG w6 m es clock v L p x W) (hf : fnd x es 0 = some (i, .string t)) (hg : W.grownBy W' v.ownBlock) (hne : some p ≠ v.ownBlock) (hnm : some m ≠ v.ownBlock) : Below w6.heap.size w6 W' ∧ SG m p x t W' :=
  ⟨h.bel.grown hg h.bel.size fun k hk => (h.own.lt k hk).1, hg.cell h.box.1 hne, hg.cell h.box.2.1 hne, hg.cell h.box.2.2.1 hne, hg.cell h.box.2.2.2 hne, look_any (map_gb h.mp hg hnm) hf⟩
end
/-- append of one string to a row of the call's own, as a step of a region that draws -/
theorem step_append_g {ops : Array Oper} {o : Oper} {a : Act} {w : World} {K : Act → World → Prop} {Q : Exit → Act → World → Prop} {E : Prop} (hgd : o.guard = none) (s x : Operand)
    (ho : o.op = .call { callee := .builtin .append, args := #[s, x], argTypes := #[45, 45] }) (base : Nat) (v : Value) (L : List ByteArray) (u : ByteArray) (hs : a.eval s = v)
    (hown : w.ownsRow base 9 1 v L.length (L.map Value.string)) (b : Nat) (hx : a.eval x = .slice (some ⟨b, 0, none⟩) 1 1) (hb : w.heap[b]? = some (.cells #[.string u] 9 (0, 0))) (hlen : L.length ≤ 4001) (hbase : base ≤ w.heap.size)
    (h : ∀ v' w', Hid (w'.ownsRow base 9 1 v' (L ++ [u]).length ((L ++ [u]).map Value.string)) → w.grownBy w' v.ownBlock → K (a.put o.dst v') w') :
    if Region.wanted o (yielded ops a.tmps) = true then Oper.wp Tryz.prog o a w K Q else E := by
  have hw : Region.wanted o (yielded ops a.tmps) = true := by simp [Region.wanted, hgd]
  rw [if_pos hw]
  obtain ⟨i0, hi, hz0, hz1, hz2⟩ := info_parts info9
  refine wp_append_own w s x 45 ho base 9 i0 (.string ⟨#[]⟩) 1 16 Tryz.underlying45 hi hz0 hz1 hz2 rfl (by decide) v L.length (L.map Value.string) hs hown ⟨b, 0, none⟩ 1 1 [.string u] hx rfl ?_ (by intro v hv; simp at hv; subst hv; rfl) ?_ ?_ hbase ?_
  · intro j v hj
    match j, hj with
    | 0, hj => simp at hj; subst hj; rw [show (⟨b, 0, none⟩ : Addr).add 0 = ⟨b, 0, none⟩ from rfl, Lib.cell_of_heap hb]; rfl
    | j + 1, hj => simp at hj
  · unfold maxLen; omega
  · omega
  · intro v' w' h1 h2 _
    refine h v' w' (Lib.hid ?_) h2
    rw [List.length_append, List.map_append]
    exact h1
theorem sort_v (R : List Md) (v : Value) (B : Nat) (w : World) (hR : R.length ≤ 1000000) (hown : w.ownsRow B 34 4 v R.length (flatM R)) :
    Calls Tryz.prog 39 #[v, .func (.func 25) #[] #[]] w fun e w' => e = .returned (.tuple #[]) ∧ (∀ A n c, v = .slice A n c → RM w' w'.heap.size A (sortM R)) ∧ Below B w w' := by
  rcases own_cell hown with ⟨rfl, h2⟩ | ⟨g, c, rfl, h3, h4, _⟩
  · refine (AnyF.slices_SortFunc_none (P := Tryz.prog) Tryz.sortB none 0 (.func (.func 25) #[] #[]) _).mono ?_
    rintro e w' ⟨rfl, rfl⟩
    refine ⟨rfl, fun A n c e => ?_, Below.refl _ _⟩
    have : R = [] := List.length_eq_zero_iff.1 h2
    subst this
    exact rm_nil _ _ _
  · refine (sort_own R g c B w hR hown).mono ?_
    rintro e w' ⟨rfl, ⟨hr, _⟩, hb⟩
    refine ⟨rfl, fun A n c e => ?_, hb⟩
    simp only [Value.slice.injEq] at e
    obtain ⟨rfl, _, _⟩ := e
    exact hr
theorem own_gb {w w' : World} {B n sz m : Nat} {E : TypeId} {v : Value} {xs : List Value} (h : w.ownsRow B E sz v n xs) (hg : w.grownBy w' (some m)) (hne : some m ≠ v.ownBlock) : w'.ownsRow B E sz v n xs := by
  refine ⟨h.1, ?_⟩
  rcases h.2 with h' | ⟨g, cap, cur, hv, hbg, hgg, r⟩
  · exact .inl h'
  · have hlt : g < w.heap.size := (Array.getElem?_eq_some_iff.1 hgg).1
    exact .inr ⟨g, cap, cur, hv, hbg, by rw [hg.block g hlt (by intro e; apply hne; rw [hv]; rw [← e]; rfl)]; exact hgg, r⟩
set_option maxRecDepth 100000 in
set_option maxHeartbeats 4000000 in
theorem list_any (A : Option Addr) (c : Nat) (rs : List Rl) (w : World) (hM : Mx w) (hT : P10 w) (hR : RR6 w w.heap.size A rs) (hl : rs.length ≤ 1000) (hz : ∀ r ∈ rs, okRl r) :
    Calls Tryz.prog 21 #[.slice A rs.length c] w (StrsIs (listOut rs) w) := by
  have hb0 := bal w (.map #[] 0)
  have HB0 := Lib.hid hb0
  have HM := Lib.hid (hM.keep hb0 hM.1)
  have HT := Lib.hid (P10.keep hT hb0)
  have HRS := Lib.hid (hR.up hb0)
  have HZ := Lib.hid (And.intro hl hz)
  have HMP := Lib.hid (show (w.alloc (.map #[] 0)).heap[w.heap.size]? = some (.map #[] 0) from heap_alloc_new w _)
  have hmk := run_makeMap_plain (P := Tryz.prog) w 70
  have HERR := Lib.hid (fun k (hk : k < rs.length) h0 he => out_err (rs := rs) (k := k) hk h0 he)
  have HDUP := Lib.hid (fun h0 hd => out_dup (rs := rs) h0 hd)
  have HOK := Lib.hid (fun h0 hd => out_ok (rs := rs) h0 hd)
  generalize listOut rs = O at *
  have HR0 := Lib.hid hR
  have hM' := hM
  have hT' := hT
  clear hb0 hM hT hR hl hz HM HT HRS
  go_enter Tryz.func21, Tryz.ntmps21
  go_wp2_with fail
  clear hmk
  go_loopw [5, 7, 8, 9, 16] (fun s5 _ _ _ s16 wr => ∃ (k : Nat) (es : List En) (clock : Nat), s16 = .int .i64 (k : Int) ∧ k ≤ rs.length ∧ Hid (∀ r ∈ rs.take k, er r = 0) ∧ Hid (MapK rs k es) ∧ Hid (wr.heap[w.heap.size]? = some (.map (es.map ent).toArray clock)) ∧ Hid (wr.ownsRow (w.heap.size + 1) 34 4 s5 k (flatM ((rs.take k).map (·.1)))) ∧ Hid (Below w.heap.size w wr)) (fun _ _ _ _ s16 _ => (rs.length - intOf s16).toNat)
  case atStart => exact ⟨0, [], 0, rfl, by omega, Lib.hid (by simp), Lib.hid (mapK_zero rs), HMP, Lib.hid (World.ownsRow_nil _ _ _ _), HB0⟩
  case round =>
    obtain ⟨k, es, clock, rfl, hk, HE, HK, HMB, HO, HB⟩ := hrel
    by_cases hlt : k < rs.length
    · obtain ⟨b, o, A1, A2, c1, c2, hA, hbl, kk⟩ := HR0.out.at_ k hlt
      subst hA
      obtain ⟨z0, z1, z2, z3, z4, z5, hrm, hpm, hrn, hpn⟩ := kk.below HB.out hbl
      have hkl : (k : Int) < (rs.length : Int) := by omega
      have hk1000 : k ≤ 1000 := by have := HZ.out.1; omega
      have HER := Lib.hid (show er rs[k] ≠ 0 → O = ([], er rs[k]) from fun h => HERR.out k hlt HE.out h)
      have HEN := Lib.hid (show er rs[k] = 0 → ∀ r ∈ rs.take (k + 1), er r = 0 from fun h r hr => by
        rw [← List.take_append_getElem hlt] at hr
        rcases List.mem_append.1 hr with hr | hr
        · exact HE.out r hr
        · simp at hr; subst hr; exact h)
      have HKN := Lib.hid (fun es' => mapK_next (es' := es') hlt HK.out)
      have HTK := Lib.hid (show (rs.take (k + 1)).map (·.1) = (rs.take k).map (·.1) ++ [rs[k].1] by rw [← List.take_append_getElem hlt, List.map_append]; rfl)
      have hzk := HZ.out.2 rs[k] (List.getElem_mem hlt)
      have HEO := Lib.hid (show er rs[k] = 0 → chkM rs[k].1 rs[k].2.1 = 0 ∧ (tx rs[k]).size = 18 from fun h => er_ok h)
      have HK1 := Lib.hid (show k + 1 ≤ rs.length by omega)
      have ERD : er rs[k] = (relOut rs[k].1 rs[k].2.1 rs[k].2.2).2 := rfl
      have TXD : tx rs[k] = (relOut rs[k].1 rs[k].2.1 rs[k].2.2).1 := rfl
      generalize hr : rs[k] = r at *
      have HRK := Lib.hid hr
      clear hr hlt HK
      obtain ⟨x, l, S⟩ := r
      simp only at z0 z1 z2 z3 z4 z5 hrm hrn HTK
      obtain ⟨hz1, hz2, hz3⟩ := hzk
      simp only at hz1 hz2 hz3
      have hb0 := bal wr (rblk x A1 l.length c1 A2 S.length c2 40)
      have hsz := HB.out.size
      have KR := Lib.hid (release_any x A1 A2 c1 c2 l S (wr.alloc (rblk x A1 l.length c1 A2 S.length c2 40)) ((hM'.keep HB.out hM'.1).keep hb0 (hM'.keep HB.out hM'.1).1) (P10.keep (P10.keep hT' HB.out) hb0) ((hrm.leB hsz).up hb0) hpm (by omega) ((hrn.le hsz).up hb0) hpn (by omega) (fun y hy => by have := hz3 y hy; omega))
      have HX := Lib.hid (B6.new wr x A1 A2 l.length c1 S.length c2 40)
      have HB1 := Lib.hid (HB.out.alloc hsz (rblk x A1 l.length c1 A2 S.length c2 40))
      have hmb1 := map_keep HMB.out hb0
      have HMB1 := Lib.hid hmb1
      have HO1 := Lib.hid (HO.out.alloc (rblk x A1 l.length c1 A2 S.length c2 40))
      have HLT := Lib.hid (show w.heap.size < wr.heap.size from (Array.getElem?_eq_some_iff.1 HMB.out).1)
      obtain ⟨T, hT0⟩ : ∃ T, T = tx (x, l, S) := ⟨_, rfl⟩
      obtain ⟨n, hn0⟩ : ∃ n, n = er (x, l, S) := ⟨_, rfl⟩
      have hRO : relOut x l S = (T, n) := by rw [hT0, hn0]; rfl
      rw [hRO] at KR
      rw [← hn0] at HER HEN HEO
      rw [← hT0] at HEO
      have HTX := Lib.hid hT0
      clear hmb1 hb0 hrm hpm hrn hpn hz1 hz2 hz3 ERD TXD hRO hT0 hn0 kk HMB HO
      unfold rl at *
      unfold rblk at *
      by_cases hn : n = 0
      · have q0 : (n != 0) = false := by simp [hn]
        have HN0 := Lib.hid hn
        clear hn
        go_wp2_with fail
        obtain ⟨y0, y1, y2, y3, y4, y5⟩ := HX.out
        clear z0 z1 z2 z3 z4 z5
        go_wp2_with fail
        refine KR.out.mono ?_
        rintro e w3 ⟨rfl, hb3⟩
        have hq := B6.keep HX.out hb3
        have hmb3 := map_keep HMB1.out hb3
        have HO3 := Lib.hid (own_up HO1.out hb3)
        have HB3 := Lib.hid (HB1.out.trans (hb3.mono HB1.out.size))
        have hlt3 : wr.heap.size < w3.heap.size := by have := hb3.size; simp at this; omega
        clear hb3 y0 y1 y2 y3 y4 y5 KR HX HMB1 HB1 HO1
        obtain ⟨q0', q1', q2', q3', _, _⟩ := hq
        obtain ⟨es', clock', hu, hu1, hu2⟩ := upd_any hmb3 x T
        have HMK := Lib.hid (HKN.out es' (fun h => by have := hu1 h; rw [HTX.out] at this; exact this) hu2)
        unfold mdk at hu
        have hms : w.heap.size < w3.heap.size := Nat.lt_trans HLT.out hlt3
        go_upto_region 9 with (fail)
        have hpm := putMap_at hms (es'.map ent) clock'
        have hgb := putMap_gb w3 w.heap.size (es'.map ent) clock'
        have p0 := hgb.cell q0' (by have := HLT.out; intro e; simp at e; omega)
        have p1 := hgb.cell q1' (by have := HLT.out; intro e; simp at e; omega)
        have p2 := hgb.cell q2' (by have := HLT.out; intro e; simp at e; omega)
        have p3 := hgb.cell q3' (by have := HLT.out; intro e; simp at e; omega)
        have HB4 := Lib.hid (HB3.out.grown hgb HB3.out.size (fun k hk => by cases hk; exact Nat.le_refl _))
        have HSZ4 := Lib.hid (show w.heap.size + 1 ≤ (putMap w3 w.heap.size (es'.map ent) clock').heap.size by simp [putMap]; omega)
        have HO4 := Lib.hid (own_gb HO3.out hgb (by intro e; have := (HO3.out.lt _ e.symm).1; omega))
        clear hmb3 hgb HB3 HO3
        go_upto_region 10 with (fail)
        clear hu hu1 hu2 q0' q1' q2' q3' hlt3 hms
        generalize putMap w3 w.heap.size (es'.map ent) clock' = w4 at *
        have HPM := Lib.hid hpm
        clear hpm
        have hone := rm_one w4 x
        have hown1 := HO4.out.alloc (.cells #[.string x.1, .int .i64 x.2.1, .int .i64 x.2.2.1, .int .i64 x.2.2.2] 34)
        go_wp2_with (at_builtin; refine wpList_append_rm rfl _ _ rfl (w.heap.size + 1) _ _ k _ rfl hown1 (some ⟨w4.heap.size, 0, none⟩) 1 [x] rfl hone (.inr ⟨_, _, rfl⟩) ?_ ?_ ?_)
        · simp; omega
        · have := HSZ4.out; simp; omega
        intro v5 w5 h5 g5
        have HO5 := Lib.hid (show w5.ownsRow (w.heap.size + 1) 34 4 v5 (k + 1) (flatM ((rs.take (k + 1)).map (·.1))) by
          rw [HTK.out, flatM_append]; first | exact h5 | (rw [List.map_take]; exact h5))
        have HB5 := Lib.hid ((HB4.out.alloc HB4.out.size (.cells #[.string x.1, .int .i64 x.2.1, .int .i64 x.2.2.1, .int .i64 x.2.2.2] 34)).grown g5 (by have := HB4.out.size; simp; omega) (fun k hk => by have := (hown1.lt k hk).1; omega))
        have HPM5 := Lib.hid (map_gb (map_keep HPM.out (bal w4 _)) g5 (by intro e; have := (hown1.lt _ e.symm).1; omega))
        have HEN2 := Lib.hid (HEN.out HN0.out)
        clear h5 g5 hown1 hone HO4 HPM p0 p1 p2 p3
        go_wp2_with fail
        go_roundw
        case rel => exact ⟨k + 1, es', clock', by go_num, HK1.out, HEN2, HMK, HPM5, HO5, HB5⟩
        case measure => have := HK1.out; first | (simp [intOf]; done) | (simp [intOf]; omega)
      · have q0 : (n != 0) = true := by simp [hn]
        have HOE := Lib.hid (HER.out hn)
        clear hn
        go_wp2_with fail
        obtain ⟨y0, y1, y2, y3, y4, y5⟩ := HX.out
        clear z0 z1 z2 z3 z4 z5
        go_wp2_with fail
        refine KR.out.mono ?_
        rintro e w3 ⟨rfl, hb3⟩
        have HB3 := Lib.hid (HB1.out.trans (hb3.mono HB1.out.size))
        clear hb3 y0 y1 y2 y3 y4 y5 KR HX
        go_wp2_with fail
        go_ret2
        refine ⟨none, 0, ?_, ?_, .inl ⟨rfl, rfl⟩, HB3.out⟩
        · rw [HOE.out]; rfl
        · rw [HOE.out]; exact rt_nil _ _ _
    · obtain rfl : k = rs.length := by omega
      rw [List.take_length] at HO HE
      have hlen := HZ.out.1
      have hKL := HK.out
      have htk : (rs.take rs.length) = rs := List.take_length
      have hlm := fun ty => run_len_map (P := Tryz.prog) (w := wr) 70 ty w.heap.size _ _ (by kernel_rfl) HMB.out
      simp only [List.size_toArray, List.length_map] at hlm
      by_cases hd : (rs.map (·.1)).Nodup
      · have hes := hKL.ok (by rw [htk]; exact hd)
        rw [htk] at hes
        have hel : es.length = rs.length := by have := congrArg List.length hes; simpa using this
        rw [hel] at hlm
        have hni : ¬ ((rs.length : Int) < (rs.length : Int)) := by omega
        have HOE := Lib.hid (HOK.out HE.out hd)
        have HES := Lib.hid hes
        obtain ⟨ms, hms⟩ : ∃ ms, ms = rs.map (·.1) := ⟨_, rfl⟩
        have hml : ms.length = rs.length := by rw [hms]; simp
        have HCK := Lib.hid (show ∀ m ∈ sortM ms, chkM m [] = 0 ∧ m ∈ rs.map (·.1) ∧ (lookT rs m).size = 18 from fun m hm => by
          have h1 : m ∈ rs.map (·.1) := by rw [← hms]; exact (sortM_perm ms).mem_iff.1 hm
          obtain ⟨r, hr, rfl⟩ := List.mem_map.1 h1
          refine ⟨chk_nil (er_ok (HE.out r hr)).1, h1, ?_⟩
          unfold lookT
          cases hf : rs.find? (fun q => decide (r.1 = q.1)) with
          | none => have := List.find?_eq_none.1 hf r hr; simp at this
          | some q =>
            have hq := List.mem_of_find?_eq_some hf
            exact (er_ok (HE.out q hq)).2)
        rw [← hms] at HO HOE
        have HOM : Hid (wr.ownsRow (w.heap.size + 1) 34 4 u5 ms.length (flatM ms)) := Lib.hid (by rw [hml]; exact HO.out)
        have KS := Lib.hid (sort_v ms u5 (w.heap.size + 1) wr (by omega) HOM.out)
        have HLT := Lib.hid (show w.heap.size < wr.heap.size from (Array.getElem?_eq_some_iff.1 HMB.out).1)
        obtain ⟨A5, c5, hA5, _⟩ := rm_of_own HOM.out
        rw [hml] at hA5
        subst hA5
        clear hKL htk hes hel HO HK HE HERR HDUP HOK hd hms
        go_wp2_with fail
        refine KS.out.mono ?_
        rintro e w6 ⟨rfl, hr6, hb6⟩
        have HB6 := Lib.hid (HB.out.trans (hb6.mono (Nat.le_succ _)))
        have HPM6 := Lib.hid (show w6.heap[w.heap.size]? = _ from (hb6.block _ (Nat.lt_succ_self _)).trans HMB.out)
        have HRD := Lib.hid (hr6 _ _ _ rfl)
        obtain ⟨D, hD⟩ : ∃ D, D = sortM ms := ⟨_, rfl⟩
        have hDl : D.length = rs.length := by rw [hD, sortM_length, hml]
        rw [← hD] at HRD HOE HCK
        rw [← hDl]
        rw [← hDl] at hlen
        clear hr6 hb6 KS HB HMB hlm HOM hD hml hni HZ hDl
        have hnb : ∀ m, chkM m [] = 0 → (nmM m).size ≤ 100 := fun m h => by
          have h1 := chk_path h m (by simp)
          have h2 := txt_le m.2.1 m.2.2.1 m.2.2.2
          have e1 : (⟨#[32]⟩ : ByteArray).size = 1 := rfl
          unfold nmM
          rw [ByteArray.size_append, ByteArray.size_append, e1]; omega
        have HNB := Lib.hid hnb
        have HLN := Lib.hid hlen
        clear hnb
        go_wp2_with fail
        go_loopw [10, 12, 49] (fun s10 _ s49 wz => ∃ j : Nat, s49 = .int .i64 (j : Int) ∧ j ≤ D.length ∧ Hid (wz.ownsRow w6.heap.size 9 1 s10 ((D.take j).map (lineM rs)).length (((D.take j).map (lineM rs)).map Value.string)) ∧ Hid (Below w6.heap.size w6 wz)) (fun _ _ s49 _ => (D.length - intOf s49).toNat)
        case atStart => exact ⟨0, rfl, by omega, Lib.hid (World.ownsRow_nil _ _ _ _), Lib.hid (Below.refl _ _)⟩
        case round =>
          obtain ⟨j, rfl, hj, HO, HW⟩ := hrel
          by_cases hjl : j < D.length
          · obtain ⟨g, o, hA, hgl, c0, c1', c2, c3⟩ := HRD.out.four j hjl
            subst hA
            rw [← HW.out.cell (p := ⟨g, o + j * 4, none⟩) hgl] at c0
            rw [← HW.out.cell (p := ⟨g, o + j * 4 + 1, none⟩) hgl] at c1'
            rw [← HW.out.cell (p := ⟨g, o + j * 4 + 2, none⟩) hgl] at c2
            rw [← HW.out.cell (p := ⟨g, o + j * 4 + 3, none⟩) hgl] at c3
            have hjk : (j : Int) < (D.length : Int) := by omega
            have hj8 : j ≤ 1000 := by have := HLN.out; omega
            obtain ⟨k1, k2, k3⟩ := HCK.out D[j] (List.getElem_mem hjl)
            obtain ⟨i, hfi⟩ := fnd_look D[j] es rs 0 HES.out k2
            have hn1 := HNB.out _ k1
            have HJ := Lib.hid (show j + 1 ≤ D.length by omega)
            have HTK := Lib.hid (show (D.take (j + 1)).map (lineM rs) = (D.take j).map (lineM rs) ++ [lineM rs D[j]] by rw [← List.take_append_getElem hjl, List.map_append]; rfl)
            have hlm : lineM rs D[j] = nmM D[j] ++ (⟨#[32]⟩ : ByteArray) ++ lookT rs D[j] := rfl
            have HLM := Lib.hid hlm
            have KN : Hid (∀ W, Below w.heap.size w W → Calls Tryz.prog 40 #[mdk D[j]] W fun e w' => e = .returned (.string (nmM D[j])) ∧ Below W.heap.size W w') := Lib.hid (fun W h => name_any D[j] k1 W (hM'.keep h hM'.1) (P10.keep hT' h))
            have hLl : ((D.take j).map (lineM rs)).length ≤ 1000 := by rw [List.length_map, List.length_take]; omega
            have HBX := Lib.hid (HW.out.alloc HW.out.size (.cells #[.string D[j].1, .int .i64 D[j].2.1, .int .i64 D[j].2.2.1, .int .i64 D[j].2.2.2] 34))
            have HRG := Lib.hid (RG.mk (p := wr.heap.size) (x := D[j]) HBX.out (HO.out.alloc _) (C4.new wr D[j] 34) (map_keep ((HW.out.block _ (Array.getElem?_eq_some_iff.1 HPM6.out).1).trans HPM6.out) (bal wr _)))
            have HNE := Lib.hid (show some wr.heap.size ≠ u10.ownBlock from fun e => by have := (HO.out.lt _ e.symm).2; omega)
            have HNM := Lib.hid (show some w.heap.size ≠ u10.ownBlock from fun e => by have := (HO.out.lt _ e.symm).1; have := (Array.getElem?_eq_some_iff.1 HPM6.out).1; omega)
            clear hlm k1 k2
            unfold mdk at KN
            generalize D[j] = y at *
            clear hjl
            generalize nmM y = nm at *
            generalize lookT rs y = t at *
            generalize (D.take j).map (lineM rs) = L at *
            have f1 : ¬ (9223372036854775807 < nm.size + 1) := by omega
            have f2 : ¬ (9223372036854775807 < nm.size + 1 + t.size) := by omega
            have f3 : ¬ (9223372036854775807 < (nm ++ ⟨#[32]⟩ : ByteArray).size + t.size) := by
              have e1 : (⟨#[32]⟩ : ByteArray).size = 1 := rfl
              rw [ByteArray.size_append, e1]; omega
            clear k3 hn1
            go_wp2_with fail
            clear c0 c1' c2 c3 HBX
            generalize wr.alloc (.cells #[.string y.1, .int .i64 y.2.1, .int .i64 y.2.2.1, .int .i64 y.2.2.2] 34) = W0 at *
            generalize wr.heap.size = bp at *
            have hrg := HRG.out
            have hSS := hrg.all hfi
            go_region_held3 (fun w' => SG w.heap.size bp y t w')
              (first | assumption | exact RG.all (w6 := w6) (v := u10) (L := L) hfi (by assumption) | exact RG.all (w6 := w6) (v := u10) (L := L) hfi (RG.drew (by assumption)) | exact RG.all (w6 := w6) (v := u10) (L := L) hfi (RG.alloc (by assumption) _) | exact hr9.2 | fail)
              (first
                | (go_at_call 40; (with_reducible refine (KN.out _ (HB6.out.trans ((RG.bel (w6 := w6) (m := w.heap.size) (es := es) (clock := clock) (v := u10) (L := L) (p := bp) (x := y) (by repeat' (first | assumption | refine RG.drew ?_))).mono HB6.out.size))).mono ?_); rintro e w7 ⟨rfl, hb7⟩; have hr7 := RG.up (w6 := w6) (m := w.heap.size) (es := es) (clock := clock) (v := u10) (L := L) (p := bp) (x := y) (by repeat' (first | assumption | refine RG.drew ?_)) hb7)
                | (refine step_append_g rfl (.tmp 53) (.tmp 61) rfl w6.heap.size u10 L (nm ++ ⟨#[32]⟩ ++ t) rfl (RG.own (w6 := w6) (m := w.heap.size) (es := es) (clock := clock) (p := bp) (x := y) (by repeat' (first | assumption | refine RG.drew ?_ | refine RG.alloc ?_ _))) _ rfl (heap_alloc_new _ _) (by omega) (RG.bel (w6 := w6) (m := w.heap.size) (es := es) (clock := clock) (v := u10) (L := L) (p := bp) (x := y) (by repeat' (first | assumption | refine RG.drew ?_ | refine RG.alloc ?_ _))).size ?_; intro v9 w9 HO9 hg9; have hr9 := RG.app (w6 := w6) (m := w.heap.size) (es := es) (clock := clock) (v := u10) (L := L) (p := bp) (x := y) (by repeat' (first | assumption | refine RG.drew ?_ | refine RG.alloc ?_ _)) hfi hg9 HNE.out HNM.out))
            all_goals
              have HB9 := Lib.hid hr9.1
              rw [← HLM.out, ← HTK.out] at HO9
              clear hr9 hg9
              go_wp2_with fail
              go_roundw
              case rel => exact ⟨j + 1, by go_num, HJ.out, HO9, HB9⟩
              case measure => have := HJ.out; have := HLN.out; first | (simp [intOf]; done) | (simp [intOf]; omega)
          · obtain rfl : j = D.length := by omega
            rw [List.take_length] at HO
            have hjk : ¬ (D.length : Int) < (D.length : Int) := by omega
            obtain ⟨A9, c9, hA9, hrt, hpl⟩ := rt_of_own HO.out
            rw [List.length_map] at hA9
            have HEND := Lib.hid (show StrsIs O w (.returned (.tuple #[.slice A9 D.length c9, .int .i64 0])) wr from ⟨A9, c9, by rw [HOE.out, List.length_map], by rw [HOE.out]; exact hrt, hpl, HB6.out.trans (HW.out.mono HB6.out.size)⟩)
            subst hA9
            clear hrt hpl HO hj hjl
            go_wp2_with fail
            go_ret2
            exact HEND.out
      · have hnl : ((es.length : Int) < (rs.length : Int)) := by have := hKL.no (by rw [htk]; exact hd); omega
        have HOE := Lib.hid (HDUP.out HE.out hd)
        obtain ⟨A5, c5, hA5, _⟩ := rm_of_own (l := rs.map (·.1)) (B := w.heap.size + 1) (v := u5) (w := wr) (by have := HO.out; simpa using this)
        rw [List.length_map] at hA5
        subst hA5
        clear hKL htk HK HE hd
        go_wp2_with fail
        go_ret2
        refine ⟨none, 0, ?_, ?_, .inl ⟨rfl, rfl⟩, HB.out⟩
        · rw [HOE.out]; rfl
        · rw [HOE.out]; exact rt_nil _ _ _
end Go.Proofs.YthlcdimofagmfaaGreatDoor
