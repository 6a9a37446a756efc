/-
  Release of the program. Conditions: the table of powers of ten, internal/bytealg.MaxLen holds some number; at most 80 requirements and 1000 sources, names of at most 100000 bytes, texts of at most 1000000.
-/
import Derived.Test.YthlcdimofagmfaaGreatDoorRm
namespace Go.Proofs.YthlcdimofagmfaaGreatDoor
open Go.RowKit Go.Sort Go.Lib Go.Shelf Go.Proofs
open Dg (txtH hsum txtL txtL_len hsum_lt)
set_option linter.unusedSimpArgs false
set_option linter.unnecessarySimpa false
set_option linter.unusedVariables false
/-- a release, by value -/
abbrev rl (x : Md) (A : Option Addr) (n c : Nat) (A2 : Option Addr) (n2 c2 : Nat) : Value := .agg #[.string x.1, .int .i64 x.2.1, .int .i64 x.2.2.1, .int .i64 x.2.2.2, .slice A n c, .slice A2 n2 c2]
abbrev rblk (x : Md) (A : Option Addr) (n c : Nat) (A2 : Option Addr) (n2 c2 : Nat) (T : TypeId) : Obj := .cells #[.string x.1, .int .i64 x.2.1, .int .i64 x.2.2.1, .int .i64 x.2.2.2, .slice A n c, .slice A2 n2 c2] T
def RelIs (o : ByteArray × Int) (w : World) (e : Ending) (w' : World) : Prop := e = .returned (.tuple #[.string o.1, .int .i64 o.2]) ∧ Below w.heap.size w w'
/-- a release in its box -/
structure B6 (w : World) (p : Nat) (x : Md) (A : Option Addr) (n c : Nat) (A2 : Option Addr) (n2 c2 : Nat) : Prop where
  k0 : w.cell? ⟨p, 0, none⟩ = some (.string x.1)
  k1 : w.cell? ⟨p, 1, none⟩ = some (.int .i64 x.2.1)
  k2 : w.cell? ⟨p, 2, none⟩ = some (.int .i64 x.2.2.1)
  k3 : w.cell? ⟨p, 3, none⟩ = some (.int .i64 x.2.2.2)
  k4 : w.cell? ⟨p, 4, none⟩ = some (.slice A n c)
  k5 : w.cell? ⟨p, 5, none⟩ = some (.slice A2 n2 c2)
theorem B6.keep {w w' : World} {p : Nat} {x : Md} {A A2 : Option Addr} {n c n2 c2 : Nat} (h : B6 w p x A n c A2 n2 c2) (hb : Below w.heap.size w w') : B6 w' p x A n c A2 n2 c2 :=
  ⟨cell_keep h.k0 hb, cell_keep h.k1 hb, cell_keep h.k2 hb, cell_keep h.k3 hb, cell_keep h.k4 hb, cell_keep h.k5 hb⟩
theorem B6.new (w : World) (x : Md) (A A2 : Option Addr) (n c n2 c2 : Nat) (T : TypeId) : B6 (w.alloc (rblk x A n c A2 n2 c2 T)) w.heap.size x A n c A2 n2 c2 := ⟨by simp, by simp, by simp, by simp, by simp, by simp⟩
theorem own_str1 (w : World) (s : ByteArray) : (w.alloc (.cells #[.string s] 9)).ownsRow w.heap.size 9 1 (.slice (some ⟨w.heap.size, 0, none⟩) 1 1) 1 [.string s] :=
  ⟨rfl, .inr ⟨w.heap.size, 1, _, rfl, Nat.le_refl _, heap_alloc_new w _, Nat.le_refl _, by unfold maxLen; omega, rfl, rfl⟩⟩
/-- a source in its box -/
structure C2s (w : World) (p : Nat) (y : Src) : Prop where
  c0 : w.cell? ⟨p, 0, none⟩ = some (.string y.1)
  c1 : w.cell? ⟨p, 1, none⟩ = some (.string y.2)
theorem C2s.keep {w w' : World} {p : Nat} {y : Src} (h : C2s w p y) (hb : Below w.heap.size w w') : C2s w' p y := ⟨cell_keep h.c0 hb, cell_keep h.c1 hb⟩
theorem C2s.new (w : World) (y : Src) : C2s (w.alloc (.cells #[.string y.1, .string y.2] 56)) w.heap.size y := ⟨by simp, by simp⟩
theorem new4s (W : World) (a b c d : ByteArray) : ∀ j u, [Value.string a, .string b, .string c, .string d][j]? = some u → (W.alloc (.cells #[.string a, .string b, .string c, .string d] 9)).cell? ((⟨W.heap.size, 0, none⟩ : Addr).add j) = some u := by
  intro j u hj
  match j, hj with
  | 0, hj => simp at hj ⊢; subst hj; simp [Addr.add]
  | 1, hj => simp at hj ⊢; subst hj; simp [Addr.add]
  | 2, hj => simp at hj ⊢; subst hj; simp [Addr.add]
  | 3, hj => simp at hj ⊢; subst hj; simp [Addr.add]
  | j + 4, hj => simp at hj
theorem one4s (a b c d : ByteArray) : ∀ u ∈ [Value.string a, .string b, .string c, .string d], u.oneCell' = true := by
  intro u hu; simp at hu; rcases hu with rfl | rfl | rfl | rfl <;> rfl
theorem row_str {w : World} {B : Nat} {v : Value} {L : List ByteArray} (h : w.ownsRow B 9 1 v L.length (L.map Value.string)) (hne : L ≠ []) : ∃ g c, v = .slice (some ⟨g, 0, none⟩) L.length c ∧ ∀ i s, L[i]? = some s → w.cell? ⟨g, i, none⟩ = some (.string s) := by
  rcases own_cell h with ⟨_, h2⟩ | ⟨g, c, rfl, _, _, _, _, hc⟩
  · exact absurd (List.length_eq_zero_iff.1 h2) hne
  · exact ⟨g, c, rfl, fun i s hs => hc i _ (by rw [List.getElem?_map, hs]; rfl)⟩
/-- the pieces so far, all that was there before them as it was, and the source at hand -/
structure RO (w3 : World) (v : Value) (L : List ByteArray) (p : Nat) (y : Src) (W : World) : Prop where
  bel : Below w3.heap.size w3 W
  own : W.ownsRow w3.heap.size 9 1 v L.length (L.map Value.string)
  box : C2s W p y
theorem RO.up {w3 W W' : World} {v : Value} {L : List ByteArray} {p : Nat} {y : Src} (h : RO w3 v L p y W) (hb : Below W.heap.size W W') : RO w3 v L p y W' := ⟨h.bel.trans (hb.mono h.bel.size), own_up h.own hb, h.box.keep hb⟩
theorem RO.drew {w3 W : World} {v : Value} {L : List ByteArray} {p : Nat} {y : Src} (h : RO w3 v L p y W) : RO w3 v L p y W.drew := h.up (Below.refl _ _).drew
theorem RO.alloc {w3 W : World} {v : Value} {L : List ByteArray} {p : Nat} {y : Src} (h : RO w3 v L p y W) (o : Obj) : RO w3 v L p y (W.alloc o) := h.up (bal W o)
theorem RO.app {w3 W W' : World} {v : Value} {L : List ByteArray} {p : Nat} {y : Src} (h : RO w3 v L p y W) (hg : W.grownBy W' v.ownBlock) (hne : some p ≠ v.ownBlock) : Below w3.heap.size w3 W' ∧ W'.cell? ⟨p, 0, none⟩ = some (.string y.1) ∧ W'.cell? ⟨p, 1, none⟩ = some (.string y.2) :=
  ⟨h.bel.grown hg h.bel.size fun k hk => (h.own.lt k hk).1, hg.cell h.box.c0 hne, hg.cell h.box.c1 hne⟩
theorem RO.two {w3 W : World} {v : Value} {L : List ByteArray} {p : Nat} {y : Src} (h : RO w3 v L p y W) : W.cell? ⟨p, 0, none⟩ = some (.string y.1) ∧ W.cell? ⟨p, 1, none⟩ = some (.string y.2) := ⟨h.box.c0, h.box.c1⟩
/-- append of four strings to a row of the call's own, as a step of a region that draws -/
theorem step_append_s4 {ops : Array Oper} {o : Oper} {a : Act} {w : World} {K : Act → World → Prop} {Q : Exit → Act → World → Prop} {E : Prop} (hgd : o.guard = none) (s x : Operand)
    (ho : o.op = .call { callee := .builtin .append, args := #[s, x], argTypes := #[45, 45] }) (base : Nat) (v : Value) (L : List ByteArray) (s0 s1 s2 s3 : ByteArray) (hs : a.eval s = v)
    (hown : w.ownsRow base 9 1 v L.length (L.map Value.string)) (b : Nat) (hx : a.eval x = .slice (some ⟨b, 0, none⟩) 4 4)
    (hb : ∀ j u, [Value.string s0, .string s1, .string s2, .string s3][j]? = some u → w.cell? ((⟨b, 0, none⟩ : Addr).add j) = some u) (hlen : L.length ≤ 4001) (hbase : base ≤ w.heap.size)
    (h : ∀ v' w', Hid (w'.ownsRow base 9 1 v' (L ++ [s0, s1, s2, s3]).length ((L ++ [s0, s1, s2, s3]).map Value.string)) → w.grownBy w' v.ownBlock → K (a.put o.dst v') w') :
    if Region.wanted o (yielded ops a.tmps) = true then Oper.wp Tryz.prog o a w K Q else E := by
  have hw : Region.wanted o (yielded ops a.tmps) = true := by simp [Region.wanted, hgd]
  rw [if_pos hw]
  obtain ⟨i0, hi, hz0, hz1, hz2⟩ := info_parts info9
  refine wp_append_own w s x 45 ho base 9 i0 (.string ⟨#[]⟩) 1 16 Tryz.underlying45 hi hz0 hz1 hz2 rfl (by decide) v L.length (L.map Value.string) hs hown ⟨b, 0, none⟩ 4 4 [.string s0, .string s1, .string s2, .string s3] hx rfl hb (one4s s0 s1 s2 s3) ?_ ?_ hbase ?_
  · unfold maxLen; omega
  · omega
  · intro v' w' h1 h2 _
    refine h v' w' (Lib.hid ?_) h2
    rw [List.length_append, List.map_append]
    exact h1
theorem relPs_ne (t : ByteArray) (D : List Src) : relPs t D ≠ [] := by simp [relPs]
theorem noAdj_all {D : List Src} (h : noAdj D D.length) : ∀ i (h : i + 1 < D.length), D[i].1 ≠ D[i + 1].1 := fun i hi => h i hi hi
set_option maxRecDepth 100000 in
set_option maxHeartbeats 4000000 in
theorem release_any (x : Md) (A A2 : Option Addr) (c c2 : Nat) (l : List Md) (S : List Src) (w : World) (hM : Mx w) (hT : P10 w) (hR : RM w w.heap.size A l) (hf : Plane A c) (hl : l.length ≤ 80)
    (hS : RN w w.heap.size A2 S) (hf2 : Plane A2 c2) (hSl : S.length ≤ 1000) (hsz : ∀ y ∈ S, y.1.size ≤ 100000 ∧ y.2.size ≤ 1000000) :
    Calls Tryz.prog 19 #[rl x A l.length c A2 S.length c2] w (RelIs (relOut x l S) w) := by
  have hb0 := bal w (rblk x A l.length c A2 S.length c2 40)
  have HB0 := Lib.hid hb0
  have HX := Lib.hid (B6.new w x A A2 l.length c S.length c2 40)
  have KT := Lib.hid (text_any x A c l _ (hM.keep hb0 hM.1) (P10.keep hT hb0) (hR.up hb0) hf hl)
  have HM := Lib.hid hM
  have HSR := Lib.hid (hS.up hb0)
  have HF2 := Lib.hid hf2
  have HZ := Lib.hid (And.intro hSl hsz)
  have HCH := Lib.hid (fun (h : chkM x l ≠ 0) => relOut_chk (S := S) h)
  have HDU := Lib.hid (fun (D : List Src) (h : chkM x l = 0) hp hd => relOut_dup (x := x) (l := l) (S := S) (D := D) h hp hd)
  have HOK := Lib.hid (fun (D : List Src) (h : chkM x l = 0) hp hs hn => relOut_ok (x := x) (l := l) (S := S) (D := D) h hp hs hn)
  have HTS := Lib.hid (show chkM x l = 0 → (textB x l).size ≤ 1000000 from fun h => by
    have hp := chk_path h
    unfold textB; rw [if_pos h]
    show (textL x (sortM l)).toArray.size ≤ _
    rw [List.size_toArray]
    have h1 := flat_bound kR (by decide) (sortM l) (fun y hy => hp y (by simp [(sortM_perm l).mem_iff.1 hy]))
    have h2 := line_le kM (by decide) x (hp x (by simp))
    have h3 : (lineB kM x).data.toList.length = (lineB kM x).size := by simp
    rw [sortM_length] at h1
    unfold textL
    rw [List.length_append]; omega)
  obtain ⟨n, hn⟩ : ∃ n, n = chkM x l := ⟨_, rfl⟩
  obtain ⟨T, hTd⟩ : ∃ T, T = textB x l := ⟨_, rfl⟩
  rw [← hn, ← hTd] at KT
  rw [← hn, ← hTd] at HTS
  rw [← hn] at HCH
  simp only [← hn] at HDU HOK
  simp only [← hTd] at HOK
  generalize relOut x l S = O at *
  clear hb0 hM hT hR hf hl hS hf2 hSl hsz hTd
  unfold rl
  unfold rblk at *
  by_cases hz : n = 0
  · have q0 : (n != 0) = false := by simp [hz]
    have HZ0 := Lib.hid hz
    clear hz hn
    go_enter Tryz.func19, Tryz.ntmps19
    go_wp2_with fail
    obtain ⟨x0, x1, x2, x3, x4, x5⟩ := HX.out
    go_wp2_with fail
    refine KT.out.mono ?_
    rintro e w1 ⟨rfl, hb1⟩
    have HB1 := Lib.hid (HB0.out.trans (hb1.mono HB0.out.size))
    have HSR1 := Lib.hid (HSR.out.up hb1)
    obtain ⟨y0, y1, y2, y3, y4, y5⟩ := HX.out.keep hb1
    clear hb1 x0 x1 x2 x3 x4 x5 KT HB0 HX HSR
    go_wp2_with fail
    have KC := Lib.hid (cloneS_any A2 c2 S w1 HSR1.out (by have := HZ.out.1; omega) HF2.out)
    refine KC.out.mono ?_
    rintro e w2 (⟨rfl, rfl, rfl⟩ | ⟨g, cg, rfl, hown, hb2⟩)
    · go_wp2_with fail
      have hS0 := rn_none HSR1.out
      refine (AnyF.slices_SortFunc_none (P := Tryz.prog) Tryz.sortS none 0 (.func (.func 34) #[] #[]) _).mono ?_
      rintro e w3 ⟨rfl, rfl⟩
      obtain ⟨D, hpm, hso, hdr⟩ : ∃ D : List Src, D.Perm S ∧ D.Pairwise LeN ∧ RN w3 w3.heap.size none D := ⟨[], by rw [hS0], List.Pairwise.nil, rn_nil _ _ _⟩
      have HB3 := HB1
      clear KC HSR1 HF2 y0 y1 y2 y3 y4 y5
      have HPM := Lib.hid hpm
      have HSO := Lib.hid hso
      have HLN := Lib.hid hpm.length_eq
      have HDZ := Lib.hid (show ∀ y ∈ D, y.1.size ≤ 100000 ∧ y.2.size ≤ 1000000 from fun y hy => HZ.out.2 y (hpm.mem_iff.1 hy))
      obtain rfl : D = [] := by have := hpm.length_eq; rw [hS0] at this; exact List.length_eq_zero_iff.1 this
      have hown0 := own_str1 w3 T
      clear hpm hso hdr hS0
      go_wp2_with fail
      go_loopw [7, 8, 9, 28] (fun s7 _ _ s28 wr => ∃ (k : Nat) (v : Value), s28 = .int .i64 (k : Int) ∧ s7 = v ∧ k ≤ ([] : List Src).length ∧ Hid (noAdj ([] : List Src) k) ∧ Hid (wr.ownsRow w3.heap.size 9 1 v (relPs T (([] : List Src).take k)).length ((relPs T (([] : List Src).take k)).map Value.string)) ∧ Hid (Below w3.heap.size w3 wr)) (fun _ _ _ s28 _ => (([] : List Src).length - intOf s28).toNat)
      case atStart => exact ⟨0, _, rfl, rfl, by omega, Lib.hid (fun i _ h => by omega), Lib.hid (by simpa [relPs] using hown0), Lib.hid (bal _ _)⟩
      case round =>
        clear hown0
        obtain ⟨k, v, rfl, rfl, hk, HNA, HO, HB⟩ := hrel
        obtain rfl : k = 0 := by simpa using hk
        have HNA : Hid (noAdj ([] : List Src) ([] : List Src).length) := HNA
        have HO : Hid (wr.ownsRow w3.heap.size 9 1 u7 (relPs T ([] : List Src)).length ((relPs T ([] : List Src)).map Value.string)) := HO
        have HNN := Lib.hid (nodup_adj HSO.out (noAdj_all HNA.out))
        have HOE := Lib.hid (HOK.out [] HZ0.out HPM.out HSO.out HNN.out)
        obtain ⟨gg, cc, rfl, hcc⟩ := row_str HO.out (relPs_ne _ _)
        have hpl := relPs_len T []
        have HPS := Lib.hid (show ∀ s ∈ relPs T ([] : List Src), s.size ≤ 1000000 from fun s hs => by
          unfold relPs at hs
          rcases List.mem_cons.1 hs with rfl | hs
          · exact HTS.out HZ0.out
          · obtain ⟨y, hy, hs⟩ := List.mem_flatMap.1 hs
            exact relPc_size (HDZ.out y hy).1 s hs)
        have KSU := Lib.hid (Dg.sum_any (relPs T ([] : List Src)) gg cc wr hcc (by rw [hpl]; have := HZ.out.1; have := HLN.out; omega) HPS.out)
        have hhl := hsum_lt ((relPs T ([] : List Src)).flatMap fun s => s.data.toList) 14695981039346656037 (by decide)
        have HB5 := Lib.hid (HB3.out.trans (HB.out.mono HB3.out.size))
        change Hid (O = (txtH (hsum 14695981039346656037 ((relPs T ([] : List Src)).flatMap fun s => s.data.toList)), 0)) at HOE
        generalize hsum 14695981039346656037 ((relPs T ([] : List Src)).flatMap fun s => s.data.toList) = hh at *
        have KTX := Lib.hid (fun w => Dg.text_any hh hhl w)
        generalize (relPs T ([] : List Src)).length = pl at *
        clear hcc hpl HO HB hhl
        go_wp2_with fail
        refine KSU.out.mono ?_
        rintro e w8 ⟨rfl, rfl⟩
        go_wp2_with fail
        refine (KTX.out _).mono ?_
        rintro e w9 ⟨rfl, hb9⟩
        have HBE := Lib.hid (HB5.out.trans (hb9.mono HB5.out.size))
        clear hb9
        go_wp2_with fail
        go_ret2
        rw [HOE.out]
        exact ⟨rfl, HBE.out⟩
    · have HS := Lib.hid (sortS_own S g cg w1.heap.size w2 (by have := HZ.out.1; omega) hown)
      have HB2 := Lib.hid (HB1.out.trans (hb2.mono HB1.out.size))
      have hsz2 := hb2.size
      clear hown hb2
      go_wp2_with fail
      refine HS.out.mono ?_
      rintro e w3 ⟨rfl, ⟨D, hpm, hso, hdr⟩, hb3⟩
      have HB3 := Lib.hid (HB2.out.trans (hb3.mono (Nat.le_trans HB1.out.size (Nat.le_refl _))))
      clear hb3 HS HB2 hsz2
      clear KC HSR1 HF2 y0 y1 y2 y3 y4 y5
      have hlen : D.length = S.length := hpm.length_eq
      have HPM := Lib.hid hpm
      have HSO := Lib.hid hso
      have HDR := Lib.hid hdr
      have HLN := Lib.hid hlen
      have HDZ := Lib.hid (show ∀ y ∈ D, y.1.size ≤ 100000 ∧ y.2.size ≤ 1000000 from fun y hy => HZ.out.2 y (hpm.mem_iff.1 hy))
      rw [← hlen]
      clear hpm hso hdr hlen
      have hown0 := own_str1 w3 T
      go_wp2_with fail
      go_loopw [7, 8, 9, 28] (fun s7 _ _ s28 wr => ∃ (k : Nat) (v : Value), s28 = .int .i64 (k : Int) ∧ s7 = v ∧ k ≤ D.length ∧ Hid (noAdj D k) ∧ Hid (wr.ownsRow w3.heap.size 9 1 v (relPs T (D.take k)).length ((relPs T (D.take k)).map Value.string)) ∧ Hid (Below w3.heap.size w3 wr)) (fun _ _ _ s28 _ => (D.length - intOf s28).toNat)
      case atStart => exact ⟨0, _, rfl, rfl, by omega, Lib.hid (fun i _ h => by omega), Lib.hid (by simpa [relPs] using hown0), Lib.hid (bal _ _)⟩
      case round =>
        clear hown0
        obtain ⟨k, v, rfl, rfl, hk, HNA, HO, HB⟩ := hrel
        by_cases hlt : k < D.length
        · obtain ⟨g1, o1, hA1, hg1, d0, d1⟩ := HDR.out.two k hlt
          simp only [Option.some.injEq, Addr.mk.injEq] at hA1
          obtain ⟨rfl, rfl, _⟩ := hA1
          rw [← HB.out.cell (p := ⟨g, 0 + k * 2, none⟩) hg1] at d0
          rw [← HB.out.cell (p := ⟨g, 0 + k * 2 + 1, none⟩) hg1] at d1
          simp only [Nat.zero_add] at d0 d1
          have hkl : (k : Int) < (D.length : Int) := by omega
          have hk1000 : k ≤ 1000 := by have := HZ.out.1; have := HLN.out; omega
          have HK1 := Lib.hid (show k + 1 ≤ D.length by omega)
          have HTK := Lib.hid (show relPs T (D.take (k + 1)) = relPs T (D.take k) ++ relPc D[k] by rw [← List.take_append_getElem hlt, relPs_snoc]; rfl)
          have hyz := HDZ.out D[k] (List.getElem_mem hlt)
          have HPL := Lib.hid (show (relPs T (D.take k)).length ≤ 4001 by rw [relPs_len, List.length_take]; omega)
          have HB2 := Lib.hid (HB.out.alloc HB.out.size (.cells #[.string D[k].1, .string D[k].2] 56))
          have HNW := Lib.hid (C2s.new wr D[k])
          have HO2 := Lib.hid (HO.out.alloc (.cells #[.string D[k].1, .string D[k].2] 56))
          have HNX := Lib.hid (fun (h : ∀ i, i + 1 = k → ∀ h', (D[i]'h').1 ≠ D[k].1) => show noAdj D (k + 1) from fun i h1 h2 => by
            rcases Nat.lt_succ_iff_lt_or_eq.1 h2 with h3 | h3
            · exact HNA.out i h1 h3
            · have := h i h3 (by omega); subst h3; exact this)
          have HDUP := Lib.hid (fun i (hi : i + 1 = k) (h' : i < D.length) (e : (D[i]'h').1 = D[k].1) => HDU.out D HZ0.out HPM.out (dup_adj (i := i) (by omega) (by subst hi; exact e)))
          by_cases hk0 : k = 0
          · have hj0 : ¬ (0 : Int) < (k : Int) := by omega
            have hjn : ¬ 0 < k := by omega
            have HNA2 := Lib.hid (HNX.out (fun i hi => by omega))
            generalize hy : D[k] = y at *
            clear hk0 HNX HDUP hy
            obtain ⟨hy1, hy2⟩ := hyz
            have KQ := Lib.hid (fun w => Qt.quote_any y.1 (by omega) w)
            have KU := Lib.hid (fun w => Dg.sum1_any y.2 (by omega) w)
            have hhl := hsum_lt y.2.data.toList 14695981039346656037 (by decide)
            have HPC := Lib.hid (show relPc y = [⟨(Qt.quoteL y.1.data.toList).toArray⟩, ⟨#[32]⟩, txtH (hsum 14695981039346656037 y.2.data.toList), ⟨#[10]⟩] from rfl)
            generalize (⟨(Qt.quoteL y.1.data.toList).toArray⟩ : ByteArray) = qs at *
            generalize hsum 14695981039346656037 y.2.data.toList = hh at *
            have KX := Lib.hid (fun w => Dg.text_any hh hhl w)
            generalize txtH hh = ts at *
            go_wp2_with fail
            go_region
            have hbD := (Below.refl (wr.alloc (.cells #[.string y.1, .string y.2] 56)).heap.size (wr.alloc (.cells #[.string y.1, .string y.2] 56))).drew
            have HRO := Lib.hid (RO.mk (HB2.out.drew) (own_up HO2.out hbD) (HNW.out.keep hbD))
            have HNE := Lib.hid (show some wr.heap.size ≠ u7.ownBlock from fun e => by have := (HO.out.lt _ e.symm).2; omega)
            clear hbD HNW HB2 HO2 HO HB d0 d1
            generalize (wr.alloc (.cells #[.string y.1, .string y.2] 56)).drew = W2 at *
            generalize wr.heap.size = bY at *
            obtain ⟨y0, y1⟩ := HRO.out.box
            have hro := HRO.out
            go_wp2_with fail
            go_region_held3 (fun w' => w'.cell? ⟨bY, 0, none⟩ = some (.string y.1) ∧ w'.cell? ⟨bY, 1, none⟩ = some (.string y.2))
              (first | assumption | exact RO.two (w3 := w3) (v := u7) (L := relPs T (D.take k)) (by assumption) | exact RO.two (w3 := w3) (v := u7) (L := relPs T (D.take k)) (RO.drew (by assumption)) | exact RO.two (w3 := w3) (v := u7) (L := relPs T (D.take k)) (RO.alloc (by assumption) _) | exact hb9.2 | fail)
              (first
                | (go_at_call 36; (with_reducible refine (KQ.out _).mono ?_); rintro e w6 ⟨rfl, hb6⟩; have hr6 := RO.up (w3 := w3) (v := u7) (L := relPs T (D.take k)) (p := bY) (y := y) (by repeat' (first | assumption | refine RO.drew ?_)) hb6)
                | (go_at_call 12; (with_reducible refine (KU.out _).mono ?_); rintro e w7 ⟨rfl, hb7⟩; have hr7 := RO.up (w3 := w3) (v := u7) (L := relPs T (D.take k)) (p := bY) (y := y) (by repeat' (first | assumption | refine RO.drew ?_)) hb7)
                | (go_at_call 14; (with_reducible refine (KX.out _).mono ?_); rintro e w8 ⟨rfl, hb8⟩; have hr8 := RO.up (w3 := w3) (v := u7) (L := relPs T (D.take k)) (p := bY) (y := y) (by repeat' (first | assumption | refine RO.drew ?_)) hb8)
                | (refine step_append_s4 rfl (.tmp 46) (.tmp 54) rfl w3.heap.size u7 (relPs T (D.take k)) qs ⟨#[32]⟩ ts ⟨#[10]⟩ rfl (RO.own (w3 := w3) (p := bY) (y := y) (by repeat' (first | assumption | refine RO.drew ?_ | refine RO.alloc ?_ _))) _ rfl (new4s _ _ _ _ _) HPL.out (RO.bel (w3 := w3) (v := u7) (L := relPs T (D.take k)) (p := bY) (y := y) (by repeat' (first | assumption | refine RO.drew ?_ | refine RO.alloc ?_ _))).size ?_; intro v9 w9 HO9 hg9; have hb9 := RO.app (w3 := w3) (v := u7) (L := relPs T (D.take k)) (p := bY) (y := y) (by repeat' (first | assumption | refine RO.drew ?_ | refine RO.alloc ?_ _)) hg9 HNE.out))
            have HB9 := Lib.hid hb9.1
            clear hb9 hg9 hr6 hr7 hr8 hb6 hb7 hb8 hro HRO
            rw [← HPC.out, ← HTK.out] at HO9
            go_wp2_with fail
            go_roundw
            case rel => exact ⟨k + 1, _, by go_num, rfl, HK1.out, HNA2, HO9, HB9⟩
            case measure => have := HK1.out; first | (simp [intOf]; done) | (simp [intOf]; omega)
          · obtain ⟨i, hi⟩ : ∃ i, k = i + 1 := ⟨k - 1, by omega⟩
            have hil : i < D.length := by omega
            obtain ⟨g1, o1, hA1, hg1, e0, _⟩ := HDR.out.two i hil
            simp only [Option.some.injEq, Addr.mk.injEq] at hA1
            obtain ⟨rfl, rfl, _⟩ := hA1
            rw [← HB.out.cell (p := ⟨g, 0 + i * 2, none⟩) hg1] at e0
            simp only [Nat.zero_add] at e0
            have e0' := cell_keep e0 (bal wr (.cells #[.string D[k].1, .string D[k].2] 56))
            have hj0 : (0 : Int) < (k : Int) := by omega
            have hjn : 0 < k := by omega
            have hin : (i : Int) < (D.length : Int) := by omega
            have t1 : IntKind.i64.wrap ((k : Int) - 1) = (i : Int) := by rw [show (k : Int) - 1 = (i : Int) by omega]; exact IntWalk.i64_in _ (by omega)
            by_cases hEq : D[i].1 = D[k].1
            · have HOD := Lib.hid (HDUP.out i hi.symm hil hEq)
              have hd : (D[i].1.toList == D[k].1.toList) = true := by rw [hEq]; simp
              have HBE := Lib.hid (HB3.out.trans (HB2.out.mono HB3.out.size))
              rw [hEq] at e0 e0' hd
              generalize hy : D[k] = y at *
              clear HNX HDUP hy hk0 hi e0
              have y0 := HNW.out.c0
              go_wp2_with fail
              go_region
              go_wp2_with fail
              go_ret2
              rw [HOD.out]
              exact ⟨rfl, HBE.out.drew⟩
            · have HNA2 := Lib.hid (HNX.out (fun j hj h' => by obtain rfl : j = i := by omega
                                                               exact hEq))
              have hdp : ¬ D[i].1.toList = D[k].1.toList := by rw [Go.ByteArray.toList_eq, Go.ByteArray.toList_eq]; exact fun h => hEq (ByteArray.ext (Array.ext' h))
              have hd : (D[i].1.toList == D[k].1.toList) = false := by simpa using hdp
              generalize hy : D[k] = y at *
              generalize hz : D[i] = z at *
              clear HNX HDUP hy hz hEq hk0 hi e0
              obtain ⟨hy1, hy2⟩ := hyz
              have y0 := HNW.out.c0
              have KQ := Lib.hid (fun w => Qt.quote_any y.1 (by omega) w)
              have KU := Lib.hid (fun w => Dg.sum1_any y.2 (by omega) w)
              have hhl := hsum_lt y.2.data.toList 14695981039346656037 (by decide)
              have HPC := Lib.hid (show relPc y = [⟨(Qt.quoteL y.1.data.toList).toArray⟩, ⟨#[32]⟩, txtH (hsum 14695981039346656037 y.2.data.toList), ⟨#[10]⟩] from rfl)
              generalize (⟨(Qt.quoteL y.1.data.toList).toArray⟩ : ByteArray) = qs at *
              generalize hsum 14695981039346656037 y.2.data.toList = hh at *
              have KX := Lib.hid (fun w => Dg.text_any hh hhl w)
              generalize txtH hh = ts at *
              go_wp2_with fail
              go_region
              have hbD := (Below.refl (wr.alloc (.cells #[.string y.1, .string y.2] 56)).heap.size (wr.alloc (.cells #[.string y.1, .string y.2] 56))).drew
              have HRO := Lib.hid (RO.mk (HB2.out.drew) (own_up HO2.out hbD) (HNW.out.keep hbD))
              have HNE := Lib.hid (show some wr.heap.size ≠ u7.ownBlock from fun e => by have := (HO.out.lt _ e.symm).2; omega)
              clear hbD HNW HB2 HO2 HO HB d0 d1
              generalize (wr.alloc (.cells #[.string y.1, .string y.2] 56)).drew = W2 at *
              generalize wr.heap.size = bY at *
              obtain ⟨y0, y1⟩ := HRO.out.box
              have hro := HRO.out
              go_wp2_with fail
              go_region_held3 (fun w' => w'.cell? ⟨bY, 0, none⟩ = some (.string y.1) ∧ w'.cell? ⟨bY, 1, none⟩ = some (.string y.2))
                (first | assumption | exact RO.two (w3 := w3) (v := u7) (L := relPs T (D.take k)) (by assumption) | exact RO.two (w3 := w3) (v := u7) (L := relPs T (D.take k)) (RO.drew (by assumption)) | exact RO.two (w3 := w3) (v := u7) (L := relPs T (D.take k)) (RO.alloc (by assumption) _) | exact hb9.2 | fail)
                (first
                  | (go_at_call 36; (with_reducible refine (KQ.out _).mono ?_); rintro e w6 ⟨rfl, hb6⟩; have hr6 := RO.up (w3 := w3) (v := u7) (L := relPs T (D.take k)) (p := bY) (y := y) (by repeat' (first | assumption | refine RO.drew ?_)) hb6)
                  | (go_at_call 12; (with_reducible refine (KU.out _).mono ?_); rintro e w7 ⟨rfl, hb7⟩; have hr7 := RO.up (w3 := w3) (v := u7) (L := relPs T (D.take k)) (p := bY) (y := y) (by repeat' (first | assumption | refine RO.drew ?_)) hb7)
                  | (go_at_call 14; (with_reducible refine (KX.out _).mono ?_); rintro e w8 ⟨rfl, hb8⟩; have hr8 := RO.up (w3 := w3) (v := u7) (L := relPs T (D.take k)) (p := bY) (y := y) (by repeat' (first | assumption | refine RO.drew ?_)) hb8)
                  | (refine step_append_s4 rfl (.tmp 46) (.tmp 54) rfl w3.heap.size u7 (relPs T (D.take k)) qs ⟨#[32]⟩ ts ⟨#[10]⟩ rfl (RO.own (w3 := w3) (p := bY) (y := y) (by repeat' (first | assumption | refine RO.drew ?_ | refine RO.alloc ?_ _))) _ rfl (new4s _ _ _ _ _) HPL.out (RO.bel (w3 := w3) (v := u7) (L := relPs T (D.take k)) (p := bY) (y := y) (by repeat' (first | assumption | refine RO.drew ?_ | refine RO.alloc ?_ _))).size ?_; intro v9 w9 HO9 hg9; have hb9 := RO.app (w3 := w3) (v := u7) (L := relPs T (D.take k)) (p := bY) (y := y) (by repeat' (first | assumption | refine RO.drew ?_ | refine RO.alloc ?_ _)) hg9 HNE.out))
              have HB9 := Lib.hid hb9.1
              clear hb9 hg9 hr6 hr7 hr8 hb6 hb7 hb8 hro HRO
              rw [← HPC.out, ← HTK.out] at HO9
              go_wp2_with fail
              go_roundw
              case rel => exact ⟨k + 1, _, by go_num, rfl, HK1.out, HNA2, HO9, HB9⟩
              case measure => have := HK1.out; first | (simp [intOf]; done) | (simp [intOf]; omega)
        · obtain rfl : k = D.length := by omega
          rw [List.take_length] at HO
          have hkl : ¬ (D.length : Int) < (D.length : Int) := by omega
          clear hlt hk
          have HNN := Lib.hid (nodup_adj HSO.out (noAdj_all HNA.out))
          have HOE := Lib.hid (HOK.out D HZ0.out HPM.out HSO.out HNN.out)
          obtain ⟨gg, cc, rfl, hcc⟩ := row_str HO.out (relPs_ne _ _)
          have hpl := relPs_len T D
          have HPS := Lib.hid (show ∀ s ∈ relPs T D, s.size ≤ 1000000 from fun s hs => by
            unfold relPs at hs
            rcases List.mem_cons.1 hs with rfl | hs
            · exact HTS.out HZ0.out
            · obtain ⟨y, hy, hs⟩ := List.mem_flatMap.1 hs
              exact relPc_size (HDZ.out y hy).1 s hs)
          have KSU := Lib.hid (Dg.sum_any (relPs T D) gg cc wr hcc (by rw [hpl]; have := HZ.out.1; have := HLN.out; omega) HPS.out)
          have hhl := hsum_lt ((relPs T D).flatMap fun s => s.data.toList) 14695981039346656037 (by decide)
          have HB5 := Lib.hid (HB3.out.trans (HB.out.mono HB3.out.size))
          change Hid (O = (txtH (hsum 14695981039346656037 ((relPs T D).flatMap fun s => s.data.toList)), 0)) at HOE
          generalize hsum 14695981039346656037 ((relPs T D).flatMap fun s => s.data.toList) = hh at *
          have KTX := Lib.hid (fun w => Dg.text_any hh hhl w)
          generalize (relPs T D).length = pl at *
          clear hcc hpl HO HB hhl
          go_wp2_with fail
          refine KSU.out.mono ?_
          rintro e w8 ⟨rfl, rfl⟩
          go_wp2_with fail
          refine (KTX.out _).mono ?_
          rintro e w9 ⟨rfl, hb9⟩
          have HBE := Lib.hid (HB5.out.trans (hb9.mono HB5.out.size))
          clear hb9
          go_wp2_with fail
          go_ret2
          rw [HOE.out]
          exact ⟨rfl, HBE.out⟩
  · have q0 : (n != 0) = true := by simp [hz]
    have HO := Lib.hid (HCH.out hz)
    clear hz hn
    go_enter Tryz.func19, Tryz.ntmps19
    obtain ⟨x0, x1, x2, x3, x4, x5⟩ := HX.out
    go_wp2_with fail
    refine KT.out.mono ?_
    rintro e w1 ⟨rfl, hb1⟩
    have HB1 := Lib.hid (HB0.out.trans (hb1.mono HB0.out.size))
    clear hb1
    go_wp2_with fail
    go_ret2
    rw [HO.out]
    exact ⟨rfl, HB1.out⟩
end Go.Proofs.YthlcdimofagmfaaGreatDoor
