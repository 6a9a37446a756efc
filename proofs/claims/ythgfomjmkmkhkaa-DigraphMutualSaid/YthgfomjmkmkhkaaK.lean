/-
  Components of the program. Conditions: the slice reads as a graph of at most 900 nodes with at most 1000 successors each.
-/
import Derived.Test.YthgfomjmkmkhkaaJ
import Derived.Test.YthgfomjmkmkhkaaShelf
namespace Go.Proofs.Ythgfomjmkmkhkaa
open Go.RowKit
set_option linter.unusedSimpArgs false
set_option linter.unusedVariables false
def setL (xs : List Value) : Nat → List Value → List Value
  | _, [] => xs
  | o, v :: r => setL (xs.set o v) (o + 1) r
theorem setL_all : ∀ (vs xs : List Value) (o : Nat), xs.length = o + vs.length → setL xs o vs = xs.take o ++ vs
  | [], xs, o, h => by simp at h; simp [setL, ← h]
  | v :: r, xs, o, h => by
    have hlt : o < xs.length := by simp at h; omega
    show setL (xs.set o v) (o + 1) r = _
    rw [setL_all r (xs.set o v) (o + 1) (by simp at h ⊢; omega)]
    rw [List.take_add_one, List.getElem?_set_self hlt, List.take_set]
    rw [List.set_eq_of_length_le (by simp; omega)]
    simp
theorem own_sets {B : Nat} {e : TypeId} {g n cap : Nat} : ∀ (vs : List Value) (o : Nat) (xs : List Value) (w : World), w.ownsRow B e 1 (.slice (some ⟨g, 0, none⟩) n cap) n xs → (w.setCells g o vs).ownsRow B e 1 (.slice (some ⟨g, 0, none⟩) n cap) n (setL xs o vs)
  | [], o, xs, w, h => h
  | v :: r, o, xs, w, h => own_sets r (o + 1) (xs.set o v) _ (World.ownsRow.stored h o v).1
theorem below_sets {B g : Nat} (hg : B ≤ g) : ∀ (vs : List Value) (o : Nat) (w : World), Below B w (w.setCells g o vs)
  | [], o, w => Below.refl _ _
  | v :: r, o, w => ((Below.refl B w).setCell (p := ⟨g, o, none⟩) hg v).trans (below_sets hg r (o + 1) _)
theorem reverse_own {w : World} {B : Nat} {A : Option Addr} {c : Nat} {O : List Nat} (h : w.ownsRow B 3 1 (.slice A O.length c) O.length (icells (ints O))) (hl : O.length ≤ 1000) :
    Calls Try.prog 38 #[.slice A O.length c] w fun e w' => e = .returned (.tuple #[]) ∧ w'.ownsRow B 3 1 (.slice A O.length c) O.length (icells (ints O.reverse)) ∧ Below B w w' := by
  rcases h.2 with ⟨hv, h0⟩ | ⟨g, cap, cur, hv, hbg, r⟩
  · have hO : O = [] := List.eq_nil_of_length_eq_zero h0
    subst hO
    refine (Try.slices_Reverse_int_empty A c w).mono ?_
    rintro e w' ⟨rfl, rfl⟩
    exact ⟨rfl, h, Below.refl _ _⟩
  · injection hv with e1 e2 e3
    subst e1
    refine (Try.slices_Reverse_int_cells g 0 O.length c (ints O) w (by rw [ints_len]; exact Nat.le_refl _) (by omega) (fun j hj => ?_) (fun j hj => by rw [Nat.zero_add]; exact World.ownsRow.frozenAt h j)).mono ?_
    · rw [ints_len] at hj
      rw [Nat.zero_add, World.ownsRow.cellAt h j (by omega)]
      simp [icells, ints, List.getD_eq_getElem?_getD, List.getElem?_eq_getElem hj]
    · rintro e w' ⟨rfl, q, rfl⟩
      refine ⟨rfl, ?_, (bdrewN (Below.refl _ _) q).trans (below_sets hbg _ _ _)⟩
      have h1 : (w.drewN q).ownsRow B 3 1 (.slice (some ⟨g, 0, none⟩) O.length c) O.length (icells (ints O)) := own_below h (bdrewN (Below.refl _ _) q)
      have h2 := own_sets (((ints O).take O.length).reverse.map (Value.int .i64)) 0 _ _ h1
      rw [setL_all _ _ _ (by simp [icells, ints])] at h2
      rw [List.take_of_length_le (by rw [ints_len]; exact Nat.le_refl _)] at h2 ⊢
      have e : icells (ints O.reverse) = (icells (ints O)).take 0 ++ (ints O).reverse.map (Value.int .i64) := by simp [icells, ints]
      rw [e]; exact h2
theorem foldl_min : ∀ (l : List Int) (a : Int), (l.foldl min a = a ∨ l.foldl min a ∈ l) ∧ l.foldl min a ≤ a ∧ ∀ x ∈ l, l.foldl min a ≤ x
  | [], a => ⟨Or.inl rfl, Int.le_refl _, by simp⟩
  | x :: r, a => by
    obtain ⟨h1, h2, h3⟩ := foldl_min r (min a x)
    have hmin : min a x = a ∨ min a x = x := by rcases Int.le_total a x with h | h; exact Or.inl (Int.min_eq_left h); exact Or.inr (Int.min_eq_right h)
    have hl : min a x ≤ a := Int.min_le_left _ _
    have hr : min a x ≤ x := Int.min_le_right _ _
    simp only [List.foldl_cons, List.mem_cons]
    refine ⟨?_, Int.le_trans h2 hl, ?_⟩
    · rcases h1 with h1 | h1
      · rcases hmin with h | h
        · left; rw [h1, h]
        · right; left; rw [h1, h]
      · exact Or.inr (Or.inr h1)
    · rintro y (rfl | hy)
      · exact Int.le_trans h2 hr
      · exact h3 y hy
theorem min_nat {M : List Nat} (h : M ≠ []) : ∃ f : Nat, Lib.minOf (ints M) = (f : Int) ∧ f ∈ M ∧ ∀ x ∈ M, f ≤ x := by
  obtain ⟨a, r, rfl⟩ : ∃ a r, M = a :: r := by
    cases M with
    | nil => exact absurd rfl h
    | cons a r => exact ⟨a, r, rfl⟩
  obtain ⟨h1, h2, h3⟩ := foldl_min (ints (a :: r)) (a : Int)
  have e : Lib.minOf (ints (a :: r)) = (ints (a :: r)).foldl min (a : Int) := rfl
  have hm : (ints (a :: r)).foldl min (a : Int) ∈ ints (a :: r) := by
    rcases h1 with h1 | h1
    · rw [h1]; simp [ints]
    · exact h1
  rw [ints, List.mem_map] at hm
  obtain ⟨f, hf, e2⟩ := hm
  refine ⟨f, by rw [e]; exact e2.symm, hf, fun x hx => ?_⟩
  have := h3 (x : Int) (by rw [ints, List.mem_map]; exact ⟨x, hx, rfl⟩)
  have e3 : (ints (a :: r)).foldl min (a : Int) = (f : Int) := e2.symm
  rw [e3] at this
  omega
theorem min_own {w : World} {B : Nat} {A : Option Addr} {c : Nat} {M : List Nat} (h : w.ownsRow B 3 1 (.slice A M.length c) M.length (icells (ints M))) (h0 : M ≠ []) (hl : M.length ≤ 1000) :
    Calls Try.prog 40 #[.slice A M.length c] w fun e w' => ∃ f : Nat, e = .returned (.int .i64 (f : Int)) ∧ f ∈ M ∧ (∀ x ∈ M, f ≤ x) ∧ w' = w := by
  have hpos : 0 < M.length := List.length_pos_iff.2 h0
  rcases h.2 with ⟨hv, h1⟩ | ⟨g, cap, cur, hv, hbg, r⟩
  · omega
  · injection hv with e1 e2 e3
    subst e1
    refine (Try.slices_Min_int g 0 M.length c (ints M) w hpos (by rw [ints_len]; exact Nat.le_refl _) (by omega) (fun j hj => ?_)).mono ?_
    · rw [ints_len] at hj
      rw [Nat.zero_add, World.ownsRow.cellAt h j (by omega)]
      simp [icells, ints, List.getD_eq_getElem?_getD, List.getElem?_eq_getElem hj]
    · rintro e w' ⟨rfl, rfl⟩
      obtain ⟨f, e1, h1, h2⟩ := min_nat h0
      rw [List.take_of_length_le (by rw [ints_len]; exact Nat.le_refl _), e1]
      exact ⟨f, rfl, h1, h2, rfl⟩
theorem row_grown {w wr : World} {g0 : Nat} {B : Nat} {A : Option Addr} {c : Nat} {O : List Nat} (h : w.ownsRow B 3 1 (.slice A O.length c) O.length (icells (ints O))) (hg : w.grownBy wr (some g0)) (hB : g0 < B) : wr.ownsRow B 3 1 (.slice A O.length c) O.length (icells (ints O)) := by
  refine World.ownsRow.kept h hg ?_
  rcases hv : (Value.slice A O.length c).ownBlock with _ | j
  · exact Or.inl rfl
  · right; intro e
    have := Option.some.inj e
    have := (World.ownsRow.lt h j hv).1
    omega
theorem CS.row_of {w wr : World} {g0 k : Nat} {D : List Int} {M : List Nat} {vm : Value} (C : CS w wr g0 k D M vm) {B : Nat} {A : Option Addr} {c : Nat} {O : List Nat} (h : w.ownsRow B 3 1 (.slice A O.length c) O.length (icells (ints O))) (hB : g0 < B) : wr.ownsRow B 3 1 (.slice A O.length c) O.length (icells (ints O)) := by
  refine World.ownsRow.kept h C.gr ?_
  rcases hv : (Value.slice A O.length c).ownBlock with _ | j
  · exact Or.inl rfl
  · right; intro e
    have := Option.some.inj e
    have := (World.ownsRow.lt h j hv).1
    omega
set_option maxRecDepth 100000 in
set_option maxHeartbeats 8000000 in
theorem pcomp_any (A : Option Addr) (c : Nat) (gs : Gr) (w : World) (h : RG w w.heap.size A gs) (hl : gs.length ≤ 900) (hl2 : ∀ l ∈ gs, l.length ≤ 1000) :
    Calls Try.prog 23 #[.slice A gs.length c] w (GivesI (comps gs) w) := by
  have HX := Lib.hid h
  have CRV := Lib.hid (fun W (hb : Below w.heap.size w W) => preverse_any A c gs W (HX.out.up hb) hl hl2)
  have CFI := Lib.hid (fun W (hb : Below w.heap.size w W) => finished_any A c gs W (HX.out.up hb) hl hl2)
  have CCO := Lib.hid (fun Ab cb g0 lo n D W hB hlo hg0 hrow hD => collect_any Ab cb gs g0 lo n D W hB hlo hg0 hrow hl hD)
  have HMK := Try.make23 gs.length (by omega) w
  have HI0 := Lib.hid (ir_new w gs.length (by omega))
  have HB0 := Lib.hid ((Below.refl w.heap.size w).alloc (Nat.le_refl _) (.cells (madeCells #[.int .i64 0] gs.length) 3))
  have HS0 : Hid (w.heap.size + 1 ≤ (w.alloc (.cells (madeCells #[.int .i64 0] gs.length) 3)).heap.size) := Lib.hid (by simp)
  have HLR := Lib.hid (rev_len gs)
  obtain ⟨k, hk⟩ : ∃ k, gs.length = k := ⟨_, rfl⟩
  have HK := Lib.hid hk
  rw [hk] at hl HMK HI0 HB0 HS0 HLR CCO CRV CFI ⊢
  clear h hl2 hk HX
  go_enter Try.func23, Try.ntmps23
  go_wp2_with fail
  generalize w.alloc (.cells (madeCells #[.int .i64 0] k) 3) = w0 at *
  go_loopw [18] (fun s18 wr => ∃ (i : Nat) (xs : List Int), s18 = .int .i64 (i : Int) ∧ i ≤ k ∧ Hid (IRow wr w.heap.size k xs) ∧ Hid (∀ j, j < i → xs[j]? = some (-1)) ∧ Hid (Below w.heap.size w wr) ∧ Hid (w.heap.size + 1 ≤ wr.heap.size)) (fun s18 _ => (k - intOf s18).toNat)
  case atStart => exact ⟨0, _, rfl, by omega, HI0, Lib.hid (fun j hj => by omega), HB0, HS0⟩
  case round =>
    clear HI0 HB0 HS0 HMK
    obtain ⟨i, xs, rfl, hi, HI, HS, HB, HSZ⟩ := hrel
    by_cases hlt : i < k
    · have hki : (i : Int) < (k : Int) := by omega
      have hk0 : (0 : Int) ≤ (i : Int) := by omega
      have HIK := Lib.hid (show i + 1 ≤ k by omega)
      obtain ⟨y, hy⟩ : ∃ y, xs[i]? = some y := ⟨_, List.getElem?_eq_getElem (by rw [ir_len HI.out]; exact hlt)⟩
      obtain ⟨hg, hc, hf⟩ := ir_at HI.out i hlt y hy
      have HI2 := Lib.hid (ir_set HI.out i (-1))
      have HS2 := Lib.hid (show ∀ j, j < i + 1 → (xs.set i (-1))[j]? = some (-1) from fun j hj => by
        by_cases hjk : i = j
        · subst hjk; rw [List.getElem?_set_self (by rw [ir_len HI.out]; exact hlt)]
        · rw [List.getElem?_set_ne hjk]; exact HS.out j (by omega))
      have HB2 := Lib.hid (HB.out.setCell (p := ⟨w.heap.size, i, none⟩) (Nat.le_refl _) (.int .i64 (-1)))
      have HSZ2 : Hid (w.heap.size + 1 ≤ (wr.setCell ⟨w.heap.size, i, none⟩ (.int .i64 (-1))).heap.size) := Lib.hid (by simp; exact HSZ.out)
      clear hlt HI HS HB hy CRV CFI CCO
      go_wp2_with fail
      go_roundw
      case rel => exact ⟨i + 1, _, by go_num, HIK.out, HI2, HS2, HB2, HSZ2⟩
      case measure => have := HIK.out; first | (simp [intOf]; done) | (simp [intOf]; omega)
    · obtain rfl : i = k := by omega
      have hki : ¬ (i : Int) < (i : Int) := by omega
      have HXS : Hid (xs = List.replicate i (-1)) := Lib.hid (by
        refine List.ext_getElem? fun j => ?_
        rcases Nat.lt_or_ge j i with hj | hj
        · rw [HS.out j hj]; simp [hj]
        · rw [List.getElem?_eq_none (by rw [ir_len HI.out]; exact hj), List.getElem?_eq_none (by simpa using hj)])
      have CR := Lib.hid (CRV.out wr HB.out)
      clear hlt hi HS CRV
      go_wp2_with fail
      obtain ⟨wr0, rfl⟩ : ∃ x, x = wr := ⟨_, rfl⟩
      refine CR.out.mono ?_
      rintro e w2 ⟨Ab, cb, rfl, hR2, hb2⟩
      have HR2 := Lib.hid hR2
      have HB2 := Lib.hid (HB.out.trans (hb2.mono HB.out.size))
      have HI2 := Lib.hid (ir_below HI.out hb2)
      have HLO := Lib.hid (show w.heap.size < wr0.heap.size from HSZ.out)
      have HSZ2 := Lib.hid (Nat.le_trans HSZ.out hb2.size)
      have CF := Lib.hid (CFI.out w2 HB2.out)
      clear hR2 hb2 CR CFI
      rw [HLR.out]
      go_wp2_with fail
      refine CF.out.mono ?_
      rintro e w3 ⟨Ao, co, O, ⟨hF, hA⟩, rfl, hO3, hb3⟩
      have HF := Lib.hid hF
      have HALL : Hid (∀ x, x < gs.length → x ∈ O) := Lib.hid (fun x hx => hA x (by have := HK.out; omega))
      have HOL : Hid (O.length ≤ i) := Lib.hid (by have := pig gs.length O hF.nod hF.lt; have := HK.out; omega)
      have HO3 := Lib.hid hO3
      have HB3 := Lib.hid hb3
      have CV := Lib.hid (reverse_own hO3 (by have := HOL.out; omega))
      clear hF hA hO3 hb3 CF
      go_wp2_with fail
      refine CV.out.mono ?_
      rintro e w4 ⟨rfl, hO4, hb4⟩
      have HB24 := Lib.hid (HB3.out.trans hb4)
      have HB4 := Lib.hid (HB2.out.trans (HB24.out.mono HB2.out.size))
      have HR4 := Lib.hid (HR2.out.keep HB24.out)
      have HI4 := Lib.hid (ir_below HI2.out HB24.out)
      have HSZ4 := Lib.hid (Nat.le_trans HSZ2.out HB24.out.size)
      have HLO2 := Lib.hid (show w.heap.size < w2.heap.size from HSZ2.out)
      obtain ⟨L, hL⟩ : ∃ L, O.reverse = L := ⟨_, rfl⟩
      have hLl : L.length = O.length := by rw [← hL]; simp
      rw [hL] at hO4
      rw [← hLl] at hO4 ⊢
      have HL := Lib.hid hL
      have HLl := Lib.hid hLl
      have HO4 := Lib.hid hO4
      have HK0 : Hid (KC gs L xs 0) := Lib.hid (by rw [HXS.out, ← HK.out]; exact kc_start gs L)
      have hL1000 : L.length ≤ 1000 := by have := HOL.out; omega
      clear hL hLl hO4 hb4 CV HO3 HB3 HB24 HB2 HR2 HI2 HI HB HXS
      go_wp2_with fail
      go_loopw [33] (fun s33 wr5 => ∃ (j : Nat) (D : List Int), s33 = .int .i64 (j : Int) ∧ j ≤ L.length ∧ Hid (w4.grownBy wr5 (some w.heap.size)) ∧ Hid (IRow wr5 w.heap.size i D) ∧ Hid (KC gs L D j)) (fun s33 _ => (L.length - intOf s33).toNat)
      case atStart => exact ⟨0, _, rfl, by omega, Lib.hid (World.grownBy.rfl' _ _), HI4, HK0⟩
      case round =>
        clear HI4 HK0
        obtain ⟨j, D, rfl, hj, HG, HI, HKC⟩ := hrel
        obtain ⟨wr5, rfl⟩ : ∃ x, x = wr := ⟨_, rfl⟩
        by_cases hjl : j < L.length
        · have hki : (j : Int) < (L.length : Int) := by omega
          have hk0 : (0 : Int) ≤ (j : Int) := by omega
          have HJ1 := Lib.hid (show j + 1 ≤ L.length by omega)
          obtain ⟨n, hn⟩ : ∃ n, L[j]? = some n := ⟨_, List.getElem?_eq_getElem hjl⟩
          have hnk : n < gs.length := HF.out.lt n (by rw [← List.mem_reverse, HL.out]; exact List.mem_of_getElem? hn)
          have HO5 := Lib.hid (row_grown HO4.out HG.out HLO2.out)
          obtain ⟨a1, hAo, _, hcj⟩ := row_at HO5.out j (by rw [ints_len]; exact hjl)
          have hcj2 : wr5.cell? (a1.add j) = some (.int .i64 (n : Int)) := by
            rw [hcj]; rw [List.getElem?_eq_getElem hjl] at hn; simp [ints, Option.some.inj hn]
          subst hAo
          have hn0 : (0 : Int) ≤ (n : Int) := by omega
          have hn1 : (n : Int) < (i : Int) := by have := HK.out; omega
          obtain ⟨u, hu⟩ : ∃ u, D[n]? = some u := ⟨_, List.getElem?_eq_getElem (by rw [HKC.out.len]; exact hnk)⟩
          obtain ⟨_, hcn, hfn⟩ := ir_at HI.out n (by have := HK.out; omega) u hu
          have HN := Lib.hid hn
          have HU := Lib.hid hu
          clear hcj hn hu hnk hjl hj
          by_cases hu0 : u < 0
          · have hsz5 := HG.out.size
            have CC := Lib.hid (CCO.out Ab cb w.heap.size wr0.heap.size n D wr5 (HR4.out.grown HG.out HLO.out) HLO.out (by have := HSZ4.out; omega) HI.out ⟨u, HU.out, hu0⟩)
            clear hsz5
            go_wp2_with fail
            refine CC.out.mono ?_
            rintro e w6 ⟨Am, cm, M, D6, rfl, hS6, hM6⟩
            have HS6 := Lib.hid hS6
            have HM6 := Lib.hid hM6
            have hML : M.length ≤ 900 := by have := pig gs.length M hM6.nod (fun x hx => (hM6.frm x hx).1); have := HK.out; omega
            have CMi := Lib.hid (min_own hS6.mem (fun e => by have := hM6.mem; rw [e] at this; simp at this) (by omega))
            clear hS6 hM6 CC hcj2 hcn hfn
            go_wp2_with fail
            refine CMi.out.mono ?_
            rintro e w7 ⟨f, rfl, hfM, hfmin, rfl⟩
            have HFM := Lib.hid hfM
            have HFMIN := Lib.hid hfmin
            have HW0 := Lib.hid (kw_start HM6.out f)
            have hsz5 : w.heap.size < wr5.heap.size := by have := HG.out.size; have := HSZ4.out; omega
            have HSZ5 := Lib.hid hsz5
            clear hfM hfmin CMi hsz5
            go_wp2_with fail
            go_loopw [50] (fun s50 wr8 => ∃ (t : Nat) (D8 : List Int), s50 = .int .i64 (t : Int) ∧ t ≤ M.length ∧ Hid (CS wr5 wr8 w.heap.size i D8 M (.slice Am M.length cm)) ∧ Hid (KW gs D6 D8 M f t)) (fun s50 _ => (M.length - intOf s50).toNat)
            case atStart => exact ⟨0, _, rfl, by omega, HS6, HW0⟩
            case round =>
              clear HS6 HW0
              obtain ⟨t, D8, rfl, ht, HS8, HW8⟩ := hrel
              obtain ⟨wr8, rfl⟩ : ∃ x, x = wr := ⟨_, rfl⟩
              by_cases htl : t < M.length
              · have hki : (t : Int) < (M.length : Int) := by omega
                have hk0 : (0 : Int) ≤ (t : Int) := by omega
                have HT1 := Lib.hid (show t + 1 ≤ M.length by omega)
                obtain ⟨x, hx⟩ : ∃ x, M[t]? = some x := ⟨_, List.getElem?_eq_getElem htl⟩
                have hxk : x < gs.length := (HM6.out.frm x (List.mem_of_getElem? hx)).1
                obtain ⟨a8, hAm, _, hct⟩ := row_at HS8.out.mem t (by rw [ints_len]; exact htl)
                have hct2 : wr8.cell? (a8.add t) = some (.int .i64 (x : Int)) := by
                  rw [hct]; rw [List.getElem?_eq_getElem htl] at hx; simp [ints, Option.some.inj hx]
                subst hAm
                have hx0 : (0 : Int) ≤ (x : Int) := by omega
                have hx1 : (x : Int) < (i : Int) := by have := HK.out; omega
                obtain ⟨y, hy⟩ : ∃ y, D8[x]? = some y := ⟨_, List.getElem?_eq_getElem (by rw [HW8.out.len]; exact hxk)⟩
                obtain ⟨_, hcx, hfx⟩ := ir_at HS8.out.row x (by have := HK.out; omega) y hy
                have HS9 := Lib.hid (HS8.out.set HSZ5.out x (f : Int))
                have HW9 := Lib.hid (kw_step HW8.out hx hxk)
                clear hct hx hy hxk htl ht
                go_wp2_with fail
                go_roundw
                case rel => exact ⟨t + 1, _, by go_num, HT1.out, HS9, HW9⟩
                case measure => have := HT1.out; first | (simp [intOf]; done) | (simp [intOf]; omega)
              · obtain rfl : t = M.length := by omega
                have hki : ¬ (M.length : Int) < (M.length : Int) := by omega
                have HKC9 := Lib.hid (show KC gs L D8 (j + 1) by
                  have h := kc_step (O := O) HF.out HALL.out (by rw [HL.out]; exact HKC.out) (by rw [HL.out]; exact HN.out) HM6.out HFM.out HFMIN.out HW8.out
                  rw [HL.out] at h
                  exact h)
                have HG9 := Lib.hid (show w4.grownBy wr8 (some w.heap.size) from World.grownBy.trans HG.out HS8.out.gr)
                have HI9 := Lib.hid HS8.out.row
                clear htl ht
                go_wp2_with fail
                go_roundw
                case rel => exact ⟨j + 1, _, by go_num, HJ1.out, HG9, HI9, HKC9⟩
                case measure => have := HJ1.out; first | (simp [intOf]; done) | (simp [intOf]; omega)
          · have HKC9 := Lib.hid (kc_skip HKC.out HN.out HU.out (by omega))
            clear hfn
            go_wp2_with fail
            go_roundw
            case rel => exact ⟨j + 1, _, by go_num, HJ1.out, HG, HI, HKC9⟩
            case measure => have := HJ1.out; first | (simp [intOf]; done) | (simp [intOf]; omega)
        · obtain rfl : j = L.length := by omega
          have hki : ¬ (L.length : Int) < (L.length : Int) := by omega
          have HZ := Lib.hid (kc_end (g := gs) (O := O) (D := D) HALL.out (by rw [HL.out]; have h := HKC.out; rw [HLl.out] at h; exact h))
          clear hjl hj
          go_wp2_with fail
          go_ret
          rw [← HZ.out]
          refine gives_ir HI.out ?_
          exact HB4.out.grown HG.out (by have := HB4.out.size; omega) (fun j hj => by have := Option.some.inj hj; omega)
end Go.Proofs.Ythgfomjmkmkhkaa
