/-
  The limit of a literal's length: the law QuoteLimit. No condition.
-/
import Derived.Test.YtadeejoekeaeeaaJ
import Derived.Test.YtadeejoekeaeeaaK2
import Derived.Test.YtadeejoekeaeeaaRD
import Derived.Laws.OwnMore
import Derived.Laws.MakeOwn
namespace Go.Proofs.Ytadeejoekeaeeaa
open Go.RowKit
set_option linter.unusedSimpArgs false
set_option linter.unusedVariables false
theorem wf_i8 {x : Int} (h : (Lit.int .i8 x).wf = true) : -128 ≤ x ∧ x ≤ 127 := by
  simpa [Lit.wf, IntKind.min, IntKind.max, IntKind.signed, IntKind.bits] using h
theorem wf_u8 {x : Int} (h : (Lit.int .u8 x).wf = true) : 0 ≤ x ∧ x ≤ 255 := by
  simpa [Lit.wf, IntKind.min, IntKind.max, IntKind.signed, IntKind.bits] using h
def repT (n : Nat) (b : UInt8) : List UInt8 := [34] ++ List.replicate (n - 2) b ++ [34]
theorem body_rep (m : Nat) (b : UInt8) (hb : wrB b = [b]) : body (List.replicate m b) = List.replicate m b := by
  induction m with
  | zero => rfl
  | succ m ih =>
    have hh : body (b :: List.replicate m b) = wrB b ++ body (List.replicate m b) := by simp [body]
    rw [List.replicate_succ, hh, hb, ih]; rfl
theorem unq_rep_big (n : Nat) (b : UInt8) (hn : 65536 < n) : unq (repT n b) = ([], 2, 0) := unq_big (by simp [repT]; omega)
theorem unq_rep (n : Nat) (b : UInt8) (hb : wrB b = [b]) (h2 : 2 ≤ n) (hn : n ≤ 65536) : unq (repT n b) = (List.replicate (n - 2) b, 0, 0) := by
  have hl : (repT n b).length = n := by simp [repT]; omega
  rw [unq_sc (by omega) (by rintro (h | h); omega; exact h rfl), hl]
  have hd : (repT n b).drop 1 = body (List.replicate (n - 2) b) ++ [34] := by rw [body_rep _ _ hb]; simp [repT]
  have hbl : (body (List.replicate (n - 2) b)).length = n - 2 := by rw [body_rep _ _ hb]; simp
  rw [hd]
  obtain ⟨h1, h3⟩ := sc_body (List.replicate (n - 2) b) n 1 [] [34] (by rw [hbl]; simp; omega)
  rw [h1]
  simp only [List.length_replicate, List.nil_append]
  rw [show n - (n - 2) = 1 + 1 by omega, sc_q (by decide), if_pos rfl]
theorem rep_set {n : Nat} {b : UInt8} {xs : List UInt8} (h2 : 2 ≤ n) (hl : xs.length = n) (h : ∀ j, j < n → xs[j]? = some b) : (xs.set 0 34).set (n - 1) 34 = repT n b := by
  apply List.ext_getElem?
  intro j
  unfold repT
  by_cases h0 : j = 0
  · subst h0
    rw [List.getElem?_set_ne (by omega), List.getElem?_set_self (by omega)]; rfl
  · by_cases h1 : j = n - 1
    · subst h1
      rw [List.getElem?_set_self (by simp; omega), List.getElem?_append_right (by simp; omega)]
      have : n - 1 - ([34] ++ List.replicate (n - 2) b).length = 0 := by simp; omega
      simp only [this]
      rfl
    · rw [List.getElem?_set_ne (by omega), List.getElem?_set_ne (by omega)]
      by_cases hj : j < n
      · rw [h j hj, List.getElem?_append_left (by simp; omega), List.getElem?_append_right (by simp; omega), List.getElem?_replicate, if_pos (by simp; omega)]
      · rw [List.getElem?_eq_none (by omega), List.getElem?_eq_none (by simp; omega)]
theorem made_rep (n : Nat) : (madeCells #[.int .u8 0] n).toList = Lib.byteCells (List.replicate n 0) := by
  rw [toList_madeCells_one]; simp [Lib.byteCells]
/-- a row of bytes at the head of a block -/
def BRow (w : World) (g n : Nat) (xs : List UInt8) : Prop := w.ownsRow g 5 1 (.slice (some ⟨g, 0, none⟩) n n) n (Lib.byteCells xs)
theorem brow_len {w : World} {g n : Nat} {xs : List UInt8} (h : BRow w g n xs) : xs.length = n := by
  have := h.1; simpa [Lib.byteCells] using this
theorem brow_at {w : World} {g n : Nat} {xs : List UInt8} (h : BRow w g n xs) (j : Nat) (hj : j < n) :
    g < w.heap.size ∧ w.cell? ⟨g, j, none⟩ = some (.int .u8 ((xs.getD j 0).toNat : Int)) ∧ w.frozen? ⟨g, j, none⟩ = false := by
  have hl := brow_len h
  refine ⟨?_, ?_, World.ownsRow.frozenAt h j⟩
  · rcases h.2 with ⟨hv, _⟩ | ⟨g', cap, cur, hv, _, hg, _⟩
    · cases hv
    · cases hv; exact (Array.getElem?_eq_some_iff.1 hg).1
  · rw [World.ownsRow.cellAt h j (by omega)]
    simp [Lib.byteCells, List.getD_eq_getElem?_getD, List.getElem?_eq_getElem (by omega : j < xs.length)]
theorem brow_set {w : World} {g n : Nat} {xs : List UInt8} (h : BRow w g n xs) (j : Nat) (b : UInt8) (x : Int) (hx : x = (b.toNat : Int)) : BRow (w.setCell ⟨g, j, none⟩ (.int .u8 x)) g n (xs.set j b) := by
  subst hx
  have := (World.ownsRow.stored h j (.int .u8 (b.toNat : Int))).1
  unfold BRow
  rw [show Lib.byteCells (xs.set j b) = (Lib.byteCells xs).set j (.int .u8 (b.toNat : Int)) by simp [Lib.byteCells, List.map_set]]
  exact this
theorem Try.make31 (n : Nat) (hn : n ≤ 100000) (w : World) : (Instr.makeSlice 31 (.int .i64 (n : Int)) (.int .i64 (n : Int))).run Try.prog w = .ok (.slice (some ⟨w.heap.size, 0, none⟩) n n) (w.alloc (.cells (madeCells #[.int .u8 0] n) 5)) := by
  obtain ⟨i0, hi, hz0, hz1, hz2⟩ := info_parts Try.info5
  have := run_make (P := Try.prog) w 31 5 i0 (.int .u8 0) Try.underlying31 hi hz0 .i64 .i64 n n (by omega) (Int.le_refl _) (by rw [hz2]; omega) (by omega)
  rw [hz1] at this
  simp at this
  exact this
theorem brow_new (w : World) (n : Nat) (hn : n ≤ 100000) : BRow (w.alloc (.cells (madeCells #[.int .u8 0] n) 5)) w.heap.size n (List.replicate n 0) := by
  unfold BRow
  rw [← made_rep]
  exact World.ownsRow_lit w _ n (Nat.le_refl _) (by unfold maxLen; omega) (by simp [size_madeCells])
theorem brow_below {w w' : World} {g n : Nat} {xs : List UInt8} (h : BRow w g n xs) (hb : Below w.heap.size w w') : BRow w' g n xs := own_below h hb
theorem brow_str {w : World} {g n : Nat} {xs : List UInt8} (h : BRow w g n xs) : (convert 31 9 (.slice (some ⟨g, 0, none⟩) n n)).run Try.prog w = .ok (.string ⟨xs.toArray⟩) w := by
  have hl := brow_len h
  have h' : w.ownsRow g 5 1 (.slice (some ⟨g, 0, none⟩) n n) xs.length (Lib.byteCells xs) := by rw [hl]; exact h
  exact own_string h'
theorem brow_mid {w : World} {g n : Nat} {xs ys : List UInt8} (h : BRow w g n xs) (a cap : Nat) (hy : ∀ j, j < ys.length → xs[a + j]? = ys[j]?) (han : a + ys.length ≤ n) (l : Nat) (hl : l = ys.length) :
    (convert 31 9 (.slice (some ⟨g, a, none⟩) l cap)).run Try.prog w = .ok (.string ⟨ys.toArray⟩) w := by
  subst hl
  refine Go.run_convert_bytes_back w 31 9 5 ⟨g, a, none⟩ cap ys Try.underlying31 Try.underlying5 Try.underlying9 (fun j hj => ?_)
  rw [show (⟨g, a, none⟩ : Addr).add j = ⟨g, a + j, none⟩ by unfold Addr.add; split <;> simp_all]
  rw [(brow_at h (a + j) (by omega)).2.1, List.getD_eq_getElem?_getD, hy j hj, List.getElem?_eq_getElem hj]
  rfl
set_option maxRecDepth 100000 in
set_option maxHeartbeats 4000000 in
theorem limit_main (d : Int) (n : Nat) (b : UInt8) (hn : (n : Int) = 65536 + d) (hd0 : -20 ≤ d) (hd1 : d ≤ 20) (hb0 : 35 ≤ b.toNat) (hb1 : b.toNat ≤ 91) (w : World) :
    Calls Try.prog 5 #[.int .i8 d, .int .u8 (b.toNat : Int)] w fun e w' => e = .returned (.bool true) ∧ Below w.heap.size w w' := by
  have hwr := wr_c (c := b) (by omega) (by omega) ⟨by omega, by omega⟩
  have h2 : 2 ≤ n := by omega
  have hn5 : n ≤ 70000 := by omega
  have e0 : IntKind.i64.wrap d = d := by simp [IntKind.wrap, IntKind.bits, IntKind.signed]; omega
  have e1 : IntKind.i64.wrap (65536 + d) = (n : Int) := by simp [IntKind.wrap, IntKind.bits, IntKind.signed]; omega
  have e2 : 65536 + d = (n : Int) := by omega
  have e3 : IntKind.i64.wrap (n : Int) = (n : Int) := by simp [IntKind.wrap, IntKind.bits, IntKind.signed]; omega
  have q1 : ¬ d < -20 := by omega
  have q2 : ¬ 20 < d := by omega
  have q3 : ¬ (b.toNat : Int) < 35 := by omega
  have q4 : ¬ (91 : Int) < (b.toNat : Int) := by omega
  have hmk := Try.make31 n (by omega)
  have HBN := Lib.hid (brow_new w n (by omega))
  obtain ⟨X, hX⟩ : ∃ X, X = madeCells #[.int .u8 0] n := ⟨_, rfl⟩
  rw [← hX] at hmk HBN
  clear hX hn
  go_enter Try.func5, Try.ntmps5
  go_wp2_with fail
  go_loopw [30] (fun i wr => ∃ (k : Nat) (xs : List UInt8), k ≤ n ∧ i = .int .i64 (k : Int) ∧ (∀ j, j < k → xs[j]? = some b) ∧ BRow wr w.heap.size n xs ∧ Below w.heap.size w wr) (fun i _ => n - (intOf i).toNat)
  case atStart => exact ⟨0, _, Nat.zero_le _, rfl, by intro j hj; omega, HBN.out, (Below.refl _ _).alloc (Nat.le_refl _) _⟩
  case round =>
    obtain ⟨k, xs, hk, rfl, hx, hrow, hB⟩ := hrel
    have hl := brow_len hrow
    by_cases hlt : k < n
    · obtain ⟨z0, c0, f0⟩ := brow_at hrow k hlt
      have HR2 := Lib.hid (brow_set hrow k b _ rfl)
      have HB2 := Lib.hid (hB.setCell (p := ⟨w.heap.size, k, none⟩) (Nat.le_refl _) (.int .u8 (b.toNat : Int)))
      clear hrow hB
      go_wp2_with fail
      go_roundw
      case rel =>
        refine ⟨k + 1, _, by omega, by go_num, ?_, HR2.out, HB2.out⟩
        intro j hj
        by_cases hjk : j = k
        · subst hjk; exact List.getElem?_set_self (by omega)
        · rw [List.getElem?_set_ne (by omega)]; exact hx j (by omega)
      case measure => simp [intOf]; omega
    · have hke : k = n := by omega
      have hT := rep_set h2 hl (by rw [← hke]; exact hx)
      obtain ⟨m, hm⟩ : ∃ m, m = n - 1 := ⟨_, rfl⟩
      rw [← hm] at hT
      have e4 : IntKind.i64.wrap ((n : Int) - 1) = (m : Int) := by simp [IntKind.wrap, IntKind.bits, IntKind.signed]; omega
      have e5 : (n : Int) - 1 = (m : Int) := by omega
      have e6 : IntKind.i64.wrap (m : Int) = (m : Int) := by simp [IntKind.wrap, IntKind.bits, IntKind.signed]; omega
      have hmn : m < n := by omega
      have n0 : 0 < n := by omega
      obtain ⟨z0, c0, f0⟩ := brow_at hrow 0 (by omega)
      obtain ⟨_, cm, fm⟩ := brow_at hrow m (by omega)
      have m0 : ¬ m = 0 := by omega
      have m0' : ¬ 0 = m := by omega
      have r1 := brow_set hrow 0 34 34 rfl
      obtain ⟨z1, c1, f1⟩ := brow_at r1 m (by omega)
      have r2 := brow_set r1 m 34 34 rfl
      rw [hT] at r2
      have hcv := brow_str r2
      have HR2 := Lib.hid r2
      have HB2 := Lib.hid ((hB.setCell (p := ⟨w.heap.size, 0, none⟩) (Nat.le_refl _) (.int .u8 34)).setCell (p := ⟨w.heap.size, m, none⟩) (Nat.le_refl _) (.int .u8 34))
      have HM := Lib.hid hm
      clear hrow hB r1 r2 hx hl hk hke hT hm
      obtain ⟨T, hTT⟩ : ∃ T : ByteArray, T = ⟨(repT n b).toArray⟩ := ⟨_, rfl⟩
      rw [← hTT] at hcv
      have hTl : T.data.toList = repT n b := by rw [hTT]
      by_cases hpos : 0 < d
      · have C1 := Lib.hid (unquote_at T ⟨#[]⟩ 2 0 (by rw [hTl]; exact unq_rep_big n b (by omega)))
        have q0 : ∀ w, (Op.equalIn 10000 27 (.agg #[.int .i64 2, .int .i64 0]) (.agg #[.int .i64 2, .int .i64 0])).run Try.prog w = .ok true w := fun w => by rw [eqF]; simp
        clear hTT hTl hwr HR2 HBN hmk
        go_wp2_with fail
        refine (C1.out _).mono ?_
        rintro e w3 ⟨rfl, hb3⟩
        have B3 := HB2.out.trans (hb3.mono HB2.out.size)
        have B4 := B3.alloc B3.size (.cells #[.int .i64 2, .int .i64 0] 27)
        have F5 := World.alloc_heap_new w3 (.cells #[.int .i64 2, .int .i64 0] 27)
        obtain ⟨z2, c2, d2⟩ := fcells F5
        clear F5 B3 hb3 C1 c0 f0 c1 f1 z0 z1 hcv
        go_wp2_with fail
        refine (alive_any _).mono ?_
        rintro e w5 ⟨rfl, hb5⟩
        have HB := Lib.hid (B4.trans (hb5.mono B4.size))
        clear hb5 B4
        go_wp2_with fail
        go_ret
        exact ⟨rfl, HB.out⟩
      · obtain ⟨U, hU⟩ : ∃ U : ByteArray, U = ⟨(List.replicate (n - 2) b).toArray⟩ := ⟨_, rfl⟩
        have C1 := Lib.hid (unquote_at T U 0 0 (by rw [hTl, hU]; exact unq_rep n b hwr h2 (by omega)))
        have q0 : ∀ w, (Op.equalIn 10000 27 (.agg #[.int .i64 0, .int .i64 0]) (.agg #[.int .i64 0, .int .i64 0])).run Try.prog w = .ok true w := fun w => by rw [eqF]; simp
        have hUs : (U.size : Int) = (n : Int) - 2 := by rw [hU]; show ((List.replicate (n - 2) b).toArray.size : Int) = _; simp; omega
        have HU := Lib.hid hU
        have e7 : IntKind.i64.wrap ((n : Int) - 2) = (n : Int) - 2 := by simp [IntKind.wrap, IntKind.bits, IntKind.signed]; omega
        have hTs : Hid (∀ j, j < (List.replicate (n - 2) b).length → (repT n b)[1 + j]? = (List.replicate (n - 2) b)[j]?) := by
          show ∀ j, j < (List.replicate (n - 2) b).length → (repT n b)[1 + j]? = (List.replicate (n - 2) b)[j]?
          intro j hj
          unfold repT
          rw [List.append_assoc, List.singleton_append, Nat.add_comm 1 j, List.getElem?_cons_succ, List.getElem?_append_left hj]
        clear hTT hTl hwr HBN hmk hU
        go_wp2_with fail
        refine (C1.out _).mono ?_
        rintro e w3 ⟨rfl, hb3⟩
        have B3 := HB2.out.trans (hb3.mono HB2.out.size)
        have B4 := B3.alloc B3.size (.cells #[.int .i64 0, .int .i64 0] 27)
        have r3 := brow_below HR2.out hb3
        have r4 := brow_below r3 ((Below.refl _ _).alloc (Nat.le_refl _) (.cells #[.int .i64 0, .int .i64 0] 27))
        have F5 := World.alloc_heap_new w3 (.cells #[.int .i64 0, .int .i64 0] 27)
        obtain ⟨z2, c2, d2⟩ := fcells F5
        have hcm := fun cap => brow_mid r4 1 cap hTs.out (by simp; omega) (m - 1) (by have := HM.out; simp; omega)
        rw [← HU.out] at hcm
        clear F5 B3 hb3 C1 c0 f0 c1 f1 z0 z1 hcv r3 r4 hTs
        go_wp2_with fail
        refine (alive_any _).mono ?_
        rintro e w5 ⟨rfl, hb5⟩
        have HB := Lib.hid (B4.trans (hb5.mono B4.size))
        clear hb5 B4
        go_wp2_with fail
        go_ret
        exact ⟨rfl, HB.out⟩
set_option maxRecDepth 100000 in
set_option maxHeartbeats 2000000 in
theorem law_limit (d c : Int) (hd : (Lit.int .i8 d).wf = true) (hc : (Lit.int .u8 c).wf = true) (w : World) :
    Calls Try.prog 5 #[.int .i8 d, .int .u8 c] w fun e w' => e = .returned (.bool true) ∧ Below w.heap.size w w' := by
  obtain ⟨d0, d1⟩ := wf_i8 hd
  obtain ⟨c0, c1⟩ := wf_u8 hc
  clear hd hc
  by_cases h1 : d < -20
  · skip
    go_enter Try.func5, Try.ntmps5
    go_wp2_with fail
    refine (alive_any _).mono ?_
    rintro e w3 ⟨rfl, hb3⟩
    have HB := Lib.hid hb3
    clear hb3
    go_wp2_with fail
    go_ret
    exact ⟨rfl, HB.out⟩
  by_cases h2 : 20 < d
  · skip
    go_enter Try.func5, Try.ntmps5
    go_wp2_with fail
    refine (alive_any _).mono ?_
    rintro e w3 ⟨rfl, hb3⟩
    have HB := Lib.hid hb3
    clear hb3
    go_wp2_with fail
    go_ret
    exact ⟨rfl, HB.out⟩
  by_cases h3 : c < 35
  · skip
    go_enter Try.func5, Try.ntmps5
    go_wp2_with fail
    refine (alive_any _).mono ?_
    rintro e w3 ⟨rfl, hb3⟩
    have HB := Lib.hid hb3
    clear hb3
    go_wp2_with fail
    go_ret
    exact ⟨rfl, HB.out⟩
  by_cases h4 : 91 < c
  · skip
    go_enter Try.func5, Try.ntmps5
    go_wp2_with fail
    refine (alive_any _).mono ?_
    rintro e w3 ⟨rfl, hb3⟩
    have HB := Lib.hid hb3
    clear hb3
    go_wp2_with fail
    go_ret
    exact ⟨rfl, HB.out⟩
  obtain ⟨C, rfl⟩ := Int.eq_ofNat_of_zero_le c0
  have hb : (UInt8.ofNat C).toNat = C := by simp; omega
  have := limit_main d (65536 + d).toNat (UInt8.ofNat C) (by omega) (by omega) (by omega) (by omega) (by omega) w
  rw [hb] at this
  exact this
end Go.Proofs.Ytadeejoekeaeeaa
