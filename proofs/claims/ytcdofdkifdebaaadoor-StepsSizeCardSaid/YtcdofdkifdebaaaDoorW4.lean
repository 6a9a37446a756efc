/-
  The limit of a path's text: the law StepsSize. Condition: the table of powers of ten holds what it holds.
-/
import Derived.Test.YtcdofdkifdebaaaDoorX1
import Derived.Laws.MakeOwn
import Derived.Laws.BytesArg
namespace Go.Proofs.YtcdofdkifdebaaaDoor
open Go.RowKit
set_option linter.unusedSimpArgs false
set_option linter.unusedVariables false
theorem own_string {B : Nat} {v : Value} {l : List UInt8} {w : World} (h : w.ownsRow B 5 1 v l.length (Lib.byteCells l)) :
    (convert 33 9 v).run Tryd.prog w = .ok (.string ⟨l.toArray⟩) w := by
  rcases id h.2 with ⟨hv, hn⟩ | ⟨g, cap, cur, hv, hbg, hg, r⟩
  · subst hv
    have : l = [] := List.eq_nil_of_length_eq_zero hn
    subst this
    rw [Go.run_convert_bytes_nil w 33 5 Tryd.underlying33 Tryd.underlying5 0 0 9 Tryd.underlying9]
    rfl
  · subst hv
    refine Go.run_convert_bytes_back w 33 9 5 ⟨g, 0, none⟩ cap l Tryd.underlying33 Tryd.underlying5 Tryd.underlying9 (fun j hj => ?_)
    refine h.cells (by rfl) j _ ?_
    simp [Lib.byteCells, hj]
theorem Tryd.info5 : (Tryd.prog.info? 5).map (fun i => (i.zero, i.size, i.bytes)) = some (some (.int .u8 0), 1, 1) := by kernel_rfl
theorem made_rep (n : Nat) : (madeCells #[.int .u8 0] n).toList = Lib.byteCells (List.replicate n 0) := by
  rw [toList_madeCells_one]; simp [Lib.byteCells]
/-- a row of bytes at the head of a block -/
def BRow (w : World) (g n : Nat) (xs : List UInt8) : Prop := w.ownsRow g 5 1 (.slice (some ⟨g, 0, none⟩) n n) n (Lib.byteCells xs)
theorem brow_len {w : World} {g n : Nat} {xs : List UInt8} (h : BRow w g n xs) : xs.length = n := by
  have := h.1; simpa [Lib.byteCells] using this
theorem brow_at {w : World} {g n : Nat} {xs : List UInt8} (h : BRow w g n xs) (j : Nat) (hj : j < n) :
    g < w.heap.size ∧ w.cell? ⟨g, j, none⟩ = some (.int .u8 ((xs.getD j 0).toNat : Int)) ∧ w.frozen? ⟨g, j, none⟩ = false := by
  have hl := brow_len h
  refine ⟨?_, ?_, World.ownsRow.frozenAt h j⟩
  · rcases h.2 with ⟨hv, _⟩ | ⟨g', cap, cur, hv, _, hg, _⟩
    · cases hv
    · cases hv; exact (Array.getElem?_eq_some_iff.1 hg).1
  · rw [World.ownsRow.cellAt h j (by omega)]
    simp [Lib.byteCells, List.getD_eq_getElem?_getD, List.getElem?_eq_getElem (by omega : j < xs.length)]
theorem brow_set {w : World} {g n : Nat} {xs : List UInt8} (h : BRow w g n xs) (j : Nat) (b : UInt8) (x : Int) (hx : x = (b.toNat : Int)) : BRow (w.setCell ⟨g, j, none⟩ (.int .u8 x)) g n (xs.set j b) := by
  subst hx
  have := (World.ownsRow.stored h j (.int .u8 (b.toNat : Int))).1
  unfold BRow
  rw [show Lib.byteCells (xs.set j b) = (Lib.byteCells xs).set j (.int .u8 (b.toNat : Int)) by simp [Lib.byteCells, List.map_set]]
  exact this
theorem Tryd.make33 (n : Nat) (hn : n ≤ 100000) (w : World) : (Instr.makeSlice 33 (.int .i64 (n : Int)) (.int .i64 (n : Int))).run Tryd.prog w = .ok (.slice (some ⟨w.heap.size, 0, none⟩) n n) (w.alloc (.cells (madeCells #[.int .u8 0] n) 5)) := by
  obtain ⟨i0, hi, hz0, hz1, hz2⟩ := info_parts Tryd.info5
  have := run_make (P := Tryd.prog) w 33 5 i0 (.int .u8 0) Tryd.underlying33 hi hz0 .i64 .i64 n n (by omega) (Int.le_refl _) (by rw [hz2]; omega) (by omega)
  rw [hz1] at this
  simp at this
  exact this
theorem brow_new (w : World) (n : Nat) (hn : n ≤ 100000) : BRow (w.alloc (.cells (madeCells #[.int .u8 0] n) 5)) w.heap.size n (List.replicate n 0) := by
  unfold BRow
  rw [← made_rep]
  exact World.ownsRow_lit w _ n (Nat.le_refl _) (by unfold maxLen; omega) (by simp [size_madeCells])
theorem brow_below {w w' : World} {g n : Nat} {xs : List UInt8} (h : BRow w g n xs) (hb : Below w.heap.size w w') : BRow w' g n xs := own_bel h hb
theorem brow_str {w : World} {g n : Nat} {xs : List UInt8} (h : BRow w g n xs) : (convert 33 9 (.slice (some ⟨g, 0, none⟩) n n)).run Tryd.prog w = .ok (.string ⟨xs.toArray⟩) w := by
  have hl := brow_len h
  have h' : w.ownsRow g 5 1 (.slice (some ⟨g, 0, none⟩) n n) xs.length (Lib.byteCells xs) := by rw [hl]; exact h
  exact own_string h'
def aS (n : Nat) : ByteArray := ⟨(List.replicate n (97 : UInt8)).toArray⟩
theorem aS_size (n : Nat) : (aS n).size = n := by simp [aS, ByteArray.size]
theorem aS_ch (n j : Nat) (h : j < n) : ch (aS n) j = 97 := by
  unfold ch aS
  simp [List.getD_eq_getElem?_getD, List.getElem?_replicate, h]
theorem labF_aS (n : Nat) (hn : 33 ≤ n) : ∀ f q, q ≤ 32 → 32 < q + f → labF (aS n) 0 f q = 32
  | 0, q, h, h' => by omega
  | f + 1, q, h, h' => by
    by_cases hq : q = 32
    · subst hq; rw [labF_2 (by omega)]
    · rw [labF_1 (by omega) (by rw [aS_ch n q (by omega)]; decide)]
      exact labF_aS n hn f (q + 1) (by omega) (by omega)
theorem labS_aS (n : Nat) (hn : 33 ≤ n) : (labS (aS n) 0).2.2 = 32 := by
  have h0 : ch (aS n) 0 = 97 := aS_ch n 0 (by omega)
  rw [labS_3 (by omega) (by omega), labT_1 (by rw [h0]; decide)]
  exact labF_aS n hn _ 0 (by omega) (by rw [aS_size]; omega)
theorem parS_aS_big (n : Nat) (hn : 65536 < n) : parS (aS n) = ([], 2, 0) := by unfold parS; rw [if_pos (by rw [aS_size]; exact hn)]
theorem parS_aS (n : Nat) (hn : 33 ≤ n) (h : n ≤ 65536) : parS (aS n) = ([], 8, 32) := by
  have h0 : ch (aS n) 0 = 97 := aS_ch n 0 (by omega)
  unfold parS
  rw [if_neg (by rw [aS_size]; omega), if_neg (by intro e; have := congrArg ByteArray.size e; rw [aS_size] at this; simp [ByteArray.size] at this; omega), if_neg (by omega), h0]
  have hq := labS_aS n hn
  have hm : ((97 : Nat) == 91) = false := by decide
  rw [hm]
  rw [parF]
  have e : (stepS (aS n) false 0).2.2 = 32 := hq
  rw [e]
  have h32 : ch (aS n) 32 = 97 := aS_ch n 32 (by omega)
  split
  · rw [if_neg (by rw [aS_size]; omega), if_neg (by omega), if_neg (by omega)]
  · rfl
set_option maxRecDepth 100000 in
set_option maxHeartbeats 4000000 in
theorem size_main (n : Nat) (hn0 : 65533 ≤ n) (hn1 : n ≤ 65539) (w : World) (hT : P10 w) :
    Calls Tryd.prog 5 #[.int .i64 (n : Int)] w fun e w' => e = .returned (.bool true) ∧ Below w.heap.size w w' := by
  have CE : Hid (∀ W, Below w.heap.size w W → Calls Tryd.prog 12 #[] W fun e w' => e = .returned (.bool true) ∧ Below W.heap.size W w') := Lib.hid fun W h => example_any W (hT.below h)
  have CP := Lib.hid (parse_any (aS n))
  have PB := Lib.hid (fun h => parS_aS_big n h)
  have PS := Lib.hid (fun h => parS_aS n (by omega) h)
  have q1 : decide ((n : Int) < 65533) = false := decide_eq_false (by omega)
  have q2 : decide ((65539 : Int) < (n : Int)) = false := decide_eq_false (by omega)
  have hmk := Tryd.make33 n (by omega)
  have HBN := Lib.hid (brow_new w n (by omega))
  obtain ⟨X, hX⟩ : ∃ X, X = madeCells #[.int .u8 0] n := ⟨_, rfl⟩
  rw [← hX] at hmk HBN
  clear hX hT
  go_enter Tryd.func5, Tryd.ntmps5
  go_wp2_with fail
  go_loopw [4] (fun i wr => ∃ (k : Nat) (xs : List UInt8), k ≤ n ∧ i = .int .i64 (k : Int) ∧ (∀ j, j < k → xs[j]? = some 97) ∧ BRow wr w.heap.size n xs ∧ Below w.heap.size w wr) (fun i _ => n - (intOf i).toNat)
  case atStart => exact ⟨0, _, Nat.zero_le _, rfl, by intro j hj; omega, HBN.out, (Below.refl _ _).alloc (Nat.le_refl _) _⟩
  case round =>
    obtain ⟨k, xs, hk, rfl, hx, hrow, hB⟩ := hrel
    have hl := brow_len hrow
    by_cases hlt : k < n
    · obtain ⟨z0, c0, f0⟩ := brow_at hrow k hlt
      have HR2 := Lib.hid (brow_set hrow k 97 97 rfl)
      have HB2 := Lib.hid (hB.setCell (p := ⟨w.heap.size, k, none⟩) (Nat.le_refl _) (.int .u8 97))
      clear hrow hB
      go_wp2_with fail
      go_roundw
      case rel =>
        refine ⟨k + 1, _, by omega, by go_num, ?_, HR2.out, HB2.out⟩
        intro j hj
        by_cases hjk : j = k
        · subst hjk; exact List.getElem?_set_self (by omega)
        · rw [List.getElem?_set_ne (by omega)]; exact hx j (by omega)
      case measure => simp [intOf]; omega
    · have hxs : xs = List.replicate n 97 := by
        apply List.ext_getElem?
        intro j
        by_cases hj : j < n
        · rw [hx j (by omega), List.getElem?_replicate, if_pos hj]
        · rw [List.getElem?_eq_none (by omega), List.getElem?_eq_none (by simp; omega)]
      subst hxs
      have hcv := brow_str hrow
      rw [show (⟨(List.replicate n (97 : UInt8)).toArray⟩ : ByteArray) = aS n from rfl] at hcv
      have B0 := Lib.hid hB
      clear hrow hB hx hl HBN
      by_cases hbig : 65536 < n
      · have q3 : decide ((65536 : Int) < (n : Int)) = true := decide_eq_true (by omega)
        have CP2 : Hid (∀ W, Calls Tryd.prog 17 #[.string (aS n)] W (ParP W ([], 2, 0))) := Lib.hid fun W => by have := CP.out W; rw [PB.out hbig] at this; exact this
        have e2 : ∀ w, (Op.equalIn 10000 28 (.agg #[.int .i64 2, .int .i64 0]) (.agg #[.int .i64 2, .int .i64 0])).run Tryd.prog w = .ok true w := fun w => by rw [eqF]; simp
        clear CP PB PS hbig
        go_wp2_with fail
        refine (CP2.out _).mono ?_
        rintro e w1 ⟨v, rfl, hown, hb1⟩
        obtain ⟨A1, k1, rfl, _, _⟩ := rd_own hown
        have B1 := Lib.hid ((B0.out.trans (hb1.mono B0.out.size)).alloc (Nat.le_trans B0.out.size hb1.size) (.cells #[.int .i64 2, .int .i64 0] 28))
        clear hown hb1 hcv
        go_wp2_with fail
        refine (CE.out _ B1.out).mono ?_
        rintro e w2 ⟨rfl, hb2⟩
        have B2 := Lib.hid (B1.out.trans (hb2.mono B1.out.size))
        clear hb2
        go_wp2_with fail
        go_ret
        exact ⟨rfl, B2.out⟩
      · have q3 : decide ((65536 : Int) < (n : Int)) = false := decide_eq_false (by omega)
        have CP2 : Hid (∀ W, Calls Tryd.prog 17 #[.string (aS n)] W (ParP W ([], 8, 32))) := Lib.hid fun W => by have := CP.out W; rw [PS.out (by omega)] at this; exact this
        have e2 : ∀ w, (Op.equalIn 10000 28 (.agg #[.int .i64 8, .int .i64 32]) (.agg #[.int .i64 8, .int .i64 32])).run Tryd.prog w = .ok true w := fun w => by rw [eqF]; simp
        clear CP PB PS hbig
        go_wp2_with fail
        refine (CP2.out _).mono ?_
        rintro e w1 ⟨v, rfl, hown, hb1⟩
        obtain ⟨A1, k1, rfl, _, _⟩ := rd_own hown
        have B1 := Lib.hid ((B0.out.trans (hb1.mono B0.out.size)).alloc (Nat.le_trans B0.out.size hb1.size) (.cells #[.int .i64 8, .int .i64 32] 28))
        clear hown hb1 hcv
        go_wp2_with fail
        refine (CE.out _ B1.out).mono ?_
        rintro e w2 ⟨rfl, hb2⟩
        have B2 := Lib.hid (B1.out.trans (hb2.mono B1.out.size))
        clear hb2
        go_wp2_with fail
        go_ret
        exact ⟨rfl, B2.out⟩
set_option maxRecDepth 100000 in
set_option maxHeartbeats 2000000 in
theorem law_size (n : Int) (w : World) (hT : P10 w) :
    Calls Tryd.prog 5 #[.int .i64 n] w fun e w' => e = .returned (.bool true) ∧ Below w.heap.size w w' := by
  by_cases h1 : 65533 ≤ n ∧ n ≤ 65539
  · obtain ⟨m, rfl⟩ := Int.eq_ofNat_of_zero_le (show 0 ≤ n by omega)
    exact size_main m (by omega) (by omega) w hT
  have CE : Hid (∀ W, Below w.heap.size w W → Calls Tryd.prog 12 #[] W fun e w' => e = .returned (.bool true) ∧ Below W.heap.size W w') := Lib.hid fun W h => example_any W (hT.below h)
  clear hT
  by_cases h2 : n < 65533
  · have q1 : decide (n < 65533) = true := decide_eq_true h2
    clear h1 h2
    go_enter Tryd.func5, Tryd.ntmps5
    go_wp2_with fail
    refine (CE.out _ (Below.refl _ _)).mono ?_
    rintro e w1 ⟨rfl, hb1⟩
    go_wp2_with fail
    go_ret
    exact ⟨rfl, hb1⟩
  · have q1 : decide (n < 65533) = false := decide_eq_false h2
    have q2 : decide ((65539 : Int) < n) = true := decide_eq_true (by omega)
    clear h1 h2
    go_enter Tryd.func5, Tryd.ntmps5
    go_wp2_with fail
    refine (CE.out _ (Below.refl _ _)).mono ?_
    rintro e w1 ⟨rfl, hb1⟩
    go_wp2_with fail
    go_ret
    exact ⟨rfl, hb1⟩
end Go.Proofs.YtcdofdkifdebaaaDoor
