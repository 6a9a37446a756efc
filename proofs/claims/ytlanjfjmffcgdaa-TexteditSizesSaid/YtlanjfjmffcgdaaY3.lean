/-
  The law TexteditSizes: its walk. No condition.
-/
import Derived.Test.YtlanjfjmffcgdaaX
namespace Go.Proofs.Ytlanjfjmffcgdaa
open Go.RowKit
set_option linter.unusedSimpArgs false
set_option linter.unusedVariables false
theorem Row.set {w : World} {g : Nat} {xs : List UInt8} (h : Row w g xs) (j : Nat) (b : UInt8) (x : Int) (hx : x = (b.toNat : Int)) : Row (w.setCell ⟨g, j, none⟩ (.int .u8 x)) g (xs.set j b) := by
  subst hx
  unfold Row at *
  rw [Lib.heap_setCell_same (i := j) h]
  simp [Lib.byteCells, List.map_set]
theorem Row.store {w : World} {g : Nat} {xs : List UInt8} (h : Row w g xs) (j : Nat) (hj : j < xs.length) : g < w.heap.size ∧ w.cell? ⟨g, j, none⟩ = some (.int .u8 ((xs[j]).toNat : Int)) ∧ w.frozen? ⟨g, j, none⟩ = false := by
  refine ⟨h.lt, ?_, ?_⟩
  · have := h.cell j xs[j] (List.getElem?_eq_getElem hj)
    rw [show (⟨g, 0, none⟩ : Addr).add j = ⟨g, j, none⟩ by simp [Addr.add]; exact fun e => e.symm] at this
    exact this
  · unfold Row at h; simp [World.frozen?, h]
def aS (n : Nat) : ByteArray := ⟨(List.replicate n (97 : UInt8)).toArray⟩
theorem aS_size (n : Nat) : (aS n).size = n := by simp [aS, ByteArray.size]
theorem aS_list (n : Nat) : (aS n).data.toList = List.replicate n (97 : UInt8) := by simp [aS]
def tenB : ByteArray := ⟨#[98, 98, 98, 98, 98, 98, 98, 98, 98, 98]⟩
theorem sz_app (n : Nat) (u : ByteArray) (hn : n ≤ 65536) : chkL ((aS n).size : Int) [((n : Int), (n : Int), u)] = 0 ∧ totV (aS n) [((n : Int), (n : Int), u)] = (n : Int) + u.size ∧ aply (aS n) [((n : Int), (n : Int), u)] = aS n ++ u := by
  refine ⟨chk_zero' ?_ rfl, ?_, ?_⟩
  · show (insB _ _ && true) = true
    rw [insB_3 (by simp only; omega) (by simp only; omega) (by rw [aS_size]; simp only; omega)]; rfl
  · unfold totV; rw [aS_size]; simp [sumG, grw]
  · apply ByteArray.ext
    apply Array.ext'
    have e : (aply (aS n) [((n : Int), (n : Int), u)]).data.toList = appL (aS n).data.toList 0 [((n : Int), (n : Int), u)] := by simp [aply]
    rw [e, cat_list]
    simp only [appL, Int.toNat_natCast]
    rw [aS_list, List.drop_zero, List.drop_eq_nil_of_le (by simp), List.append_nil, List.take_of_length_le (by simp)]
set_option maxRecDepth 100000 in
set_option maxHeartbeats 8000000 in
theorem sizes_main (n m : Nat) (hn0 : 65528 ≤ n) (hn1 : n ≤ 65536) (hm : m ≤ 10) (w : World) :
    Calls Try.prog 10 #[.int .i64 (n : Int), .int .i64 (m : Int)] w fun e w' => e = .returned (.bool true) ∧ Below w.heap.size w w' := by
  have q1 : decide ((n : Int) < 65528) = false := decide_eq_false (by omega)
  have q2 : decide ((65536 : Int) < (n : Int)) = false := decide_eq_false (by omega)
  have q3 : decide ((m : Int) < 0) = false := decide_eq_false (by omega)
  have q4 : decide ((10 : Int) < (m : Int)) = false := decide_eq_false (by omega)
  have hmk := Try.make43 n (by omega)
  have HR0 := Lib.hid (row_new w n)
  have HB0 := Lib.hid ((Below.refl w.heap.size w).alloc (Nat.le_refl _) (.cells (madeCells #[.int .u8 0] n) 5))
  generalize madeCells #[.int .u8 0] n = X at *
  go_enter Try.func10, Try.ntmps10
  go_wp2_with fail
  go_loopw [6] (fun i wr => ∃ (k : Nat) (xs : List UInt8), k ≤ n ∧ i = .int .i64 (k : Int) ∧ Hid (xs.length = n) ∧ Hid (∀ j, j < k → xs[j]? = some 97) ∧ Hid (Row wr w.heap.size xs) ∧ Hid (Below w.heap.size w wr)) (fun i _ => n - (intOf i).toNat)
  case atStart => exact ⟨0, _, Nat.zero_le _, rfl, Lib.hid (by simp), Lib.hid (by intro j hj; omega), HR0, HB0⟩
  case round =>
    obtain ⟨k, xs, hk, rfl, HL, HX, HR, HB⟩ := hrel
    by_cases hlt : k < n
    · obtain ⟨z0, c0, f0⟩ := HR.out.store k (by rw [HL.out]; exact hlt)
      have HR2 := Lib.hid (HR.out.set k 97 97 rfl)
      have HB2 := Lib.hid (HB.out.setCell (p := ⟨w.heap.size, k, none⟩) (Nat.le_refl _) (.int .u8 97))
      have q8 : (k : Int) < (n : Int) := by omega
      clear HR HB
      go_wp2_with fail
      go_roundw
      case rel =>
        refine ⟨k + 1, _, by omega, by go_num, Lib.hid (by rw [List.length_set]; exact HL.out), Lib.hid ?_, HR2, HB2⟩
        intro j hj
        by_cases hjk : j = k
        · subst hjk; exact List.getElem?_set_self (by rw [HL.out]; omega)
        · rw [List.getElem?_set_ne (by omega)]; exact HX.out j (by omega)
      case measure => simp [intOf]; omega
    · have hxs : xs = List.replicate n 97 := by
        apply List.ext_getElem?
        intro j
        by_cases hj : j < n
        · rw [HX.out j (by omega), List.getElem?_replicate, if_pos hj]
        · rw [List.getElem?_eq_none (by rw [HL.out]; omega), List.getElem?_eq_none (by simp; omega)]
      subst hxs
      have hcv := row_str HR.out (show (List.replicate n (97 : UInt8)).length = n by simp)
      rw [show (⟨(List.replicate n (97 : UInt8)).toArray⟩ : ByteArray) = aS n from rfl] at hcv
      obtain ⟨u, hu⟩ : ∃ u, u = tenB.extract 0 m := ⟨_, rfl⟩
      have hus : u.size = m := by rw [hu, ByteArray.size_extract]; simp [tenB, ByteArray.size]; omega
      have hsl : ∀ W, (Instr.slice 9 (.string ⟨#[98, 98, 98, 98, 98, 98, 98, 98, 98, 98]⟩) none (some (.int .i64 (m : Int))) none).run Try.prog W = .ok (.string u) W := fun W => by
        rw [run_slice_string_h W 9 ⟨#[98, 98, 98, 98, 98, 98, 98, 98, 98, 98]⟩ Try.underlying9 .i64 (m : Int) (by omega) (by simp [ByteArray.size]; omega), hu]
        simp [tenB]
      obtain ⟨ch0, ht0, ha0⟩ := sz_app n u hn1
      have HE2 := Lib.hid (appE_2 (s := aS n) (xs := [((n : Int), (n : Int), u)]) ch0)
      have HE3 := Lib.hid (appE_3 (s := aS n) (xs := [((n : Int), (n : Int), u)]) ch0)
      have HT0 := Lib.hid ht0
      have HA0 := Lib.hid ha0
      have HRe : Hid (∀ W : World, Re (W.alloc (.cells #[.int .i64 (n : Int), .int .i64 (n : Int), .string u] 35)) (W.alloc (.cells #[.int .i64 (n : Int), .int .i64 (n : Int), .string u] 35)).heap.size (some ⟨W.heap.size, 0, none⟩) [((n : Int), (n : Int), u)]) := Lib.hid fun W => re_one _ _ _ (MapKept.heap_alloc W _).1
      have HUS := Lib.hid hus
      clear hu hus ch0 ht0 ha0 HX HL
      have HR1 := Lib.hid (HR.out.below ((Below.refl wr.heap.size wr).alloc (Nat.le_refl _) (.cells #[.int .i64 (n : Int), .int .i64 (n : Int), .string u] 35)))
      have HB1 := Lib.hid (HB.out.alloc HB.out.size (.cells #[.int .i64 (n : Int), .int .i64 (n : Int), .string u] 35))
      have CA := Lib.hid (apply_any (aS n) (some ⟨wr.heap.size, 0, none⟩) 1 [((n : Int), (n : Int), u)] (by rw [aS_size]; omega) (by simp) (fun x hx => by simp at hx; subst hx; simp only; have := HUS.out; omega) _ (HRe.out wr))
      clear HR HB HRe
      go_wp2_with fail
      clear hcv
      generalize wr.alloc (.cells #[.int .i64 (n : Int), .int .i64 (n : Int), .string u] 35) = w2 at *
      by_cases hbig : 65536 < n + m
      · rw [(HE2.out (by rw [HT0.out, HUS.out]; omega)).1, (HE2.out (by rw [HT0.out, HUS.out]; omega)).2] at CA
        have q5 : decide ((65536 : Int) < (n : Int) + (m : Int)) = true := decide_eq_true (by omega)
        clear HE2 HE3 HT0 HA0
        refine CA.out.mono ?_
        rintro e w3 ⟨rfl, hb3⟩
        have B3 := Lib.hid (HB1.out.trans (hb3.mono HB1.out.size))
        clear hb3 CA
        go_wp2_with fail
        refine (example_any _).mono ?_
        rintro e w5 ⟨rfl, hb5⟩
        have B5 := Lib.hid (B3.out.trans (hb5.mono B3.out.size))
        clear hb5
        go_wp2_with fail
        go_ret
        exact ⟨rfl, B5.out⟩
      · rw [(HE3.out (by rw [HT0.out, HUS.out]; omega)).1, (HE3.out (by rw [HT0.out, HUS.out]; omega)).2, HA0.out] at CA
        have q5 : decide ((65536 : Int) < (n : Int) + (m : Int)) = false := decide_eq_false (by omega)
        have hadd : ∀ W, (Op.stringOp .add (aS n) u).run Try.prog W = .ok (.string (aS n ++ u)) W := fun W => run_string_add_sum W _ _ (by rw [aS_size, HUS.out]; omega)
        have e1 : ((aS n ++ u).toList == (aS n ++ u).toList) = true := by simp
        clear HE2 HE3 HT0 HA0
        refine CA.out.mono ?_
        rintro e w3 ⟨rfl, hb3⟩
        have B3 := Lib.hid (HB1.out.trans (hb3.mono HB1.out.size))
        have hcv := row_str (HR1.out.below hb3) (show (List.replicate n (97 : UInt8)).length = n by simp)
        rw [show (⟨(List.replicate n (97 : UInt8)).toArray⟩ : ByteArray) = aS n from rfl] at hcv
        clear hb3 CA
        go_wp2_with fail
        refine (example_any _).mono ?_
        rintro e w5 ⟨rfl, hb5⟩
        have B5 := Lib.hid (B3.out.trans (hb5.mono B3.out.size))
        clear hb5
        go_wp2_with fail
        go_ret
        exact ⟨rfl, B5.out⟩
set_option maxRecDepth 100000 in
set_option maxHeartbeats 2000000 in
theorem law_sizes (n m : Int) (w : World) : Calls Try.prog 10 #[.int .i64 n, .int .i64 m] w fun e w' => e = .returned (.bool true) ∧ Below w.heap.size w w' := by
  by_cases h1 : n < 65528
  · have q1 : decide (n < 65528) = true := decide_eq_true h1
    clear h1
    go_enter Try.func10, Try.ntmps10
    go_wp2_with fail
    refine (example_any _).mono ?_
    rintro e w1 ⟨rfl, hb1⟩
    go_wp2_with fail
    go_ret
    exact ⟨rfl, hb1⟩
  have q1 : decide (n < 65528) = false := decide_eq_false h1
  by_cases h2 : 65536 < n
  · have q2 : decide ((65536 : Int) < n) = true := decide_eq_true h2
    clear h1 h2
    go_enter Try.func10, Try.ntmps10
    go_wp2_with fail
    refine (example_any _).mono ?_
    rintro e w1 ⟨rfl, hb1⟩
    go_wp2_with fail
    go_ret
    exact ⟨rfl, hb1⟩
  have q2 : decide ((65536 : Int) < n) = false := decide_eq_false h2
  by_cases h3 : m < 0
  · have q3 : decide (m < 0) = true := decide_eq_true h3
    clear h1 h2 h3
    go_enter Try.func10, Try.ntmps10
    go_wp2_with fail
    refine (example_any _).mono ?_
    rintro e w1 ⟨rfl, hb1⟩
    go_wp2_with fail
    go_ret
    exact ⟨rfl, hb1⟩
  have q3 : decide (m < 0) = false := decide_eq_false h3
  by_cases h4 : 10 < m
  · have q4 : decide ((10 : Int) < m) = true := decide_eq_true h4
    clear h1 h2 h3 h4
    go_enter Try.func10, Try.ntmps10
    go_wp2_with fail
    refine (example_any _).mono ?_
    rintro e w1 ⟨rfl, hb1⟩
    go_wp2_with fail
    go_ret
    exact ⟨rfl, hb1⟩
  obtain ⟨n', rfl⟩ := Int.eq_ofNat_of_zero_le (show 0 ≤ n by omega)
  obtain ⟨m', rfl⟩ := Int.eq_ofNat_of_zero_le (show 0 ≤ m by omega)
  exact sizes_main n' m' (by omega) (by omega) (by omega) w
