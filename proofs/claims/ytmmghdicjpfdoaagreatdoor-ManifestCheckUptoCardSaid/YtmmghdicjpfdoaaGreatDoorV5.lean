/-
  The texts of versions. Condition: the table of powers of ten.
-/
import Derived.Test.YtmmghdicjpfdoaaGreatDoorV4
import Derived.Lib.ItoaLen
namespace Go.Proofs.YtmmghdicjpfdoaaGreatDoor
open Go.RowKit
set_option linter.unusedSimpArgs false
set_option linter.unnecessarySimpa false
set_option linter.unusedVariables false
/-
  The text of a version: what the program returns, where the world holds the table of powers of ten, and what the specification returns.
-/
/-- the table of powers of ten is there -/
def P10 (w : World) : Prop := Lib.TabIs Tryz.prog w "internal/strconv.uint64pow10" .u64 Lib.pow10Tab
theorem P10.keep {w w' : World} (h : P10 w) (hb : Below w.heap.size w w') : P10 w' := by
  unfold P10 Lib.TabIs World.var? at h ⊢
  cases hg : Tryz.prog.globalNamed "internal/strconv.uint64pow10" with
  | none => rw [hg] at h; cases h
  | some g =>
    rw [hg] at h
    simp only [Option.bind_some] at h ⊢
    have hlt : g < w.heap.size := by
      rcases Nat.lt_or_ge g w.heap.size with h' | h'
      · exact h'
      · rw [Array.getElem?_eq_none h'] at h; cases h
    rw [hb.block g hlt]
    exact h
theorem below_grow (w : World) (k : Nat) (os : Array Obj) : Below w.heap.size w (Go.Sort.grow (w.drewN k) os) := by
  have h0 : Below w.heap.size w (w.drewN k) := by constructor <;> first | rfl | (intros; rfl) | (intros; assumption) | exact Nat.le_refl _
  constructor <;> first
    | rfl
    | (intros; rfl)
    | (intro b hb; show (w.heap ++ os)[b]? = w.heap[b]?; rw [Array.getElem?_append_left hb])
    | (show w.heap.size ≤ (w.heap ++ os).size; simp)
def istr (n : Int) : ByteArray := ⟨(Lib.itoa n).toArray⟩
def txtS (a b c : Int) : ByteArray := (⟨#[118]⟩ : ByteArray) ++ istr a ++ ⟨#[46]⟩ ++ istr b ++ ⟨#[46]⟩ ++ istr c
def txt (a b c : Int) : ByteArray := if okV a b c = true then txtS a b c else ⟨#[63]⟩
theorem istr_size (n : Int) (h0 : 0 ≤ n) (h1 : n ≤ 9999) : (istr n).size ≤ 21 := Lib.itoa_length_le n (by omega) (by omega)
theorem itoa_tab (n : Int) (h0 : 0 ≤ n) (h1 : n ≤ 9999) (w : World) (hT : P10 w) :
    Calls Tryz.prog 81 #[.int .i64 n] w fun e w' => e = .returned (.string (istr n)) ∧ Below w.heap.size w w' :=
  (Tryz.strconv_Itoa n (by omega) (by omega) w hT).mono fun e w' ⟨he, k, os, hw⟩ => ⟨he, by rw [hw]; exact below_grow w k os⟩
set_option maxHeartbeats 1000000 in
theorem rdigits_any (n : Int) (h0 : 0 ≤ n) (h1 : n ≤ 9999) (w : World) :
    Calls Tryz.prog 84 #[.int .i64 n] w fun e w' => e = .returned (.string (istr n)) ∧ Below w.heap.size w w' := by
  obtain ⟨m, rfl⟩ := Int.eq_ofNat_of_zero_le h0
  have hd := rdig_any m (by omega) w
  have hs : istr (m : Int) = ⟨(Lib.decDigits m).toArray⟩ := by
    unfold istr Lib.itoa
    rw [if_neg (by omega)]; rfl
  rw [hs]
  have HD := Lib.hid hd
  clear hd hs h0 h1
  go_enter Tryz.func84, Tryz.ntmps84
  go_wp2_with fail
  refine HD.out.mono ?_
  rintro e w1 ⟨rfl, hb⟩
  have HB := Lib.hid hb
  clear hb
  go_wp2_with fail
  go_ret
  exact ⟨rfl, HB.out⟩
theorem okV_parts {a b c : Int} (h : okV a b c = true) : (0 ≤ a ∧ a ≤ 9999) ∧ (0 ≤ b ∧ b ≤ 9999) ∧ (0 ≤ c ∧ c ≤ 9999) := by
  simp [okV, okN] at h
  omega
/-- a version in a block, and the table -/
abbrev ST (w0 : World) (p : Nat) (a b c : Int) (w : World) : Prop :=
  Below w0.heap.size w0 w ∧ P10 w ∧ w.cell? ⟨p, 0, none⟩ = some (.int .i64 a) ∧ w.cell? ⟨p, 1, none⟩ = some (.int .i64 b) ∧ w.cell? ⟨p, 2, none⟩ = some (.int .i64 c)
theorem ST.keep {w0 w w' : World} {p : Nat} {a b c : Int} (h : ST w0 p a b c w) (hb : Below w.heap.size w w') : ST w0 p a b c w' :=
  ⟨h.1.trans (hb.mono h.1.size), P10.keep h.2.1 hb, cell_keep h.2.2.1 hb, cell_keep h.2.2.2.1 hb, cell_keep h.2.2.2.2 hb⟩
theorem ST.tab {w0 w : World} {p : Nat} {a b c : Int} (h : ST w0 p a b c w) : P10 w := h.2.1
theorem ST.below {w0 w : World} {p : Nat} {a b c : Int} (h : ST w0 p a b c w) : Below w0.heap.size w0 w := h.1
set_option maxRecDepth 100000 in
set_option maxHeartbeats 4000000 in
theorem text_ok (a b c : Int) (h : okV a b c = true) (w : World) (hT : P10 w) :
    Calls Tryz.prog 63 #[vv a b c] w fun e w' => e = .returned (.string (txtS a b c)) ∧ Below w.heap.size w w' := by
  obtain ⟨⟨a0, a1⟩, ⟨b0, b1⟩, ⟨c0, c1⟩⟩ := okV_parts h
  have CA := Lib.hid (fun w (hT : P10 w) => itoa_tab a a0 a1 w hT)
  have CB := Lib.hid (fun w (hT : P10 w) => itoa_tab b b0 b1 w hT)
  have CC := Lib.hid (fun w (hT : P10 w) => itoa_tab c c0 c1 w hT)
  have sa := istr_size a a0 a1
  have sb := istr_size b b0 b1
  have sc := istr_size c c0 c1
  unfold txtS
  generalize istr a = A at *
  generalize istr b = B at *
  generalize istr c = C at *
  have z1 : ¬ 9223372036854775807 < 1 + A.size := by omega
  have z2 : ¬ 9223372036854775807 < 1 + A.size + 1 := by omega
  have z3 : ¬ 9223372036854775807 < 1 + A.size + 1 + B.size := by omega
  have z4 : ¬ 9223372036854775807 < 1 + A.size + 1 + B.size + 1 := by omega
  have z5 : ¬ 9223372036854775807 < 1 + A.size + 1 + B.size + 1 + C.size := by omega
  have H := Lib.hid h
  have HT := Lib.hid hT
  clear h hT a0 a1 b0 b1 c0 c1
  unfold vv
  go_enter Tryz.func63, Tryz.ntmps63
  go_wp2_with fail
  refine (valid_at _ _ _ true H.out _).mono ?_
  rintro e w1 ⟨rfl, hb1⟩
  have hS : ST w w.heap.size a b c w1 := by
    have R1 : Row3 w1 w.heap.size a b c := (Row3.new w a b c 23 _ rfl).keep hb1
    have B1 := ((Below.refl w.heap.size w).alloc (Nat.le_refl _) (.cells #[.int .i64 a, .int .i64 b, .int .i64 c] 23)).trans (hb1.mono (by simp))
    exact ⟨B1, P10.keep HT.out B1, R1.c0, R1.c1, R1.c2⟩
  clear hb1
  go_wp2_with fail
  go_region_held3 (fun w' => ST w w.heap.size a b c w') (first | assumption | exact ST.keep (by assumption) ((Below.refl _ _).drew) | exact ST.keep (by assumption) (by assumption)) (first | (go_at_call 81; ((with_reducible refine (CA.out _ (ST.tab (w0 := w) (p := w.heap.size) (a := a) (b := b) (c := c) (by assumption))).mono ?_)); rintro e w' ⟨rfl, hbN⟩) | (go_at_call 81; ((with_reducible refine (CB.out _ (ST.tab (w0 := w) (p := w.heap.size) (a := a) (b := b) (c := c) (by assumption))).mono ?_)); rintro e w' ⟨rfl, hbN⟩) | (go_at_call 81; ((with_reducible refine (CC.out _ (ST.tab (w0 := w) (p := w.heap.size) (a := a) (b := b) (c := c) (by assumption))).mono ?_)); rintro e w' ⟨rfl, hbN⟩))
  all_goals (go_wp2_with fail; go_ret; exact ⟨rfl, ST.below (by assumption)⟩)
set_option maxRecDepth 100000 in
set_option maxHeartbeats 4000000 in
theorem rtext_ok (a b c : Int) (h : okV a b c = true) (w : World) :
    Calls Tryz.prog 66 #[vv a b c] w fun e w' => e = .returned (.string (txtS a b c)) ∧ Below w.heap.size w w' := by
  obtain ⟨⟨a0, a1⟩, ⟨b0, b1⟩, ⟨c0, c1⟩⟩ := okV_parts h
  have CA := Lib.hid (fun w => rdigits_any a a0 a1 w)
  have CB := Lib.hid (fun w => rdigits_any b b0 b1 w)
  have CC := Lib.hid (fun w => rdigits_any c c0 c1 w)
  have sa := istr_size a a0 a1
  have sb := istr_size b b0 b1
  have sc := istr_size c c0 c1
  unfold txtS
  generalize istr a = A at *
  generalize istr b = B at *
  generalize istr c = C at *
  have z1 : ¬ 9223372036854775807 < 1 + A.size := by omega
  have z2 : ¬ 9223372036854775807 < 1 + A.size + 1 := by omega
  have z3 : ¬ 9223372036854775807 < 1 + A.size + 1 + B.size := by omega
  have z4 : ¬ 9223372036854775807 < 1 + A.size + 1 + B.size + 1 := by omega
  have z5 : ¬ 9223372036854775807 < 1 + A.size + 1 + B.size + 1 + C.size := by omega
  have H := Lib.hid h
  clear h a0 a1 b0 b1 c0 c1
  unfold vv
  go_enter Tryz.func66, Tryz.ntmps66
  go_wp2_with fail
  refine (rvalid_at _ _ _ true H.out _).mono ?_
  rintro e w1 ⟨rfl, hb1⟩
  have hS : S1 w w.heap.size a b c w1 := by
    have R1 : Row3 w1 w.heap.size a b c := (Row3.new w a b c 23 _ rfl).keep hb1
    have B1 := ((Below.refl w.heap.size w).alloc (Nat.le_refl _) (.cells #[.int .i64 a, .int .i64 b, .int .i64 c] 23)).trans (hb1.mono (by simp))
    exact ⟨B1, R1.c0, R1.c1, R1.c2⟩
  clear hb1
  go_wp2_with fail
  go_region_held3 (fun w' => S1 w w.heap.size a b c w') (first | assumption | exact keep1 (by assumption) ((Below.refl _ _).drew) | exact keep1 (by assumption) (by assumption)) (first | (go_at_call 84; ((with_reducible refine (CA.out _).mono ?_)); rintro e w' ⟨rfl, hbN⟩) | (go_at_call 84; ((with_reducible refine (CB.out _).mono ?_)); rintro e w' ⟨rfl, hbN⟩) | (go_at_call 84; ((with_reducible refine (CC.out _).mono ?_)); rintro e w' ⟨rfl, hbN⟩))
  all_goals (go_wp2_with fail; go_ret; exact ⟨rfl, below1 (by assumption)⟩)
theorem text_at (a b c : Int) (s : ByteArray) (h : txt a b c = s) (w : World) (hT : P10 w) :
    Calls Tryz.prog 63 #[vv a b c] w fun e w' => e = .returned (.string s) ∧ Below w.heap.size w w' := by
  subst h
  unfold txt
  cases ho : okV a b c with
  | true => rw [if_pos rfl]; exact text_ok a b c ho w hT
  | false =>
    rw [if_neg (by simp)]
    have H := Lib.hid ho
    clear ho
    unfold vv
    go_enter Tryz.func63, Tryz.ntmps63
    go_wp2_with fail
    refine (valid_at _ _ _ false H.out _).mono ?_
    rintro e w1 ⟨rfl, hb1⟩
    have HB := Lib.hid (((Below.refl w.heap.size w).alloc (Nat.le_refl _) (.cells #[.int .i64 a, .int .i64 b, .int .i64 c] 23)).trans (hb1.mono (by simp)))
    clear hb1
    go_wp2_with fail
    go_ret
    exact ⟨rfl, HB.out⟩
theorem rtext_at (a b c : Int) (s : ByteArray) (h : txt a b c = s) (w : World) :
    Calls Tryz.prog 66 #[vv a b c] w fun e w' => e = .returned (.string s) ∧ Below w.heap.size w w' := by
  subst h
  unfold txt
  cases ho : okV a b c with
  | true => rw [if_pos rfl]; exact rtext_ok a b c ho w
  | false =>
    rw [if_neg (by simp)]
    have H := Lib.hid ho
    clear ho
    unfold vv
    go_enter Tryz.func66, Tryz.ntmps66
    go_wp2_with fail
    refine (rvalid_at _ _ _ false H.out _).mono ?_
    rintro e w1 ⟨rfl, hb1⟩
    have HB := Lib.hid (((Below.refl w.heap.size w).alloc (Nat.le_refl _) (.cells #[.int .i64 a, .int .i64 b, .int .i64 c] 23)).trans (hb1.mono (by simp)))
    clear hb1
    go_wp2_with fail
    go_ret
    exact ⟨rfl, HB.out⟩
end Go.Proofs.YtmmghdicjpfdoaaGreatDoor
