/-
  The reader of paths: how it lies in memory, and its small functions peek, letter, inside, digit. No condition but that the reader stands at a byte of its text, or at its end.
-/
import Derived.Test.YtaocgibfabofhaaDoorS4
namespace Go.Proofs.YtaocgibfabofhaaDoor
open Go.RowKit
set_option linter.unusedSimpArgs false
set_option linter.unusedVariables false
theorem gb_trans {a b c : World} {r : Option Nat} (h : a.grownBy b r) (k : b.grownBy c r) : a.grownBy c r :=
  ⟨k.os.trans h.os, k.tape.trans h.tape, k.output.trans h.output, Nat.le_trans h.size k.size, fun i hi hn => (k.block i (Nat.lt_of_lt_of_le hi h.size) hn).trans (h.block i hi hn)⟩
theorem gb_below {a b : World} {r : Option Nat} (h : Below a.heap.size a b) : a.grownBy b r :=
  ⟨h.os, h.tape, h.output, h.size, fun i hi _ => h.block i hi⟩
theorem gb_refl (a : World) (r : Option Nat) : a.grownBy a r := ⟨rfl, rfl, rfl, Nat.le_refl _, fun _ _ _ => rfl⟩
theorem gb_drewN (a : World) (n : Nat) (r : Option Nat) : a.grownBy (a.drewN n) r := gb_below (bdrewN (Below.refl _ _) n)
theorem gb_drew (a : World) (r : Option Nat) : a.grownBy a.drew r := gb_below (Below.refl _ _).drew
theorem gb_set (w : World) (p : Addr) (v : Value) : w.grownBy (w.setCell p v) (some p.block) := by
  refine ⟨rfl, rfl, rfl, by simp [World.setCell], fun i hi hn => ?_⟩
  exact Below.heap_setCell w p v i (fun e => hn (by rw [e]))
theorem gb_blk {a b : World} {r : Option Nat} {k : Nat} {o : Obj} (h : a.heap[k]? = some o) (g : a.grownBy b r) (hn : some k ≠ r) : b.heap[k]? = some o := by
  rw [g.block k (Array.getElem?_eq_some_iff.1 h).1 hn]; exact h
theorem below_gb {B : Nat} {a b : World} {g : Nat} (h : a.grownBy b (some g)) (hB : B ≤ a.heap.size) (hg : B ≤ g) : Below B a b :=
  ⟨h.os, h.tape, h.output, h.size, fun i hi => h.block i (Nat.lt_of_lt_of_le hi hB) (fun e => by injection e; omega)⟩
/-- the reader's block -/
def Rdr (w : World) (g : Nat) (s : ByteArray) (a : Int) : Prop := w.heap[g]? = some (.cells #[.string s, .int .i64 a] 54 (0, 0))
theorem Rdr.facts {w : World} {g : Nat} {s : ByteArray} {a : Int} (h : Rdr w g s a) :
    g < w.heap.size ∧ w.cell? ⟨g, 0, none⟩ = some (.string s) ∧ w.cell? ⟨g, 1, none⟩ = some (.int .i64 a) ∧ w.frozen? ⟨g, 1, none⟩ = false := by
  unfold Rdr at h
  refine ⟨(Array.getElem?_eq_some_iff.1 h).1, by rw [Lib.cell_of_heap h]; rfl, by rw [Lib.cell_of_heap h]; rfl, by simp [World.frozen?, h]⟩
theorem Rdr.set {w : World} {g : Nat} {s : ByteArray} {a : Int} (h : Rdr w g s a) (b : Int) : Rdr (w.setCell ⟨g, 1, none⟩ (.int .i64 b)) g s b := by
  unfold Rdr at h ⊢
  simp [World.setCell, Array.getElem?_modify, h]
theorem Rdr.keep {w w' : World} {g : Nat} {s : ByteArray} {a : Int} (h : Rdr w g s a) (k : Below w.heap.size w w') : Rdr w' g s a := by
  unfold Rdr at h ⊢
  rw [k.block _ (Array.getElem?_eq_some_iff.1 h).1]; exact h
/-- what a method of the reader leaves: new blocks, and the reader at another place -/
def RdP (g : Nat) (s : ByteArray) (b : Int) (w w' : World) : Prop := w.grownBy w' (some g) ∧ Rdr w' g s b
theorem RdP.start {g : Nat} {s : ByteArray} {a : Int} {w : World} (h : Rdr w g s a) : RdP g s a w w := ⟨gb_refl _ _, h⟩
theorem RdP.below {g : Nat} {s : ByteArray} {a : Int} {w w1 w2 : World} (h : RdP g s a w w1) (k : Below w1.heap.size w1 w2) : RdP g s a w w2 := ⟨gb_trans h.1 (gb_below k), h.2.keep k⟩
theorem RdP.step {g : Nat} {s : ByteArray} {p : Nat} {w w1 : World} (h : RdP g s (p : Nat) w w1) : RdP g s ((p + 1 : Nat) : Int) w (w1.setCell ⟨g, 1, none⟩ (.int .i64 ((p : Int) + 1))) :=
  ⟨gb_trans h.1 (gb_set w1 ⟨g, 1, none⟩ _), by have := h.2.set ((p : Int) + 1); exact this⟩
theorem RdP.step' {g : Nat} {s : ByteArray} {a : Int} {q : Nat} {v : Int} {w w1 : World} (h : RdP g s a w w1) (hv : v = (q : Int)) : RdP g s ((q : Nat) : Int) w (w1.setCell ⟨g, 1, none⟩ (.int .i64 v)) :=
  ⟨gb_trans h.1 (gb_set w1 ⟨g, 1, none⟩ _), by subst hv; exact h.2.set _⟩
theorem RdP.trans {g : Nat} {s : ByteArray} {a b : Int} {w w1 w2 : World} (h : RdP g s a w w1) (k : RdP g s b w1 w2) : RdP g s b w w2 := ⟨gb_trans h.1 k.1, k.2⟩
theorem ret_u8 {a b : Int} (h : a = b) : Ending.returned (.int .u8 a) = .returned (.int .u8 b) := by rw [h]
theorem ch_end (s : ByteArray) (k : Nat) (h : s.size ≤ k) : ch s k = 0 := by
  unfold ch
  rw [List.getD_eq_getElem?_getD, List.getElem?_eq_none (by simpa using h)]; rfl
set_option maxRecDepth 100000 in
set_option maxHeartbeats 1000000 in
theorem peek_any (g : Nat) (s : ByteArray) (a : Nat) (w : World) (h : Rdr w g s a) (ha : a ≤ s.size) (hs : s.size ≤ 65536) :
    Calls Tryd.prog 33 #[.pointer (some ⟨g, 0, none⟩)] w fun e w' => e = .returned (.int .u8 (ch s a : Nat)) ∧ Below w.heap.size w w' := by
  obtain ⟨z, c0, c1, f1⟩ := h.facts
  clear h
  by_cases he : a = s.size
  · rw [ch_end s a (by omega)]
    have q : ((a : Int) == (s.size : Int)) = true := by simp [he]
    clear he
    go_enter Tryd.func33, Tryd.ntmps33
    go_wp2_with fail
    go_quiet (fail)
    go_wp2_with fail
    go_ret
    exact ⟨rfl, bdrewN (Below.refl _ _) _⟩
  · have hlt : a < s.size := by omega
    have q : ((a : Int) == (s.size : Int)) = false := by simp; omega
    have HV := Lib.hid (ch_at s a hlt)
    clear he
    go_enter Tryd.func33, Tryd.ntmps33
    go_wp2_with fail
    go_quiet (fail)
    go_wp2_with fail
    go_quiet (fail)
    go_wp2_with fail
    go_ret
    exact ⟨ret_u8 (by rw [HV.out]), bdrewN (bdrewN (Below.refl _ _) _) _⟩
set_option maxHeartbeats 1000000 in
theorem sletter_any (n : Nat) (w : World) : Calls Tryd.prog 48 #[.int .u8 (n : Int)] w fun e w' => e = .returned (.bool (letB n)) ∧ w = w' := by
  have hr : letB n = letB n := rfl
  conv at hr => lhs; unfold letB
  have HR := Lib.hid hr
  clear hr
  rw [← HR.out]
  by_cases h1 : 65 ≤ n <;> by_cases h2 : n ≤ 90 <;> by_cases h3 : 97 ≤ n <;> by_cases h4 : n ≤ 122
  all_goals first | (exfalso; omega) | skip
  all_goals
    clear HR
    go_enter Tryd.func48, Tryd.ntmps48
    go_wp2
    go_ret
    exact ⟨ret_bool (by first | (simp [h1, h2, h3, h4]; done) | (simp [h1, h2, h3, h4]; omega)), rfl⟩
theorem sletter_at (n : Nat) (v : Bool) (h : letB n = v) (w : World) : Calls Tryd.prog 48 #[.int .u8 (n : Int)] w fun e w' => e = .returned (.bool v) ∧ w = w' := by
  subst h; exact sletter_any n w
set_option maxHeartbeats 2000000 in
theorem inside_any (n : Nat) (w : World) : Calls Tryd.prog 49 #[.int .u8 (n : Int)] w fun e w' => e = .returned (.bool (insB n)) ∧ w = w' := by
  cases hl : letB n with
  | true =>
    have HV : Hid (insB n = true) := by show insB n = true; unfold insB; rw [hl]; rfl
    go_enter Tryd.func49, Tryd.ntmps49
    go_wp2_with fail
    refine (sletter_at _ _ hl _).mono ?_
    rintro e w1 ⟨rfl, rfl⟩
    go_wp2_with fail
    go_ret
    exact ⟨ret_bool HV.out.symm, rfl⟩
  | false =>
    have hr : insB n = (decide (48 ≤ n) && decide (n ≤ 57) || n == 95) := by unfold insB; rw [hl]; simp
    have HR := Lib.hid hr
    clear hr
    rw [HR.out]
    clear HR
    by_cases h1 : 48 ≤ n
    · by_cases h2 : n ≤ 57
      · have d1 : decide ((48 : Int) ≤ (n : Int)) = true := decide_eq_true (by omega)
        have d2 : decide ((n : Int) ≤ 57) = true := decide_eq_true (by omega)
        go_enter Tryd.func49, Tryd.ntmps49
        go_wp2_with fail
        refine (sletter_at _ _ hl _).mono ?_
        rintro e w1 ⟨rfl, rfl⟩
        go_wp2_with fail
        go_ret
        exact ⟨ret_bool (by simp [h1, h2]), rfl⟩
      · have d1 : decide ((48 : Int) ≤ (n : Int)) = true := decide_eq_true (by omega)
        have d2 : decide ((n : Int) ≤ 57) = false := decide_eq_false (by omega)
        go_enter Tryd.func49, Tryd.ntmps49
        go_wp2_with fail
        refine (sletter_at _ _ hl _).mono ?_
        rintro e w1 ⟨rfl, rfl⟩
        go_wp2_with fail
        go_ret
        exact ⟨ret_bool (by rw [Bool.eq_iff_iff]; simp [h1, h2] <;> omega), rfl⟩
    · have d1 : decide ((48 : Int) ≤ (n : Int)) = false := decide_eq_false (by omega)
      go_enter Tryd.func49, Tryd.ntmps49
      go_wp2_with fail
      refine (sletter_at _ _ hl _).mono ?_
      rintro e w1 ⟨rfl, rfl⟩
      go_wp2_with fail
      go_ret
      exact ⟨ret_bool (by rw [Bool.eq_iff_iff]; simp [h1] <;> omega), rfl⟩
theorem inside_at (n : Nat) (v : Bool) (h : insB n = v) (w : World) : Calls Tryd.prog 49 #[.int .u8 (n : Int)] w fun e w' => e = .returned (.bool v) ∧ w = w' := by
  subst h; exact inside_any n w
/-- the number of a digit as Quote writes it, or -1 -/
def digV (n : Nat) : Int := if 48 ≤ n ∧ n ≤ 57 then (n : Int) - 48 else if 97 ≤ n ∧ n ≤ 102 then (n : Int) - 87 else -1
theorem digV_lib : ∀ n : Fin 256, Lib.indexByte [48, 49, 50, 51, 52, 53, 54, 55, 56, 57, 97, 98, 99, 100, 101, 102] ((n.val : Int)).toNat.toUInt8 = digV n.val := by decide +kernel
set_option maxHeartbeats 1000000 in
theorem sdigit_any (n : Nat) (hn : n < 256) (w : World) : Calls Tryd.prog 99 #[.int .u8 (n : Int)] w fun e w' => e = .returned (.int .i64 (digV n)) ∧ w = w' := by
  have C := Lib.hid (Tryd.strings_IndexByte ⟨#[48, 49, 50, 51, 52, 53, 54, 55, 56, 57, 97, 98, 99, 100, 101, 102]⟩ (n : Int) w)
  have V := Lib.hid (digV_lib ⟨n, hn⟩)
  go_enter Tryd.func99, Tryd.ntmps99
  go_wp2_with fail
  refine C.out.mono ?_
  rintro e w1 ⟨rfl, rfl⟩
  go_wp2_with fail
  go_ret
  exact ⟨ret_int V.out, rfl⟩
end Go.Proofs.YtaocgibfabofhaaDoor
