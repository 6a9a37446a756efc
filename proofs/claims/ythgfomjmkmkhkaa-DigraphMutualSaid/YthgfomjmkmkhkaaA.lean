/-
  Slices of numbers and graphs: how a slice reads as a list of numbers, or as a graph; isNode of the program; edge, has, Ints, Lists and Small of the specification. No condition but that the slices read as lists.
-/
import Derived.Test.YthgfomjmkmkhkaaProg
import Derived.Test.YthgfomjmkmkhkaaM2
import Derived.WalkKit
import Derived.WalkSpells
import Derived.WalkLawsBesides
import Derived.Lib.Hide
import Derived.Below
import Derived.BigQuiet
import Derived.Deep.QuietTactic
import Derived.LoopTactic
import Derived.IntWalk
namespace Go.Proofs.Ythgfomjmkmkhkaa
open Go.RowKit
set_option linter.unusedSimpArgs false
set_option linter.unusedVariables false
theorem ret_bool {a b : Bool} (h : a = b) : Ending.returned (.bool a) = .returned (.bool b) := by rw [h]
theorem ret_int {k : IntKind} {a b : Int} (h : a = b) : Ending.returned (.int k a) = .returned (.int k b) := by rw [h]
theorem block_of_add (a : Addr) (n : Nat) : (a.add n).block = a.block := by unfold Addr.add; split <;> rfl
theorem add_of_add (a : Addr) (i j : Nat) : (a.add i).add j = a.add (i + j) := by
  unfold Addr.add
  by_cases hi : i = 0 <;> by_cases hj : j = 0 <;> simp [hi, hj, Nat.add_assoc]
/-- the slice at A reads as the numbers xs, in blocks below B -/
structure RI (w : World) (B : Nat) (A : Option Addr) (xs : List Int) : Prop where
  at_ : ∀ k (h : k < xs.length), ∃ ad, A = some ad ∧ ad.block < B ∧ w.cell? (ad.add k) = some (.int .i64 xs[k])
theorem RI.below {w w' : World} {B : Nat} {A : Option Addr} {xs : List Int} (h : RI w B A xs) (hb : Below B w w') : RI w' B A xs :=
  ⟨fun k hk => by
    obtain ⟨ad, e, hl, c⟩ := h.at_ k hk
    exact ⟨ad, e, hl, by rw [hb.cell (by rw [block_of_add]; exact hl)]; exact c⟩⟩
theorem RI.le {w : World} {B B' : Nat} {A : Option Addr} {xs : List Int} (h : RI w B A xs) (hb : B ≤ B') : RI w B' A xs :=
  ⟨fun k hk => by
    obtain ⟨ad, e, hl, c⟩ := h.at_ k hk
    exact ⟨ad, e, Nat.lt_of_lt_of_le hl hb, c⟩⟩
theorem RI.up {w w' : World} {A : Option Addr} {xs : List Int} (h : RI w w.heap.size A xs) (hb : Below w.heap.size w w') : RI w' w'.heap.size A xs := (h.below hb).le hb.size
/-- the slice at A reads as the graph gs, in blocks below B -/
structure RG (w : World) (B : Nat) (A : Option Addr) (gs : Gr) : Prop where
  at_ : ∀ k (h : k < gs.length), ∃ ad A1 c1, A = some ad ∧ ad.block < B ∧ w.cell? (ad.add k) = some (.slice A1 gs[k].length c1) ∧ RI w B A1 gs[k]
theorem RG.below {w w' : World} {B : Nat} {A : Option Addr} {gs : Gr} (h : RG w B A gs) (hb : Below B w w') : RG w' B A gs :=
  ⟨fun k hk => by
    obtain ⟨ad, A1, c1, e, hl, c, r⟩ := h.at_ k hk
    exact ⟨ad, A1, c1, e, hl, by rw [hb.cell (by rw [block_of_add]; exact hl)]; exact c, r.below hb⟩⟩
theorem RG.le {w : World} {B B' : Nat} {A : Option Addr} {gs : Gr} (h : RG w B A gs) (hb : B ≤ B') : RG w B' A gs :=
  ⟨fun k hk => by
    obtain ⟨ad, A1, c1, e, hl, c, r⟩ := h.at_ k hk
    exact ⟨ad, A1, c1, e, Nat.lt_of_lt_of_le hl hb, c, r.le hb⟩⟩
theorem RG.up {w w' : World} {A : Option Addr} {gs : Gr} (h : RG w w.heap.size A gs) (hb : Below w.heap.size w w') : RG w' w'.heap.size A gs := (h.below hb).le hb.size
theorem bdrewN {B : Nat} {w w' : World} (h : Below B w w') (n : Nat) : Below B w (w'.drewN n) := by
  refine h.trans ?_
  constructor <;> first | rfl | exact Nat.le_refl _ | (intros; rfl)

set_option maxHeartbeats 1000000 in
theorem isnode_any (A : Option Addr) (c : Nat) (gs : Gr) (n : Int) (w : World) (hl : gs.length ≤ 9223372036854775807) :
    Calls Try.prog 31 #[.slice A gs.length c, .int .i64 n] w fun e w' => e = .returned (.bool (decide (0 ≤ n) && decide (n < gs.length))) ∧ Below w.heap.size w w' := by
  by_cases h0 : 0 ≤ n
  · have q0 : decide (0 ≤ n) = true := decide_eq_true h0
    have r0 : ¬ n < 0 := by omega
    go_enter Try.func31, Try.ntmps31
    go_wp2_with fail
    go_ret
    exact ⟨by simp [q0], Below.refl _ _⟩
  · have q0 : decide (0 ≤ n) = false := decide_eq_false h0
    go_enter Try.func31, Try.ntmps31
    go_wp2_with fail
    go_ret
    exact ⟨by simp [q0], Below.refl _ _⟩
set_option maxRecDepth 100000 in
set_option maxHeartbeats 4000000 in
theorem edge_any (A : Option Addr) (c : Nat) (gs : Gr) (a : Nat) (b : Int) (w : World) (h : RG w w.heap.size A gs) (ha : a < gs.length) (hl : gs.length ≤ 1000) (hl2 : gs[a].length ≤ 1000) :
    Calls Try.prog 35 #[.slice A gs.length c, .int .i64 (a : Int), .int .i64 b] w fun e w' => e = .returned (.bool (gs[a].contains b)) ∧ Below w.heap.size w w' := by
  obtain ⟨ad, A1, c1, hA, hbk, hc, hr⟩ := h.at_ a ha
  subst hA
  have HX := Lib.hid hr
  have HC := Lib.hid hc
  have HL := Lib.hid hbk
  have ha0 : (0 : Int) ≤ (a : Int) := by omega
  have ha1 : (a : Int) < (gs.length : Int) := by omega
  clear hr hc hbk h
  generalize gs[a] = xs at *
  generalize gs.length = n at *
  have HR : Hid ((xs.drop 0).contains b = xs.contains b) := Lib.hid rfl
  generalize xs.contains b = R at *
  have hn0 : (n : Int) ≤ 1000 := by omega
  go_enter Try.func35, Try.ntmps35
  go_wp2_with fail
  go_loopw [7] (fun s7 wr => ∃ k : Nat, s7 = .int .i64 (k : Int) ∧ k ≤ xs.length ∧ Hid ((xs.drop k).contains b = R) ∧ Hid (Below w.heap.size w wr)) (fun s7 _ => (xs.length - intOf s7).toNat)
  case atStart => exact ⟨0, rfl, by omega, HR, Lib.hid (Below.refl _ _)⟩
  case round =>
    obtain ⟨k, rfl, hk, HS, HB⟩ := hrel
    have hc : wr.cell? (ad.add a) = some (Value.slice A1 xs.length c1) := by rw [HB.out.cell (by rw [block_of_add]; exact HL.out)]; exact HC.out
    by_cases hlt : k < xs.length
    · obtain ⟨a1, hA1, hl1, c0⟩ := (HX.out.below HB.out).at_ k hlt
      subst hA1
      have HS2 : Hid ((xs[k] == b || (xs.drop (k + 1)).contains b) = R) := Lib.hid (by rw [← HS.out, List.drop_eq_getElem_cons hlt, List.contains_cons, Bool.beq_comm])
      have hki : (k : Int) < (xs.length : Int) := by omega
      have hk0 : (0 : Int) ≤ (k : Int) := by omega
      have HK := Lib.hid (show k + 1 ≤ xs.length by omega)
      generalize xs[k] = x at *
      clear hlt HS
      by_cases hx : x = b
      · have HT : Hid (true = R) := Lib.hid (by rw [← HS2.out, hx]; simp)
        subst hx
        clear HS2
        go_wp2_with fail
        go_ret
        exact ⟨ret_bool HT.out, HB.out⟩
      · have HT : Hid ((xs.drop (k + 1)).contains b = R) := Lib.hid (by rw [← HS2.out, beq_eq_false_iff_ne.2 hx, Bool.false_or])
        have q1 : (x == b) = false := beq_eq_false_iff_ne.2 hx
        clear HS2
        go_wp2_with fail
        go_roundw
        case rel => exact ⟨k + 1, by go_num, HK.out, HT, HB⟩
        case measure => have := HK.out; first | (simp [intOf]; done) | (simp [intOf]; omega)
    · obtain rfl : k = xs.length := by omega
      have HT : Hid (false = R) := Lib.hid (by rw [← HS.out, List.drop_eq_nil_of_le (Nat.le_refl _)]; rfl)
      have hki : ¬ (xs.length : Int) < (xs.length : Int) := by omega
      clear HS hlt
      go_wp2_with fail
      go_ret
      exact ⟨ret_bool HT.out, HB.out⟩
end Go.Proofs.Ythgfomjmkmkhkaa
