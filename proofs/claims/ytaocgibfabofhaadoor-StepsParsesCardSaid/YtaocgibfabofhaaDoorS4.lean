/-
  The specification's comparison of lists of steps, its Same, and Prefix of both. No condition but that the slices read as lists.
-/
import Derived.Test.YtaocgibfabofhaaDoorS3
import Derived.Laws.StructEq
namespace Go.Proofs.YtaocgibfabofhaaDoor
open Go.RowKit
set_option linter.unusedSimpArgs false
set_option linter.unusedVariables false
/-- what the specification's loop reads in one round -/
abbrev S4 (w0 : World) (p q : Addr) (x y : St) (w : World) : Prop :=
  Below w0.heap.size w0 w ∧ w.cell? p = some (.string x.1) ∧ w.cell? ⟨p.block, p.off + 1, none⟩ = some (.int .i64 x.2) ∧ w.cell? q = some (.string y.1) ∧ w.cell? ⟨q.block, q.off + 1, none⟩ = some (.int .i64 y.2)
theorem keep4 {w0 w w' : World} {p q : Addr} {x y : St} (h : S4 w0 p q x y w) (hb : Below w.heap.size w w') : S4 w0 p q x y w' := by
  obtain ⟨h0, a0, a1, p0, p1⟩ := h
  exact ⟨h0.trans (hb.mono h0.size), cell_keep a0 hb, cell_keep a1 hb, cell_keep p0 hb, cell_keep p1 hb⟩
theorem below4 {w0 w : World} {p q : Addr} {x y : St} (h : S4 w0 p q x y w) : Below w0.heap.size w0 w := h.1
theorem bdrewN {B : Nat} {w w' : World} (h : Below B w w') (n : Nat) : Below B w (w'.drewN n) := by
  refine h.trans ?_
  constructor <;> first | rfl | exact Nat.le_refl _ | (intros; rfl)
set_option maxRecDepth 100000 in
set_option maxHeartbeats 4000000 in
theorem rcompare_any (A A' : Option Addr) (c c' : Nat) (xs ys : List St) (hx : xs.length ≤ 1000) (hy : ys.length ≤ 1000) (w : World) (h : Rd w w.heap.size A xs) (h' : Rd w w.heap.size A' ys) :
    Calls Tryd.prog 21 #[.slice A xs.length c, .slice A' ys.length c'] w fun e w' => e = .returned (.int .i64 (cmpL xs ys)) ∧ Below w.heap.size w w' := by
  have HR : Hid (cmpL (xs.drop 0) (ys.drop 0) = cmpL xs ys) := by show cmpL (xs.drop 0) (ys.drop 0) = cmpL xs ys; simp
  generalize cmpL xs ys = R at *
  have H := Lib.hid h
  have H' := Lib.hid h'
  clear h h'
  go_enter Tryd.func21, Tryd.ntmps21
  go_wp2_with fail
  go_loopw [5] (fun i wr => ∃ k : Nat, i = .int .i64 (k : Int) ∧ k ≤ xs.length ∧ k ≤ ys.length ∧ Hid (cmpL (xs.drop k) (ys.drop k) = R) ∧ Hid (Below w.heap.size w wr)) (fun i _ => xs.length - (intOf i).toNat)
  case atStart => exact ⟨0, rfl, by omega, by omega, HR, Lib.hid (Below.refl _ _)⟩
  case round =>
    obtain ⟨k, rfl, hk, hk', HS, HB⟩ := hrel
    by_cases hlt : k < xs.length
    · by_cases hlt' : k < ys.length
      · obtain ⟨ad, rfl, hl, c0, c1⟩ := (H.out.below HB.out).at_ k hlt
        obtain ⟨ad', rfl, hl', d0, d1⟩ := (H'.out.below HB.out).at_ k hlt'
        have S0 : S4 w (ad.add (k * 2)) (ad'.add (k * 2)) xs[k] ys[k] wr := ⟨HB.out, c0, c1, d0, d1⟩
        have q0 : decide (k < xs.length) = true := decide_eq_true hlt
        have q1 : decide (k < ys.length) = true := decide_eq_true hlt'
        rw [cmpL_at hlt hlt'] at HS
        clear c0 c1 d0 d1
        go_wp2_with fail
        go_region_held3 (fun w' => S4 w (ad.add (k * 2)) (ad'.add (k * 2)) xs[k] ys[k] w') (first | assumption | exact keep4 (by assumption) ((Below.refl _ _).drew) | exact keep4 (by assumption) (by assumption)) (first | (go_at_call 38; refine (one_any _ _ _ _ _).mono ?_; rintro e w1 ⟨rfl, hb1⟩))
        rename_i hHeld
        have HB1 := Lib.hid (below4 hHeld)
        clear hHeld S0
        by_cases hz : cmpS xs[k].1 xs[k].2 ys[k].1 ys[k].2 = 0
        · have HS2 : Hid (cmpL (xs.drop (k + 1)) (ys.drop (k + 1)) = R) := by have := HS.out; unfold cmpX at this; rw [hz, orI_0] at this; exact this
          have hz' : (cmpS xs[k].1 xs[k].2 ys[k].1 ys[k].2 != 0) = false := by simp [hz]
          clear hz HS
          go_wp2_with fail
          go_roundw
          case rel => exact ⟨k + 1, by go_num, by omega, by omega, HS2, HB1⟩
          case measure => simp [intOf]; omega
        · have HS2 : Hid (cmpS xs[k].1 xs[k].2 ys[k].1 ys[k].2 = R) := by have := HS.out; unfold cmpX at this; rw [orI_ne hz] at this; exact this
          have hz' : (cmpS xs[k].1 xs[k].2 ys[k].1 ys[k].2 != 0) = true := by simp [hz]
          clear hz HS
          go_wp2_with fail
          go_ret
          exact ⟨ret_int HS2.out, HB1.out⟩
      · obtain rfl : k = ys.length := by omega
        have q0 : decide (ys.length < xs.length) = true := decide_eq_true hlt
        have q1 : ((xs.length : Int) != (ys.length : Int)) = true := bne_iff_ne.2 (by omega)
        have q2 : decide (xs.length < ys.length) = false := decide_eq_false (by omega)
        rw [cmpL_1 hlt (by omega)] at HS
        go_wp2_with (go_at_call 39; refine (sign_any _ _).mono ?_; rintro e w' ⟨rfl, rfl⟩)
        go_ret
        exact ⟨ret_int HS.out, HB.out⟩
    · by_cases hlt' : k < ys.length
      · obtain rfl : k = xs.length := by omega
        have q1 : ((xs.length : Int) != (ys.length : Int)) = true := bne_iff_ne.2 (by omega)
        have q2 : decide (xs.length < ys.length) = true := decide_eq_true hlt'
        rw [cmpL_2 (by omega) hlt'] at HS
        go_wp2_with (go_at_call 39; refine (sign_any _ _).mono ?_; rintro e w' ⟨rfl, rfl⟩)
        go_ret
        exact ⟨ret_int HS.out, HB.out⟩
      · obtain rfl : k = xs.length := by omega
        have he : ((xs.length : Int) != (ys.length : Int)) = false := by simp; omega
        rw [cmpL_3 (by omega) (by omega)] at HS
        go_wp2_with fail
        go_ret
        exact ⟨ret_int HS.out, HB.out⟩
set_option maxHeartbeats 1000000 in
theorem same_any (A A' : Option Addr) (c c' : Nat) (xs ys : List St) (hx : xs.length ≤ 1000) (hy : ys.length ≤ 1000) (w : World) (h : Rd w w.heap.size A xs) (h' : Rd w w.heap.size A' ys) :
    Calls Tryd.prog 19 #[.slice A xs.length c, .slice A' ys.length c'] w fun e w' => e = .returned (.bool (cmpL xs ys == 0)) ∧ Below w.heap.size w w' := by
  have C := Lib.hid (rcompare_any A A' c c' xs ys hx hy w h h')
  clear h h'
  go_enter Tryd.func19, Tryd.ntmps19
  go_wp2_with fail
  refine C.out.mono ?_
  rintro e w1 ⟨rfl, hb1⟩
  go_wp2_with fail
  go_ret
  exact ⟨rfl, hb1⟩
def eqX (x y : St) : Bool := (x.1.toList == y.1.toList) && (x.2 == y.2)
theorem eqSt (a : ByteArray) (i : Int) (b : ByteArray) (j : Int) (w : World) : (Op.equalIn 10000 37 (.agg #[.string a, .int .i64 i]) (.agg #[.string b, .int .i64 j])).run Tryd.prog w = .ok ((a.toList == b.toList) && (i == j)) w := by
  go_simp
  by_cases h0 : a.toList = b.toList <;> by_cases h1 : i = j <;> simp [h0, h1]
def preB : List St → List St → Bool
  | [], _ => true
  | _ :: _, [] => false
  | x :: xs, y :: ys => eqX x y && preB xs ys
theorem preB_at {xs ys : List St} {k : Nat} (h : k < xs.length) (h' : k < ys.length) : preB (xs.drop k) (ys.drop k) = (eqX xs[k] ys[k] && preB (xs.drop (k + 1)) (ys.drop (k + 1))) := by
  rw [List.drop_eq_getElem_cons h, List.drop_eq_getElem_cons h']; rfl
theorem preB_end {xs ys : List St} {k : Nat} (h : xs.length ≤ k) : preB (xs.drop k) (ys.drop k) = true := by
  rw [List.drop_eq_nil_of_le h]; rfl
theorem preB_long : ∀ (xs ys : List St), ys.length < xs.length → preB xs ys = false
  | [], _, h => by simp at h
  | _ :: _, [], _ => rfl
  | x :: xs, y :: ys, h => by show (eqX x y && preB xs ys) = false; rw [preB_long xs ys (by simpa using h)]; simp
set_option maxRecDepth 100000 in
set_option maxHeartbeats 4000000 in
theorem prefix_any (A A' : Option Addr) (c c' : Nat) (xs ys : List St) (hx : xs.length ≤ 1000) (hy : ys.length ≤ 1000) (w : World) (h : Rd w w.heap.size A xs) (h' : Rd w w.heap.size A' ys) :
    Calls Tryd.prog 22 #[.slice A xs.length c, .slice A' ys.length c'] w fun e w' => e = .returned (.bool (preB xs ys)) ∧ Below w.heap.size w w' := by
  by_cases hle : ys.length < xs.length
  · rw [preB_long xs ys hle]
    have q0 : decide (ys.length < xs.length) = true := decide_eq_true hle
    go_enter Tryd.func22, Tryd.ntmps22
    go_wp2_with fail
    go_ret
    exact ⟨rfl, Below.refl _ _⟩
  · have HR : Hid (preB (xs.drop 0) (ys.drop 0) = preB xs ys) := by show preB (xs.drop 0) (ys.drop 0) = preB xs ys; simp
    generalize preB xs ys = R at *
    have H := Lib.hid h
    have H' := Lib.hid h'
    have q0 : decide (ys.length < xs.length) = false := decide_eq_false hle
    clear h h'
    go_enter Tryd.func22, Tryd.ntmps22
    go_wp2_with fail
    go_loopw [14] (fun i wr => ∃ k : Nat, i = .int .i64 (k : Int) ∧ k ≤ xs.length ∧ Hid (preB (xs.drop k) (ys.drop k) = R) ∧ Hid (Below w.heap.size w wr)) (fun i _ => xs.length - (intOf i).toNat)
    case atStart => exact ⟨0, rfl, by omega, HR, Lib.hid (Below.refl _ _)⟩
    case round =>
      obtain ⟨k, rfl, hk, HS, HB⟩ := hrel
      by_cases hlt : k < xs.length
      · have hlt' : k < ys.length := by omega
        obtain ⟨ad, rfl, hl, c0, c1⟩ := (H.out.below HB.out).at_ k hlt
        obtain ⟨ad', rfl, hl', d0, d1⟩ := (H'.out.below HB.out).at_ k hlt'
        have e0 : (wr.alloc (.cells #[.string xs[k].1, .int .i64 xs[k].2] 37)).cell? (ad'.add (k * 2)) = some (.string ys[k].1) := by rw [World.cell?_alloc_lt _ _ _ (World.block_lt_of_cell? _ _ d0)]; exact d0
        have e1 : (wr.alloc (.cells #[.string xs[k].1, .int .i64 xs[k].2] 37)).cell? ⟨(ad'.add (k * 2)).block, (ad'.add (k * 2)).off + 1, none⟩ = some (.int .i64 ys[k].2) := by rw [World.cell?_alloc_lt _ _ _ (World.block_lt_of_cell? _ _ d1)]; exact d1
        have HB1 := Lib.hid (HB.out.alloc HB.out.size (.cells #[.string xs[k].1, .int .i64 xs[k].2] 37))
        clear d0 d1
        cases hq : eqX xs[k] ys[k] with
        | true =>
          have HS2 : Hid (preB (xs.drop (k + 1)) (ys.drop (k + 1)) = R) := by have := HS.out; rw [preB_at hlt hlt', hq, Bool.true_and] at this; exact this
          have E : ∀ w, (Op.equalIn 10000 37 (.agg #[.string xs[k].1, .int .i64 xs[k].2]) (.agg #[.string ys[k].1, .int .i64 ys[k].2])).run Tryd.prog w = .ok true w := fun w => by rw [eqSt]; exact congrArg (Result.ok · w) hq
          clear hq HS
          go_wp2_with fail
          go_quiet (fail)
          go_wp2_with fail
          go_roundw
          case rel => exact ⟨k + 1, by go_num, by omega, HS2, Lib.hid (bdrewN HB1.out _)⟩
          case measure => simp [intOf]; omega
        | false =>
          have HS2 : Hid (false = R) := by have := HS.out; rw [preB_at hlt hlt', hq, Bool.false_and] at this; exact this
          have E : ∀ w, (Op.equalIn 10000 37 (.agg #[.string xs[k].1, .int .i64 xs[k].2]) (.agg #[.string ys[k].1, .int .i64 ys[k].2])).run Tryd.prog w = .ok false w := fun w => by rw [eqSt]; exact congrArg (Result.ok · w) hq
          clear hq HS
          go_wp2_with fail
          go_quiet (fail)
          go_wp2_with fail
          go_ret
          exact ⟨ret_bool HS2.out, bdrewN HB1.out _⟩
      · obtain rfl : k = xs.length := by omega
        rw [preB_end (by omega)] at HS
        go_wp2_with fail
        go_ret
        exact ⟨ret_bool HS.out, HB.out⟩
theorem cmpS_0 {a b : ByteArray} {i j : Int} (h : cmpS a i b j = 0) : a = b ∧ i = j := by
  have hab : a = b := by
    by_cases hab : a = b
    · exact hab
    · exfalso
      by_cases ha : a.size = 0
      · by_cases hb : b.size = 0
        · exact hab ((size0 ha).trans (size0 hb).symm)
        · rw [cmpS_2 ha hb] at h; omega
      · by_cases hb : b.size = 0
        · rw [cmpS_1 ha hb] at h; omega
        · rw [cmpS_3 ⟨fun h => absurd h ha, fun h => absurd h hb⟩, cmpB_of hab] at h
          unfold orI at h
          split at h <;> (split at h <;> omega)
  subst hab
  refine ⟨rfl, ?_⟩
  rw [cmpS_3 ⟨fun h => h, fun h => h⟩, cmpB_self, orI_0] at h
  unfold Lib.compareInt at h
  split at h
  · omega
  · split at h <;> omega
theorem cmpS_self (a : ByteArray) (i : Int) : cmpS a i a i = 0 := by rw [cmpS_3 ⟨fun h => h, fun h => h⟩, cmpB_self, orI_0, ci_eq]
theorem orI_zero {x y : Int} : orI x y = 0 ↔ x = 0 ∧ y = 0 := by unfold orI; split <;> omega
theorem cmpL_0 : ∀ (xs ys : List St), cmpL xs ys = 0 ↔ xs = ys
  | [], [] => by simp [cmpL]
  | [], _ :: _ => by simp [cmpL]
  | _ :: _, [] => by simp [cmpL]
  | x :: xs, y :: ys => by
    show orI (cmpX x y) (cmpL xs ys) = 0 ↔ _
    rw [orI_zero, cmpL_0 xs ys]
    constructor
    · rintro ⟨h, rfl⟩
      have := cmpS_0 h
      rw [show x = y from Prod.ext this.1 this.2]
    · intro h
      injection h with h1 h2
      subst h1 h2
      exact ⟨cmpS_self _ _, rfl⟩
theorem eqX_iff (x y : St) : eqX x y = true ↔ x = y := by
  unfold eqX
  constructor
  · intro h
    simp only [Bool.and_eq_true, beq_iff_eq] at h
    exact Prod.ext (by by_cases e : x.1 = y.1; exact e; exact absurd h.1 (toList_ne e)) h.2
  · rintro rfl; simp
theorem preB_iff : ∀ (xs ys : List St), xs.length ≤ ys.length → preB xs ys = (cmpL xs (ys.take xs.length) == 0)
  | [], ys, _ => by simp [preB, cmpL]
  | _ :: _, [], h => by simp at h
  | x :: xs, y :: ys, h => by
    show (eqX x y && preB xs ys) = (orI (cmpX x y) (cmpL xs (ys.take xs.length)) == 0)
    rw [preB_iff xs ys (by simpa using h)]
    cases hq : eqX x y with
    | true =>
      have := (eqX_iff x y).1 hq
      subst this
      rw [show cmpX x x = 0 from cmpS_self _ _, orI_0, Bool.true_and]
    | false =>
      have hn : cmpX x y ≠ 0 := fun h => by
        have := cmpS_0 h
        rw [(eqX_iff x y).2 (Prod.ext this.1 this.2)] at hq; cases hq
      rw [orI_ne hn, Bool.false_and]
      exact (beq_eq_false_iff_ne.2 hn).symm
theorem Rd.take {w : World} {B : Nat} {A : Option Addr} {xs : List St} (h : Rd w B A xs) (n : Nat) : Rd w B A (xs.take n) :=
  ⟨fun k hk => by
    obtain ⟨ad, e, hl, c0, c1⟩ := h.at_ k (by have := List.length_take_le' n xs; omega)
    exact ⟨ad, e, hl, by rw [List.getElem_take]; exact c0, by rw [List.getElem_take]; exact c1⟩⟩
set_option maxRecDepth 100000 in
set_option maxHeartbeats 4000000 in
theorem rprefix_any (A A' : Option Addr) (c c' : Nat) (xs ys : List St) (hx : xs.length ≤ 1000) (hy : ys.length ≤ 1000) (hc : ys.length ≤ c') (w : World) (h : Rd w w.heap.size A xs) (h' : Rd w w.heap.size A' ys) :
    Calls Tryd.prog 23 #[.slice A xs.length c, .slice A' ys.length c'] w fun e w' => e = .returned (.bool (preB xs ys)) ∧ Below w.heap.size w w' := by
  by_cases hle : ys.length < xs.length
  · rw [preB_long xs ys hle]
    have q0 : decide (xs.length ≤ ys.length) = false := decide_eq_false (by omega)
    go_enter Tryd.func23, Tryd.ntmps23
    go_wp2_with fail
    go_ret
    exact ⟨rfl, Below.refl _ _⟩
  · have hl : (ys.take xs.length).length = xs.length := by rw [List.length_take]; omega
    have C := Lib.hid (fun c'' => same_any A A' c c'' xs (ys.take xs.length) hx (by rw [hl]; exact hx) w h (h'.take _))
    rw [preB_iff xs ys (by omega)]
    have q0 : decide (xs.length ≤ ys.length) = true := decide_eq_true (by omega)
    rw [hl] at C
    clear h h' hl
    generalize (cmpL xs (ys.take xs.length) == 0) = R at *
    go_enter Tryd.func23, Tryd.ntmps23
    go_wp2_with fail
    refine (C.out _).mono ?_
    rintro e w1 ⟨rfl, hb1⟩
    go_wp2_with fail
    go_ret
    exact ⟨rfl, hb1⟩
end Go.Proofs.YtaocgibfabofhaaDoor
