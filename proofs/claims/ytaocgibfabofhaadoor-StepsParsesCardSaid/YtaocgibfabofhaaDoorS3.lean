/-
  Lists of steps: how a slice reads as one, and what slices.CompareFunc and Compare return. No condition but that the slices read as lists.
-/
import Derived.Test.YtaocgibfabofhaaDoorS2
namespace Go.Proofs.YtaocgibfabofhaaDoor
open Go.RowKit
set_option linter.unusedSimpArgs false
set_option linter.unusedVariables false
abbrev St := ByteArray × Int
/-- the slice at A reads as the list xs, in blocks below B -/
structure Rd (w : World) (B : Nat) (A : Option Addr) (xs : List St) : Prop where
  at_ : ∀ k (h : k < xs.length), ∃ ad, A = some ad ∧ ad.block < B ∧ w.cell? (ad.add (k * 2)) = some (.string xs[k].1) ∧ w.cell? ⟨(ad.add (k * 2)).block, (ad.add (k * 2)).off + 1, none⟩ = some (.int .i64 xs[k].2)
theorem block_of_add (a : Addr) (n : Nat) : (a.add n).block = a.block := by unfold Addr.add; split <;> rfl
theorem add_of_add (a : Addr) (i j : Nat) : (a.add i).add j = a.add (i + j) := by
  unfold Addr.add
  by_cases hi : i = 0 <;> by_cases hj : j = 0 <;> simp [hi, hj, Nat.add_assoc]
theorem Rd.below {w w' : World} {B : Nat} {A : Option Addr} {xs : List St} (h : Rd w B A xs) (hb : Below B w w') : Rd w' B A xs :=
  ⟨fun k hk => by
    obtain ⟨ad, e, hl, c0, c1⟩ := h.at_ k hk
    exact ⟨ad, e, hl, by rw [hb.cell (by rw [block_of_add]; exact hl)]; exact c0, by rw [hb.cell (by show (ad.add (k * 2)).block < B; rw [block_of_add]; exact hl)]; exact c1⟩⟩
def cmpX (x y : St) : Int := cmpS x.1 x.2 y.1 y.2
def cmpL : List St → List St → Int
  | [], [] => 0
  | [], _ :: _ => -1
  | _ :: _, [] => 1
  | x :: xs, y :: ys => orI (cmpX x y) (cmpL xs ys)
theorem cmpL_at {xs ys : List St} {k : Nat} (h : k < xs.length) (h' : k < ys.length) : cmpL (xs.drop k) (ys.drop k) = orI (cmpX xs[k] ys[k]) (cmpL (xs.drop (k + 1)) (ys.drop (k + 1))) := by
  rw [List.drop_eq_getElem_cons h, List.drop_eq_getElem_cons h']; rfl
theorem cmpL_1 {xs ys : List St} {k : Nat} (h : k < xs.length) (h' : ys.length ≤ k) : cmpL (xs.drop k) (ys.drop k) = 1 := by
  rw [List.drop_eq_getElem_cons h, List.drop_eq_nil_of_le h']; rfl
theorem cmpL_2 {xs ys : List St} {k : Nat} (h : xs.length ≤ k) (h' : k < ys.length) : cmpL (xs.drop k) (ys.drop k) = -1 := by
  rw [List.drop_eq_getElem_cons h', List.drop_eq_nil_of_le h]; rfl
theorem cmpL_3 {xs ys : List St} {k : Nat} (h : xs.length ≤ k) (h' : ys.length ≤ k) : cmpL (xs.drop k) (ys.drop k) = 0 := by
  rw [List.drop_eq_nil_of_le h, List.drop_eq_nil_of_le h']; rfl
set_option maxRecDepth 100000 in
set_option maxHeartbeats 4000000 in
theorem comparefunc_any (A A' : Option Addr) (c c' : Nat) (xs ys : List St) (hx : xs.length ≤ 1000) (hy : ys.length ≤ 1000) (w : World) (h : Rd w w.heap.size A xs) (h' : Rd w w.heap.size A' ys) :
    Calls Tryd.prog 36 #[.slice A xs.length c, .slice A' ys.length c', .func (.func 37) #[] #[]] w fun e w' => e = .returned (.int .i64 (cmpL xs ys)) ∧ Below w.heap.size w w' := by
  have HR : Hid (cmpL (xs.drop 0) (ys.drop 0) = cmpL xs ys) := by show cmpL (xs.drop 0) (ys.drop 0) = cmpL xs ys; simp
  generalize cmpL xs ys = R at *
  have H := Lib.hid h
  have H' := Lib.hid h'
  clear h h'
  go_enter Tryd.func36, Tryd.ntmps36
  go_wp2_with fail
  go_loopw [13] (fun i wr => ∃ k : Nat, i = .int .i64 (k : Int) ∧ k ≤ xs.length ∧ k ≤ ys.length ∧ Hid (cmpL (xs.drop k) (ys.drop k) = R) ∧ Hid (Below w.heap.size w wr)) (fun i _ => xs.length - (intOf i).toNat)
  case atStart => exact ⟨0, rfl, by omega, by omega, HR, Lib.hid (Below.refl _ _)⟩
  case round =>
    obtain ⟨k, rfl, hk, hk', HS, HB⟩ := hrel
    by_cases hlt : k < xs.length
    · by_cases hlt' : k < ys.length
      · obtain ⟨ad, rfl, hl, c0, c1⟩ := (H.out.below HB.out).at_ k hlt
        obtain ⟨ad', rfl, hl', d0, d1⟩ := (H'.out.below HB.out).at_ k hlt'
        have e0 : (wr.alloc (.cells #[.string xs[k].1, .int .i64 xs[k].2] 37)).cell? (ad'.add (k * 2)) = some (.string ys[k].1) := by rw [World.cell?_alloc_lt _ _ _ (World.block_lt_of_cell? _ _ d0)]; exact d0
        have e1 : (wr.alloc (.cells #[.string xs[k].1, .int .i64 xs[k].2] 37)).cell? ⟨(ad'.add (k * 2)).block, (ad'.add (k * 2)).off + 1, none⟩ = some (.int .i64 ys[k].2) := by rw [World.cell?_alloc_lt _ _ _ (World.block_lt_of_cell? _ _ d1)]; exact d1
        have q1 : decide (ys.length ≤ k) = false := decide_eq_false (by omega)
        rw [cmpL_at hlt hlt'] at HS
        clear d0 d1
        go_wp2_with fail
        refine (cs_any _ _ _ _ _).mono ?_
        rintro e w1 ⟨rfl, hb1⟩
        have HB1 := Lib.hid (((HB.out.alloc (HB.out.size) _).alloc (by have := HB.out.size; simp; omega) _).trans (hb1.mono (by have := HB.out.size; simp; omega)))
        clear hb1
        by_cases hz : cmpS xs[k].1 xs[k].2 ys[k].1 ys[k].2 = 0
        · have HS2 : Hid (cmpL (xs.drop (k + 1)) (ys.drop (k + 1)) = R) := by have := HS.out; unfold cmpX at this; rw [hz, orI_0] at this; exact this
          have hz' : (cmpS xs[k].1 xs[k].2 ys[k].1 ys[k].2 != 0) = false := by simp [hz]
          clear hz HS
          go_wp2_with fail
          go_roundw
          case rel => exact ⟨k + 1, by go_num, by omega, by omega, HS2, HB1⟩
          case measure => simp [intOf]; omega
        · have HS2 : Hid (cmpS xs[k].1 xs[k].2 ys[k].1 ys[k].2 = R) := by have := HS.out; unfold cmpX at this; rw [orI_ne hz] at this; exact this
          have hz' : (cmpS xs[k].1 xs[k].2 ys[k].1 ys[k].2 != 0) = true := by simp [hz]
          clear hz HS
          go_wp2_with fail
          go_ret
          exact ⟨ret_int HS2.out, HB1.out⟩
      · obtain ⟨ad, rfl, hl, c0, c1⟩ := (H.out.below HB.out).at_ k hlt
        have q1 : decide (ys.length ≤ k) = true := decide_eq_true (by omega)
        rw [cmpL_1 hlt (by omega)] at HS
        go_wp2_with fail
        go_ret
        exact ⟨ret_int HS.out, HB.out.alloc HB.out.size _⟩
    · by_cases hlt' : k < ys.length
      · obtain rfl : k = xs.length := by omega
        rw [cmpL_2 (by omega) hlt'] at HS
        go_wp2_with fail
        go_ret
        exact ⟨ret_int HS.out, HB.out⟩
      · obtain rfl : k = xs.length := by omega
        have he : ¬ xs.length < ys.length := hlt'
        rw [cmpL_3 (by omega) (by omega)] at HS
        go_wp2_with fail
        go_ret
        exact ⟨ret_int HS.out, HB.out⟩
set_option maxHeartbeats 1000000 in
theorem compare_any (A A' : Option Addr) (c c' : Nat) (xs ys : List St) (hx : xs.length ≤ 1000) (hy : ys.length ≤ 1000) (w : World) (h : Rd w w.heap.size A xs) (h' : Rd w w.heap.size A' ys) :
    Calls Tryd.prog 20 #[.slice A xs.length c, .slice A' ys.length c'] w fun e w' => e = .returned (.int .i64 (cmpL xs ys)) ∧ Below w.heap.size w w' := by
  have C := Lib.hid (comparefunc_any A A' c c' xs ys hx hy w h h')
  clear h h'
  go_enter Tryd.func20, Tryd.ntmps20
  go_wp2_with fail
  refine C.out.mono ?_
  rintro e w1 ⟨rfl, hb1⟩
  go_wp2_with fail
  go_ret
  exact ⟨rfl, hb1⟩
end Go.Proofs.YtaocgibfabofhaaDoor
