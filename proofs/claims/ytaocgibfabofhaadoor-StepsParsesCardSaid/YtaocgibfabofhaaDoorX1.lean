/-
  The chapter's examples hold: 'example' of the statements returns true. Condition: the table of powers of ten holds what it holds.
-/
import Derived.Test.YtaocgibfabofhaaDoorT2
import Derived.Test.YtaocgibfabofhaaDoorR9
namespace Go.Proofs.YtaocgibfabofhaaDoor
open Go.RowKit
set_option linter.unusedSimpArgs false
set_option linter.unusedVariables false
def exL : List St := [(⟨#[97]⟩, 0), (⟨#[]⟩, 0), (⟨#[98, 32, 99]⟩, 0)]
theorem ex_p1 : parS ⟨#[97, 91, 48, 93, 46, 34, 98, 32, 99, 34]⟩ = (exL, 0, 0) := by decide +kernel
theorem ex_p2 : parS ⟨#[34, 97, 34]⟩ = ([], 8, 2) := by decide +kernel
theorem ex_p3 : parS ⟨#[91, 49, 48, 48, 48, 48, 48, 49, 93]⟩ = ([], 8, 7) := by decide +kernel
theorem ex_t : textS exL = [97, 91, 48, 93, 46, 34, 98, 32, 99, 34] := by decide +kernel
theorem ex_c : cmpL (exL.take 2) (exL.drop 1) = -1 := by decide +kernel
theorem flat_at : ∀ (xs : List St) (k : Nat) (h : k < xs.length), (flat xs)[k * 2]? = some (.string xs[k].1) ∧ (flat xs)[k * 2 + 1]? = some (.int .i64 xs[k].2)
  | [], k, h => by simp at h
  | x :: xs, 0, _ => ⟨rfl, rfl⟩
  | x :: xs, k + 1, h => by
    have := flat_at xs k (by simpa using h)
    have e : flat (x :: xs) = .string x.1 :: .int .i64 x.2 :: flat xs := rfl
    rw [e, show (k + 1) * 2 = k * 2 + 2 by omega]
    exact this
theorem rd_cells {W : World} {B : Nat} {ad : Addr} {xs : List St} (hB : ad.block < B) (hc : ∀ j u, (flat xs)[j]? = some u → W.cell? (ad.add j) = some u) : Rd W B (some ad) xs :=
  ⟨fun k hk => by
    obtain ⟨f0, f1⟩ := flat_at xs k hk
    refine ⟨ad, rfl, hB, hc _ _ f0, ?_⟩
    have := hc _ _ f1
    rw [← add_of_add] at this
    have e : (ad.add (k * 2)).add 1 = ⟨(ad.add (k * 2)).block, (ad.add (k * 2)).off + 1, none⟩ := by simp [Addr.add]
    rw [e] at this
    exact this⟩
theorem rd_nil (W : World) (B : Nat) (A : Option Addr) : Rd W B A [] := ⟨fun k hk => by simp at hk⟩
/-- a row of the call's own reads as its list -/
theorem rd_own {W : World} {B : Nat} {v : Value} {xs : List St} (h : W.ownsRow B 37 2 v xs.length (flat xs)) : ∃ A c, v = .slice A xs.length c ∧ xs.length ≤ c ∧ Rd W W.heap.size A xs := by
  rcases id h.2 with ⟨hv, hn⟩ | ⟨g, cap, cur, hv, hbg, hg, hle, r⟩
  · have : xs = [] := List.eq_nil_of_length_eq_zero hn
    subst this
    exact ⟨none, 0, hv, Nat.le_refl _, rd_nil _ _ _⟩
  · subst hv
    exact ⟨some ⟨g, 0, none⟩, cap, rfl, hle, rd_cells (Array.getElem?_eq_some_iff.1 hg).1 (h.cells rfl)⟩
def exV : Array Value := #[.string ⟨#[97]⟩, .int .i64 0, .string ⟨#[]⟩, .int .i64 0, .string ⟨#[98, 32, 99]⟩, .int .i64 0]
theorem ex_rd {W : World} {g : Nat} (h : W.heap[g]? = some (.cells exV 37 (0, 0))) : Rd W W.heap.size (some ⟨g, 0, none⟩) exL :=
  rd_cells (Array.getElem?_eq_some_iff.1 h).1 (fun j u hu => by
    rw [show (⟨g, 0, none⟩ : Addr).add j = ⟨g, j, none⟩ by simp [Addr.add]; exact fun e => e.symm, cell_of_row W g j exV 37 (0, 0) h]
    rw [← hu, ← Array.getElem?_toList]; rfl)
theorem Rd.drop1 {W : World} {B : Nat} {ad : Addr} {x : St} {xs : List St} (h : Rd W B (some ad) (x :: xs)) : Rd W B (some (ad.add 2)) xs :=
  ⟨fun k hk => by
    obtain ⟨ad', e, hb, c0, c1⟩ := h.at_ (k + 1) (by simpa using hk)
    injection e with e
    subst e
    have e1 : (ad.add 2).add (k * 2) = ad.add ((k + 1) * 2) := by rw [add_of_add]; congr 1; omega
    exact ⟨_, rfl, by rw [block_of_add]; exact hb, by rw [e1]; exact c0, by rw [e1]; exact c1⟩⟩
theorem blkK {w w1 : World} {g : Nat} {o : Obj} (h : w.heap[g]? = some o) (hb : Below w.heap.size w w1) : w1.heap[g]? = some o := by
  rw [hb.block _ (Array.getElem?_eq_some_iff.1 h).1]; exact h
theorem fcells {w : World} {g : Nat} {a b : Int} (h : w.heap[g]? = some (.cells #[.int .i64 a, .int .i64 b] 28 (0, 0))) : g < w.heap.size ∧ w.cell? ⟨g, 0, none⟩ = some (.int .i64 a) ∧ w.cell? ⟨g, 1, none⟩ = some (.int .i64 b) :=
  ⟨(Array.getElem?_eq_some_iff.1 h).1, by rw [Lib.cell_of_heap h]; rfl, by rw [Lib.cell_of_heap h]; rfl⟩
theorem rd_keep {w w1 : World} {A : Option Addr} {xs : List St} (h : Rd w w.heap.size A xs) (hb : Below w.heap.size w w1) : Rd w1 w1.heap.size A xs :=
  ⟨fun k hk => by
    obtain ⟨ad, e, hl, c⟩ := (h.below hb).at_ k hk
    exact ⟨ad, e, Nat.lt_of_lt_of_le hl hb.size, c⟩⟩
set_option maxRecDepth 100000 in
set_option maxHeartbeats 4000000 in
theorem example_any (w : World) (hT : P10 w) : Calls Tryd.prog 12 #[] w fun e w' => e = .returned (.bool true) ∧ Below w.heap.size w w' := by
  have C1 := Lib.hid (parse_any ⟨#[97, 91, 48, 93, 46, 34, 98, 32, 99, 34]⟩)
  rw [ex_p1] at C1
  have C2 := Lib.hid (parse_any ⟨#[34, 97, 34]⟩)
  rw [ex_p2] at C2
  have C3 := Lib.hid (parse_any ⟨#[91, 49, 48, 48, 48, 48, 48, 49, 93]⟩)
  rw [ex_p3] at C3
  have HT := Lib.hid hT
  clear hT
  go_enter Tryd.func12, Tryd.ntmps12
  go_wp2_with fail
  have B0 := Lib.hid ((Below.refl w.heap.size w).alloc (Nat.le_refl _) (.cells exV 37))
  have L0 := Lib.hid (ex_rd (World.alloc_heap_new w (.cells exV 37)))
  unfold exV at B0 L0
  generalize w.alloc (.cells #[.string ⟨#[97]⟩, .int .i64 0, .string ⟨#[]⟩, .int .i64 0, .string ⟨#[98, 32, 99]⟩, .int .i64 0] 37) = w0 at *
  refine (C1.out _).mono ?_
  rintro e w1 ⟨v1, rfl, hown1, hb1⟩
  obtain ⟨A1, k1, rfl, hk1, rd1⟩ := rd_own hown1
  have R1 := Lib.hid (rd_keep rd1 ((Below.refl _ _).alloc (Nat.le_refl _) (.cells #[.int .i64 0, .int .i64 0] 28)))
  have L1 := Lib.hid (rd_keep (rd_keep L0.out hb1) ((Below.refl _ _).alloc (Nat.le_refl _) (.cells #[.int .i64 0, .int .i64 0] 28)))
  have B1 := Lib.hid ((B0.out.trans (hb1.mono B0.out.size)).alloc (Nat.le_trans B0.out.size hb1.size) (.cells #[.int .i64 0, .int .i64 0] 28))
  have F1 := Lib.hid (World.alloc_heap_new w1 (.cells #[.int .i64 0, .int .i64 0] 28))
  clear rd1 hown1 hb1 L0 B0 C1
  go_wp2_with fail
  generalize w1.alloc (.cells #[.int .i64 0, .int .i64 0] 28) = x1 at *
  refine (C2.out _).mono ?_
  rintro e w2 ⟨v2, rfl, hown2, hb2⟩
  have R2 := Lib.hid (rd_keep (rd_keep R1.out hb2) ((Below.refl _ _).alloc (Nat.le_refl _) (.cells #[.int .i64 8, .int .i64 2] 28)))
  have L2 := Lib.hid (rd_keep (rd_keep L1.out hb2) ((Below.refl _ _).alloc (Nat.le_refl _) (.cells #[.int .i64 8, .int .i64 2] 28)))
  have B2 := Lib.hid ((B1.out.trans (hb2.mono B1.out.size)).alloc (Nat.le_trans B1.out.size hb2.size) (.cells #[.int .i64 8, .int .i64 2] 28))
  have G1 := Lib.hid (blkK (blkK F1.out hb2) ((Below.refl _ _).alloc (Nat.le_refl _) (.cells #[.int .i64 8, .int .i64 2] 28)))
  have F2 := Lib.hid (World.alloc_heap_new w2 (.cells #[.int .i64 8, .int .i64 2] 28))
  clear hown2 hb2 R1 L1 B1 F1 C2
  go_wp2_with fail
  generalize w2.alloc (.cells #[.int .i64 8, .int .i64 2] 28) = x2 at *
  refine (C3.out _).mono ?_
  rintro e w3 ⟨v3, rfl, hown3, hb3⟩
  have R3 := Lib.hid (rd_keep (rd_keep R2.out hb3) ((Below.refl _ _).alloc (Nat.le_refl _) (.cells #[.int .i64 8, .int .i64 7] 28)))
  have L3 := Lib.hid (rd_keep (rd_keep L2.out hb3) ((Below.refl _ _).alloc (Nat.le_refl _) (.cells #[.int .i64 8, .int .i64 7] 28)))
  have B3 := Lib.hid ((B2.out.trans (hb3.mono B2.out.size)).alloc (Nat.le_trans B2.out.size hb3.size) (.cells #[.int .i64 8, .int .i64 7] 28))
  have K1 := Lib.hid (blkK (blkK G1.out hb3) ((Below.refl _ _).alloc (Nat.le_refl _) (.cells #[.int .i64 8, .int .i64 7] 28)))
  have K2 := Lib.hid (blkK (blkK F2.out hb3) ((Below.refl _ _).alloc (Nat.le_refl _) (.cells #[.int .i64 8, .int .i64 7] 28)))
  have F3 := Lib.hid (World.alloc_heap_new w3 (.cells #[.int .i64 8, .int .i64 7] 28))
  clear hown3 hb3 R2 L2 B2 G1 F2 C3
  have q0 : ∀ w, (Op.equalIn 10000 28 (.agg #[.int .i64 0, .int .i64 0]) (.agg #[.int .i64 0, .int .i64 0])).run Tryd.prog w = .ok true w := fun w => by rw [eqF]; simp
  have q2 : ∀ w, (Op.equalIn 10000 28 (.agg #[.int .i64 8, .int .i64 2]) (.agg #[.int .i64 8, .int .i64 2])).run Tryd.prog w = .ok true w := fun w => by rw [eqF]; simp
  have q7 : ∀ w, (Op.equalIn 10000 28 (.agg #[.int .i64 8, .int .i64 7]) (.agg #[.int .i64 8, .int .i64 7])).run Tryd.prog w = .ok true w := fun w => by rw [eqF]; simp
  obtain ⟨z1, c10, c11⟩ := fcells K1.out
  obtain ⟨z2, c20, c21⟩ := fcells K2.out
  obtain ⟨z3, c30, c31⟩ := fcells F3.out
  have T3 := Lib.hid (HT.out.below B3.out)
  have CT : Hid (∀ W, Below (w3.alloc (.cells #[.int .i64 8, .int .i64 7] 28)).heap.size (w3.alloc (.cells #[.int .i64 8, .int .i64 7] 28)) W → Calls Tryd.prog 15 #[.slice (some ⟨w.heap.size, 0, none⟩) 3 3] W fun e w' => e = .returned (.string ⟨#[97, 91, 48, 93, 46, 34, 98, 32, 99, 34]⟩) ∧ Below W.heap.size W w') :=
    Lib.hid fun W h => by have := text_any (some ⟨w.heap.size, 0, none⟩) 3 exL (by decide) (by decide) W (rd_keep L3.out h) (T3.out.below h); rw [ex_t] at this; exact this
  have CN : Hid (∀ W, Below (w3.alloc (.cells #[.int .i64 8, .int .i64 7] 28)).heap.size (w3.alloc (.cells #[.int .i64 8, .int .i64 7] 28)) W → Calls Tryd.prog 15 #[.slice none 0 0] W fun e w' => e = .returned (.string ⟨#[46]⟩) ∧ Below W.heap.size W w') :=
    Lib.hid fun W h => by have := text_any none 0 [] (by decide) (by simp) W (rd_nil _ _ _) (T3.out.below h); exact this
  have CS : Hid (∀ W, Below (w3.alloc (.cells #[.int .i64 8, .int .i64 7] 28)).heap.size (w3.alloc (.cells #[.int .i64 8, .int .i64 7] 28)) W → Calls Tryd.prog 19 #[.slice A1 exL.length k1, .slice (some ⟨w.heap.size, 0, none⟩) 3 3] W fun e w' => e = .returned (.bool true) ∧ Below W.heap.size W w') :=
    Lib.hid fun W h => by have := same_any A1 (some ⟨w.heap.size, 0, none⟩) k1 3 exL exL (by decide) (by decide) W (rd_keep R3.out h) (rd_keep L3.out h); rw [(cmpL_0 exL exL).2 rfl] at this; exact this
  have CC : Hid (∀ W, Below (w3.alloc (.cells #[.int .i64 8, .int .i64 7] 28)).heap.size (w3.alloc (.cells #[.int .i64 8, .int .i64 7] 28)) W → Calls Tryd.prog 20 #[.slice (some ⟨w.heap.size, 0, none⟩) 2 3, .slice (some ⟨w.heap.size, 2, none⟩) 2 2] W fun e w' => e = .returned (.int .i64 (-1)) ∧ Below W.heap.size W w') :=
    Lib.hid fun W h => by have := compare_any (some ⟨w.heap.size, 0, none⟩) (some ⟨w.heap.size, 2, none⟩) 3 2 (exL.take 2) (exL.drop 1) (by decide) (by decide) W ((rd_keep L3.out h).take 2) (by have := (rd_keep L3.out h).drop1; exact this); rw [ex_c] at this; exact this
  have CV : Hid (∀ W, Calls Tryd.prog 13 #[.slice none 0 0] W fun e w' => e = .returned (.bool true) ∧ Below W.heap.size W w') := Lib.hid (fun W => valid_any none 0 [] (by decide) W (rd_nil _ _ _))
  clear K1 K2 F3 T3 HT L3 R3
  go_wp2_with fail
  generalize w3.alloc (.cells #[.int .i64 8, .int .i64 7] 28) = x3 at *
  have S0 : Below x3.heap.size x3 x3 := Below.refl _ _
  clear z1 c10 c11 z2 c20 c21 z3 c30 c31 q0 q2 q7
  have hk1' : 3 ≤ k1 := hk1
  go_region_held3 (fun w' => Below x3.heap.size x3 w') (first | assumption | exact Below.drew (by assumption) | exact Below.trans (by assumption) (Below.mono (by assumption) (Below.size (by assumption)))) (first | (go_at_call 15; first | ((with_reducible refine (CT.out _ (by assumption)).mono ?_); rintro e w' ⟨rfl, hb⟩) | ((with_reducible refine (CN.out _ (by assumption)).mono ?_); rintro e w' ⟨rfl, hb⟩)) | (go_at_call 19; (with_reducible refine (CS.out _ (by assumption)).mono ?_); rintro e w' ⟨rfl, hb⟩) | (go_at_call 20; (with_reducible refine (CC.out _ (by assumption)).mono ?_); rintro e w' ⟨rfl, hb⟩) | (go_at_call 13; (with_reducible refine (CV.out _).mono ?_); rintro e w' ⟨rfl, hb⟩))
  all_goals
    rename_i hHeld
    have HB := Lib.hid (B3.out.trans (hHeld.mono B3.out.size))
    clear hHeld S0
    go_wp2_with fail
    go_ret
    exact ⟨rfl, HB.out⟩
end Go.Proofs.YtaocgibfabofhaaDoor
