/-
  The specification's small functions: ValidUnits, whole, floor, rank, unrank. Conditions: the numbers lie between -2 * 10^15 and 2 * 10^15 (rank, unrank, floor), or are 64-bit integers.
-/
import Derived.Test.YteekccjfokoglaaA
import Derived.Test.YteekccjfokoglaaM7
import Derived.Test.YteekccjfokoglaaL
import Derived.Test.YteekccjfokoglaaO
import Derived.Test.YteekccjfokoglaaAi
import Derived.Test.YteekccjfokoglaaAd
namespace Go.Proofs.Yteekccjfokoglaa
open Go.RowKit
set_option linter.unusedSimpArgs false
set_option linter.unnecessarySimpa false
set_option linter.unusedVariables false
theorem rvalid_any (u : Int) (w : World) (h : i64ok u) : Calls Try.prog 37 #[.int .i64 u] w fun e w' => e = .returned (.bool (vld u)) ∧ w = w' := by
  obtain ⟨h1, h2⟩ := h
  by_cases a : -1000000000000000 ≤ u <;> by_cases b : u ≤ 1000000000000000 <;> (
    go_enter Try.func37, Try.ntmps37
    go_wp2
    go_ret
    exact ⟨ret_bool (by simp [vld, a, b]), rfl⟩)
theorem rwhole_any (u : Int) (w : World) : Calls Try.prog 61 #[.int .i64 u] w fun e w' => e = .returned (.bool (decide (u % 10000 = 0))) ∧ w = w' := by
  by_cases hw : u.tmod 10000 = 0
  · have hq : u % 10000 = 0 := Int.emod_eq_zero_of_dvd (Int.dvd_of_tmod_eq_zero hw)
    have ht : ((u.tmod 10000 : Int) == 0) = true := by simp [hw]
    go_enter Try.func61, Try.ntmps61
    go_wp2
    go_ret
    exact ⟨ret_bool (by simp [hq]), rfl⟩
  · have hq : ¬u % 10000 = 0 := by intro h; exact hw (Int.tmod_eq_zero_of_dvd (Int.dvd_of_emod_eq_zero h))
    have ht : ((u.tmod 10000 : Int) == 0) = false := by simp [hw]
    go_enter Try.func61, Try.ntmps61
    go_wp2
    go_ret
    exact ⟨ret_bool (by simp [hq]), rfl⟩
def bdu (u : Int) : Prop := -2000000000000000 ≤ u ∧ u ≤ 2000000000000000
theorem tq_pos {u : Int} {m : Int} (hm : 0 < m) (h : ¬u.tmod m < 0) : u.tdiv m = u / m := by
  rcases Int.lt_or_le u 0 with hu | hu
  · have h0 : u.tmod m = 0 := by
      have : u.tmod m ≤ 0 := by
        rw [← Int.neg_neg u, Int.neg_tmod]
        have := Int.tmod_nonneg (a := -u) m (by omega); omega
      omega
    have hd := Int.dvd_of_tmod_eq_zero h0
    obtain ⟨k, rfl⟩ := hd
    rw [Int.mul_tdiv_cancel_left _ (by omega), Int.mul_ediv_cancel_left _ (by omega)]
  · exact Int.tdiv_eq_ediv_of_nonneg hu
theorem tq_neg {u : Int} {m : Int} (hm : 0 < m) (h : u.tmod m < 0) : u.tdiv m - 1 = u / m := by
  have h1 := Int.tmod_add_mul_tdiv u m
  have h2 := Int.emod_add_mul_ediv u m
  have h3 := Int.emod_nonneg u (by omega : m ≠ 0)
  have h4 := Int.emod_lt_of_pos u hm
  have h5 : -m < u.tmod m := by
    have hu : u < 0 := by
      rcases Int.lt_or_le u 0 with h | h
      · exact h
      · have := Int.tmod_nonneg m h; omega
    rw [← Int.neg_neg u, Int.neg_tmod]
    have := Int.tmod_lt_of_pos (-u) hm; omega
  have h6 : m * (u / m) - m * (u.tdiv m) = u.tmod m - u % m := by omega
  have h7 : m * (u / m - u.tdiv m) = u.tmod m - u % m := by rw [Int.mul_sub]; exact h6
  have h8 : u / m - u.tdiv m < 0 := by
    rcases Int.lt_or_le (u / m - u.tdiv m) 0 with h | h
    · exact h
    · have := Int.mul_nonneg (Int.le_of_lt hm) h; omega
  have h9 : -2 < u / m - u.tdiv m := by
    rcases Int.lt_or_le (-2) (u / m - u.tdiv m) with h | h
    · exact h
    · have := Int.mul_le_mul_of_nonneg_left h (Int.le_of_lt hm); omega
  omega
set_option maxHeartbeats 1000000 in
theorem rfloor_any (u : Int) (w : World) (h : bdu u) : Calls Try.prog 68 #[.int .i64 u] w fun e w' => e = .returned (.int .i64 (u / 10000)) ∧ w = w' := by
  obtain ⟨h1, h2⟩ := h
  have hw : IntKind.i64.wrap (u.tdiv 10000) = u.tdiv 10000 := IntWalk.i64_in _ (by
    by_cases h : u.tmod 10000 < 0
    · have := tq_neg (m := 10000) (by omega) h; omega
    · have := tq_pos (m := 10000) (by omega) h; omega)
  by_cases hn : u.tmod 10000 < 0
  · have e := tq_neg (m := 10000) (by omega) hn
    have hw2 : IntKind.i64.wrap (u.tdiv 10000 - 1) = u.tdiv 10000 - 1 := IntWalk.i64_in _ (by omega)
    have HE := Lib.hid e
    clear e
    go_enter Try.func68, Try.ntmps68
    go_wp2
    go_ret
    exact ⟨ret_int HE.out, rfl⟩
  · have e := tq_pos (m := 10000) (by omega) hn
    have HE := Lib.hid e
    clear e
    go_enter Try.func68, Try.ntmps68
    go_wp2
    go_ret
    exact ⟨ret_int HE.out, rfl⟩
set_option maxHeartbeats 1000000 in
theorem runrank_any (u : Int) (w : World) (h : bdu u) : Calls Try.prog 79 #[.int .i64 u] w fun e w' => e = .returned (.int .i64 (un u)) ∧ w = w' := by
  obtain ⟨h1, h2⟩ := h
  have hw : IntKind.i64.wrap (u.tdiv 9999) = u.tdiv 9999 := IntWalk.i64_in _ (by
    by_cases h : u.tmod 9999 < 0
    · have := tq_neg (m := 9999) (by omega) h; omega
    · have := tq_pos (m := 9999) (by omega) h; omega)
  obtain ⟨q, hq⟩ : ∃ q, q = u / 9999 := ⟨_, rfl⟩
  have b1 : -200020002001 ≤ q := by omega
  have b2 : q ≤ 200020002001 := by omega
  have HU := Lib.hid (show q * 10000 + (u - q * 9999) + 1 = un u by unfold un; omega)
  have a1 : IntKind.i64.wrap (q * 10000) = q * 10000 := IntWalk.i64_in _ (by omega)
  have a2 : IntKind.i64.wrap (q * 9999) = q * 9999 := IntWalk.i64_in _ (by omega)
  have a3 : IntKind.i64.wrap (u - q * 9999) = u - q * 9999 := IntWalk.i64_in _ (by omega)
  have a4 : IntKind.i64.wrap (q * 10000 + (u - q * 9999)) = q * 10000 + (u - q * 9999) := IntWalk.i64_in _ (by omega)
  have a5 : IntKind.i64.wrap (q * 10000 + (u - q * 9999) + 1) = q * 10000 + (u - q * 9999) + 1 := IntWalk.i64_in _ (by omega)
  by_cases hn : u.tmod 9999 < 0
  · have e : u.tdiv 9999 - 1 = q := by rw [hq]; exact tq_neg (m := 9999) (by omega) hn
    have hw2 : IntKind.i64.wrap (u.tdiv 9999 - 1) = q := by rw [e]; exact IntWalk.i64_in _ (by omega)
    clear e hq
    go_enter Try.func79, Try.ntmps79
    go_wp2
    go_ret
    exact ⟨ret_int HU.out, rfl⟩
  · have e : u.tdiv 9999 = q := by rw [hq]; exact tq_pos (m := 9999) (by omega) hn
    rw [e] at hw
    clear hq
    go_enter Try.func79, Try.ntmps79
    go_wp2
    go_ret
    exact ⟨ret_int HU.out, rfl⟩
set_option maxHeartbeats 1000000 in
theorem rrank_any (u : Int) (w : World) (h : bdu u) : Calls Try.prog 81 #[.int .i64 u] w fun e w' => e = .returned (.int .i64 (rk u)) ∧ w = w' := by
  have HF := Lib.hid (fun W => rfloor_any u W h)
  obtain ⟨h1, h2⟩ := h
  obtain ⟨q, hq⟩ : ∃ q, q = u / 10000 := ⟨_, rfl⟩
  rw [← hq] at HF
  have b1 : -200000000001 ≤ q := by omega
  have b2 : q ≤ 200000000001 := by omega
  have HU := Lib.hid (show q * 9999 + (u - q * 10000) - 1 = rk u by unfold rk; omega)
  have a1 : IntKind.i64.wrap (q * 10000) = q * 10000 := IntWalk.i64_in _ (by omega)
  have a2 : IntKind.i64.wrap (q * 9999) = q * 9999 := IntWalk.i64_in _ (by omega)
  have a3 : IntKind.i64.wrap (u - q * 10000) = u - q * 10000 := IntWalk.i64_in _ (by omega)
  have a4 : IntKind.i64.wrap (q * 9999 + (u - q * 10000)) = q * 9999 + (u - q * 10000) := IntWalk.i64_in _ (by omega)
  have a5 : IntKind.i64.wrap (q * 9999 + (u - q * 10000) - 1) = q * 9999 + (u - q * 10000) - 1 := IntWalk.i64_in _ (by omega)
  clear hq
  go_enter Try.func81, Try.ntmps81
  go_wp2_with fail
  refine (HF.out _).mono ?_
  rintro e w' ⟨rfl, rfl⟩
  go_wp2_with fail
  go_ret
  exact ⟨ret_int HU.out, rfl⟩
end Go.Proofs.Yteekccjfokoglaa
namespace Go.Proofs.Yteekccjfokoglaa
open Go.RowKit Go.Sort Go.Lib Go.Proofs
set_option linter.unusedSimpArgs false
set_option linter.unnecessarySimpa false
set_option linter.unusedVariables false
def bd15 (s : Sp) : Prop := -1000000000000000 ≤ s.1 ∧ s.1 ≤ 1000000000000000 ∧ -1000000000000000 ≤ s.2 ∧ s.2 ≤ 1000000000000000
/-- where the inner loop stands -/
structure IR (out : List Sp) (s : Sp) (j : Nat) (nx : List Sp) (dn : Bool) (s' : Sp) : Prop where
  no : dn = false → nx ++ ins (out.drop j) s' = ins out s
  yes : dn = true → nx ++ out.drop j = ins out s ∧ ∀ x ∈ out.drop j, s'.2 + 1 < x.1
  len : nx.length ≤ j + dn.toNat
  bd : bd15 s'
  le : s'.1 ≤ s'.2
theorem IR.start {out : List Sp} {s : Sp} (h : bd15 s) (hl : s.1 ≤ s.2) : IR out s 0 [] false s := ⟨fun _ => by simp, fun h => by simp at h, by simp, h, hl⟩
theorem IR.one {out : List Sp} {s : Sp} {j : Nat} {nx : List Sp} {dn : Bool} {s' : Sp} (h : IR out s j nx dn s') (hj : j < out.length) (h1 : out[j].2 + 1 < s'.1) (hle : out[j].1 ≤ out[j].2) : dn = false ∧ IR out s (j + 1) (nx ++ [out[j]]) false s' := by
  have hd : dn = false := by
    cases dn
    · rfl
    · have := (h.yes rfl).2 out[j] (by rw [List.drop_eq_getElem_cons hj]; exact List.mem_cons_self ..)
      have := h.le; omega
  subst hd
  have e := h.no rfl
  rw [List.drop_eq_getElem_cons hj, ins, if_pos h1] at e
  exact ⟨rfl, fun _ => by rw [List.append_assoc]; exact e, fun h => by simp at h, by have := h.len; simp at this ⊢; omega, h.bd, h.le⟩
theorem IR.two {out : List Sp} {s : Sp} {j : Nat} {nx : List Sp} {dn : Bool} {s' : Sp} (h : IR out s j nx dn s') (hc : CanP out) (hj : j < out.length) (h1 : ¬out[j].2 + 1 < s'.1) (h2 : s'.2 + 1 < out[j].1) :
    (dn = false → IR out s (j + 1) (nx ++ [s'] ++ [out[j]]) true s') ∧ (dn = true → IR out s (j + 1) (nx ++ [out[j]]) true s') := by
  have hp : ∀ x ∈ out.drop (j + 1), s'.2 + 1 < x.1 := fun x hx => by
    have hd := hc.2.drop (i := j)
    rw [List.drop_eq_getElem_cons hj] at hd
    have := (List.pairwise_cons.1 hd).1 x hx
    have := hc.1 out[j] (List.getElem_mem hj)
    omega
  constructor
  · intro hd
    have e := h.no hd
    rw [List.drop_eq_getElem_cons hj, ins, if_neg h1, if_pos h2] at e
    exact ⟨fun h => by simp at h, fun _ => ⟨by rw [List.append_assoc, List.append_assoc]; exact e, hp⟩, by have := h.len; rw [hd] at this; simp at this ⊢; omega, h.bd, h.le⟩
  · intro hd
    have e := (h.yes hd).1
    rw [List.drop_eq_getElem_cons hj] at e
    exact ⟨fun h => by simp at h, fun _ => ⟨by rw [List.append_assoc]; exact e, hp⟩, by have := h.len; rw [hd] at this; simp at this ⊢; omega, h.bd, h.le⟩
theorem IR.three {out : List Sp} {s : Sp} {j : Nat} {nx : List Sp} {dn : Bool} {s' : Sp} (h : IR out s j nx dn s') (hj : j < out.length) (h1 : ¬out[j].2 + 1 < s'.1) (h2 : ¬s'.2 + 1 < out[j].1) (hb : bd15 out[j]) : dn = false ∧ IR out s (j + 1) nx false (mrg s' out[j]) := by
  have hd : dn = false := by
    cases dn
    · rfl
    · exact absurd ((h.yes rfl).2 out[j] (by rw [List.drop_eq_getElem_cons hj]; exact List.mem_cons_self ..)) h2
  subst hd
  have e := h.no rfl
  rw [List.drop_eq_getElem_cons hj, ins, if_neg h1, if_neg h2] at e
  have hb2 := h.bd
  have hle := h.le
  refine ⟨rfl, fun _ => e, fun h => by simp at h, by have := h.len; simp at this ⊢; omega, ?_, ?_⟩
  · unfold bd15 mrg at *; simp only; omega
  · unfold mrg; simp only; omega
/-- the box with the span, and the list that is being built -/
structure Ib (w0 : World) (b5 B2 : Nat) (s' : Sp) (v : Value) (nx : List Sp) (w : World) : Prop where
  c0 : w.cell? ⟨b5, 0, none⟩ = some (.int .i64 s'.1)
  c1 : w.cell? ⟨b5, 1, none⟩ = some (.int .i64 s'.2)
  f0 : w.frozen? ⟨b5, 0, none⟩ = false
  f1 : w.frozen? ⟨b5, 1, none⟩ = false
  own : w.ownsRow B2 46 2 v nx.length (flat nx)
  bel : Below b5 w0 w
  lt : b5 < B2
  le : B2 ≤ w.heap.size
theorem Ib.up {w0 : World} {b5 B2 : Nat} {s' : Sp} {v : Value} {nx : List Sp} {w w' : World} (h : Ib w0 b5 B2 s' v nx w) (hb : Below w.heap.size w w') : Ib w0 b5 B2 s' v nx w' := by
  have l := Nat.lt_of_lt_of_le h.lt h.le
  exact ⟨by rw [hb.cell (p := ⟨b5, 0, none⟩) l]; exact h.c0, by rw [hb.cell (p := ⟨b5, 1, none⟩) l]; exact h.c1, by rw [hb.frozen (p := ⟨b5, 0, none⟩) l]; exact h.f0, by rw [hb.frozen (p := ⟨b5, 1, none⟩) l]; exact h.f1, own_up h.own hb, h.bel.trans (hb.mono (Nat.le_of_lt l)), h.lt, Nat.le_trans h.le hb.size⟩
theorem Ib.app {w0 : World} {b5 B2 : Nat} {s' : Sp} {v v' : Value} {nx : List Sp} {w w' : World} {y : Sp} (h : Ib w0 b5 B2 s' v nx w) (hown : w'.ownsRow B2 46 2 v' (nx.length + 1) (flat nx ++ [.int .i64 y.1, .int .i64 y.2])) (hg : w.grownBy w' v.ownBlock) : Ib w0 b5 B2 s' v' (nx ++ [y]) w' := by
  have hb : Below B2 w w' := (Below.refl B2 w).grown hg h.le (fun j hj => (h.own.lt j hj).1)
  exact ⟨by rw [hb.cell (p := ⟨b5, 0, none⟩) h.lt]; exact h.c0, by rw [hb.cell (p := ⟨b5, 1, none⟩) h.lt]; exact h.c1, by rw [hb.frozen (p := ⟨b5, 0, none⟩) h.lt]; exact h.f0, by rw [hb.frozen (p := ⟨b5, 1, none⟩) h.lt]; exact h.f1, by rw [flat_append, List.length_append]; exact hown, h.bel.trans (hb.mono (Nat.le_of_lt h.lt)), h.lt, Nat.le_trans h.le hb.size⟩
def RnIs (L : List Sp) (w : World) (e : Ending) (w' : World) : Prop := ∃ v, e = .returned v ∧ w'.ownsRow w.heap.size 46 2 v L.length (flat L) ∧ Below w.heap.size w w'
theorem Ib.set {w0 : World} {b5 B2 : Nat} {s' : Sp} {v : Value} {nx : List Sp} {w : World} (h : Ib w0 b5 B2 s' v nx w) (m : Sp) : Ib w0 b5 B2 m v nx ((w.setCell ⟨b5, 0, none⟩ (.int .i64 m.1)).setCell ⟨b5, 1, none⟩ (.int .i64 m.2)) := by
  have hs : ∀ (w : World) (p : Addr) (u : Value), (w.setCell p u).heap.size = w.heap.size := fun w p u => by simp [World.setCell]
  have ho : ∀ (w : World) (p : Addr) (u : Value) (n : Nat) (xs : List Value), p.block < B2 → w.ownsRow B2 46 2 v n xs → (w.setCell p u).ownsRow B2 46 2 v n xs := fun w p u n xs hp h => by
    refine ⟨h.1, ?_⟩
    rcases h.2 with hn | ⟨g, cap, cur, hv, hb1, hg, rest⟩
    · exact .inl hn
    · refine .inr ⟨g, cap, cur, hv, hb1, ?_, rest⟩
      have hne : p.block ≠ g := by omega
      simp [World.setCell, Array.getElem?_modify, hne, hg]
  have e1 : (w.setCell ⟨b5, 0, none⟩ (.int .i64 m.1)).cell? ⟨b5, 1, none⟩ = some (.int .i64 s'.2) := by rw [World.cell?_setCell_other _ _ _ _ (by simp)]; exact h.c1
  refine ⟨?_, World.cell?_setCell_same _ _ _ e1, by simpa using h.f0, by simpa using h.f1, ho _ _ _ _ _ h.lt (ho _ _ _ _ _ h.lt h.own), (h.bel.setCell (p := ⟨b5, 0, none⟩) (Nat.le_refl _) _).setCell (p := ⟨b5, 1, none⟩) (Nat.le_refl _) _, h.lt, by rw [hs, hs]; exact h.le⟩
  rw [World.cell?_setCell_other _ _ _ _ (by simp)]; exact World.cell?_setCell_same _ _ _ h.c0
set_option maxRecDepth 100000 in
set_option maxHeartbeats 4000000 in
theorem rnormal_any (A : Option Addr) (c : Nat) (l : List Sp) (w : World) (hR : Re w w.heap.size A l) (hl : l.length ≤ 100000) (h64 : ∀ s ∈ l, i64ok s.1 ∧ i64ok s.2) (hb : ∀ s ∈ l, s.1 ≤ s.2 → bd15 s) :
    Calls Try.prog 80 #[.slice A l.length c] w (RnIs (rn l) w) := by
  have HR := Lib.hid hR
  have HL := Lib.hid hb
  have H64 := Lib.hid h64
  clear hR hb h64
  go_enter Try.func80, Try.ntmps80
  go_wp2_with fail
  go_loopw [3, 12] (fun s3 s12 wr => ∃ (k : Nat) (v : Value), s12 = .int .i64 (k : Int) ∧ s3 = v ∧ k ≤ l.length ∧ Hid (wr.ownsRow w.heap.size 46 2 v (rn (l.take k)).length (flat (rn (l.take k)))) ∧ Hid (Below w.heap.size w wr)) (fun _ s12 _ => (l.length - intOf s12).toNat)
  case atStart => exact ⟨0, _, rfl, rfl, by omega, Lib.hid (World.ownsRow_nil _ _ _ _), Lib.hid (Below.refl _ _)⟩
  case round =>
    obtain ⟨k, v, rfl, rfl, hk, HO, HB⟩ := hrel
    obtain ⟨w2, rfl⟩ : ∃ w2, w2 = wr := ⟨wr, rfl⟩
    by_cases hlt : k < l.length
    · obtain ⟨b, o, hA, hbl, d0, d1⟩ := HR.out.at_ k hlt
      subst hA
      rw [← HB.out.cell (p := ⟨b, o + k * 2, none⟩) hbl] at d0
      rw [← HB.out.cell (p := ⟨b, o + k * 2 + 1, none⟩) hbl] at d1
      have HT := Lib.hid (show rn (l.take (k + 1)) = rstep (rn (l.take k)) l[k] by rw [← List.take_append_getElem hlt, rn_snoc])
      have HBD := Lib.hid (HL.out l[k] (List.getElem_mem hlt))
      have hsp := rn_spec 1000000000000000 (l.take k) (fun s hs h => HL.out s (List.mem_of_mem_take hs) h)
      have HC := Lib.hid hsp.1
      have HBB := Lib.hid hsp.2.1
      have hol : (rn (l.take k)).length ≤ k := Nat.le_trans hsp.2.2.1 (by simp; omega)
      obtain ⟨out, hout⟩ : ∃ out, out = rn (l.take k) := ⟨_, rfl⟩
      obtain ⟨x, hx⟩ : ∃ x, x = l[k] := ⟨_, rfl⟩
      rw [← hout] at HO HT HC HBB hol
      rw [← hx] at d0 d1 HT HBD
      have hkl : (k : Int) < (l.length : Int) := by omega
      clear hsp hout hx
      by_cases hsk : x.2 < x.1
      · have HT2 := Lib.hid (HT.out.trans (by unfold rstep; rw [if_pos hsk]))
        have g1 : decide (x.2 < x.1) = true := decide_eq_true hsk
        have hwr := HB.out.size
        have HO2 := Lib.hid (HO.out.alloc (.cells #[.int .i64 x.1, .int .i64 x.2] 46))
        have HB2 := Lib.hid (HB.out.alloc hwr (.cells #[.int .i64 x.1, .int .i64 x.2] 46))
        rw [← HT2.out] at HO2
        clear hsk HT HO HB
        go_wp2_with fail
        go_roundw
        case rel => exact ⟨k + 1, _, by go_num, rfl, by omega, HO2, HB2⟩
        case measure => simp [intOf]; omega
      · have g1 : decide (x.2 < x.1) = false := decide_eq_false hsk
        have HT2 := Lib.hid (HT.out.trans (by unfold rstep; rw [if_neg hsk]))
        have hbx := HBD.out (by omega)
        have hxl : x.1 ≤ x.2 := by omega
        have HI0 := Lib.hid (IR.start (out := out) hbx hxl)
        obtain ⟨A3, c3, rfl, hre3, hp3, hhi3⟩ := re_of_own HO.out
        have HRe3 := Lib.hid hre3
        obtain ⟨b5, hb5⟩ : ∃ b5, b5 = w2.heap.size := ⟨_, rfl⟩
        obtain ⟨W0, hW0⟩ : ∃ W0, W0 = w2.alloc (.cells #[.int .i64 x.1, .int .i64 x.2] 46) := ⟨_, rfl⟩
        obtain ⟨B2, hB2⟩ : ∃ B2, B2 = W0.heap.size := ⟨_, rfl⟩
        have HIb := Lib.hid (show Ib w2 b5 B2 x (.slice none 0 0) [] W0 from by
          subst hb5 hW0 hB2
          exact ⟨by simp, by simp, by simp, by simp, World.ownsRow_nil _ _ _ _, (Below.refl _ _).alloc (Nat.le_refl _) _, by simp, Nat.le_refl _⟩)
        have HH := Lib.hid (And.intro hb5 (And.intro hW0 hB2))
        have hwb : w.heap.size ≤ b5 := by rw [hb5]; exact HB.out.size
        clear hre3 hp3 hhi3 hsk HBD HT HO
        go_wp2_with fail
        rw [← hW0, ← hb5]
        clear hb5 hW0 hB2 d0 d1 g1
        go_loopw [6, 7, 23] (fun s6 s7 s23 wr => ∃ (j : Nat) (nx : List Sp) (dn : Bool) (s' : Sp) (v6 : Value), s23 = .int .i64 (j : Int) ∧ s6 = v6 ∧ s7 = .bool dn ∧ j ≤ out.length ∧ Hid (IR out x j nx dn s') ∧ Hid (Ib w2 b5 B2 s' v6 nx wr)) (fun _ _ s23 _ => (out.length - intOf s23).toNat)
        case atStart => exact ⟨0, [], false, x, _, rfl, rfl, rfl, by omega, HI0, HIb⟩
        case round =>
          obtain ⟨i0, hi, hz0, hz1, hz2⟩ := info_parts info46
          clear HI0 HIb
          obtain ⟨j, nx, dn, s', v6, rfl, rfl, rfl, hj, HI, HIb⟩ := hrel
          by_cases hjl : j < out.length
          · obtain ⟨b, o, hA, hbl, d0, d1⟩ := HRe3.out.at_ j hjl
            subst hA
            rw [← HH.out.1] at hbl
            rw [← HIb.out.bel.cell (p := ⟨b, o + j * 2, none⟩) hbl] at d0
            rw [← HIb.out.bel.cell (p := ⟨b, o + j * 2 + 1, none⟩) hbl] at d1
            have hyb := HBB.out out[j] (List.getElem_mem hjl)
            have hyl := HC.out.1 out[j] (List.getElem_mem hjl)
            have hI := HI.out
            have hnl := hI.len
            have hsb := hI.bd
            have hsl := hI.le
            unfold bd15 at hsb
            have h1f := fun h => hI.one hjl h hyl
            have h2f := fun h h' => hI.two HC.out hjl h h'
            have h3f := fun h h' => hI.three hjl h h' hyb
            obtain ⟨y, hy⟩ : ∃ y, y = out[j] := ⟨_, rfl⟩
            rw [← hy] at d0 d1 hyb hyl
            simp only [← hy] at h1f h2f h3f
            have H1f := Lib.hid h1f
            have H2f := Lib.hid h2f
            have H3f := Lib.hid h3f
            have hjl2 : (j : Int) < (out.length : Int) := by omega
            have w1' : IntKind.i64.wrap (y.2 + 1) = y.2 + 1 := IntWalk.i64_in _ (by omega)
            have w2' : IntKind.i64.wrap (s'.2 + 1) = s'.2 + 1 := IntWalk.i64_in _ (by omega)
            obtain ⟨b9, hb9⟩ : ∃ b9, b9 = wr.heap.size := ⟨_, rfl⟩
            obtain ⟨W, hW⟩ : ∃ W, W = wr.alloc (.cells #[.int .i64 y.1, .int .i64 y.2] 46) := ⟨_, rfl⟩
            have HOW := Lib.hid (show ∀ j, u6.ownBlock = some j → j < b9 from fun j hj => by rw [hb9]; exact (HIb.out.own.lt j hj).2)
            have HW := Lib.hid (HIb.out.up (show Below wr.heap.size wr W by rw [hW]; exact (Below.refl _ _).alloc (Nat.le_refl _) _))
            have e0 : W.cell? ⟨b9, 0, none⟩ = some (.int .i64 y.1) := by rw [hW, hb9]; simp
            have e1 : W.cell? ⟨b9, 1, none⟩ = some (.int .i64 y.2) := by rw [hW, hb9]; simp
            have l9 : b9 < W.heap.size := by rw [hW, hb9]; simp
            clear hI h1f h2f h3f hy hyb hsb HI
            go_upto_region 11 with fail
            rw [← hW, ← hb9]
            clear hW hb9 d0 d1
            have k0 := HW.out.c0
            have k1 := HW.out.c1
            have k2 := HW.out.f0
            have k3 := HW.out.f1
            have l5 : b5 < W.heap.size := Nat.lt_of_lt_of_le HW.out.lt HW.out.le
            have lB : B2 ≤ W.heap.size := HW.out.le
            have l52 : b5 < B2 := HW.out.lt
            have hown := HW.out.own
            clear HIb
            by_cases hc1 : y.2 + 1 < s'.1
            · have g1 : decide (y.2 + 1 < s'.1) = true := decide_eq_true hc1
              obtain ⟨rfl, hI2⟩ := H1f.out hc1
              have HI2 := Lib.hid hI2
              have hnl2 : nx.length ≤ 100000 := by simp at hnl; omega
              clear hI2 H1f H2f H3f hc1 hsl hyl hnl
              go_wp2_with (at_builtin; refine wpList_append_own _ rfl _ _ 22 rfl B2 46 i0 (.agg #[.int .i64 0, .int .i64 0]) 2 16 Try.underlying22 hi hz0 hz1 hz2 rfl (by decide) _ _ _ rfl (hown.alloc _) ⟨W.heap.size, 0, none⟩ 1 1 [.int .i64 y.1, .int .i64 y.2] rfl rfl ?c1 ?c2 ?c3 ?c4 ?c5 ?_)
              case c1 => exact new2 _ _ _ _
              case c2 => exact one2 _ _
              case c3 => unfold maxLen; omega
              case c4 => omega
              case c5 => simp; omega
              intro v8 w8 hown8 hgrow _
              have HB9 := Lib.hid ((HW.out.up ((Below.refl _ _).alloc (Nat.le_refl _) _)).app hown8 hgrow)
              clear hown8 hgrow hown HW k0 k1 k2 k3 e0 e1
              go_wp2_with fail
              go_roundw
              case rel => exact ⟨j + 1, _, _, _, _, by go_num, rfl, rfl, by omega, HI2, HB9⟩
              case measure => simp [intOf]; omega
            · by_cases hc2 : s'.2 + 1 < y.1
              · cases dn
                · have HI2 := Lib.hid ((H2f.out hc1 hc2).1 rfl)
                  have hnl2 : nx.length ≤ 100000 := by simp at hnl; omega
                  have g1 : decide (y.2 + 1 < s'.1) = false := decide_eq_false hc1
                  have g2 : decide (s'.2 + 1 < y.1) = true := decide_eq_true hc2
                  clear H1f H2f H3f hc1 hc2 hsl hyl hnl
                  go_wp2_with (at_builtin; refine wpList_append_own _ rfl _ _ 22 rfl B2 46 i0 (.agg #[.int .i64 0, .int .i64 0]) 2 16 Try.underlying22 hi hz0 hz1 hz2 rfl (by decide) _ _ _ rfl (hown.alloc _) ⟨W.heap.size, 0, none⟩ 1 1 [.int .i64 s'.1, .int .i64 s'.2] rfl rfl ?c1 ?c2 ?c3 ?c4 ?c5 ?_)
                  case c1 => exact new2 _ _ _ _
                  case c2 => exact one2 _ _
                  case c3 => unfold maxLen; omega
                  case c4 => omega
                  case c5 => simp; omega
                  intro v7 w7 hown7 hgrow _
                  have HB8 := Lib.hid ((HW.out.up ((Below.refl _ _).alloc (Nat.le_refl _) _)).app hown7 hgrow)
                  have hb7 : Below B2 W w7 := ((Below.refl B2 W).alloc lB _).grown hgrow (by simp; omega) (fun j hj => (HW.out.own.lt j hj).1)
                  have n0 : w7.cell? ⟨b9, 0, none⟩ = some (.int .i64 y.1) := hgrow.cell (by rw [World.cell?_alloc_lt _ _ _ l9]; exact e0) (fun e => (Nat.lt_irrefl b9 (HOW.out b9 e.symm)))
                  have n1 : w7.cell? ⟨b9, 1, none⟩ = some (.int .i64 y.2) := hgrow.cell (by rw [World.cell?_alloc_lt _ _ _ l9]; exact e1) (fun e => (Nat.lt_irrefl b9 (HOW.out b9 e.symm)))
                  have n9 : b9 < w7.heap.size := Nat.lt_of_lt_of_le l9 (Nat.le_trans (by simp) hgrow.size)
                  have hown8 := HB8.out.own
                  have z0 := HB8.out.c0
                  have z1 := HB8.out.c1
                  clear hown7 hgrow hown HW k0 k1 k2 k3 e0 e1 l9 l5 lB hb7
                  have lB7 : B2 ≤ w7.heap.size := HB8.out.le
                  have hle8 : (nx ++ [s']).length ≤ 100001 := by simp; omega
                  go_wp2_with (at_builtin; refine wpList_append_own _ rfl _ _ 22 rfl B2 46 i0 (.agg #[.int .i64 0, .int .i64 0]) 2 16 Try.underlying22 hi hz0 hz1 hz2 rfl (by decide) _ _ _ rfl (hown8.alloc _) ⟨w7.heap.size, 0, none⟩ 1 1 [.int .i64 y.1, .int .i64 y.2] rfl rfl ?c1 ?c2 ?c3 ?c4 ?c5 ?_)
                  case c1 => exact new2 _ _ _ _
                  case c2 => exact one2 _ _
                  case c3 => unfold maxLen; omega
                  case c4 => omega
                  case c5 => simp; omega
                  intro v9 w9 hown9 hgrow _
                  have HB9 := Lib.hid ((HB8.out.up ((Below.refl _ _).alloc (Nat.le_refl _) _)).app (by rw [List.length_append]; exact hown9) hgrow)
                  clear hown9 hgrow hown8 HB8 n0 n1 z0 z1
                  go_wp2_with fail
                  go_roundw
                  case rel => exact ⟨j + 1, _, _, _, _, by go_num, rfl, rfl, by omega, HI2, HB9⟩
                  case measure => simp [intOf]; omega
                · have HI2 := Lib.hid ((H2f.out hc1 hc2).2 rfl)
                  have hnl2 : nx.length ≤ 100000 := by simp at hnl; omega
                  have g1 : decide (y.2 + 1 < s'.1) = false := decide_eq_false hc1
                  have g2 : decide (s'.2 + 1 < y.1) = true := decide_eq_true hc2
                  clear H1f H2f H3f hc1 hc2 hsl hyl hnl
                  go_wp2_with (at_builtin; refine wpList_append_own _ rfl _ _ 22 rfl B2 46 i0 (.agg #[.int .i64 0, .int .i64 0]) 2 16 Try.underlying22 hi hz0 hz1 hz2 rfl (by decide) _ _ _ rfl (hown.alloc _) ⟨W.heap.size, 0, none⟩ 1 1 [.int .i64 y.1, .int .i64 y.2] rfl rfl ?c1 ?c2 ?c3 ?c4 ?c5 ?_)
                  case c1 => exact new2 _ _ _ _
                  case c2 => exact one2 _ _
                  case c3 => unfold maxLen; omega
                  case c4 => omega
                  case c5 => simp; omega
                  intro v8 w8 hown8 hgrow _
                  have HB9 := Lib.hid ((HW.out.up ((Below.refl _ _).alloc (Nat.le_refl _) _)).app hown8 hgrow)
                  clear hown8 hgrow hown HW k0 k1 k2 k3 e0 e1
                  go_wp2_with fail
                  go_roundw
                  case rel => exact ⟨j + 1, _, _, _, _, by go_num, rfl, rfl, by omega, HI2, HB9⟩
                  case measure => simp [intOf]; omega
              · obtain ⟨rfl, hI2⟩ := H3f.out hc1 hc2
                have HI2 := Lib.hid hI2
                have g1 : decide (y.2 + 1 < s'.1) = false := decide_eq_false hc1
                have g2 : decide (s'.2 + 1 < y.1) = false := decide_eq_false hc2
                have HB9 := Lib.hid (HW.out.set (mrg s' y))
                unfold mrg at HB9
                clear hI2 H1f H2f H3f hc1 hc2 hsl hyl hnl hown HW
                go_wp2_with fail
                go_roundw
                case rel => exact ⟨j + 1, _, _, _, _, by go_num, rfl, rfl, by omega, HI2, HB9⟩
                case measure => simp [intOf]; omega
          · obtain rfl : j = out.length := by omega
            have hI := HI.out
            have hwB : w.heap.size ≤ B2 := Nat.le_trans hwb (Nat.le_of_lt HIb.out.lt)
            have k0 := HIb.out.c0
            have k1 := HIb.out.c1
            have hnl := hI.len
            have lB : B2 ≤ wr.heap.size := HIb.out.le
            have l5 : b5 < wr.heap.size := Nat.lt_of_lt_of_le HIb.out.lt HIb.out.le
            cases dn
            · have e := hI.no rfl
              rw [List.drop_length, ins, ← HT2.out] at e
              have HE := Lib.hid e
              have hown := HIb.out.own
              have hnl2 : nx.length ≤ 100000 := by simp at hnl; omega
              clear e hI HI HT2 hnl
              go_wp2_with (at_builtin; refine wpList_append_own _ rfl _ _ 22 rfl B2 46 i0 (.agg #[.int .i64 0, .int .i64 0]) 2 16 Try.underlying22 hi hz0 hz1 hz2 rfl (by decide) _ _ _ rfl (hown.alloc _) ⟨wr.heap.size, 0, none⟩ 1 1 [.int .i64 s'.1, .int .i64 s'.2] rfl rfl ?c1 ?c2 ?c3 ?c4 ?c5 ?_)
              case c1 => exact new2 _ _ _ _
              case c2 => exact one2 _ _
              case c3 => unfold maxLen; omega
              case c4 => omega
              case c5 => simp; omega
              intro v8 w8 hown8 hgrow _
              have h9 := (HIb.out.up ((Below.refl _ _).alloc (Nat.le_refl _) _)).app hown8 hgrow
              rw [HE.out] at h9
              have HO9 := Lib.hid (own_le h9.own hwB)
              have HB9 := Lib.hid (HB.out.trans (h9.bel.mono hwb))
              clear hown8 hgrow hown k0 k1 h9
              go_wp2_with fail
              go_roundw
              case rel => exact ⟨k + 1, _, by go_num, rfl, by omega, HO9, HB9⟩
              case measure => simp [intOf]; omega
            · have e := (hI.yes rfl).1
              rw [List.drop_length, List.append_nil, ← HT2.out] at e
              have h9 := HIb.out
              rw [e] at h9
              have HO9 := Lib.hid (own_le h9.own hwB)
              have HB9 := Lib.hid (HB.out.trans (h9.bel.mono hwb))
              clear e hI HI HT2 hnl h9 k0 k1
              go_wp2_with fail
              go_roundw
              case rel => exact ⟨k + 1, _, by go_num, rfl, by omega, HO9, HB9⟩
              case measure => simp [intOf]; omega
    · obtain rfl : k = l.length := by omega
      rw [List.take_length] at HO
      go_wp2_with fail
      go_ret
      exact ⟨_, rfl, HO.out, HB.out⟩
end Go.Proofs.Yteekccjfokoglaa
namespace Go.Proofs.Yteekccjfokoglaa
open Go.RowKit Go.Sort Go.Lib Go.Proofs
set_option linter.unusedSimpArgs false
set_option linter.unnecessarySimpa false
set_option linter.unusedVariables false
theorem RnIs.le {L : List Sp} {w w0 w' : World} {e : Ending} (h : RnIs L w0 e w') (hb : Below w.heap.size w w0) : RnIs L w e w' := by
  obtain ⟨v, rfl, h1, h2⟩ := h
  exact ⟨v, rfl, own_le h1 hb.size, hb.trans (h2.mono hb.size)⟩
set_option maxRecDepth 100000 in
set_option maxHeartbeats 1000000 in
theorem rints_any (A1 A2 : Option Addr) (c1 c2 : Nat) (s : NS) (w : World) (hN : Ns w A1 c1 A2 c2 s) (hk : okN 100000 s) :
    Calls Try.prog 55 #[nv A1 s.1.length c1 A2 s.2.length c2] w (RnIs (rn (s.1.map clipI)) w) := by
  have hb0 : Below w.heap.size w (w.alloc (.cells #[.slice A1 s.1.length c1, .slice A2 s.2.length c2] 24)) := (Below.refl _ _).alloc (Nat.le_refl _) _
  have HR := Lib.hid (hN.r1.up hb0)
  have HK := Lib.hid hk
  have HB0 := Lib.hid hb0
  have hlen := hk.1
  clear hN hk hb0
  go_enter Try.func55, Try.ntmps55
  go_wp2_with fail
  generalize w.alloc (.cells #[.slice A1 s.1.length c1, .slice A2 s.2.length c2] 24) = w3 at *
  go_loopw [3, 9] (fun s3 s9 wr => ∃ (k : Nat) (v : Value), s9 = .int .i64 (k : Int) ∧ s3 = v ∧ k ≤ s.1.length ∧ Hid (wr.ownsRow w3.heap.size 46 2 v ((s.1.take k).map clipI).length (flat ((s.1.take k).map clipI))) ∧ Hid (Below w3.heap.size w3 wr)) (fun _ s9 _ => (s.1.length - intOf s9).toNat)
  case atStart => exact ⟨0, _, rfl, rfl, by omega, Lib.hid (World.ownsRow_nil _ _ _ _), Lib.hid (Below.refl _ _)⟩
  case round =>
    obtain ⟨i0, hi, hz0, hz1, hz2⟩ := info_parts info46
    obtain ⟨k, v, rfl, rfl, hk, HO, HB⟩ := hrel
    by_cases hlt : k < s.1.length
    · obtain ⟨b, o, hA, hbl, d0, d1⟩ := HR.out.at_ k hlt
      subst hA
      rw [← HB.out.cell (p := ⟨b, o + k * 2, none⟩) hbl] at d0
      rw [← HB.out.cell (p := ⟨b, o + k * 2 + 1, none⟩) hbl] at d1
      have HT := Lib.hid (show (s.1.take (k + 1)).map clipI = (s.1.take k).map clipI ++ [clipI s.1[k]] by rw [← List.take_append_getElem hlt, List.map_append]; rfl)
      obtain ⟨x, hx⟩ : ∃ x, x = s.1[k] := ⟨_, rfl⟩
      rw [← hx] at d0 d1 HT
      have hacl : ((s.1.take k).map clipI).length = k := by simp; omega
      obtain ⟨acc, hacc⟩ : ∃ acc, acc = (s.1.take k).map clipI := ⟨_, rfl⟩
      rw [← hacc] at HO HT hacl
      have hkl : (k : Int) < (s.1.length : Int) := by omega
      have hwr : w3.heap.size ≤ wr.heap.size := HB.out.size
      obtain ⟨W, hW⟩ : ∃ W, W = wr.alloc (.cells #[.int .i64 x.1, .int .i64 x.2] 46) := ⟨_, rfl⟩
      obtain ⟨b9, hb9⟩ : ∃ b9, b9 = wr.heap.size := ⟨_, rfl⟩
      have HO1 := Lib.hid (show W.ownsRow w3.heap.size 46 2 u3 acc.length (flat acc) by rw [hW]; exact HO.out.alloc _)
      have HB1 := Lib.hid (show Below w3.heap.size w3 W by rw [hW]; exact HB.out.alloc hwr _)
      have e0 : W.cell? ⟨b9, 0, none⟩ = some (.int .i64 x.1) := by rw [hW, hb9]; simp
      have e1 : W.cell? ⟨b9, 1, none⟩ = some (.int .i64 x.2) := by rw [hW, hb9]; simp
      have l9 : b9 < W.heap.size := by rw [hW, hb9]; simp
      have hW3 : w3.heap.size ≤ W.heap.size := HB1.out.size
      clear hx hacc
      go_upto_region 5 with fail
      rw [← hW, ← hb9]
      clear hW hb9 d0 d1 HO HB
      have hown := HO1.out
      have hacl2 : acc.length ≤ 100000 := by omega
      go_wp2_with (at_builtin; refine wpList_append_own _ rfl _ _ 22 rfl w3.heap.size 46 i0 (.agg #[.int .i64 0, .int .i64 0]) 2 16 Try.underlying22 hi hz0 hz1 hz2 rfl (by decide) _ _ _ rfl (hown.alloc _) ⟨W.heap.size, 0, none⟩ 1 1 [.int .i64 (clipI x).1, .int .i64 (clipI x).2] rfl rfl ?c1 ?c2 ?c3 ?c4 ?c5 ?_)
      case c1 => exact new2 _ _ _ _
      case c2 => exact one2 _ _
      case c3 => unfold maxLen; omega
      case c4 => omega
      case c5 => simp; omega
      intro v8 w8 hown8 hgrow _
      have HO8 := Lib.hid (show w8.ownsRow w3.heap.size 46 2 v8 ((s.1.take (k + 1)).map clipI).length (flat ((s.1.take (k + 1)).map clipI)) by rw [HT.out, flat_append, List.length_append, hacl]; exact hown8)
      have HB8 := Lib.hid ((HB1.out.alloc hW3 _).grown hgrow (by simp; omega) (fun j hj => (hown.lt j hj).1))
      clear hown8 hgrow hown HO1 HB1 e0 e1
      go_wp2_with fail
      go_roundw
      case rel => exact ⟨k + 1, _, by go_num, rfl, by omega, HO8, HB8⟩
      case measure => simp [intOf]; omega
    · obtain rfl : k = s.1.length := by omega
      rw [List.take_length] at HO
      obtain ⟨A3, c3, rfl, hre3, hp3, hhi3⟩ := re_of_own HO.out
      have hc := rnormal_any A3 c3 (s.1.map clipI) wr hre3 (by simp; omega) (fun y hy => by
        obtain ⟨t, ht, rfl⟩ := List.mem_map.1 hy
        have := HK.out.2.2.1 t ht
        unfold i64ok clipI at *; simp only; omega) (fun y hy h => by
        obtain ⟨t, ht, rfl⟩ := List.mem_map.1 hy
        unfold bd15; simp only [clipI] at h ⊢; omega)
      rw [List.length_map] at hc
      have hbel : Below w.heap.size w wr := HB0.out.trans (HB.out.mono HB0.out.size)
      have HC := Lib.hid (Calls.mono hc (fun e w' h => RnIs.le h hbel))
      clear hbel
      clear hc hre3 hp3 hhi3 HO
      go_wp2_with fail
      refine HC.out.mono ?_
      rintro e w5 ⟨v5, rfl, h1, h2⟩
      have H1 := Lib.hid (And.intro h1 h2)
      clear h1 h2 HC
      go_wp2_with fail
      go_ret
      exact ⟨_, rfl, H1.out.1, H1.out.2⟩
end Go.Proofs.Yteekccjfokoglaa
namespace Go.Proofs.Yteekccjfokoglaa
open Go.RowKit Go.Sort Go.Lib Go.Proofs
set_option linter.unusedSimpArgs false
set_option linter.unnecessarySimpa false
set_option linter.unusedVariables false
theorem fstep_no {acc : List Sp} {x : Sp} {a b : Int} (ha : a = max x.1 (-1000000000000000)) (hb : b = min x.2 1000000000000000) (h : b < a) : fstep acc x = acc := by
  unfold fstep; rw [if_pos (by simp only [clipF]; omega)]
/-- an end, moved off the whole numbers -/
def upE (a : Int) : Int := if a % 10000 = 0 then a + 1 else a
def dnE (b : Int) : Int := if b % 10000 = 0 then b - 1 else b
theorem fstep_yes {acc : List Sp} {x : Sp} {a b : Int} (ha : a = max x.1 (-1000000000000000)) (hb : b = min x.2 1000000000000000) (h : ¬b < a) : fstep acc x = if upE a ≤ dnE b then acc ++ [(rk (upE a), rk (dnE b))] else acc := by
  subst ha hb
  unfold fstep; rw [if_neg (by simp only [clipF]; omega)]; rfl
set_option maxRecDepth 100000 in
set_option maxHeartbeats 2000000 in
theorem rfracs_any (A1 A2 : Option Addr) (c1 c2 : Nat) (s : NS) (w : World) (hN : Ns w A1 c1 A2 c2 s) (hk : okN 100000 s) :
    Calls Try.prog 56 #[nv A1 s.1.length c1 A2 s.2.length c2] w (RnIs (rn (fr s.2)) w) := by
  have hb0 : Below w.heap.size w (w.alloc (.cells #[.slice A1 s.1.length c1, .slice A2 s.2.length c2] 24)) := (Below.refl _ _).alloc (Nat.le_refl _) _
  have HR := Lib.hid (hN.r2.up hb0)
  have HK := Lib.hid hk
  have HB0 := Lib.hid hb0
  have hlen := hk.2.1
  clear hN hk hb0
  go_enter Try.func56, Try.ntmps56
  go_wp2_with fail
  generalize w.alloc (.cells #[.slice A1 s.1.length c1, .slice A2 s.2.length c2] 24) = w3 at *
  go_loopw [3, 11] (fun s3 s11 wr => ∃ (k : Nat) (v : Value), s11 = .int .i64 (k : Int) ∧ s3 = v ∧ k ≤ s.2.length ∧ Hid (wr.ownsRow w3.heap.size 46 2 v (fr (s.2.take k)).length (flat (fr (s.2.take k)))) ∧ Hid (Below w3.heap.size w3 wr)) (fun _ s11 _ => (s.2.length - intOf s11).toNat)
  case atStart => exact ⟨0, _, rfl, rfl, by omega, Lib.hid (World.ownsRow_nil _ _ _ _), Lib.hid (Below.refl _ _)⟩
  case round =>
    obtain ⟨i0, hi, hz0, hz1, hz2⟩ := info_parts info46
    obtain ⟨k, v, rfl, rfl, hk, HO, HB⟩ := hrel
    by_cases hlt : k < s.2.length
    · obtain ⟨b, o, hA, hbl, d0, d1⟩ := HR.out.at_ k hlt
      subst hA
      rw [← HB.out.cell (p := ⟨b, o + k * 2, none⟩) hbl] at d0
      rw [← HB.out.cell (p := ⟨b, o + k * 2 + 1, none⟩) hbl] at d1
      have HT := Lib.hid (show fr (s.2.take (k + 1)) = fstep (fr (s.2.take k)) s.2[k] by rw [← List.take_append_getElem hlt, fr_snoc])
      have h64 := HK.out.2.2.2 s.2[k] (List.getElem_mem hlt)
      obtain ⟨x, hx⟩ : ∃ x, x = s.2[k] := ⟨_, rfl⟩
      rw [← hx] at d0 d1 HT h64
      have hacl : (fr (s.2.take k)).length ≤ 100000 := by have := fr_len (s.2.take k); simp at this; omega
      obtain ⟨acc, hacc⟩ : ∃ acc, acc = fr (s.2.take k) := ⟨_, rfl⟩
      rw [← hacc] at HO HT hacl
      have hkl : (k : Int) < (s.2.length : Int) := by omega
      have hwr : w3.heap.size ≤ wr.heap.size := HB.out.size
      obtain ⟨W, hW⟩ : ∃ W, W = wr.alloc (.cells #[.int .i64 x.1, .int .i64 x.2] 46) := ⟨_, rfl⟩
      obtain ⟨b9, hb9⟩ : ∃ b9, b9 = wr.heap.size := ⟨_, rfl⟩
      have HO1 := Lib.hid (show W.ownsRow w3.heap.size 46 2 u3 acc.length (flat acc) by rw [hW]; exact HO.out.alloc _)
      have HB1 := Lib.hid (show Below w3.heap.size w3 W by rw [hW]; exact HB.out.alloc hwr _)
      have e0 : W.cell? ⟨b9, 0, none⟩ = some (.int .i64 x.1) := by rw [hW, hb9]; simp
      have e1 : W.cell? ⟨b9, 1, none⟩ = some (.int .i64 x.2) := by rw [hW, hb9]; simp
      have l9 : b9 < W.heap.size := by rw [hW, hb9]; simp
      obtain ⟨a, ha⟩ : ∃ a, a = max x.1 (-1000000000000000) := ⟨_, rfl⟩
      obtain ⟨z, hz⟩ : ∃ z, z = min x.2 1000000000000000 := ⟨_, rfl⟩
      have HF1 := Lib.hid (fun h : z < a => HT.out.trans (fstep_no ha hz h))
      have HF2 := Lib.hid (fun h : ¬z < a => HT.out.trans (fstep_yes ha hz h))
      have ba : -1000000000000000 ≤ a := by omega
      have bz : z ≤ 1000000000000000 := by omega
      have HA := Lib.hid ha
      have HZ := Lib.hid hz
      clear hx hacc ha hz h64 HT
      go_upto_region 5 with fail
      rw [← hW, ← hb9]
      clear hW hb9 d0 d1 HO HB hkl
      go_region
      rw [← HA.out, ← HZ.out]
      have HO2 := Lib.hid (own_up HO1.out (drewB W))
      have HB2 := Lib.hid (HB1.out.drew)
      clear HO1 HB1 e0 e1 l9 HA HZ
      generalize W.drew = Wd at *
      have hW3 : w3.heap.size ≤ Wd.heap.size := HB2.out.size
      by_cases hsk : z < a
      · have HT2 := Lib.hid (HF1.out hsk)
        have g1 : decide (z < a) = true := decide_eq_true hsk
        have HO8 := Lib.hid (show Wd.ownsRow w3.heap.size 46 2 u3 (fr (s.2.take (k + 1))).length (flat (fr (s.2.take (k + 1)))) by rw [HT2.out]; exact HO2.out)
        clear HF1 HF2 hsk
        go_wp2_with fail
        go_roundw
        case rel => exact ⟨k + 1, _, by go_num, rfl, by omega, HO8, HB2⟩
        case measure => simp [intOf]; omega
      · have HTT := Lib.hid (HF2.out hsk)
        have g1 : decide (z < a) = false := decide_eq_false hsk
        have haz : a ≤ z := by omega
        clear HF1 HF2 hsk
        by_cases qa : a % 10000 = 0
        · have HWa := Lib.hid (show ∀ W : World, Calls Try.prog 61 #[.int .i64 a] W (fun e w' => e = .returned (.bool true) ∧ W = w') from fun W => by
            have h := rwhole_any a W; rw [decide_eq_true qa] at h; exact h)
          have HT0 := Lib.hid (HTT.out.trans (show (if upE a ≤ dnE z then acc ++ [(rk (upE a), rk (dnE z))] else acc) = (if a + 1 ≤ dnE z then acc ++ [(rk (a + 1), rk (dnE z))] else acc) by rw [show upE a = a + 1 by unfold upE; rw [if_pos qa]]))
          have aw : IntKind.i64.wrap (a + 1) = a + 1 := IntWalk.i64_in _ (by omega)
          clear qa HTT
          go_wp2_with fail
          refine (HWa.out _).mono ?_
          rintro e w' ⟨rfl, rfl⟩
          by_cases qz : z % 10000 = 0
          · have HWz := Lib.hid (show ∀ W : World, Calls Try.prog 61 #[.int .i64 z] W (fun e w' => e = .returned (.bool true) ∧ W = w') from fun W => by
              have h := rwhole_any z W; rw [decide_eq_true qz] at h; exact h)
            have HT1 := Lib.hid (HT0.out.trans (show (if a + 1 ≤ dnE z then acc ++ [(rk (a + 1), rk (dnE z))] else acc) = (if a + 1 ≤ z - 1 then acc ++ [(rk (a + 1), rk (z - 1))] else acc) by rw [show dnE z = z - 1 by unfold dnE; rw [if_pos qz]]))
            have zw : IntKind.i64.wrap (z - 1) = z - 1 := IntWalk.i64_in _ (by omega)
            clear qz HT0
            go_wp2_with fail
            refine (HWz.out _).mono ?_
            rintro e w' ⟨rfl, rfl⟩
            by_cases hle : a + 1 ≤ z - 1
            · have HT2 := Lib.hid (HT1.out.trans (if_pos hle))
              have g9 : decide (a + 1 ≤ z - 1) = true := decide_eq_true hle
              have HR1 := Lib.hid (fun W => rrank_any (a + 1) W (by unfold bdu; omega))
              have HR2 := Lib.hid (fun W => rrank_any (z - 1) W (by unfold bdu; omega))
              have hown := HO2.out
              clear hle HT1
              go_wp2_with fail
              refine (HR1.out _).mono ?_
              rintro e w' ⟨rfl, rfl⟩
              go_wp2_with fail
              refine (HR2.out _).mono ?_
              rintro e w' ⟨rfl, rfl⟩
              go_wp2_with (at_builtin; refine wpList_append_own _ rfl _ _ 22 rfl w3.heap.size 46 i0 (.agg #[.int .i64 0, .int .i64 0]) 2 16 Try.underlying22 hi hz0 hz1 hz2 rfl (by decide) _ _ _ rfl (hown.alloc _) ⟨Wd.heap.size, 0, none⟩ 1 1 [.int .i64 (rk (a + 1)), .int .i64 (rk (z - 1))] rfl rfl ?c1 ?c2 ?c3 ?c4 ?c5 ?_)
              case c1 => exact new2 _ _ _ _
              case c2 => exact one2 _ _
              case c3 => unfold maxLen; omega
              case c4 => omega
              case c5 => simp; omega
              intro v8 w8 hown8 hgrow _
              have HO8 := Lib.hid (show w8.ownsRow w3.heap.size 46 2 v8 (fr (s.2.take (k + 1))).length (flat (fr (s.2.take (k + 1)))) by rw [HT2.out, flat_append, List.length_append]; exact hown8)
              have HB8 := Lib.hid ((HB2.out.alloc hW3 _).grown hgrow (by simp; omega) (fun j hj => (hown.lt j hj).1))
              clear hown8 hgrow hown HO2 HB2 HR1 HR2
              go_wp2_with fail
              go_roundw
              case rel => exact ⟨k + 1, _, by go_num, rfl, by omega, HO8, HB8⟩
              case measure => simp [intOf]; omega
            · have HT2 := Lib.hid (HT1.out.trans (if_neg hle))
              have g9 : decide (a + 1 ≤ z - 1) = false := decide_eq_false hle
              have HO8 := Lib.hid (show Wd.ownsRow w3.heap.size 46 2 u3 (fr (s.2.take (k + 1))).length (flat (fr (s.2.take (k + 1)))) by rw [HT2.out]; exact HO2.out)
              clear hle HT1
              go_wp2_with fail
              go_roundw
              case rel => exact ⟨k + 1, _, by go_num, rfl, by omega, HO8, HB2⟩
              case measure => simp [intOf]; omega
          · have HWz := Lib.hid (show ∀ W : World, Calls Try.prog 61 #[.int .i64 z] W (fun e w' => e = .returned (.bool false) ∧ W = w') from fun W => by
              have h := rwhole_any z W; rw [decide_eq_false qz] at h; exact h)
            have HT1 := Lib.hid (HT0.out.trans (show (if a + 1 ≤ dnE z then acc ++ [(rk (a + 1), rk (dnE z))] else acc) = (if a + 1 ≤ z then acc ++ [(rk (a + 1), rk (z))] else acc) by rw [show dnE z = z by unfold dnE; rw [if_neg qz]]))
            clear qz HT0
            go_wp2_with fail
            refine (HWz.out _).mono ?_
            rintro e w' ⟨rfl, rfl⟩
            by_cases hle : a + 1 ≤ z
            · have HT2 := Lib.hid (HT1.out.trans (if_pos hle))
              have g9 : decide (a + 1 ≤ z) = true := decide_eq_true hle
              have HR1 := Lib.hid (fun W => rrank_any (a + 1) W (by unfold bdu; omega))
              have HR2 := Lib.hid (fun W => rrank_any (z) W (by unfold bdu; omega))
              have hown := HO2.out
              clear hle HT1
              go_wp2_with fail
              refine (HR1.out _).mono ?_
              rintro e w' ⟨rfl, rfl⟩
              go_wp2_with fail
              refine (HR2.out _).mono ?_
              rintro e w' ⟨rfl, rfl⟩
              go_wp2_with (at_builtin; refine wpList_append_own _ rfl _ _ 22 rfl w3.heap.size 46 i0 (.agg #[.int .i64 0, .int .i64 0]) 2 16 Try.underlying22 hi hz0 hz1 hz2 rfl (by decide) _ _ _ rfl (hown.alloc _) ⟨Wd.heap.size, 0, none⟩ 1 1 [.int .i64 (rk (a + 1)), .int .i64 (rk (z))] rfl rfl ?c1 ?c2 ?c3 ?c4 ?c5 ?_)
              case c1 => exact new2 _ _ _ _
              case c2 => exact one2 _ _
              case c3 => unfold maxLen; omega
              case c4 => omega
              case c5 => simp; omega
              intro v8 w8 hown8 hgrow _
              have HO8 := Lib.hid (show w8.ownsRow w3.heap.size 46 2 v8 (fr (s.2.take (k + 1))).length (flat (fr (s.2.take (k + 1)))) by rw [HT2.out, flat_append, List.length_append]; exact hown8)
              have HB8 := Lib.hid ((HB2.out.alloc hW3 _).grown hgrow (by simp; omega) (fun j hj => (hown.lt j hj).1))
              clear hown8 hgrow hown HO2 HB2 HR1 HR2
              go_wp2_with fail
              go_roundw
              case rel => exact ⟨k + 1, _, by go_num, rfl, by omega, HO8, HB8⟩
              case measure => simp [intOf]; omega
            · have HT2 := Lib.hid (HT1.out.trans (if_neg hle))
              have g9 : decide (a + 1 ≤ z) = false := decide_eq_false hle
              have HO8 := Lib.hid (show Wd.ownsRow w3.heap.size 46 2 u3 (fr (s.2.take (k + 1))).length (flat (fr (s.2.take (k + 1)))) by rw [HT2.out]; exact HO2.out)
              clear hle HT1
              go_wp2_with fail
              go_roundw
              case rel => exact ⟨k + 1, _, by go_num, rfl, by omega, HO8, HB2⟩
              case measure => simp [intOf]; omega
        · have HWa := Lib.hid (show ∀ W : World, Calls Try.prog 61 #[.int .i64 a] W (fun e w' => e = .returned (.bool false) ∧ W = w') from fun W => by
            have h := rwhole_any a W; rw [decide_eq_false qa] at h; exact h)
          have HT0 := Lib.hid (HTT.out.trans (show (if upE a ≤ dnE z then acc ++ [(rk (upE a), rk (dnE z))] else acc) = (if a ≤ dnE z then acc ++ [(rk (a), rk (dnE z))] else acc) by rw [show upE a = a by unfold upE; rw [if_neg qa]]))
          clear qa HTT
          go_wp2_with fail
          refine (HWa.out _).mono ?_
          rintro e w' ⟨rfl, rfl⟩
          by_cases qz : z % 10000 = 0
          · have HWz := Lib.hid (show ∀ W : World, Calls Try.prog 61 #[.int .i64 z] W (fun e w' => e = .returned (.bool true) ∧ W = w') from fun W => by
              have h := rwhole_any z W; rw [decide_eq_true qz] at h; exact h)
            have HT1 := Lib.hid (HT0.out.trans (show (if a ≤ dnE z then acc ++ [(rk (a), rk (dnE z))] else acc) = (if a ≤ z - 1 then acc ++ [(rk (a), rk (z - 1))] else acc) by rw [show dnE z = z - 1 by unfold dnE; rw [if_pos qz]]))
            have zw : IntKind.i64.wrap (z - 1) = z - 1 := IntWalk.i64_in _ (by omega)
            clear qz HT0
            go_wp2_with fail
            refine (HWz.out _).mono ?_
            rintro e w' ⟨rfl, rfl⟩
            by_cases hle : a ≤ z - 1
            · have HT2 := Lib.hid (HT1.out.trans (if_pos hle))
              have g9 : decide (a ≤ z - 1) = true := decide_eq_true hle
              have HR1 := Lib.hid (fun W => rrank_any (a) W (by unfold bdu; omega))
              have HR2 := Lib.hid (fun W => rrank_any (z - 1) W (by unfold bdu; omega))
              have hown := HO2.out
              clear hle HT1
              go_wp2_with fail
              refine (HR1.out _).mono ?_
              rintro e w' ⟨rfl, rfl⟩
              go_wp2_with fail
              refine (HR2.out _).mono ?_
              rintro e w' ⟨rfl, rfl⟩
              go_wp2_with (at_builtin; refine wpList_append_own _ rfl _ _ 22 rfl w3.heap.size 46 i0 (.agg #[.int .i64 0, .int .i64 0]) 2 16 Try.underlying22 hi hz0 hz1 hz2 rfl (by decide) _ _ _ rfl (hown.alloc _) ⟨Wd.heap.size, 0, none⟩ 1 1 [.int .i64 (rk (a)), .int .i64 (rk (z - 1))] rfl rfl ?c1 ?c2 ?c3 ?c4 ?c5 ?_)
              case c1 => exact new2 _ _ _ _
              case c2 => exact one2 _ _
              case c3 => unfold maxLen; omega
              case c4 => omega
              case c5 => simp; omega
              intro v8 w8 hown8 hgrow _
              have HO8 := Lib.hid (show w8.ownsRow w3.heap.size 46 2 v8 (fr (s.2.take (k + 1))).length (flat (fr (s.2.take (k + 1)))) by rw [HT2.out, flat_append, List.length_append]; exact hown8)
              have HB8 := Lib.hid ((HB2.out.alloc hW3 _).grown hgrow (by simp; omega) (fun j hj => (hown.lt j hj).1))
              clear hown8 hgrow hown HO2 HB2 HR1 HR2
              go_wp2_with fail
              go_roundw
              case rel => exact ⟨k + 1, _, by go_num, rfl, by omega, HO8, HB8⟩
              case measure => simp [intOf]; omega
            · have HT2 := Lib.hid (HT1.out.trans (if_neg hle))
              have g9 : decide (a ≤ z - 1) = false := decide_eq_false hle
              have HO8 := Lib.hid (show Wd.ownsRow w3.heap.size 46 2 u3 (fr (s.2.take (k + 1))).length (flat (fr (s.2.take (k + 1)))) by rw [HT2.out]; exact HO2.out)
              clear hle HT1
              go_wp2_with fail
              go_roundw
              case rel => exact ⟨k + 1, _, by go_num, rfl, by omega, HO8, HB2⟩
              case measure => simp [intOf]; omega
          · have HWz := Lib.hid (show ∀ W : World, Calls Try.prog 61 #[.int .i64 z] W (fun e w' => e = .returned (.bool false) ∧ W = w') from fun W => by
              have h := rwhole_any z W; rw [decide_eq_false qz] at h; exact h)
            have HT1 := Lib.hid (HT0.out.trans (show (if a ≤ dnE z then acc ++ [(rk (a), rk (dnE z))] else acc) = (if a ≤ z then acc ++ [(rk (a), rk (z))] else acc) by rw [show dnE z = z by unfold dnE; rw [if_neg qz]]))
            clear qz HT0
            go_wp2_with fail
            refine (HWz.out _).mono ?_
            rintro e w' ⟨rfl, rfl⟩
            by_cases hle : a ≤ z
            · have HT2 := Lib.hid (HT1.out.trans (if_pos hle))
              have g9 : decide (a ≤ z) = true := decide_eq_true hle
              have HR1 := Lib.hid (fun W => rrank_any (a) W (by unfold bdu; omega))
              have HR2 := Lib.hid (fun W => rrank_any (z) W (by unfold bdu; omega))
              have hown := HO2.out
              clear hle HT1
              go_wp2_with fail
              refine (HR1.out _).mono ?_
              rintro e w' ⟨rfl, rfl⟩
              go_wp2_with fail
              refine (HR2.out _).mono ?_
              rintro e w' ⟨rfl, rfl⟩
              go_wp2_with (at_builtin; refine wpList_append_own _ rfl _ _ 22 rfl w3.heap.size 46 i0 (.agg #[.int .i64 0, .int .i64 0]) 2 16 Try.underlying22 hi hz0 hz1 hz2 rfl (by decide) _ _ _ rfl (hown.alloc _) ⟨Wd.heap.size, 0, none⟩ 1 1 [.int .i64 (rk (a)), .int .i64 (rk (z))] rfl rfl ?c1 ?c2 ?c3 ?c4 ?c5 ?_)
              case c1 => exact new2 _ _ _ _
              case c2 => exact one2 _ _
              case c3 => unfold maxLen; omega
              case c4 => omega
              case c5 => simp; omega
              intro v8 w8 hown8 hgrow _
              have HO8 := Lib.hid (show w8.ownsRow w3.heap.size 46 2 v8 (fr (s.2.take (k + 1))).length (flat (fr (s.2.take (k + 1)))) by rw [HT2.out, flat_append, List.length_append]; exact hown8)
              have HB8 := Lib.hid ((HB2.out.alloc hW3 _).grown hgrow (by simp; omega) (fun j hj => (hown.lt j hj).1))
              clear hown8 hgrow hown HO2 HB2 HR1 HR2
              go_wp2_with fail
              go_roundw
              case rel => exact ⟨k + 1, _, by go_num, rfl, by omega, HO8, HB8⟩
              case measure => simp [intOf]; omega
            · exact absurd haz hle
    · obtain rfl : k = s.2.length := by omega
      rw [List.take_length] at HO
      obtain ⟨A3, c3, rfl, hre3, hp3, hhi3⟩ := re_of_own HO.out
      have hc := rnormal_any A3 c3 (fr s.2) wr hre3 (by have := fr_len s.2; omega) (fun y hy => by
        have := fr_bd s.2 y hy
        unfold i64ok; omega) (fun y hy _ => fr_bd s.2 y hy)
      have hbel : Below w.heap.size w wr := HB0.out.trans (HB.out.mono HB0.out.size)
      have HC := Lib.hid (Calls.mono hc (fun e w' h => RnIs.le h hbel))
      clear hbel
      clear hc hre3 hp3 hhi3 HO
      go_wp2_with fail
      refine HC.out.mono ?_
      rintro e w5 ⟨v5, rfl, h1, h2⟩
      have H1 := Lib.hid (And.intro h1 h2)
      clear h1 h2 HC
      go_wp2_with fail
      go_ret
      exact ⟨_, rfl, H1.out.1, H1.out.2⟩
end Go.Proofs.Yteekccjfokoglaa
namespace Go.Proofs.Yteekccjfokoglaa
open Go.RowKit Go.Sort Go.Lib Go.Proofs
set_option linter.unusedSimpArgs false
set_option linter.unnecessarySimpa false
set_option linter.unusedVariables false
def OfIs (A1 : Option Addr) (c1 : Nat) (S : NS) (w : World) (e : Ending) (w' : World) : Prop :=
  ∃ A2 c2, e = .returned (nv A1 S.1.length c1 A2 S.2.length c2) ∧ Ns w' A1 c1 A2 c2 S ∧ Hi w.heap.size A2 ∧ Below w.heap.size w w'
theorem step_call79 {ops : Array Oper} {o : Oper} {a : Act} {w : World} {K : Act → World → Prop} {Q : Exit → Act → World → Prop} {E : Prop} (hgd : o.guard = none) (x : Nat)
    (ho : o.op = .call { callee := .value (.func 79), args := #[.tmp x], argTypes := #[2] }) (u r : Value) (hx : a.eval (.tmp x) = u) (hc : Calls Try.prog 79 #[u] w fun e w' => e = .returned r ∧ w = w') (h : K (a.put o.dst r) w) :
    if Region.wanted o (yielded ops a.tmps) = true then Oper.wp Try.prog o a w K Q else E := by
  have hw : Region.wanted o (yielded ops a.tmps) = true := by simp [Region.wanted, hgd]
  rw [if_pos hw]
  unfold Oper.wp execOp
  rw [ho]
  have hx2 : a.tmps[x]?.getD undef = u := by rw [← hx]; simp [Act.eval]
  go_simp
  (with_reducible refine hc.mono ?_)
  rintro e w' ⟨rfl, rfl⟩
  exact h
theorem step_append_sp2 {ops : Array Oper} {o : Oper} {a : Act} {w : World} {K : Act → World → Prop} {Q : Exit → Act → World → Prop} {E : Prop} (hgd : o.guard = none) (s x : Operand)
    (ho : o.op = .call { callee := .builtin .append, args := #[s, x], argTypes := #[22, 22] }) (base : Nat) (v : Value) (acc : List Sp) (y : Sp) (hs : a.eval s = v)
    (hown : w.ownsRow base 46 2 v acc.length (flat acc)) (b : Nat) (hx : a.eval x = .slice (some ⟨b, 0, none⟩) 1 1)
    (hb : w.heap[b]? = some (.cells #[.int .i64 y.1, .int .i64 y.2] 46 (0, 0))) (hlen : acc.length ≤ 200000) (hbase : base ≤ w.heap.size)
    (h : ∀ v' w', Hid (w'.ownsRow base 46 2 v' (acc ++ [y]).length (flat (acc ++ [y]))) → w.grownBy w' v.ownBlock → K (a.put o.dst v') w') :
    if Region.wanted o (yielded ops a.tmps) = true then Oper.wp Try.prog o a w K Q else E := by
  have hw : Region.wanted o (yielded ops a.tmps) = true := by simp [Region.wanted, hgd]
  rw [if_pos hw]
  obtain ⟨i0, hi, hz0, hz1, hz2⟩ := info_parts info46
  refine wp_append_own w s x 22 ho base 46 i0 (.agg #[.int .i64 0, .int .i64 0]) 2 16 Try.underlying22 hi hz0 hz1 hz2 rfl (by decide) v acc.length (flat acc) hs hown ⟨b, 0, none⟩ 1 1 [.int .i64 y.1, .int .i64 y.2] hx rfl ?_ ?_ ?_ ?_ hbase ?_
  · intro j u hj
    rw [show (⟨b, 0, none⟩ : Addr).add j = ⟨b, j, none⟩ by simp [Addr.add]; exact fun e => e.symm, Lib.cell_of_heap hb, ← Array.getElem?_toList]
    exact hj
  · exact one2 _ _
  · unfold maxLen; omega
  · omega
  · intro v' w' h1 h2 _
    exact h v' w' (show w'.ownsRow base 46 2 v' (acc ++ [y]).length (flat (acc ++ [y])) by rw [flat_append, List.length_append]; exact h1) h2
set_option maxRecDepth 100000 in
set_option maxHeartbeats 4000000 in
theorem rof_any (A1 A2 : Option Addr) (c1 c2 : Nat) (s : NS) (w : World) (hN : Ns w A1 c1 A2 c2 s) (hl : s.2.length ≤ 200000) (hb : ∀ x ∈ s.2, bdu x.1 ∧ bdu x.2) :
    Calls Try.prog 54 #[.slice A1 s.1.length c1, .slice A2 s.2.length c2] w (OfIs A1 c1 (s.1, s.2.map unS) w) := by
  have HN := Lib.hid hN
  have HBd := Lib.hid hb
  obtain ⟨w1, hw1⟩ : ∃ w1, w1 = w.alloc (.cells #[.slice none 0 0, .slice none 0 0] 24) := ⟨_, rfl⟩
  obtain ⟨Wf, hWf⟩ : ∃ Wf, Wf = w1.alloc (.cells #[.slice A1 s.1.length c1, .slice none 0 0] 24) := ⟨_, rfl⟩
  obtain ⟨bk, hbk⟩ : ∃ bk, bk = w.heap.size + 1 := ⟨_, rfl⟩
  have hb1 : Below w.heap.size w w1 := by rw [hw1]; exact bal w _
  have hs1 : w1.heap.size = bk := by rw [hw1, hbk]; simp
  have hb2 : Below w1.heap.size w1 Wf := by rw [hWf]; exact bal w1 _
  have hsf : Wf.heap.size = bk + 1 := by rw [hWf]; simp [hs1]
  have y0 : Wf.cell? ⟨w.heap.size, 0, none⟩ = some (.slice none 0 0) ∧ Wf.cell? ⟨w.heap.size, 1, none⟩ = some (.slice none 0 0) ∧ Wf.frozen? ⟨w.heap.size, 0, none⟩ = false ∧ Wf.frozen? ⟨w.heap.size, 1, none⟩ = false := by
    have hlt : w.heap.size < w1.heap.size := by omega
    refine ⟨?_, ?_, ?_, ?_⟩
    · rw [hb2.cell (p := ⟨w.heap.size, 0, none⟩) hlt, hw1]; simp
    · rw [hb2.cell (p := ⟨w.heap.size, 1, none⟩) hlt, hw1]; simp
    · rw [hb2.frozen (p := ⟨w.heap.size, 0, none⟩) hlt, hw1]; simp
    · rw [hb2.frozen (p := ⟨w.heap.size, 1, none⟩) hlt, hw1]; simp
  have HY := Lib.hid y0
  have hbf : Below w.heap.size w Wf := hb1.trans (hb2.mono hb1.size)
  have HS := Lib.hid (show Rv Wf bk Wf.heap.size 1 0 (.slice none 0 0) (.slice A1 s.1.length c1) A1 ((s.2.take 0).map unS) s.1 Wf from by
    refine ⟨?_, ?_, ?_, ?_, World.ownsRow_nil _ _ _ _, (hN.r1.below hbf).le hbf.size, Below.refl _ _, by omega, Nat.le_refl _⟩ <;> rw [hWf, ← hs1] <;> simp)
  have HR2 := Lib.hid ((hN.r2.below hbf).le (show w.heap.size ≤ bk by omega))
  have HBF := Lib.hid hbf
  have HH := Lib.hid (And.intro hbk hsf)
  clear hN hb hb1 hb2 y0 hbf
  go_enter Try.func54, Try.ntmps54
  go_wp2_with fail
  rw [← hw1, ← hWf, ← hbk]
  clear hw1 hWf hbk hs1 hsf
  go_loopw [12] (fun s12 wr => ∃ (k : Nat) (v : Value), s12 = .int .i64 (k : Int) ∧ k ≤ s.2.length ∧ Hid (Rv Wf bk Wf.heap.size 1 0 v (.slice A1 s.1.length c1) A1 ((s.2.take k).map unS) s.1 wr)) (fun s12 _ => (s.2.length - intOf s12).toNat)
  case atStart => exact ⟨0, _, rfl, by omega, HS⟩
  case round =>
    obtain ⟨k, v, rfl, hk, HR⟩ := hrel
    clear HS
    by_cases hlt : k < s.2.length
    · obtain ⟨b, o, hA, hbl, d0, d1⟩ := HR2.out.at_ k hlt
      subst hA
      rw [← HR.out.bel.cell (p := ⟨b, o + k * 2, none⟩) hbl] at d0
      rw [← HR.out.bel.cell (p := ⟨b, o + k * 2 + 1, none⟩) hbl] at d1
      have HT := Lib.hid (show (s.2.take (k + 1)).map unS = (s.2.take k).map unS ++ [unS s.2[k]] by rw [← List.take_append_getElem hlt, List.map_append]; rfl)
      have hbd := HBd.out s.2[k] (List.getElem_mem hlt)
      obtain ⟨x, hx⟩ : ∃ x, x = s.2[k] := ⟨_, rfl⟩
      rw [← hx] at d0 d1 HT hbd
      have hal : ((s.2.take k).map unS).length = k := by simp; omega
      obtain ⟨acc, hacc⟩ : ∃ acc, acc = (s.2.take k).map unS := ⟨_, rfl⟩
      rw [← hacc] at HR HT hal
      have HAL := Lib.hid hal
      have hkl : (k : Int) < (s.2.length : Int) := by omega
      have HU1 := Lib.hid (fun W => runrank_any x.1 W hbd.1)
      have HU2 := Lib.hid (fun W => runrank_any x.2 W hbd.2)
      have lb : bk < wr.heap.size := Nat.lt_of_lt_of_le HR.out.lt HR.out.le
      obtain ⟨W, hW⟩ : ∃ W, W = wr.alloc (.cells #[.int .i64 x.1, .int .i64 x.2] 46) := ⟨_, rfl⟩
      obtain ⟨b9, hb9⟩ : ∃ b9, b9 = wr.heap.size := ⟨_, rfl⟩
      have hbW : Below wr.heap.size wr W := by rw [hW]; exact bal wr _
      have e0 : W.cell? ⟨b9, 0, none⟩ = some (.int .i64 x.1) := by rw [hW, hb9]; simp
      have e1 : W.cell? ⟨b9, 1, none⟩ = some (.int .i64 x.2) := by rw [hW, hb9]; simp
      have l9 : b9 < W.heap.size := by rw [hW, hb9]; simp
      have ck : W.cell? ⟨bk, 1, none⟩ = some v := by rw [hbW.cell (p := ⟨bk, 1, none⟩) lb]; exact HR.out.ck
      have fk : W.frozen? ⟨bk, 1, none⟩ = false := by rw [hbW.frozen (p := ⟨bk, 1, none⟩) lb]; exact HR.out.fk
      have lbW : bk < W.heap.size := Nat.lt_of_lt_of_le lb hbW.size
      have hBW : Wf.heap.size ≤ W.heap.size := Nat.le_trans HR.out.le hbW.size
      have HBW := Lib.hid hbW
      have HO1 := Lib.hid (own_up HR.out.own hbW)
      clear hx hacc hbd hal hbW
      go_upto_region 5 with fail
      rw [← hW, ← hb9]
      clear hW hb9 d0 d1 hkl
      have hacl : acc.length ≤ 200000 := by have := HAL.out; omega
      go_region_law (first
        | (refine step_call79 rfl 19 rfl (.int .i64 x.1) (.int .i64 (un x.1)) rfl (HU1.out _) ?_)
        | (refine step_call79 rfl 22 rfl (.int .i64 x.2) (.int .i64 (un x.2)) rfl (HU2.out _) ?_)
        | (refine step_append_sp2 rfl (.tmp 17) (.tmp 25) rfl Wf.heap.size v acc (unS x) rfl ((own_up HO1.out (drewB W)).alloc _) W.heap.size rfl ((MapKept.heap_alloc _ _).1) hacl (by simp; omega) ?_; intro v5 w5 HO5 hg5; obtain ⟨A5, c5, rfl⟩ := own_slice HO5.out; obtain ⟨g1x, g2x⟩ := HR.out.facts (HBW.out.trans (((drewB W).alloc (by simp) _).mono HBW.out.size)) hg5))
      all_goals
        have h5 := HR.out.app (by decide) (HBW.out.trans (((drewB W).alloc (by simp) _).mono HBW.out.size)) HO5.out hg5
        rw [show (acc ++ [unS x]).length = acc.length + 1 by simp, ← HT.out] at h5
        have HR5 := Lib.hid h5
        clear h5
        clear HR HT HO5 hg5 g1x g2x ck fk e0 e1
        go_wp2_with fail
        go_roundw
        case rel => exact ⟨k + 1, _, by go_num, by omega, HR5⟩
        case measure => simp [intOf] <;> omega
    · obtain rfl : k = s.2.length := by omega
      rw [List.take_length] at HR
      obtain ⟨A3, c3, hv, hre3, hp3, hhi3⟩ := re_of_own HR.out.own
      rw [List.length_map] at hv
      subst hv
      have lb : bk < wr.heap.size := Nat.lt_of_lt_of_le HR.out.lt HR.out.le
      have lr : w.heap.size < bk := by have := HH.out.1; omega
      have k0 := HR.out.co
      have k1 := HR.out.ck
      have r0 : wr.cell? ⟨w.heap.size, 0, none⟩ = some (.slice none 0 0) := by rw [HR.out.bel.cell (p := ⟨w.heap.size, 0, none⟩) lr]; exact HY.out.1
      have r1 : wr.cell? ⟨w.heap.size, 1, none⟩ = some (.slice none 0 0) := by rw [HR.out.bel.cell (p := ⟨w.heap.size, 1, none⟩) lr]; exact HY.out.2.1
      have f0 : wr.frozen? ⟨w.heap.size, 0, none⟩ = false := by rw [HR.out.bel.frozen (p := ⟨w.heap.size, 0, none⟩) lr]; exact HY.out.2.2.1
      have f1 : wr.frozen? ⟨w.heap.size, 1, none⟩ = false := by rw [HR.out.bel.frozen (p := ⟨w.heap.size, 1, none⟩) lr]; exact HY.out.2.2.2
      obtain ⟨q0, q1, hup⟩ := st_cell r0 r1 A1 s.1.length c1 A3 s.2.length c3
      have hns : Ns wr A1 c1 A3 c3 (s.1, s.2.map unS) := ⟨HR.out.re.le HR.out.le, hre3, HN.out.p1, hp3⟩
      have hbw : Below w.heap.size w (stW wr w.heap.size A1 s.1.length c1 A3 s.2.length c3) :=
        ((HBF.out.trans (HR.out.bel.mono (Nat.le_of_lt lr))).setCell (p := ⟨w.heap.size, 0, none⟩) (Nat.le_refl _) _).setCell (p := ⟨w.heap.size, 1, none⟩) (Nat.le_refl _) _
      have HE := Lib.hid (show OfIs A1 c1 (s.1, s.2.map unS) w (.returned (nv A1 s.1.length c1 A3 s.2.length c3)) (stW wr w.heap.size A1 s.1.length c1 A3 s.2.length c3) from
        ⟨A3, c3, by simp, hup hns, hhi3.le (by have := HH.out.2; omega), hbw⟩)
      clear hup hns hbw hre3 hp3 hhi3 HR
      unfold stW at q0 q1 HE
      go_wp2_with fail
      refine bodyPost_ret (v := nv A1 s.1.length c1 A3 s.2.length c3) (by simp [results, Try.results54, go_sem, q0, q1]) rfl HE.out
end Go.Proofs.Yteekccjfokoglaa
namespace Go.Proofs.Yteekccjfokoglaa
open Go.RowKit Go.Sort Go.Lib Go.Proofs
set_option linter.unusedSimpArgs false
set_option linter.unnecessarySimpa false
set_option linter.unusedVariables false
theorem rn_gives {L : List Sp} {w w' : World} {e : Ending} (h : RnIs L w e w') : Gives L w e w' := by
  obtain ⟨v, rfl, h1, h2⟩ := h
  obtain ⟨A, c, rfl, h3, h4, h5⟩ := re_of_own h1
  exact ⟨A, c, rfl, h3, ⟨h4, h5⟩, h2⟩
theorem mk_rn (s : NS) : mk s = (rn (s.1.map clipI), (rn (fr s.2)).map unS) := by rw [ints_nrm, frac_nrm]; rfl
theorem rnF_bd (l : List Sp) : ∀ x ∈ rn (fr l), bdu x.1 ∧ bdu x.2 := fun x hx => by
  have h := rnF_line l x hx
  have h2 := (rnF_spec l).1.1 x hx
  unfold bdu; omega
set_option maxRecDepth 100000 in
set_option maxHeartbeats 2000000 in
theorem rmake_any (A1 A2 : Option Addr) (c1 c2 : Nat) (s : NS) (w : World) (hN_s : Ns w A1 c1 A2 c2 s) (hk_s : okN 100000 s) :
    Calls Try.prog 16 #[nv A1 s.1.length c1 A2 s.2.length c2] w (GivesN (mk s) w) := by
  have HN_s := Lib.hid hN_s
  have HK_s := Lib.hid hk_s
  clear hN_s hk_s
  obtain ⟨w1, hw1⟩ : ∃ w1, w1 = ((w.alloc (.cells #[.slice A1 s.1.length c1, .slice A2 s.2.length c2] 24)).alloc (.cells #[.slice none 0 0, .slice none 0 0] 24)) := ⟨_, rfl⟩
  obtain ⟨r, hr⟩ : ∃ r, r = w.heap.size + 1 := ⟨_, rfl⟩
  have hb0 : Below w.heap.size w w1 := by rw [hw1]; exact ((Below.refl _ _).alloc (Nat.le_refl _) _).alloc (by simp) _
  have a0 : w1.cell? ⟨w.heap.size, 0, none⟩ = some (.slice A1 s.1.length c1) := by rw [hw1]; simp
  have a1 : w1.cell? ⟨w.heap.size, 1, none⟩ = some (.slice A2 s.2.length c2) := by rw [hw1]; simp
  have hY : Yb r w1 := by rw [hw1, hr]; exact ⟨by simp, by simp, by simp, by simp, by simp⟩
  have z0 : w.heap.size < r := by omega
  have KP := Lib.hid (show ∀ W : World, Below r w1 W → W.cell? ⟨w.heap.size, 0, none⟩ = some (.slice A1 s.1.length c1) ∧ W.cell? ⟨w.heap.size, 1, none⟩ = some (.slice A2 s.2.length c2) ∧ Below r w1 W from fun W hb => ⟨(hb.cell (p := ⟨w.heap.size, 0, none⟩) (by show w.heap.size < r; omega)).trans a0, (hb.cell (p := ⟨w.heap.size, 1, none⟩) (by show w.heap.size < r; omega)).trans a1, hb⟩)
  have HB0 := Lib.hid hb0
  have HR := Lib.hid hr
  have HY := Lib.hid hY
  have rl : r ≤ w1.heap.size := Nat.le_of_lt hY.lt
  have HM_s := Lib.hid (HN_s.out.up hb0)
  obtain ⟨LI, hLI⟩ : ∃ LI, LI = rn (s.1.map clipI) := ⟨_, rfl⟩
  obtain ⟨LF, hLF⟩ : ∃ LF, LF = rn (fr s.2) := ⟨_, rfl⟩
  obtain ⟨FF, hFF⟩ : ∃ FF, FF = LF.map unS := ⟨_, rfl⟩
  have HC1 := Lib.hid (show ∀ W : World, Ns W A1 c1 A2 c2 s → Calls Try.prog 55 #[nv A1 s.1.length c1 A2 s.2.length c2] W (Gives LI W) from fun W h => by
    rw [hLI]; exact (rints_any A1 A2 c1 c2 s W h HK_s.out).mono fun e w' h => rn_gives h)
  have HC2 := Lib.hid (show ∀ W : World, Ns W A1 c1 A2 c2 s → Calls Try.prog 56 #[nv A1 s.1.length c1 A2 s.2.length c2] W (Gives LF W) from fun W h => by
    rw [hLF]; exact (rfracs_any A1 A2 c1 c2 s W h HK_s.out).mono fun e w' h => rn_gives h)
  have HC3 := Lib.hid (show ∀ (W : World) P p Q q, Ns W P p Q q (LI, LF) → Calls Try.prog 54 #[.slice P LI.length p, .slice Q LF.length q] W (OfIs P p (LI, FF) W) from fun W P p Q q h => by
    rw [hFF]; exact rof_any P Q p q (LI, LF) W h (by have := (rnF_spec s.2).2.1; have := HK_s.out.2.1; rw [hLF]; show (rn (fr s.2)).length ≤ 200000; omega) (by rw [hLF]; exact rnF_bd s.2))
  have HMK := Lib.hid (show mk s = (LI, FF) by rw [mk_rn, hLI, hFF, hLF])
  clear hLI hLF hFF
  go_enter Try.func16, Try.ntmps16
  go_wp2_with fail
  rw [← hw1, ← hr]
  clear hb0 hY hr hw1 a0 a1
  have b0 : Below w1.heap.size w1 w1.drew := drewB w1
  go_region_held3 (fun w' => w'.cell? ⟨w.heap.size, 0, none⟩ = some (.slice A1 s.1.length c1) ∧ w'.cell? ⟨w.heap.size, 1, none⟩ = some (.slice A2 s.2.length c2) ∧ Below r w1 w')
    (first | assumption | exact KP.out _ (Below.refl _ _) | exact KP.out _ (b3.mono rl) | exact KP.out _ (b2.mono rl) | exact KP.out _ (b1.mono rl) | exact KP.out _ (b0.mono rl) | exact KP.out _ (((b3.mono rl).setCell (p := ⟨r, 0, none⟩) (Nat.le_refl _) _).setCell (p := ⟨r, 1, none⟩) (Nat.le_refl _) _))
    (first
      | (go_at_call 54; (with_reducible refine (HC3.out _ P p Q q ⟨hr1.up hb2, hr2, hp1, hp2⟩).mono ?_); rintro e v3 ⟨T, t, rfl, hns, hh3, hb3⟩; have b3 : Below w1.heap.size w1 v3 := b2.trans (hb3.mono b2.size); obtain ⟨y0, y1, f0, f1, yl⟩ := HY.out.up b3)
      | (go_at_call 56; (with_reducible refine (HC2.out _ (HM_s.out.up b1)).mono ?_); rintro e v2 ⟨Q, q, rfl, hr2, ⟨hp2, hh2⟩, hb2⟩; have b2 : Below w1.heap.size w1 v2 := b1.trans (hb2.mono b1.size))
      | (go_at_call 55; (with_reducible refine (HC1.out _ (HM_s.out.up b0)).mono ?_); rintro e v1 ⟨P, p, rfl, hr1, ⟨hp1, hh1⟩, hb1⟩; have b1 : Below w1.heap.size w1 v1 := b0.trans (hb1.mono b0.size)))
  all_goals
    obtain ⟨q0, q1, hup⟩ := st_cell y0 y1 P LI.length p T FF.length t
    have HE := Lib.hid (show GivesN (mk s) w (.returned (nv P LI.length p T FF.length t)) (stW v3 r P LI.length p T FF.length t) from by
      have hns := hup (hns)
      have hbE : Below w.heap.size w (stW v3 r P LI.length p T FF.length t) := (((HB0.out.trans (b3.mono HB0.out.size)).setCell (p := ⟨r, 0, none⟩) (by have := HR.out; show w.heap.size ≤ r; omega) _).setCell (p := ⟨r, 1, none⟩) (by have := HR.out; show w.heap.size ≤ r; omega) _)
      rw [HMK.out]
      exact ⟨P, p, T, t, rfl, ⟨hns, hh1.le (Nat.le_trans HB0.out.size b0.size), hh3.le (Nat.le_trans HB0.out.size b2.size)⟩, hbE⟩)
    unfold stW at q0 q1 HE
    clear hup y0 y1 f0 f1
    generalize (v3.setCell ⟨r, 0, none⟩ (.slice P LI.length p)).setCell ⟨r, 1, none⟩ (.slice T FF.length t) = Wf at *
    go_wp2_with fail
    refine bodyPost_ret (v := nv P LI.length p T FF.length t) (by simp [results, Try.results16, go_sem, q0, q1]) rfl HE.out
end Go.Proofs.Yteekccjfokoglaa
namespace Go.Proofs.Yteekccjfokoglaa
open Go.RowKit Go.Sort Go.Lib Go.Proofs
set_option linter.unusedSimpArgs false
set_option linter.unnecessarySimpa false
set_option linter.unusedVariables false
theorem rall_any (w : World) : Calls Try.prog 22 #[] w (GivesN allS w) := by
  have HE := Lib.hid (show GivesN allS w (.returned (nv (some ⟨w.heap.size + 1, 0, none⟩) 1 1 (some ⟨w.heap.size + 1 + 1, 0, none⟩) 1 1)) (((w.alloc (.cells #[.slice (some ⟨w.heap.size + 1, 0, none⟩) 1 1, .slice (some ⟨w.heap.size + 1 + 1, 0, none⟩) 1 1] 24)).alloc (.cells #[.int .i64 (-100000000000), .int .i64 100000000000] 46)).alloc (.cells #[.int .i64 (-999999999999999), .int .i64 999999999999999] 46)) by
    rw [all_eq]
    have hb1 := bal w (.cells #[.slice (some ⟨w.heap.size + 1, 0, none⟩) 1 1, .slice (some ⟨w.heap.size + 1 + 1, 0, none⟩) 1 1] 24)
    have hs1 : (w.alloc (.cells #[.slice (some ⟨w.heap.size + 1, 0, none⟩) 1 1, .slice (some ⟨w.heap.size + 1 + 1, 0, none⟩) 1 1] 24)).heap.size = w.heap.size + 1 := by simp
    generalize w.alloc (.cells #[.slice (some ⟨w.heap.size + 1, 0, none⟩) 1 1, .slice (some ⟨w.heap.size + 1 + 1, 0, none⟩) 1 1] 24) = W1 at *
    have hR1 := re_one W1 (-100000000000) 100000000000
    have hb2 := bal W1 (.cells #[.int .i64 (-100000000000), .int .i64 100000000000] 46)
    have hs2 : (W1.alloc (.cells #[.int .i64 (-100000000000), .int .i64 100000000000] 46)).heap.size = w.heap.size + 1 + 1 := by simp [hs1]
    generalize W1.alloc (.cells #[.int .i64 (-100000000000), .int .i64 100000000000] 46) = W2 at *
    have hR2 := re_one W2 (-999999999999999) 999999999999999
    have hb3 := bal W2 (.cells #[.int .i64 (-999999999999999), .int .i64 999999999999999] 46)
    rw [hs2] at hR2
    rw [hs1] at hR1
    exact ⟨some ⟨w.heap.size + 1, 0, none⟩, 1, some ⟨w.heap.size + 1 + 1, 0, none⟩, 1, rfl, ⟨⟨hR1.up hb3, hR2, plain_at _ _, plain_at _ _⟩, hi_at (by omega), hi_at (by omega)⟩, (hb1.trans (hb2.mono hb1.size)).trans (hb3.mono (by omega))⟩)
  go_enter Try.func22, Try.ntmps22
  go_wp2
  refine bodyPost_ret (v := nv (some ⟨w.heap.size + 1, 0, none⟩) 1 1 (some ⟨w.heap.size + 1 + 1, 0, none⟩) 1 1) (by simp [results, Try.results22, go_sem]) rfl HE.out
set_option maxRecDepth 100000 in
set_option maxHeartbeats 1000000 in
theorem rintset_any (w : World) : Calls Try.prog 24 #[] w (GivesN intS w) := by
  have H := Lib.hid (fun W => rall_any W)
  have HY := Lib.hid (yb_new w)
  go_enter Try.func24, Try.ntmps24
  go_wp2_with fail
  refine (H.out _).mono ?_
  rintro e w2 ⟨E1, e1, E2, e2, rfl, ⟨hns, h1, h2⟩, hb2⟩
  have hY2 := HY.out.up hb2
  obtain ⟨y0, y1, f0, f1, yl⟩ := id hY2
  have i1 : Hi (w.heap.size + 1) E1 := h1.le (by simp)
  have hB2 := (bal w (.cells #[.slice none 0 0, .slice none 0 0] 24)).trans (hb2.mono (by simp))
  obtain ⟨⟨q0, q1⟩, hfn, hfb⟩ := fin_set (F2 := none) (g2 := 0) (s := intS) hY2 ⟨hns.r1, re_nil _ _ _, hns.p1, plain_nil⟩ i1 (hi_nil _) allS.1.length 0
  have HE := Lib.hid (show GivesN intS w (.returned (nv E1 allS.1.length e1 none 0 0)) ((w2.setCell ⟨w.heap.size, 0, none⟩ (.slice E1 allS.1.length e1)).setCell ⟨w.heap.size, 1, none⟩ (.slice none 0 0)) from
    ⟨E1, e1, none, 0, rfl, ⟨hfn, i1.le (by omega), hi_nil _⟩, hB2.trans hfb⟩)
  clear hfn hfb hB2 i1 hY2 hns h1 h2 hb2
  have hf := fun W => field24 E1 allS.1.length e1 E2 allS.2.length e2 W
  go_wp2_with fail
  refine bodyPost_ret (v := nv E1 allS.1.length e1 none 0 0) (by simp [results, Try.results24, go_sem, q0, q1]) rfl HE.out
set_option maxRecDepth 100000 in
set_option maxHeartbeats 1000000 in
theorem rvalid_s (A1 A2 : Option Addr) (c1 c2 : Nat) (s : NS) (w : World) (hN : Ns w A1 c1 A2 c2 s) (hk : okN 100000 s) :
    Calls Try.prog 18 #[nv A1 s.1.length c1 A2 s.2.length c2] w (EqIs (eqN s (mk s)) w) := by
  obtain ⟨w1, hw1⟩ : ∃ w1, w1 = w.alloc (.cells #[.slice A1 s.1.length c1, .slice A2 s.2.length c2] 24) := ⟨_, rfl⟩
  have hb0 : Below w.heap.size w w1 := by rw [hw1]; exact bal w _
  have a0 : w1.cell? ⟨w.heap.size, 0, none⟩ = some (.slice A1 s.1.length c1) := by rw [hw1]; simp
  have a1 : w1.cell? ⟨w.heap.size, 1, none⟩ = some (.slice A2 s.2.length c2) := by rw [hw1]; simp
  have l0 : w.heap.size < w1.heap.size := by rw [hw1]; simp
  have HM := Lib.hid (hN.up hb0)
  have KP := Lib.hid (show ∀ W : World, Below w1.heap.size w1 W → W.cell? ⟨w.heap.size, 0, none⟩ = some (.slice A1 s.1.length c1) ∧ W.cell? ⟨w.heap.size, 1, none⟩ = some (.slice A2 s.2.length c2) ∧ Below w1.heap.size w1 W from fun W hb => ⟨(hb.cell (p := ⟨w.heap.size, 0, none⟩) l0).trans a0, (hb.cell (p := ⟨w.heap.size, 1, none⟩) l0).trans a1, hb⟩)
  have H1 := Lib.hid (show ∀ W : World, Ns W A1 c1 A2 c2 s → Calls Try.prog 16 #[nv A1 s.1.length c1 A2 s.2.length c2] W (GivesN (mk s) W) from fun W h => rmake_any A1 A2 c1 c2 s W h hk)
  have H2 := Lib.hid (show ∀ (W : World) P p Q q, Ns W A1 c1 A2 c2 s → Ns W P p Q q (mk s) → Calls Try.prog 14 #[nv A1 s.1.length c1 A2 s.2.length c2, nv P (mk s).1.length p Q (mk s).2.length q] W (EqIs (eqN s (mk s)) W) from fun W P p Q q h k => same_any A1 A2 P Q c1 c2 p q s (mk s) W h k hk (mk_ok hk))
  have HB0 := Lib.hid hb0
  clear a0 a1 hb0 hN hk
  go_enter Try.func18, Try.ntmps18
  go_wp2_with fail
  rw [← hw1]
  clear hw1
  have b0 : Below w1.heap.size w1 w1.drew := drewB w1
  go_region_held3 (fun w' => w'.cell? ⟨w.heap.size, 0, none⟩ = some (.slice A1 s.1.length c1) ∧ w'.cell? ⟨w.heap.size, 1, none⟩ = some (.slice A2 s.2.length c2) ∧ Below w1.heap.size w1 w')
    (first | assumption | exact KP.out _ (Below.refl _ _) | exact KP.out _ b2 | exact KP.out _ b1 | exact KP.out _ b0)
    (first
      | (go_at_call 14; (with_reducible refine (H2.out _ P p Q q (HM.out.up b1) hns).mono ?_); rintro e v2 ⟨rfl, hb2⟩; have b2 : Below w1.heap.size w1 v2 := b1.trans (hb2.mono b1.size))
      | (go_at_call 16; (with_reducible refine (H1.out _ (HM.out.up b0)).mono ?_); rintro e v1 ⟨P, p, Q, q, rfl, ⟨hns, _, _⟩, hb1⟩; have b1 : Below w1.heap.size w1 v1 := b0.trans (hb1.mono b0.size)))
  all_goals
    go_wp2_with fail
    go_ret
    exact ⟨rfl, HB0.out.trans (b2.mono HB0.out.size)⟩
theorem tq_whole {u : Int} (h : u % 10000 = 0) : u.tdiv 10000 = u / 10000 := by
  obtain ⟨k, rfl⟩ := Int.dvd_of_emod_eq_zero h
  rw [Int.mul_tdiv_cancel_left _ (by omega), Int.mul_ediv_cancel_left _ (by omega)]
theorem memb_no {l : List Sp} {n : Int} (h : ∀ j (hj : j < l.length), ¬(l[j].1 ≤ n ∧ n ≤ l[j].2)) : memb l n = false := by
  rw [Bool.eq_false_iff, Ne, memb_iff]
  rintro ⟨s, hs, h1⟩
  obtain ⟨j, hj, rfl⟩ := List.getElem_of_mem hs
  exact h j hj h1
theorem memb_yes {l : List Sp} {n : Int} {j : Nat} (hj : j < l.length) (h : l[j].1 ≤ n ∧ n ≤ l[j].2) : memb l n = true := by
  rw [memb_iff]; exact ⟨l[j], List.getElem_mem hj, h⟩
set_option maxRecDepth 100000 in
set_option maxHeartbeats 1000000 in
theorem rhas_any (A1 A2 : Option Addr) (c1 c2 : Nat) (s : NS) (u : Int) (w : World) (hN : Ns w A1 c1 A2 c2 s) (hk : okN 100000 s) (hu : i64ok u) :
    Calls Try.prog 20 #[nv A1 s.1.length c1 A2 s.2.length c2, .int .i64 u] w (EqIs (hasB s u) w) := by
  obtain ⟨w1, hw1⟩ : ∃ w1, w1 = w.alloc (.cells #[.slice A1 s.1.length c1, .slice A2 s.2.length c2] 24) := ⟨_, rfl⟩
  have hb0 : Below w.heap.size w w1 := by rw [hw1]; exact bal w _
  have a0 : w1.cell? ⟨w.heap.size, 0, none⟩ = some (.slice A1 s.1.length c1) := by rw [hw1]; simp
  have a1 : w1.cell? ⟨w.heap.size, 1, none⟩ = some (.slice A2 s.2.length c2) := by rw [hw1]; simp
  have HR1 := Lib.hid (hN.r1.up hb0)
  have HR2 := Lib.hid (hN.r2.up hb0)
  have HV := Lib.hid (fun W => rvalid_any u W hu)
  have HWh := Lib.hid (fun W => rwhole_any u W)
  have HB0 := Lib.hid hb0
  have hl1 : s.1.length ≤ 100000 := hk.1
  have hl2 : s.2.length ≤ 100000 := hk.2.1
  have hu' := hu
  unfold i64ok at hu'
  clear hb0 hN hk
  cases hv : vld u
  · rw [hv] at HV
    have HE := Lib.hid (show hasB s u = false by unfold hasB; rw [hv]; rfl)
    clear hv
    go_enter Try.func20, Try.ntmps20
    go_wp2_with fail
    rw [← hw1]
    clear hw1
    refine (HV.out _).mono ?_
    rintro e w' ⟨rfl, rfl⟩
    go_wp2_with fail
    go_ret
    exact ⟨ret_bool HE.out.symm, HB0.out⟩
  · rw [hv] at HV
    by_cases hw : u % 10000 = 0
    · rw [decide_eq_true hw] at HWh
      have HE := Lib.hid (show hasB s u = memb s.1 (u / 10000) by unfold hasB; rw [hv, if_pos hw]; rfl)
      have q1 : IntKind.i64.wrap (u.tdiv 10000) = u / 10000 := by rw [tq_whole hw]; exact IntWalk.i64_in _ (by omega)
      obtain ⟨n, hn⟩ : ∃ n, n = u / 10000 := ⟨_, rfl⟩
      rw [← hn] at HE q1
      clear hv hw hn
      go_enter Try.func20, Try.ntmps20
      go_wp2_with fail
      rw [← hw1]
      clear hw1
      refine (HV.out _).mono ?_
      rintro e w' ⟨rfl, rfl⟩
      go_wp2_with fail
      refine (HWh.out _).mono ?_
      rintro e w' ⟨rfl, rfl⟩
      go_wp2_with fail
      go_loopw [23] (fun s23 wr => ∃ k : Nat, s23 = .int .i64 (k : Int) ∧ k ≤ s.1.length ∧ Hid (∀ j (hj : j < s.1.length), j < k → ¬(s.1[j].1 ≤ n ∧ n ≤ s.1[j].2)) ∧ Hid (Below w1.heap.size w1 wr)) (fun s23 _ => (s.1.length - intOf s23).toNat)
      case atStart => exact ⟨0, rfl, by omega, Lib.hid (fun j hj h => absurd h (Nat.not_lt_zero _)), Lib.hid (Below.refl _ _)⟩
      case round =>
        obtain ⟨k, rfl, hk, HN, HB⟩ := hrel
        by_cases hlt : k < s.1.length
        · obtain ⟨b, o, hA, hbl, d0, d1⟩ := HR1.out.at_ k hlt
          subst hA
          rw [← HB.out.cell (p := ⟨b, o + k * 2, none⟩) hbl] at d0
          rw [← HB.out.cell (p := ⟨b, o + k * 2 + 1, none⟩) hbl] at d1
          have HY := Lib.hid (fun h => memb_yes (n := n) hlt h)
          have HS := Lib.hid (fun (h : ¬(s.1[k].1 ≤ n ∧ n ≤ s.1[k].2)) => (show ∀ j (hj : j < s.1.length), j < k + 1 → ¬(s.1[j].1 ≤ n ∧ n ≤ s.1[j].2) from fun j hj h1 => by
            by_cases e : j = k
            · subst e; exact h
            · exact HN.out j hj (by omega)))
          obtain ⟨x, hx⟩ : ∃ x, x = s.1[k] := ⟨_, rfl⟩
          rw [← hx] at d0 d1 HY HS
          have hkl : (k : Int) < (s.1.length : Int) := by omega
          have hwr : w1.heap.size ≤ wr.heap.size := HB.out.size
          have HB2 := Lib.hid (HB.out.alloc hwr (.cells #[.int .i64 x.1, .int .i64 x.2] 46))
          clear hx HN HB
          by_cases h1 : x.1 ≤ n
          · by_cases h2 : n ≤ x.2
            · have HQ := Lib.hid (HY.out ⟨h1, h2⟩)
              have g1 : decide (x.1 ≤ n) = true := decide_eq_true h1
              have g2 : decide (n ≤ x.2) = true := decide_eq_true h2
              clear h1 h2 HY HS
              go_wp2_with fail
              go_ret
              exact ⟨ret_bool (by rw [HE.out, HQ.out]), HB0.out.trans (HB2.out.mono HB0.out.size)⟩
            · have HQ := Lib.hid (HS.out (fun h => h2 h.2))
              have g1 : decide (x.1 ≤ n) = true := decide_eq_true h1
              have g2 : decide (n ≤ x.2) = false := decide_eq_false h2
              clear h1 h2 HY HS
              go_wp2_with fail
              go_roundw
              case rel => exact ⟨k + 1, by go_num, by omega, HQ, HB2⟩
              case measure => simp [intOf]; omega
          · have HQ := Lib.hid (HS.out (fun h => h1 h.1))
            have g1 : decide (x.1 ≤ n) = false := decide_eq_false h1
            clear h1 HY HS
            go_wp2_with fail
            go_roundw
            case rel => exact ⟨k + 1, by go_num, by omega, HQ, HB2⟩
            case measure => simp [intOf]; omega
        · obtain rfl : k = s.1.length := by omega
          have HQ := Lib.hid (memb_no (fun j hj => HN.out j hj hj))
          clear HN
          go_wp2_with fail
          go_ret
          exact ⟨ret_bool (by rw [HE.out, HQ.out]), HB0.out.trans (HB.out.mono HB0.out.size)⟩
    · rw [decide_eq_false hw] at HWh
      have HE := Lib.hid (show hasB s u = memb s.2 u by unfold hasB; rw [hv, if_neg hw]; rfl)
      clear hv hw
      go_enter Try.func20, Try.ntmps20
      go_wp2_with fail
      rw [← hw1]
      clear hw1
      refine (HV.out _).mono ?_
      rintro e w' ⟨rfl, rfl⟩
      go_wp2_with fail
      refine (HWh.out _).mono ?_
      rintro e w' ⟨rfl, rfl⟩
      go_wp2_with fail
      go_loopw [23] (fun s23 wr => ∃ k : Nat, s23 = .int .i64 (k : Int) ∧ k ≤ s.2.length ∧ Hid (∀ j (hj : j < s.2.length), j < k → ¬(s.2[j].1 ≤ u ∧ u ≤ s.2[j].2)) ∧ Hid (Below w1.heap.size w1 wr)) (fun s23 _ => (s.2.length - intOf s23).toNat)
      case atStart => exact ⟨0, rfl, by omega, Lib.hid (fun j hj h => absurd h (Nat.not_lt_zero _)), Lib.hid (Below.refl _ _)⟩
      case round =>
        obtain ⟨k, rfl, hk, HN, HB⟩ := hrel
        by_cases hlt : k < s.2.length
        · obtain ⟨b, o, hA, hbl, d0, d1⟩ := HR2.out.at_ k hlt
          subst hA
          rw [← HB.out.cell (p := ⟨b, o + k * 2, none⟩) hbl] at d0
          rw [← HB.out.cell (p := ⟨b, o + k * 2 + 1, none⟩) hbl] at d1
          have HY := Lib.hid (fun h => memb_yes (n := u) hlt h)
          have HS := Lib.hid (fun (h : ¬(s.2[k].1 ≤ u ∧ u ≤ s.2[k].2)) => (show ∀ j (hj : j < s.2.length), j < k + 1 → ¬(s.2[j].1 ≤ u ∧ u ≤ s.2[j].2) from fun j hj h1 => by
            by_cases e : j = k
            · subst e; exact h
            · exact HN.out j hj (by omega)))
          obtain ⟨x, hx⟩ : ∃ x, x = s.2[k] := ⟨_, rfl⟩
          rw [← hx] at d0 d1 HY HS
          have hkl : (k : Int) < (s.2.length : Int) := by omega
          have hwr : w1.heap.size ≤ wr.heap.size := HB.out.size
          have HB2 := Lib.hid (HB.out.alloc hwr (.cells #[.int .i64 x.1, .int .i64 x.2] 46))
          clear hx HN HB
          by_cases h1 : x.1 ≤ u
          · by_cases h2 : u ≤ x.2
            · have HQ := Lib.hid (HY.out ⟨h1, h2⟩)
              have g1 : decide (x.1 ≤ u) = true := decide_eq_true h1
              have g2 : decide (u ≤ x.2) = true := decide_eq_true h2
              clear h1 h2 HY HS
              go_wp2_with fail
              go_ret
              exact ⟨ret_bool (by rw [HE.out, HQ.out]), HB0.out.trans (HB2.out.mono HB0.out.size)⟩
            · have HQ := Lib.hid (HS.out (fun h => h2 h.2))
              have g1 : decide (x.1 ≤ u) = true := decide_eq_true h1
              have g2 : decide (u ≤ x.2) = false := decide_eq_false h2
              clear h1 h2 HY HS
              go_wp2_with fail
              go_roundw
              case rel => exact ⟨k + 1, by go_num, by omega, HQ, HB2⟩
              case measure => simp [intOf]; omega
          · have HQ := Lib.hid (HS.out (fun h => h1 h.1))
            have g1 : decide (x.1 ≤ u) = false := decide_eq_false h1
            clear h1 HY HS
            go_wp2_with fail
            go_roundw
            case rel => exact ⟨k + 1, by go_num, by omega, HQ, HB2⟩
            case measure => simp [intOf]; omega
        · obtain rfl : k = s.2.length := by omega
          have HQ := Lib.hid (memb_no (fun j hj => HN.out j hj hj))
          clear HN
          go_wp2_with fail
          go_ret
          exact ⟨ret_bool (by rw [HE.out, HQ.out]), HB0.out.trans (HB.out.mono HB0.out.size)⟩
end Go.Proofs.Yteekccjfokoglaa
