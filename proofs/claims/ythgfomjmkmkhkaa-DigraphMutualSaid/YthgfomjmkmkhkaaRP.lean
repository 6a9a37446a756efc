/-
  Paths of the specification: a table of Booleans. Conditions: the slice reads as a graph of at most 1000 nodes with at most 1000 successors each.
-/
import Derived.Test.YthgfomjmkmkhkaaH
import Derived.StillTailTactics
namespace Go.Proofs.Ythgfomjmkmkhkaa
open Go.RowKit
set_option linter.unusedSimpArgs false
set_option linter.unusedVariables false
theorem Try.info27 : (Try.prog.info? 27).map (fun i => (i.zero, i.size, i.bytes)) = some (some (.slice none 0 0), 1, 24) := by kernel_rfl
theorem Try.make38 (n : Nat) (hn : n ≤ 100000) (w : World) : (Instr.makeSlice 38 (.int .i64 (n : Int)) (.int .i64 (n : Int))).run Try.prog w = .ok (.slice (some ⟨w.heap.size, 0, none⟩) n n) (w.alloc (.cells (madeCells #[.slice none 0 0] n) 27)) := by
  obtain ⟨i0, hi, hz0, hz1, hz2⟩ := info_parts Try.info27
  have := run_make (P := Try.prog) w 38 27 i0 (.slice none 0 0) Try.underlying38 hi hz0 .i64 .i64 n n (by omega) (Int.le_refl _) (by rw [hz2]; omega) (by omega)
  rw [hz1] at this
  simp at this
  exact this
/-- a table of n rows in block g, of which the first m are made, each in a block of its own -/
structure PT (w wr : World) (g n m : Nat) (T : Nat → Nat → Bool) : Prop where
  below : Below g w wr
  size : g < wr.heap.size
  tab : ∃ (V : List Value) (R : Nat → Nat), wr.ownsRow g 27 1 (.slice (some ⟨g, 0, none⟩) n n) n V ∧ (∀ a, a < m → V[a]? = some (.slice (some ⟨R a, 0, none⟩) n n) ∧ g < R a ∧ R a < wr.heap.size ∧ ∃ xs, BRow wr (R a) n xs ∧ ∀ b, b < n → xs[b]? = some (T a b)) ∧
    ∀ a c : Nat, a < m → c < m → a ≠ c → R a ≠ R c
theorem PT.keep {w wr w' : World} {g n m : Nat} {T : Nat → Nat → Bool} (H : PT w wr g n m T) (hb : Below wr.heap.size wr w') : PT w w' g n m T := by
  obtain ⟨V, R, h1, h2, h3⟩ := H.tab
  have hs := H.size
  exact ⟨H.below.trans (hb.mono (by omega)), Nat.lt_of_lt_of_le hs hb.size, V, R, own_below h1 hb, fun a ha => by
    obtain ⟨e1, e2, e3, xs, e4, e5⟩ := h2 a ha
    exact ⟨e1, e2, Nat.lt_of_lt_of_le e3 hb.size, xs, br_below e4 hb, e5⟩, h3⟩
theorem PT.congr {w wr : World} {g n m : Nat} {T T' : Nat → Nat → Bool} (H : PT w wr g n m T) (e : ∀ a b, a < m → b < n → T a b = T' a b) : PT w wr g n m T' := by
  obtain ⟨V, R, h1, h2, h3⟩ := H.tab
  exact ⟨H.below, H.size, V, R, h1, fun a ha => by
    obtain ⟨e1, e2, e3, xs, e4, e5⟩ := h2 a ha
    exact ⟨e1, e2, e3, xs, e4, fun b hb => by rw [← e a b ha hb]; exact e5 b hb⟩, h3⟩
theorem PT.cell {w wr : World} {g n m : Nat} {T : Nat → Nat → Bool} (H : PT w wr g n m T) (hmn : m ≤ n) {a : Nat} (ha : a < m) : ∃ r, wr.cell? ⟨g, a, none⟩ = some (.slice (some ⟨r, 0, none⟩) n n) ∧ g < r ∧ r < wr.heap.size ∧ (∀ b, b < n → wr.cell? ⟨r, b, none⟩ = some (.bool (T a b)) ∧ wr.frozen? ⟨r, b, none⟩ = false) ∧
    ∀ b v, b < n → PT w (wr.setCell ⟨r, b, none⟩ (.bool v)) g n m (upd2 T a b v) := by
  obtain ⟨V, R, h1, h2, h3⟩ := H.tab
  obtain ⟨e1, e2, e3, xs, e4, e5⟩ := h2 a ha
  refine ⟨R a, by rw [World.ownsRow.cellAt h1 a (by omega)]; exact e1, e2, e3, fun b hb => ?_, fun b v hb => ?_⟩
  · obtain ⟨_, h, h'⟩ := br_at e4 b hb _ (e5 b hb)
    exact ⟨h, h'⟩
  · have hk : ∀ k, k ≠ R a → (wr.setCell ⟨R a, b, none⟩ (.bool v)).heap[k]? = wr.heap[k]? := fun k hk => Below.heap_setCell _ _ _ _ hk
    refine ⟨H.below.setCell (by show g ≤ R a; omega) _, by simp; exact H.size, V, R, row_block h1 (hk g (by omega)), fun c hc => ?_, h3⟩
    obtain ⟨f1, f2, f3, ys, f4, f5⟩ := h2 c hc
    by_cases hca : c = a
    · subst hca
      have hxl : b < xs.length := by rw [br_len e4]; exact hb
      refine ⟨f1, f2, by simp; exact f3, _, br_set e4 b v, fun d hd => ?_⟩
      unfold upd2
      by_cases hdb : b = d
      · subst hdb; rw [List.getElem?_set_self hxl, if_pos ⟨rfl, rfl⟩]
      · rw [List.getElem?_set_ne hdb, if_neg (fun e => hdb e.2.symm)]; exact e5 d hd
    · refine ⟨f1, f2, by simp; exact f3, ys, row_block f4 (hk (R c) (h3 c a hc ha hca)), fun d hd => ?_⟩
      unfold upd2
      rw [if_neg (fun e => hca e.1)]; exact f5 d hd
theorem PT.frz {w wr : World} {g n m : Nat} {T : Nat → Nat → Bool} (H : PT w wr g n m T) (a : Nat) (ha : a < n) : wr.frozen? ⟨g, a, none⟩ = false ∧ ∃ v, wr.cell? ⟨g, a, none⟩ = some v := by
  obtain ⟨V, R, h1, h2, h3⟩ := H.tab
  refine ⟨World.ownsRow.frozenAt h1 a, ?_⟩
  have hl : V.length = n := by simpa using h1.1
  rw [World.ownsRow.cellAt h1 a (by omega)]
  exact ⟨_, List.getElem?_eq_getElem (by omega)⟩
theorem pt_start (w : World) (n : Nat) (hn : n ≤ 1000) (T : Nat → Nat → Bool) : PT w (w.alloc (.cells (madeCells #[.slice none 0 0] n) 27)) w.heap.size n 0 T := by
  have h0 := World.ownsRow_lit (base := w.heap.size) (e := 27) (size := 1) w (madeCells #[.slice none 0 0] n) n (Nat.le_refl _) (by unfold maxLen; omega) (by simp [size_madeCells])
  exact ⟨(Below.refl _ _).alloc (Nat.le_refl _) _, by simp, _, fun _ => 0, h0, fun a ha => by omega, fun a c ha => by omega⟩
theorem PT.make {w wr : World} {g n m : Nat} {T : Nat → Nat → Bool} (H : PT w wr g n m T) (hm : m < n) (hn : n ≤ 1000) (hT : ∀ b, b < n → T m b = false) :
    PT w ((wr.alloc (.cells (madeCells #[.bool false] n) 4)).setCell ⟨g, m, none⟩ (.slice (some ⟨wr.heap.size, 0, none⟩) n n)) g n (m + 1) T := by
  obtain ⟨V, R, h1, h2, h3⟩ := H.tab
  have hs := H.size
  have hb : Below wr.heap.size wr (wr.alloc (.cells (madeCells #[.bool false] n) 4)) := (Below.refl _ _).alloc (Nat.le_refl _) _
  have hnew := br_new wr n (by omega)
  have hst := (World.ownsRow.stored (own_below h1 hb) m (.slice (some ⟨wr.heap.size, 0, none⟩) n n)).1
  have hl : V.length = n := by simpa using h1.1
  have hk : ∀ k, k ≠ g → ((wr.alloc (.cells (madeCells #[.bool false] n) 4)).setCell ⟨g, m, none⟩ (.slice (some ⟨wr.heap.size, 0, none⟩) n n)).heap[k]? = (wr.alloc (.cells (madeCells #[.bool false] n) 4)).heap[k]? := fun k hk => Below.heap_setCell _ _ _ _ hk
  refine ⟨(H.below.trans (hb.mono (by omega))).setCell (by show g ≤ g; omega) _, by simp; omega, _, fun a => if a = m then wr.heap.size else R a, hst, fun a ha => ?_, fun a c ha hc hac => ?_⟩
  · dsimp only
    by_cases ham : a = m
    · subst ham
      rw [if_pos rfl]
      refine ⟨List.getElem?_set_self (by omega), hs, by simp, _, row_block hnew (hk _ (by omega)), fun b hb' => ?_⟩
      rw [hT b hb']; simp [hb']
    · rw [if_neg ham]
      obtain ⟨e1, e2, e3, xs, e4, e5⟩ := h2 a (by omega)
      exact ⟨by rw [List.getElem?_set_ne (Ne.symm ham)]; exact e1, e2, by simp; omega, xs, row_block (br_below e4 hb) (hk _ (by omega)), e5⟩
  · dsimp only
    by_cases ham : a = m
    · subst ham
      have hcm : c ≠ a := Ne.symm hac
      have := (h2 c (by omega)).2.2.1
      simp only [if_true, if_neg hcm]
      omega
    · by_cases hcm : c = m
      · subst hcm
        have := (h2 a (by omega)).2.2.1
        simp only [if_true, if_neg ham]
        omega
      · simp only [if_neg ham, if_neg hcm]
        exact h3 a c (by omega) (by omega) hac
/-- the slice at A reads as the table T of n rows, in blocks below B -/
structure RP (w : World) (B : Nat) (A : Option Addr) (n : Nat) (T : Nat → Nat → Bool) : Prop where
  at_ : ∀ a, a < n → ∃ ad a1 c1, A = some ad ∧ ad.block < B ∧ w.cell? (ad.add a) = some (.slice (some a1) n c1) ∧ a1.block < B ∧ ∀ b, b < n → w.cell? (a1.add b) = some (.bool (T a b))
theorem RP.below {w w' : World} {B : Nat} {A : Option Addr} {n : Nat} {T : Nat → Nat → Bool} (h : RP w B A n T) (hb : Below B w w') : RP w' B A n T :=
  ⟨fun a ha => by
    obtain ⟨ad, a1, c1, e, h1, h2, h3, h4⟩ := h.at_ a ha
    exact ⟨ad, a1, c1, e, h1, by rw [hb.cell (by rw [block_of_add]; exact h1)]; exact h2, h3, fun b hb' => by rw [hb.cell (by rw [block_of_add]; exact h3)]; exact h4 b hb'⟩⟩
theorem PT.rp {w wr : World} {g n : Nat} {T : Nat → Nat → Bool} (H : PT w wr g n n T) : RP wr wr.heap.size (some ⟨g, 0, none⟩) n T :=
  ⟨fun a ha => by
    obtain ⟨r, h1, h2, h3, h4, _⟩ := H.cell (Nat.le_refl _) ha
    have ea : ∀ (x k : Nat), (⟨x, 0, none⟩ : Addr).add k = ⟨x, k, none⟩ := fun x k => by simp [Addr.add]; exact fun e => e.symm
    exact ⟨⟨g, 0, none⟩, ⟨r, 0, none⟩, n, rfl, H.size, by rw [ea]; exact h1, h3, fun b hb => by rw [ea]; exact (h4 b hb).1⟩⟩
end Go.Proofs.Ythgfomjmkmkhkaa
