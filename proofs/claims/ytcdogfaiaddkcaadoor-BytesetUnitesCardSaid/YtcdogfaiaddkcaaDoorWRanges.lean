/-
  The two functions Ranges return the same ranges, for any set of bytes: the law BytesetRanges. Condition: the table math/bits.deBruijn64tab holds what its text says.
-/
import Derived.Test.YtcdogfaiaddkcaaDoorRng2
import Derived.Test.YtcdogfaiaddkcaaDoorAwake
import Derived.Deep.QuietTactic
namespace Go.Proofs.YtcdogfaiaddkcaaDoor
open Go.RowKit
set_option linter.unusedSimpArgs false
set_option linter.unusedVariables false
theorem flatMap2 {α : Type} (f : α → List Value) (a b : α → Value) (hf : ∀ x, f x = [a x, b x]) : ∀ (l : List α) (k : Nat) (x : α), l[k]? = some x → (l.flatMap f)[k * 2]? = some (a x) ∧ (l.flatMap f)[k * 2 + 1]? = some (b x) := by
  intro l
  induction l with
  | nil => intro k x h; simp at h
  | cons y t ih =>
    intro k x h
    cases k with
    | zero =>
      simp at h
      subst h
      simp [hf]
    | succ k =>
      simp at h
      have := ih k x h
      rw [List.flatMap_cons, hf, show (k + 1) * 2 = k * 2 + 2 by omega, show k * 2 + 2 + 1 = (k * 2 + 1) + 2 by omega]
      simpa using this
theorem rr_bound (s : BS) (k : Nat) : ∀ p ∈ rr s k, p.1 < 256 ∧ p.2 < 256 := by
  induction k with
  | zero => intro p h; simp [rr] at h
  | succ k ih =>
    intro p h
    simp only [rr] at h
    split at h
    · rename_i hk
      have := bit_lt hk
      split at h
      · rename_i hib
        obtain ⟨q, u, e⟩ := rr_ne hib
        rw [e] at h ih
        simp only [upd, List.mem_cons] at h
        rcases h with rfl | h
        · exact ⟨(ih q (by simp)).1, this⟩
        · exact ih p (by simp [h])
      · simp only [List.mem_cons] at h
        rcases h with rfl | h
        · exact ⟨this, this⟩
        · exact ih p h
    · exact ih p h
theorem own_shape {w : World} {base size n : Nat} {e : TypeId} {v : Value} {xs : List Value} (h : w.ownsRow base e size v n xs) : ∃ a c, v = .slice a n c := by
  rcases Joins.ownsRow_forms h with ⟨rfl, rfl⟩ | ⟨g, cap, rfl⟩
  · exact ⟨_, _, rfl⟩
  · exact ⟨_, _, rfl⟩
theorem belowN {w : World} {q B : Nat} : Below B w (w.drewN q) := by
  constructor <;> first | rfl | (intros; rfl) | (intros; assumption) | exact Nat.le_refl _
abbrev C4 (w : World) (p : Nat) (s : BS) : Prop :=
  w.cell? ⟨p, 0, none⟩ = some (.int .u64 (wd 0 s)) ∧ w.cell? ⟨p, 1, none⟩ = some (.int .u64 (wd 1 s)) ∧ w.cell? ⟨p, 2, none⟩ = some (.int .u64 (wd 2 s)) ∧ w.cell? ⟨p, 3, none⟩ = some (.int .u64 (wd 3 s))
theorem cell_keepB {w w' : World} {a : Addr} {v : Value} (h : w.cell? a = some v) (hb : Below w.heap.size w w') : w'.cell? a = some v := by
  rw [hb.cell (World.block_lt_of_cell? w _ h)]; exact h
abbrev SR (w0 : World) (p : Nat) (s : BS) (w : World) : Prop := Below w0.heap.size w0 w ∧ C4 w p s
theorem SR.keep {w0 w w' : World} {p : Nat} {s : BS} (h : SR w0 p s w) (hb : Below w.heap.size w w') : SR w0 p s w' :=
  ⟨h.1.trans (hb.mono h.1.size), cell_keepB h.2.1 hb, cell_keepB h.2.2.1 hb, cell_keepB h.2.2.2.1 hb, cell_keepB h.2.2.2.2 hb⟩
set_option maxRecDepth 100000 in
set_option maxHeartbeats 2000000 in
theorem law_ranges (s : BS) (w : World) (hT : Tab w) :
    Calls Tryd.prog 7 #[st s] w fun e w' => e = .returned (.bool true) ∧ Below w.heap.size w w' := by
  obtain ⟨w0, hw0⟩ : ∃ w0, w0 = w.alloc (.cells #[.int .u64 (wd 0 s), .int .u64 (wd 1 s), .int .u64 (wd 2 s), .int .u64 (wd 3 s)] 24) := ⟨_, rfl⟩
  have hB0 : Below w.heap.size w w0 := by subst hw0; exact (Below.refl _ _).alloc (Nat.le_refl _) _
  have hS : SR w0 w.heap.size s w0 := by
    subst hw0
    refine ⟨Below.refl _ _, ?_, ?_, ?_, ?_⟩ <;> first | (go_simp; done)
  have HT := Lib.hid (hT.below hB0 hT.1)
  have HB := Lib.hid hB0
  have Hw := Lib.hid hw0
  clear hT hB0 hw0
  unfold st
  go_enter Tryd.func7, Tryd.ntmps7
  go_wp2_with fail
  rw [← Hw.out]
  clear Hw
  go_region_held3 (fun w' => SR w0 w.heap.size s w') (first | exact SR.keep hS ((Below.refl _ _).drew) | exact SR.keep (by assumption) (by assumption))
    (first | (go_at_call 26; ((with_reducible refine (ranges_any s _).mono ?_)); rintro e w' ⟨v1, rfl, hown1, hbN⟩) | (go_at_call 27; ((with_reducible refine (rranges_any s _).mono ?_)); rintro e w' ⟨v2, rfl, hown2, hbN⟩; have hown3 := own_below hown1 hbN))
  have hF : SR w0 w.heap.size s w' := by assumption
  rw [rs_rr] at hown2
  have hbd := rr_bound s 256
  have hln := rr_len s 256
  clear hown1
  generalize rr s 256 = L at hown3 hown2 hbd hln
  obtain ⟨x1, y1, rfl⟩ := own_shape hown3
  obtain ⟨x2, y2, rfl⟩ := own_shape hown2
  have hG := hF.1
  clear hF hbN hS
  go_wp2_with fail
  replace hown3 := Joins.ownsRow_le hown3 (Nat.zero_le _)
  replace hown2 := Joins.ownsRow_le hown2 (Nat.zero_le _)
  go_loopw [5] (fun i wr => ∃ k : Nat, i = .int .i64 (k : Int) ∧ k ≤ L.length ∧ wr.ownsRow 0 43 2 (.slice x1 L.length y1) L.length (flat L) ∧ wr.ownsRow 0 44 2 (.slice x2 L.length y2) L.length (flatI L) ∧ Below w0.heap.size w0 wr) (fun i _ => ((L.length : Int) - intOf i).toNat)
  case atStart => exact ⟨0, rfl, by omega, hown3, hown2, hG⟩
  case round =>
    clear hown3 hown2 hG
    obtain ⟨k, rfl, hk, o1, o2, hG⟩ := hrel
    by_cases hlt : k < L.length
    · obtain ⟨g1, c1, e1⟩ := Joins.ownsRow_form o1 (by omega)
      obtain ⟨g2, c2, e2⟩ := Joins.ownsRow_form o2 (by omega)
      simp only [Value.slice.injEq, true_and] at e1 e2
      obtain ⟨rfl, rfl⟩ := e1
      obtain ⟨rfl, rfl⟩ := e2
      obtain ⟨p, hp⟩ : ∃ p, L.reverse[k]? = some p := ⟨_, List.getElem?_eq_getElem (by simpa using hlt)⟩
      have hpb := hbd p (by have := List.mem_of_getElem? hp; simpa using this)
      obtain ⟨q1, q2⟩ := flatMap2 pv (fun p => .int .u8 (p.1 : Int)) (fun p => .int .u8 (p.2 : Int)) (fun _ => rfl) L.reverse k p hp
      obtain ⟨r1, r2⟩ := flatMap2 pvI (fun p => .int .i64 (p.1 : Int)) (fun p => .int .i64 (p.2 : Int)) (fun _ => rfl) L.reverse k p hp
      have l1 := (o1.cellAt (k * 2) (by omega)).trans q1
      have l2 := (o1.cellAt (k * 2 + 1) (by omega)).trans q2
      have l3 := (o2.cellAt (k * 2) (by omega)).trans r1
      have l4 := (o2.cellAt (k * 2 + 1) (by omega)).trans r2
      obtain ⟨pb1, pb2⟩ := hpb
      clear q1 q2 r1 r2 hp
      go_wp2_with fail
      have e1 : IntKind.i64.wrap (p.1 : Int) = (p.1 : Int) := by simp [IntKind.wrap, IntKind.bits, IntKind.signed]; omega
      have e2 : IntKind.i64.wrap (p.2 : Int) = (p.2 : Int) := by simp [IntKind.wrap, IntKind.bits, IntKind.signed]; omega
      go_quiet (fail)
      go_wp2_with fail
      exact ⟨⟨k + 1, by go_num, by omega, o1, o2, hG.trans belowN⟩, by simp [intOf]; omega⟩
    · go_wp2_with fail
      refine (awake_any _ (HT.out.below hG HT.out.1)).mono ?_
      rintro e w5 ⟨rfl, hb5⟩
      have hGG := HB.out.trans (hG.mono HB.out.size)
      have HF := Lib.hid (hGG.trans (hb5.mono hGG.size))
      clear hb5
      go_wp2_with fail
      go_ret
      exact ⟨rfl, HF.out⟩
end Go.Proofs.YtcdogfaiaddkcaaDoor
