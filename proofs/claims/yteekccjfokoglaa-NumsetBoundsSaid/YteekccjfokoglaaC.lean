/-
  How a slice of spans reads as a list; a block of the call's own by its cells; IndexFunc at the spans without numbers. No condition but that the ends are 64-bit integers.
-/
import Derived.Test.YteekccjfokoglaaB
import Derived.Lib.SliceRun
import Derived.Deep.LoopGhost
import Derived.Laws.IdiomCopy
namespace Go.Proofs.Yteekccjfokoglaa
open Go.RowKit Go.Sort Go.Lib
set_option linter.unusedSimpArgs false
set_option linter.unnecessarySimpa false
set_option linter.unusedVariables false
/-- the slice at A reads as the list l, in blocks below B -/
structure Re (w : World) (B : Nat) (A : Option Addr) (l : List Sp) : Prop where
  at_ : ∀ i (h : i < l.length), ∃ b o, A = some ⟨b, o, none⟩ ∧ b < B ∧ w.cell? ⟨b, o + i * 2, none⟩ = some (.int .i64 l[i].1) ∧ w.cell? ⟨b, o + i * 2 + 1, none⟩ = some (.int .i64 l[i].2)
theorem Re.below {w w' : World} {B : Nat} {A : Option Addr} {l : List Sp} (h : Re w B A l) (hb : Below B w w') : Re w' B A l :=
  ⟨fun i hi => by
    obtain ⟨b, o, e, hl, c0, c1⟩ := h.at_ i hi
    exact ⟨b, o, e, hl, by rw [hb.cell hl]; exact c0, by rw [hb.cell hl]; exact c1⟩⟩
theorem Re.up {w w' : World} {A : Option Addr} {l : List Sp} (h : Re w w.heap.size A l) (hb : Below w.heap.size w w') : Re w' w'.heap.size A l :=
  ⟨fun i hi => by
    obtain ⟨b, o, e, hl, c⟩ := (h.below hb).at_ i hi
    exact ⟨b, o, e, Nat.lt_of_lt_of_le hl hb.size, c⟩⟩
theorem Re.le {w : World} {B B' : Nat} {A : Option Addr} {l : List Sp} (h : Re w B A l) (hb : B ≤ B') : Re w B' A l :=
  ⟨fun i hi => by
    obtain ⟨b, o, e, hl, c⟩ := h.at_ i hi
    exact ⟨b, o, e, Nat.lt_of_lt_of_le hl hb, c⟩⟩
theorem re_nil (w : World) (B : Nat) (A : Option Addr) : Re w B A [] := ⟨fun i hi => by simp at hi⟩
def okL (l : List Sp) : Prop := l.length ≤ 1000000 ∧ ∀ s ∈ l, i64ok s.1 ∧ i64ok s.2
theorem bcell {W w1 : World} (hb : Below W.heap.size W w1) : (∀ b o, b < W.heap.size → w1.cell? ⟨b, o, none⟩ = W.cell? ⟨b, o, none⟩) ∧ (∀ b o, b < W.heap.size → w1.frozen? ⟨b, o, none⟩ = W.frozen? ⟨b, o, none⟩) :=
  ⟨fun b o h => hb.cell (p := ⟨b, o, none⟩) h, fun b o h => hb.frozen (p := ⟨b, o, none⟩) h⟩
def IxIs (b : Bool) (l : List Sp) (w : World) (e : Ending) (w' : World) : Prop :=
  ∃ k, k ≤ l.length ∧ (∀ j (h : j < l.length), j < k → wo b l[j] = false) ∧ ((k = l.length ∧ e = .returned (.int .i64 (-1))) ∨ (∃ h : k < l.length, wo b l[k] = true ∧ e = .returned (.int .i64 k))) ∧ Below w.heap.size w w'
set_option maxHeartbeats 1000000 in
theorem index_any (b : Bool) (A : Option Addr) (cap : Nat) (l : List Sp) (w : World) (hR : Re w w.heap.size A l) (hl : okL l) :
    Calls Try.prog 89 #[.slice A l.length cap, .func (.func 74) #[axv b] #[]] w (IxIs b l w) := by
  have HR := Lib.hid hR
  have HL := Lib.hid hl
  have hlen := hl.1
  clear hR hl
  go_enter Try.func89, Try.ntmps89
  go_wp2
  go_loopw [5, 8] (fun _ i wr => ∃ k : Nat, i = .int .i64 (k : Int) ∧ k ≤ l.length ∧ Hid (∀ j (h : j < l.length), j < k → wo b l[j] = false) ∧ Hid (Below w.heap.size w wr)) (fun _ i _ => (l.length - intOf i).toNat)
  case atStart => exact ⟨0, rfl, by omega, Lib.hid fun j _ h => absurd h (Nat.not_lt_zero _), Lib.hid (Below.refl _ _)⟩
  case round =>
    obtain ⟨k, rfl, hk, HN, HB⟩ := hrel
    by_cases hlt : k < l.length
    · obtain ⟨bb, o, hA, hbl, c0, c1⟩ := HR.out.at_ k hlt
      subst hA
      rw [← HB.out.cell (p := ⟨bb, o + k * 2, none⟩) hbl] at c0
      rw [← HB.out.cell (p := ⟨bb, o + k * 2 + 1, none⟩) hbl] at c1
      have hs := HL.out.2 l[k] (List.getElem_mem hlt)
      have hC := fun W => without_any b l[k].1 l[k].2 W hs.1 hs.2
      obtain ⟨x, hx⟩ : ∃ x, x = l[k] := ⟨_, rfl⟩
      rw [← hx] at c0 c1 hC
      have HX := Lib.hid hx
      have HC := Lib.hid hC
      have hkl : (k : Int) < (l.length : Int) := by omega
      have HE := Lib.hid (show wo b (x.1, x.2) = wo b l[k] by rw [hx])
      clear hC hx hs
      cases hq : wo b (x.1, x.2)
      · rw [hq] at HC HE
        go_wp2_with (go_at_call 74; with_reducible refine (HC.out _).mono ?_; rintro e w1 ⟨rfl, os, rfl⟩)
        go_roundw
        case rel => exact ⟨k + 1, by go_num, by omega, Lib.hid fun j h1 h2 => by
            by_cases h3 : j = k
            · subst h3; exact HE.out.symm
            · exact HN.out j h1 (by omega), Lib.hid (HB.out.trans (below_grow _ _ _ (by have := HB.out.size; simpa using this)))⟩
        case measure => simp [intOf]; omega
      · rw [hq] at HC HE
        go_wp2_with (go_at_call 74; with_reducible refine (HC.out _).mono ?_; rintro e w1 ⟨rfl, os, rfl⟩)
        go_ret
        exact ⟨k, by omega, HN.out, .inr ⟨hlt, HE.out.symm, rfl⟩, HB.out.trans (below_grow _ _ _ (by have := HB.out.size; simpa using this))⟩
    · obtain rfl : k = l.length := by omega
      go_wp2
      go_ret
      exact ⟨_, Nat.le_refl _, HN.out, .inl ⟨rfl, rfl⟩, HB.out⟩
end Go.Proofs.Yteekccjfokoglaa
