/-
  The order of lists of steps is total: mathematics. No condition.
-/
import Derived.Test.YtcdofdkifdebaaaDoorS4
namespace Go.Proofs.YtcdofdkifdebaaaDoor
open Go.RowKit
set_option linter.unusedSimpArgs false
set_option linter.unusedVariables false
/-- a comparison with three answers that orders -/
structure TW {α : Type} (c : α → α → Int) : Prop where
  lo : ∀ x y, -1 ≤ c x y ∧ c x y ≤ 1
  neg : ∀ x y, c y x = - c x y
  tr : ∀ x y z, c x y ≤ 0 → c y z ≤ 0 → c x z ≤ 0 ∧ (c x y < 0 ∨ c y z < 0 → c x z < 0)
theorem TW.lex {α : Type} {c d : α → α → Int} (h : TW c) (k : TW d) : TW (fun x y => orI (c x y) (d x y)) := by
  refine ⟨fun x y => ?_, fun x y => ?_, fun x y z => ?_⟩
  · have := h.lo x y; have := k.lo x y; show -1 ≤ orI _ _ ∧ orI _ _ ≤ 1; unfold orI; split <;> omega
  · have := h.neg x y; have := k.neg x y; show orI _ _ = - orI _ _; unfold orI; split <;> split <;> omega
  · have a1 := h.tr x y z; have a2 := h.tr z y x
    have n1 := h.neg x y; have n2 := h.neg y z; have n3 := h.neg x z
    have b1 := k.tr x y z
    show orI _ _ ≤ 0 → orI _ _ ≤ 0 → orI _ _ ≤ 0 ∧ (orI _ _ < 0 ∨ orI _ _ < 0 → orI _ _ < 0)
    unfold orI
    split <;> split <;> split <;> omega
theorem TW.comap {α β : Type} {c : α → α → Int} (h : TW c) (f : β → α) : TW (fun x y => c (f x) (f y)) :=
  ⟨fun x y => h.lo _ _, fun x y => h.neg _ _, fun x y z => h.tr _ _ _⟩
def lexL {α : Type} (c : α → α → Int) : List α → List α → Int
  | [], [] => 0
  | [], _ :: _ => -1
  | _ :: _, [] => 1
  | x :: xs, y :: ys => orI (c x y) (lexL c xs ys)
theorem lexL_lo {α : Type} {c : α → α → Int} (h : TW c) : ∀ x y, -1 ≤ lexL c x y ∧ lexL c x y ≤ 1
  | [], [] => by simp [lexL]
  | [], _ :: _ => by simp [lexL]
  | _ :: _, [] => by simp [lexL]
  | x :: xs, y :: ys => by
    have := h.lo x y; have := lexL_lo h xs ys
    show -1 ≤ orI _ _ ∧ orI _ _ ≤ 1; unfold orI; split <;> omega
theorem lexL_neg {α : Type} {c : α → α → Int} (h : TW c) : ∀ x y, lexL c y x = - lexL c x y
  | [], [] => by simp [lexL]
  | [], _ :: _ => by simp [lexL]
  | _ :: _, [] => by simp [lexL]
  | x :: xs, y :: ys => by
    have := h.neg x y; have := lexL_neg h xs ys
    show orI _ _ = - orI _ _; unfold orI; split <;> split <;> omega
theorem lexL_tr {α : Type} {c : α → α → Int} (h : TW c) : ∀ x y z, lexL c x y ≤ 0 → lexL c y z ≤ 0 → lexL c x z ≤ 0 ∧ (lexL c x y < 0 ∨ lexL c y z < 0 → lexL c x z < 0)
  | [], [], [] => by simp [lexL]
  | [], [], _ :: _ => by simp [lexL]
  | [], _ :: _, [] => by simp [lexL]
  | [], _ :: _, _ :: _ => by simp [lexL]
  | _ :: _, [], _ => by simp [lexL]
  | _ :: _, _ :: _, [] => by simp [lexL]
  | x :: xs, y :: ys, z :: zs => by
    have a1 := h.tr x y z; have a2 := h.tr z y x
    have n1 := h.neg x y; have n2 := h.neg y z; have n3 := h.neg x z
    have b1 := lexL_tr h xs ys zs
    show orI _ _ ≤ 0 → orI _ _ ≤ 0 → orI _ _ ≤ 0 ∧ (orI _ _ < 0 ∨ orI _ _ < 0 → orI _ _ < 0)
    unfold orI
    split <;> split <;> split <;> omega
theorem TW.list {α : Type} {c : α → α → Int} (h : TW c) : TW (lexL c) := ⟨lexL_lo h, lexL_neg h, lexL_tr h⟩
def cmpU (a b : UInt8) : Int := if a < b then -1 else if b < a then 1 else 0
theorem tw_u : TW cmpU := by
  refine ⟨fun x y => ?_, fun x y => ?_, fun x y z => ?_⟩ <;> unfold cmpU <;> simp only [UInt8.lt_iff_toNat_lt]
  · split <;> (try split) <;> omega
  · split <;> (try split) <;> (try split) <;> (try split) <;> omega
  · (repeat' split) <;> omega
theorem cb_lex : ∀ l m, Lib.compareBytes l m = lexL cmpU l m
  | [], [] => rfl
  | [], _ :: _ => rfl
  | _ :: _, [] => rfl
  | a :: l, b :: m => by
    show (if a < b then -1 else if b < a then 1 else Lib.compareBytes l m) = orI (cmpU a b) (lexL cmpU l m)
    rw [cb_lex l m]
    unfold orI cmpU
    (repeat' split) <;> first | rfl | omega | (exfalso; omega)
theorem tw_i : TW Lib.compareInt := by
  refine ⟨fun x y => ?_, fun x y => ?_, fun x y z => ?_⟩ <;> unfold Lib.compareInt
  · split <;> (try split) <;> omega
  · split <;> (try split) <;> (try split) <;> (try split) <;> omega
  · (repeat' split) <;> omega
def flg (a b : Nat) : Int := if a ≠ 0 ∧ b = 0 then -1 else if a = 0 ∧ b ≠ 0 then 1 else 0
theorem tw_f : TW flg := by
  refine ⟨fun x y => ?_, fun x y => ?_, fun x y z => ?_⟩ <;> unfold flg
  · split <;> (try split) <;> omega
  · split <;> (try split) <;> (try split) <;> (try split) <;> omega
  · (repeat' split) <;> omega
theorem cmpX_eq (x y : St) : cmpX x y = orI (flg x.1.size y.1.size) (orI (lexL cmpU x.1.data.toList y.1.data.toList) (Lib.compareInt x.2 y.2)) := by
  unfold cmpX cmpS flg cmpB
  rw [cb_lex]
  (repeat' split) <;> first | rfl | (unfold orI; rw [if_neg (by omega)]) | (conv => rhs; unfold orI; rw [if_pos rfl])
theorem tw_x : TW cmpX := by
  have := (tw_f.comap (fun x : St => x.1.size)).lex (((tw_u.list).comap (fun x : St => x.1.data.toList)).lex (tw_i.comap (fun x : St => x.2)))
  have e : cmpX = fun x y => orI (flg x.1.size y.1.size) (orI (lexL cmpU x.1.data.toList y.1.data.toList) (Lib.compareInt x.2 y.2)) := by funext x y; exact cmpX_eq x y
  rw [e]; exact this
theorem cmpL_lex : ∀ l m, cmpL l m = lexL cmpX l m
  | [], [] => rfl
  | [], _ :: _ => rfl
  | _ :: _, [] => rfl
  | x :: xs, y :: ys => by show orI _ _ = orI _ _; rw [cmpL_lex xs ys]
theorem tw_l : TW cmpL := by
  have e : cmpL = lexL cmpX := by funext l m; exact cmpL_lex l m
  rw [e]; exact tw_x.list
end Go.Proofs.YtcdofdkifdebaaaDoor
