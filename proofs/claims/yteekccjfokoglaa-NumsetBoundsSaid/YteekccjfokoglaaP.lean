/-
  And, Minus, All, Ints, empty and Subset. No condition but the bounds on the lists.
-/
import Derived.Test.YteekccjfokoglaaO
namespace Go.Proofs.Yteekccjfokoglaa
open Go.RowKit Go.Sort Go.Lib Go.Proofs
set_option linter.unusedSimpArgs false
set_option linter.unnecessarySimpa false
set_option linter.unusedVariables false
theorem okN_can {k : Nat} {s : NS} (h : CanS s) (h1 : s.1.length ≤ k) (h2 : s.2.length ≤ k) : okN k s :=
  ⟨h1, h2, fun x hx => by have := ok_bd (h.1.1 x hx); unfold i64ok; omega, fun x hx => by have := ok_bd (h.2.1 x hx); unfold i64ok; omega⟩
theorem okN.le {k k' : Nat} {s : NS} (h : okN k s) (hk : k ≤ k') : okN k' s := ⟨Nat.le_trans h.1 hk, Nat.le_trans h.2.1 hk, h.2.2⟩
theorem mk_ok {k : Nat} {s : NS} (h : okN k s) : okN k (mk s) := okN_can (can_mk s) (Nat.le_trans (nrm_len _ _) h.1) (Nat.le_trans (nrm_len _ _) h.2.1)
theorem nt_ok {k : Nat} {s : NS} (h : okN k s) : okN (k + 1) (nt s) := okN_can (can_nt s) (Nat.le_trans (cpl_len _ _) (Nat.succ_le_succ h.1)) (Nat.le_trans (cpl_len _ _) (Nat.succ_le_succ h.2.1))
theorem app_ok {k k' : Nat} {s t : NS} (h : okN k s) (h' : okN k' t) : okN (k + k') (s.1 ++ t.1, s.2 ++ t.2) :=
  ⟨by have := h.1; have := h'.1; simp; omega, by have := h.2.1; have := h'.2.1; simp; omega, fun x hx => by
    rcases List.mem_append.1 hx with hx | hx
    · exact h.2.2.1 x hx
    · exact h'.2.2.1 x hx, fun x hx => by
    rcases List.mem_append.1 hx with hx | hx
    · exact h.2.2.2 x hx
    · exact h'.2.2.2 x hx⟩
theorem or_ok {k k' : Nat} {s t : NS} (h : okN k s) (h' : okN k' t) : okN (k + k') (orr s t) := mk_ok (app_ok h h')
theorem and_ok {k k' : Nat} {s t : NS} (h : okN k s) (h' : okN k' t) : okN (k + k' + 3) (andd s t) := (nt_ok (or_ok (nt_ok h) (nt_ok h'))).le (by omega)
theorem minus_ok {k k' : Nat} {s t : NS} (h : okN k s) (h' : okN k' t) : okN (k + k' + 2) (minus s t) := (nt_ok (or_ok (nt_ok h) h')).le (by omega)
/-- a set in a box -/
structure Sb (r : Nat) (A1 : Option Addr) (n1 c1 : Nat) (A2 : Option Addr) (n2 c2 : Nat) (N : Nat) (w : World) : Prop where
  c0 : w.cell? ⟨r, 0, none⟩ = some (.slice A1 n1 c1)
  c1 : w.cell? ⟨r, 1, none⟩ = some (.slice A2 n2 c2)
  lt : r < N
theorem Sb.up {r : Nat} {A1 : Option Addr} {n1 c1 : Nat} {A2 : Option Addr} {n2 c2 N : Nat} {w w' : World} (h : Sb r A1 n1 c1 A2 n2 c2 N w) (hb : Below N w w') : Sb r A1 n1 c1 A2 n2 c2 N w' :=
  ⟨by rw [hb.cell (p := ⟨r, 0, none⟩) h.lt]; exact h.c0, by rw [hb.cell (p := ⟨r, 1, none⟩) h.lt]; exact h.c1, h.lt⟩
theorem keepF {N : Nat} {w1 w' w2 : World} {a b c d : Addr} {u v x y : Value} (ha : a.block < N) (hb : b.block < N) (hc : c.block < N) (hd : d.block < N) (h : w'.cell? a = some u ∧ w'.cell? b = some v ∧ w'.cell? c = some x ∧ w'.cell? d = some y ∧ Below N w1 w') (h2 : Below N w' w2) :
    w2.cell? a = some u ∧ w2.cell? b = some v ∧ w2.cell? c = some x ∧ w2.cell? d = some y ∧ Below N w1 w2 :=
  ⟨by rw [h2.cell ha]; exact h.1, by rw [h2.cell hb]; exact h.2.1, by rw [h2.cell hc]; exact h.2.2.1, by rw [h2.cell hd]; exact h.2.2.2.1, h.2.2.2.2.trans h2⟩
end Go.Proofs.Yteekccjfokoglaa
