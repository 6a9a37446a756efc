/-
  Release of the specification: rows of sources, parts of them, and append to them. No condition.
-/
import Derived.Test.YthlcdimofagmfaaGreatDoorRe
import Derived.Test.YthlcdimofagmfaaGreatDoorRX
namespace Go.Proofs.YthlcdimofagmfaaGreatDoor
open Go.RowKit Go.Sort Go.Lib Go.Shelf Go.Proofs
set_option linter.unusedSimpArgs false
set_option linter.unnecessarySimpa false
set_option linter.unusedVariables false
theorem own_emptyS (w : World) (g : Nat) (hg : g = w.heap.size) : (w.alloc (.cells #[] 56)).ownsRow g 56 2 (.slice (some ⟨g, 0, none⟩) 0 0) 0 [] :=
  ⟨rfl, .inr ⟨g, 0, _, rfl, Nat.le_refl _, by rw [hg]; exact heap_alloc_new w _, Nat.le_refl _, by unfold maxLen; omega, rfl, rfl⟩⟩
theorem own_litS (w : World) (base g : Nat) (x : Src) (hg : g = w.heap.size) (hb : base ≤ g) : (w.alloc (.cells #[.string x.1, .string x.2] 56)).ownsRow base 56 2 (.slice (some ⟨g, 0, none⟩) 1 1) 1 (sc x) :=
  ⟨rfl, .inr ⟨g, 1, _, rfl, hb, by rw [hg]; exact heap_alloc_new w _, Nat.le_refl _, by unfold maxLen; omega, rfl, rfl⟩⟩
theorem rn_one (w : World) (x : Src) : RN (w.alloc (.cells #[.string x.1, .string x.2] 56)) (w.alloc (.cells #[.string x.1, .string x.2] 56)).heap.size (some ⟨w.heap.size, 0, none⟩) [x] :=
  ⟨fun i hi => ⟨w.heap.size, 0, rfl, by simp, fun c v hv => by
    obtain rfl : i = 0 := by simpa using hi
    match c, hv with
    | 0, hv => simp [sc] at hv ⊢; exact hv
    | 1, hv => simp [sc] at hv ⊢; exact hv
    | c + 2, hv => simp [sc] at hv⟩⟩
theorem RN.take {w : World} {B : Nat} {A : Option Addr} {l : List Src} (h : RN w B A l) (n : Nat) : RN w B A (l.take n) :=
  ⟨fun i hi => by
    have hi' : i < l.length := by simp at hi; omega
    obtain ⟨b, o, e, hl, c⟩ := h.at_ i hi'
    exact ⟨b, o, e, hl, by rw [List.getElem_take]; exact c⟩⟩
theorem RN.drop {w : World} {B b o : Nat} {l : List Src} (h : RN w B (some ⟨b, o, none⟩) l) (n : Nat) : RN w B (some ⟨b, o + n * 2, none⟩) (l.drop n) :=
  ⟨fun i hi => by
    have hi' : n + i < l.length := by simp at hi; omega
    obtain ⟨b', o', e, hl, c⟩ := h.at_ (n + i) hi'
    simp only [Option.some.injEq, Addr.mk.injEq] at e
    obtain ⟨rfl, rfl, _⟩ := e
    refine ⟨b, o + n * 2, rfl, hl, fun c' u hu => ?_⟩
    rw [List.getElem_drop] at hu
    have := c c' u hu
    rwa [show o + (n + i) * 2 = o + n * 2 + i * 2 by omega] at this⟩
/-- append of a slice that reads as a list of sources, a nil one too, to a row of the call's own -/
theorem wpList_append_rn {w : World} {ops : Array Oper} {rest : List Oper} {o : Oper} {a : Act} {Q : Exit → Act → World → Prop} (hgd : o.guard = none) (s x : Operand)
    (ho : o.op = .call { callee := .builtin .append, args := #[s, x], argTypes := #[38, 38] })
    (base N : Nat) (v : Value) (n : Nat) (xs : List Value) (hs : a.eval s = v) (hown : w.ownsRow base 56 2 v n xs)
    (A : Option Addr) (c : Nat) (l : List Src) (hx : a.eval x = .slice A l.length c) (hR : RN w N A l) (hf : Plain A c)
    (hn : n + l.length ≤ 1000000) (hbase : base ≤ w.heap.size)
    (h : ∀ v' w', w'.ownsRow base 56 2 v' (n + l.length) (xs ++ flatS l) → w.grownBy w' v.ownBlock → wpList Tryz.prog ops Q rest (a.put o.dst v') w') : wpList Tryz.prog ops Q (o :: rest) a w := by
  obtain ⟨i0, hi, hz0, hz1, hz2⟩ := info_parts info56
  rcases hf with ⟨rfl, rfl⟩ | ⟨b, oo, rfl⟩
  · obtain rfl := rn_none hR
    refine wpList_append_own_none hgd s x 38 ho base 56 i0 2 Tryz.underlying38 hi v n xs hs hown hx ?_
    refine h v w (by simpa [flatS_nil] using hown) ?_
    exact ⟨rfl, rfl, rfl, Nat.le_refl _, fun _ _ _ => rfl⟩
  · refine wpList_append_own w hgd s x 38 ho base 56 i0 (.agg #[.string ⟨#[]⟩, .string ⟨#[]⟩]) 2 32 Tryz.underlying38 hi hz0 hz1 hz2 rfl (by decide) v n xs hs hown ⟨b, oo, none⟩ l.length c (flatS l) hx (flatS_len l) ?_ (flatS_one l) (by unfold maxLen; omega) (by omega) hbase (fun v' w' h1 h2 _ => h v' w' h1 h2)
    intro j u hj
    have hadd : (⟨b, oo, none⟩ : Addr).add j = ⟨b, oo + j, none⟩ := by unfold Addr.add; split <;> simp_all
    rw [hadd]
    exact rn_cells hR j u hj
end Go.Proofs.YthlcdimofagmfaaGreatDoor
