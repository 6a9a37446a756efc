/-
  What the rows need: sets that came in. No condition.
-/
import Derived.Test.YteekccjfokoglaaRows
import Derived.Test.YteekccjfokoglaaAc
import Derived.ProofKit
import Derived.OpenShut
import Derived.ShutString
import Derived.ChangeOld
import Derived.ChangeMaps5
import Derived.Lib.SmallJoins
import Derived.Deep.Slices
import Derived.Deep.Fields
import Derived.ChangeSame
namespace Go.Proofs.Yteekccjfokoglaa
open Go.ChangeShapes Go.WideShapes Go.ChangeAt Go.RowKit Go.Deep
set_option linter.unusedSimpArgs false
set_option linter.unusedVariables false
theorem own : ownKnob Try.prog.godebug = none := by kernel_rfl
theorem laidOut : laidOutB Try.prog = true := by kernel_rfl
theorem cells46 : Try.prog.cellsOf 46 = 2 := by kernel_rfl
theorem cells24 : Try.prog.cellsOf 24 = 2 := by kernel_rfl
theorem cells2 : Try.prog.cellsOf 2 = 1 := by kernel_rfl
theorem cells22 : Try.prog.cellsOf 22 = 1 := by kernel_rfl
theorem types24 : Try.prog.cellTypes Try.prog.depth 24 = some [22, 22] := by kernel_rfl
theorem wf_i64 {x : Int} (h : (Lit.int .i64 x).wf = true) : i64ok x := by
  have : -9223372036854775808 ≤ x ∧ x ≤ 9223372036854775807 := by simpa [Lit.wf, IntKind.min, IntKind.max, IntKind.signed, IntKind.bits] using h
  exact this
theorem add_of_add (a : Addr) (i j : Nat) : (a.add i).add j = a.add (i + j) := by
  obtain ⟨b, o, sp⟩ := a
  simp only [Addr.add]
  by_cases hi : i = 0
  · subst hi; simp
  · by_cases hj : j = 0
    · subst hj; simp [hi]
    · simp [hi, hj, Nat.add_assoc]
set_option maxRecDepth 100000 in
/-- a span's two cells -/
theorem span_cells {H : Type} {enc : TypeId × Value → H} {W : World} {base : Nat} {sp : Nat → Bool} {n : Nat} {cs : List Value} {x : DataW H × List MemPlace}
    (h : DataW.trod enc Try.prog W base sp true n 46 cs = some x) : ∃ (f t : Int), cs = [.int .i64 f, .int .i64 t] ∧ i64ok f ∧ i64ok t := by
  obtain ⟨xs, m, _, _, hl, hxl, hf⟩ := DataW.trod_struct Try.underlying46 h
  rw [cells46] at hl
  match cs, hl with
  | [u, v], _ =>
    match xs, hxl with
    | [y0, y1], _ =>
      have h0 := hf 0 _ rfl
      have h1 := hf 1 _ rfl
      obtain ⟨f, e0, _, w0⟩ := DataW.trod_int Try.underlying2 (cs := [u]) (x := y0) h0
      obtain ⟨t, e1, _, w1⟩ := DataW.trod_int Try.underlying2 (cs := [v]) (x := y1) h1
      injection e0 with e0
      injection e1 with e1
      subst e0 e1
      exact ⟨f, t, rfl, wf_i64 w0, wf_i64 w1⟩
set_option maxRecDepth 100000 in
/-- A SLICE OF SPANS THAT CAME IN -/
theorem open_spans {H : Type} {enc : TypeId × Value → H} {W : World} {base : Nat} {m : Nat} {v : Value} {x : DataW H × List MemPlace}
    (hv : Cell.okWide Try.prog W .any base 22 v) (hf : DataW.trod enc Try.prog W 0 (fun _ => true) true m 22 [v] = some x) :
    ∃ (A : Option Addr) (c : Nat) (xs : List Sp), v = .slice A xs.length c ∧ Re W W.heap.size A xs ∧ Plain A c ∧ ∀ y ∈ xs, i64ok y.1 ∧ i64ok y.2 := by
  rcases open_slice Try.underlying22 hf with ⟨h0, _⟩ | ⟨a, len, cap, m', n, D, Pl, hcs, hb, hl, hm, hmm, hx, hi⟩
  · injection h0 with h0
    subst h0
    exact ⟨none, 0, [], rfl, re_nil _ _ _, .inl ⟨rfl, rfl⟩, by simp⟩
  · injection hcs with hcs
    subst hcs
    have hmm' : m' = cap := by simpa using hmm
    subst hmm'
    have hsp : a.spot = none := by
      simp only [Cell.okWide, Cell.ok, Try.underlying22] at hv
      exact hv.2.2.2.1
    obtain ⟨b, o, sp⟩ := a
    simp only at hsp
    subst hsp
    have hall : ∀ i : Nat, ∃ y : Sp, i < len → (W.cell? ((⟨b, o, none⟩ : Addr).add (i * 2)) = some (.int .i64 y.1) ∧ W.cell? ((⟨b, o, none⟩ : Addr).add (i * 2 + 1)) = some (.int .i64 y.2)) ∧ i64ok y.1 ∧ i64ok y.2 := by
      intro i
      by_cases hlt : i < len
      · obtain ⟨cs', hc, ht⟩ := hi i (by omega)
        obtain ⟨f, t, rfl, w0, w1⟩ := span_cells ht
        rw [cells46] at hc
        obtain ⟨_, _, hat⟩ := World.cells?_some hc
        have a0 := hat 0 (by omega)
        have a1 := hat 1 (by omega)
        rw [add_of_add] at a0 a1
        exact ⟨(f, t), fun _ => ⟨⟨a0, a1⟩, w0, w1⟩⟩
      · exact ⟨(0, 0), fun h => absurd h hlt⟩
    obtain ⟨F, hch⟩ := Classical.axiomOfChoice hall
    refine ⟨some ⟨b, o, none⟩, m', (List.range len).map F, by simp, ⟨fun k hk => ?_⟩, .inr ⟨b, o, rfl⟩, fun y hy => ?_⟩
    · have hkl : k < len := by simpa using hk
      have hc := (hch k hkl).1
      rw [Go.WideShapes.add_plain, Go.WideShapes.add_plain] at hc
      refine ⟨b, o, rfl, ?_, by simpa using hc.1, by simpa [Nat.add_assoc] using hc.2⟩
      simpa using World.block_lt_of_cell? W _ hc.1
    · obtain ⟨k, hk, rfl⟩ := List.mem_map.1 hy
      exact (hch k (by simpa using hk)).2
theorem list2 {α : Type} (l : List α) (h : l.length = 2) : ∃ a b, l = [a, b] := by
  match l, h with
  | [a, b], _ => exact ⟨a, b, rfl⟩
set_option maxRecDepth 100000 in
/-- A SET THAT CAME IN -/
theorem open_nums {H : Type} {enc : TypeId × Value → H} {W : World} {base : Nat} {v : Value} {d : DataW H} {p : List MemPlace}
    (hv : Value.okWide Try.prog W .any base 24 v) (h : DataW.Trod enc Try.prog W 0 (fun _ => true) true 24 v d p) :
    ∃ (A1 : Option Addr) (c1 : Nat) (A2 : Option Addr) (c2 : Nat) (s : NS), v = nv A1 s.1.length c1 A2 s.2.length c2 ∧ Ns W A1 c1 A2 c2 s ∧ (∀ x ∈ s.1, i64ok x.1 ∧ i64ok x.2) ∧ (∀ x ∈ s.2, i64ok x.1 ∧ i64ok x.2) := by
  obtain ⟨cs, rfl, hsz, hrow⟩ : ∃ cs, v = .agg cs ∧ cs.size = Try.prog.cellsOf 24 ∧ Row.okWide Try.prog W .any base 24 cs := by
    simpa [Value.okWide, Try.underlying24] using hv
  rw [cells24] at hsz
  obtain ⟨l⟩ := cs
  obtain ⟨u, v, rfl⟩ := list2 l (by simpa using hsz)
  obtain ⟨ts, hts, _, hcell⟩ := hrow
  rw [types24] at hts
  injection hts with hts
  subst hts
  obtain ⟨t0, e0, k0⟩ := hcell 0 u rfl
  obtain ⟨t1, e1, k1⟩ := hcell 1 v rfl
  injection e0 with e0
  injection e1 with e1
  subst e0 e1
  obtain ⟨fuel, hf⟩ := h
  obtain ⟨xs, m, _, _, hl, hxl, hf'⟩ := DataW.trod_struct Try.underlying24 hf
  match xs, hxl with
  | [y0, y1], _ =>
    have h0 := hf' 0 _ rfl
    have h1 := hf' 1 _ rfl
    obtain ⟨A1, c1, l1, r1, q1, p1, b1⟩ := open_spans (x := y0) k0 h0
    obtain ⟨A2, c2, l2, r2, q2, p2, b2⟩ := open_spans (x := y1) k1 h1
    subst r1 r2
    exact ⟨A1, c1, A2, c2, (l1, l2), rfl, ⟨q1, q2, p1, p2⟩, b1, b2⟩
end Go.Proofs.Yteekccjfokoglaa
