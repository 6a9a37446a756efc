/-
  What the rows need: slices of edits that came in. No condition.
-/
import Derived.Test.YtlanjfjmffcgdaaRows
import Derived.Test.YtlanjfjmffcgdaaY
import Derived.ProofKit
import Derived.OpenShut
import Derived.ShutString
import Derived.ChangeOld
import Derived.ChangeMaps5
import Derived.Lib.SmallJoins
import Derived.Deep.Slices
import Derived.Deep.Fields
import Derived.ChangeSame
namespace Go.Proofs.Ytlanjfjmffcgdaa
open Go.ChangeShapes Go.WideShapes Go.ChangeAt Go.RowKit Go.Deep
set_option linter.unusedSimpArgs false
set_option linter.unusedVariables false
theorem own : ownKnob Try.prog.godebug = none := by kernel_rfl
theorem laidOut : laidOutB Try.prog = true := by kernel_rfl
theorem cells35 : Try.prog.cellsOf 35 = 3 := by kernel_rfl
theorem cells9 : Try.prog.cellsOf 9 = 1 := by kernel_rfl
theorem cells3 : Try.prog.cellsOf 3 = 1 := by kernel_rfl
set_option maxRecDepth 100000 in
/-- an edit's three cells -/
theorem edit_cells {H : Type} {enc : TypeId × Value → H} {W : World} {base : Nat} {sp : Nat → Bool} {n : Nat} {cs : List Value} {x : DataW H × List MemPlace}
    (h : DataW.trod enc Try.prog W base sp true n 35 cs = some x) : ∃ (f t : Int) (s : ByteArray), cs = [.int .i64 f, .int .i64 t, .string s] := by
  obtain ⟨xs, m, _, _, hl, hxl, hf⟩ := DataW.trod_struct Try.underlying35 h
  rw [cells35] at hl
  match cs, hl with
  | [u, v, z], _ =>
    match xs, hxl with
    | [y0, y1, y2], _ =>
      have h0 := hf 0 _ rfl
      have h1 := hf 1 _ rfl
      have h2 := hf 2 _ rfl
      obtain ⟨f, e0, _, _⟩ := DataW.trod_int Try.underlying3 (cs := [u]) (x := y0) h0
      obtain ⟨t, e1, _, _⟩ := DataW.trod_int Try.underlying3 (cs := [v]) (x := y1) h1
      obtain ⟨s, e2, _, _⟩ := DataW.trod_string Try.underlying9 (cs := [z]) (x := y2) h2
      injection e0 with e0
      injection e1 with e1
      injection e2 with e2
      subst e0 e1 e2
      exact ⟨f, t, s, rfl⟩
/-- A SLICE OF EDITS THAT CAME IN -/
theorem open_edits {H : Type} {enc : TypeId × Value → H} {W : World} {base : Nat} {v : Value} {d : DataW H} {p : List MemPlace}
    (hv : Value.okWide Try.prog W .any base 22 v) (h : DataW.Trod enc Try.prog W 0 (fun _ => true) true 22 v d p) :
    ∃ (A : Option Addr) (c : Nat) (xs : List Ed), v = .slice A xs.length c ∧ xs.length ≤ c ∧ c ≤ maxLen ∧ Re W W.heap.size A xs := by
  obtain ⟨A0, l0, k0, rfl⟩ := okWide_slice Try.underlying22 hv
  obtain ⟨fuel, hf⟩ := h
  rcases open_slice Try.underlying22 hf with ⟨h0, _⟩ | ⟨a, len, cap, m, n, D, Pl, hcs, hb, hl, hm, hmm, hx, hi⟩
  · have e : (Value.slice A0 l0 k0) = .slice none 0 0 := by simpa [Value.cells] using h0
    injection e with e1 e2 e3
    subst e1 e2 e3
    exact ⟨none, 0, [], rfl, Nat.le_refl _, Nat.zero_le _, re_nil _ _ _⟩
  · have e : (Value.slice A0 l0 k0) = .slice (some a) len cap := by simpa [Value.cells] using hcs
    injection e with e1 e2 e3
    subst e1 e2 e3
    have hmm' : m = k0 := by simpa using hmm
    subst hmm'
    have hall : ∀ i : Nat, ∃ x : Ed, i < l0 → W.cell? (a.add (i * 3)) = some (.int .i64 x.1) ∧ W.cell? (a.add (i * 3 + 1)) = some (.int .i64 x.2.1) ∧ W.cell? (a.add (i * 3 + 2)) = some (.string x.2.2) := by
      intro i
      by_cases hlt : i < l0
      · obtain ⟨cs', hc, ht⟩ := hi i (by omega)
        obtain ⟨f, t, s, rfl⟩ := edit_cells ht
        rw [cells35] at hc
        obtain ⟨_, _, hat⟩ := World.cells?_some hc
        have a0 := hat 0 (by omega)
        have a1 := hat 1 (by omega)
        have a2 := hat 2 (by omega)
        rw [add_of_add] at a0 a1 a2
        exact ⟨(f, t, s), fun _ => ⟨a0, a1, a2⟩⟩
      · exact ⟨(0, 0, ⟨#[]⟩), fun h => absurd h hlt⟩
    obtain ⟨F, hch⟩ := Classical.axiomOfChoice hall
    refine ⟨some a, m, (List.range l0).map F, by simp, by simpa using hl, hm, ⟨fun k hk => ?_⟩⟩
    have hkl : k < l0 := by simpa using hk
    have hc := hch k hkl
    refine ⟨a, rfl, ?_, by simpa using hc.1, ?_, ?_⟩
    · have := World.block_lt_of_cell? W _ hc.1
      rw [block_of_add] at this; exact this
    · have h1 := hc.2.1
      rw [← add_of_add] at h1
      have e : (a.add (k * 3)).add 1 = ⟨(a.add (k * 3)).block, (a.add (k * 3)).off + 1, none⟩ := by simp [Addr.add]
      rw [e] at h1
      simpa using h1
    · have h1 := hc.2.2
      rw [← add_of_add] at h1
      have e : (a.add (k * 3)).add 2 = ⟨(a.add (k * 3)).block, (a.add (k * 3)).off + 2, none⟩ := by simp [Addr.add]
      rw [e] at h1
      simpa using h1
end Go.Proofs.Ytlanjfjmffcgdaa
