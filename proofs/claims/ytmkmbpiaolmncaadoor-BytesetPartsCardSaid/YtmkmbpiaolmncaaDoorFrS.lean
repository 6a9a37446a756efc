/-
  What the rows over lists of sets need: a list that came in. No condition.
-/
import Derived.Test.YtmkmbpiaolmncaaDoorFrame
import Derived.Test.YtmkmbpiaolmncaaDoorPa
import Derived.Deep.Slices
import Derived.Deep.Fields
import Derived.ChangeMaps5
import Derived.SliceStrings
namespace Go.Proofs.YtmkmbpiaolmncaaDoor
open Go.ChangeShapes Go.WideShapes Go.ChangeAt Go.RowKit Go.Deep
set_option linter.unusedSimpArgs false
set_option linter.unnecessarySimpa false
set_option linter.unusedVariables false
theorem add_of_add (a : Addr) (i j : Nat) : (a.add i).add j = a.add (i + j) := by
  obtain ⟨b, o, sp⟩ := a
  simp only [Addr.add]
  by_cases hi : i = 0
  · subst hi; simp
  · by_cases hj : j = 0
    · subst hj; simp [hi]
    · simp [hi, hj, Nat.add_assoc]
set_option maxRecDepth 100000 in
theorem set_cells {H : Type} {enc : TypeId × Value → H} {W : World} {base : Nat} {sp : Nat → Bool} {n : Nat} {cs : List Value} {x : DataW H × List MemPlace}
    (hl : cs.length = 4) (h : DataW.trod enc Tryd.prog W base sp true n 24 cs = some x) : ∃ s : BS, cs = b4 s := by
  obtain ⟨c0, c1, c2, c3, rfl⟩ := list4 cs hl
  obtain ⟨y0, y1, y2, y3, m, hx, hy0, hy1, hy2, hy3⟩ := trod_array4 Tryd.underlying24 cells22 h
  obtain ⟨x0, e0, rfl, w0⟩ := DataW.trod_int Tryd.underlying22 hy0
  obtain ⟨x1, e1, rfl, w1⟩ := DataW.trod_int Tryd.underlying22 hy1
  obtain ⟨x2, e2, rfl, w2⟩ := DataW.trod_int Tryd.underlying22 hy2
  obtain ⟨x3, e3, rfl, w3⟩ := DataW.trod_int Tryd.underlying22 hy3
  simp at e0 e1 e2 e3
  subst e0 e1 e2 e3
  have b0 := wf_u64 w0
  have b1 := wf_u64 w1
  have b2 := wf_u64 w2
  have b3 := wf_u64 w3
  obtain ⟨g0, g1, g2, g3⟩ := mk4_wd b0.1 b0.2 b1.1 b1.2 b2.1 b2.2 b3.1 b3.2
  exact ⟨mk4 x0 x1 x2 x3, by unfold b4; rw [g0, g1, g2, g3]⟩
set_option maxRecDepth 100000 in
/-- A LIST OF SETS THAT CAME IN -/
theorem open_sets {H : Type} {enc : TypeId × Value → H} {W : World} {base : Nat} {v : Value} {d : DataW H} {p : List MemPlace}
    (hv : Value.okWide Tryd.prog W .any base 45 v) (h : DataW.Trod enc Tryd.prog W 0 (fun _ => true) true 45 v d p) : ∃ l : List BS, Sets W v l := by
  obtain ⟨A0, l0, k0, rfl⟩ := okWide_slice Tryd.underlying45 hv
  obtain ⟨fuel, hf⟩ := h
  rcases open_slice Tryd.underlying45 hf with ⟨h0, _⟩ | ⟨a, len, cap, m, n, D, Pl, hcs, hb, hl, hm, hmm, hx, hi⟩
  · have e : (Value.slice A0 l0 k0) = .slice none 0 0 := by simpa [Value.cells] using h0
    injection e with e1 e2 e3
    subst e1 e2 e3
    exact ⟨[], .inl ⟨rfl, none, 0, rfl⟩⟩
  · have e : (Value.slice A0 l0 k0) = .slice (some a) len cap := by simpa [Value.cells] using hcs
    injection e with e1 e2 e3
    subst e1 e2 e3
    have hmm' : m = k0 := by simpa using hmm
    subst hmm'
    by_cases h0 : l0 = 0
    · subst h0
      exact ⟨[], .inl ⟨rfl, some a, m, rfl⟩⟩
    have hall : ∀ i : Nat, ∃ x : BS, i < l0 → ∀ c, c < 4 → W.cell? (a.add (i * 4 + c)) = some (.int .u64 (wd c x)) := by
      intro i
      by_cases hlt : i < l0
      · obtain ⟨cs', hc, ht⟩ := hi i (by omega)
        rw [cells24] at hc
        obtain ⟨_, hlen, hat⟩ := World.cells?_some hc
        obtain ⟨s, rfl⟩ := set_cells (by simpa using hlen) ht
        refine ⟨s, fun _ c hc4 => ?_⟩
        have a0 := hat c (by omega)
        rw [add_of_add] at a0
        rw [a0]
        rcases (show c = 0 ∨ c = 1 ∨ c = 2 ∨ c = 3 by omega) with rfl | rfl | rfl | rfl <;> rfl
      · exact ⟨0#256, fun h => absurd h hlt⟩
    obtain ⟨F, hch⟩ := Classical.axiomOfChoice hall
    obtain ⟨b, o, spot⟩ := a
    have hc0 := hch 0 (by omega) 0 (by omega)
    have hspot : spot = none := by simpa [Addr.add] using World.cell?_spot hc0
    subst hspot
    refine ⟨(List.range l0).map F, .inr ⟨b, o, m, by simp, by simpa [Addr.add] using World.block_lt_of_cell? W _ hc0, fun i x hx => ?_⟩⟩
    have hil : i < l0 := by have := (List.getElem?_eq_some_iff.1 hx).1; simpa using this
    have hxe : x = F i := by
      rw [List.getElem?_map, List.getElem?_range hil] at hx
      simpa using hx.symm
    subst hxe
    have hc := hch i hil
    have k0 := hc 0 (by omega)
    have k1 := hc 1 (by omega)
    have k2 := hc 2 (by omega)
    have k3 := hc 3 (by omega)
    rw [Go.WideShapes.add_plain] at k0 k1 k2 k3
    rw [← Nat.add_assoc] at k0 k1 k2 k3
    rw [Nat.add_zero] at k0
    exact ⟨k0, k1, k2, k3⟩
end Go.Proofs.YtmkmbpiaolmncaaDoor
