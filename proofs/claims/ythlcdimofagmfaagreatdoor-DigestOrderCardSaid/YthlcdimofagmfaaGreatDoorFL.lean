/-
  A slice of releases that came in, opened. No condition.
-/
import Derived.Test.YthlcdimofagmfaaGreatDoorFR
import Derived.Test.YthlcdimofagmfaaGreatDoorMNH
namespace Go.Proofs.YthlcdimofagmfaaGreatDoor
open Go.ChangeShapes Go.WideShapes Go.ChangeAt Go.RowKit
set_option linter.unusedSimpArgs false
set_option linter.unusedVariables false
set_option linter.constructorNameAsVariable false
theorem plane_none : Plane none 0 := .inl (.inl ⟨rfl, rfl⟩)
theorem spot_cells {W : World} {a : Addr} {n : Nat} {cs : List Value} (h : W.cells? 0 a n = some cs) (hn : 0 < n) : a.spot = none := by
  obtain ⟨_, hl, hat⟩ := World.cells?_some h
  have h0 := hat 0 hn
  obtain ⟨x, hx⟩ : ∃ x, cs[0]? = some x := ⟨cs[0]'(by omega), List.getElem?_eq_getElem (by omega)⟩
  rw [hx] at h0
  have := spot_none (W := W) (a := a.add 0) h0
  obtain ⟨b, o, s⟩ := a
  have e : (⟨b, o, s⟩ : Addr).add 0 = ⟨b, o, s⟩ := by unfold Addr.add; simp
  rw [e] at this
  simp only [Addr.mk.injEq, true_and] at this
  exact this
set_option maxRecDepth 100000 in
theorem plane_trod {H : Type} {enc : TypeId × Value → H} {W : World} {T E : TypeId} {A0 : Option Addr} {l0 k0 fuel : Nat} {y : DataW H × List MemPlace} (hT : Tryz.prog.underlying T = some (.slice E)) (hE : 0 < Tryz.prog.cellsOf E)
    (hf : DataW.trod enc Tryz.prog W 0 (fun _ => true) true fuel T [.slice A0 l0 k0] = some y) : Plane A0 k0 ∧ l0 ≤ maxLen := by
  rcases Deep.open_slice hT hf with ⟨h0, _⟩ | ⟨a, len, cap, m, n, D, Pl, hcs, hb, hl, hm, hmm, hx, hi⟩
  · have e : (Value.slice A0 l0 k0) = .slice none 0 0 := by simpa using h0
    injection e with e1 e2 e3
    subst e1 e2 e3
    exact ⟨plane_none, by unfold maxLen; omega⟩
  · have e : (Value.slice A0 l0 k0) = .slice (some a) len cap := by simpa using hcs
    injection e with e1 e2 e3
    subst e1 e2 e3
    have hmm' : m = k0 := by simpa using hmm
    subst hmm'
    refine ⟨?_, by omega⟩
    by_cases h0 : m = 0
    · exact .inr ⟨a, rfl, h0⟩
    · obtain ⟨cs', hc, _⟩ := hi 0 (by omega)
      rw [Nat.zero_mul] at hc
      have hs := spot_cells hc hE
      obtain ⟨b, o, s⟩ := a
      have e : (⟨b, o, s⟩ : Addr).add 0 = ⟨b, o, s⟩ := by unfold Addr.add; simp
      rw [e] at hs
      simp only at hs
      subst hs
      exact .inl (.inr ⟨b, o, rfl⟩)
set_option maxRecDepth 100000 in
/-- a release in the memory, by its six cells -/
theorem trod_rls2 {H : Type} {enc : TypeId × Value → H} {W : World} {fuel : Nat} {cl : List Value} {y : DataW H × List MemPlace}
    (hf : DataW.trod enc Tryz.prog W 0 (fun _ => true) true fuel 40 cl = some y) (hsz : cl.length = 6) :
    ∃ (r : Rl) (A A2 : Option Addr) (c c2 : Nat) (t e f : DataW H), cl = [.string r.1.1, .int .i64 r.1.2.1, .int .i64 r.1.2.2.1, .int .i64 r.1.2.2.2, .slice A r.2.1.length c, .slice A2 r.2.2.length c2] ∧ RM W W.heap.size A r.2.1 ∧ Plane A c ∧ RN W W.heap.size A2 r.2.2 ∧ Plane A2 c2 ∧ r.2.2.length ≤ maxLen ∧
      y.1 = .agg [.agg [.agg [.lit (.string r.1.1.data.toList), t], e], f] ∧ (r.2.1 = [] ∨ ∃ elems spare, e = .slice elems spare ∧ ∀ y ∈ r.2.1, ∃ t, DataW.agg [.lit (.string y.1.data.toList), t] ∈ elems) := by
  obtain ⟨y0, y1, n, hy, _, h0, h1⟩ := trod_struct2 Tryz.underlying40 hf
  match cl, hsz with
  | [c0, c1, c2, c3, c4, c5], _ =>
    simp only [cells37, cells38, List.drop_zero, List.drop_succ_cons, List.take_succ_cons, List.take_zero] at h0 h1
    obtain ⟨z0, z1, n', hz, _, k0, k1⟩ := trod_struct2 Tryz.underlying37 h0
    simp only [cells34, cells35, List.drop_zero, List.drop_succ_cons, List.take_succ_cons, List.take_zero] at k0 k1
    obtain ⟨x, t, hx, hyx⟩ := trod_md' k0
    obtain ⟨A, l0, q0, e4⟩ := Joins.slice_form Tryz.underlying35 k1
    obtain ⟨A2, l2, q2, e5⟩ := Joins.slice_form Tryz.underlying38 h1
    simp at e4 e5
    subst e4 e5
    have p1 := plane_trod Tryz.underlying35 (by rw [cells34]; omega) k1
    have p2 := plane_trod Tryz.underlying38 (by rw [cells56]; omega) h1
    obtain ⟨l, rfl, hR, hd⟩ := mods_trod k1
    obtain ⟨S, rfl, hS⟩ := srcs_trod h1
    have hmc : [c0, c1, c2, c3] = mc x := by simpa using hx
    simp only [mc, List.cons.injEq, and_true] at hmc
    obtain ⟨rfl, rfl, rfl, rfl⟩ := hmc
    refine ⟨(x, l, S), A, A2, q0, q2, t, z1.1, y1.1, rfl, hR, p1.1, hS, p2.1, p2.2, ?_, hd⟩
    rw [hy, hz, hyx]
set_option maxRecDepth 100000 in
/-- A SLICE OF RELEASES THAT CAME IN -/
theorem open_rlss {H : Type} {enc : TypeId × Value → H} {W : World} {base : Nat} {v : Value} {d : DataW H} {p : List MemPlace}
    (hv : Value.okWide Tryz.prog W .any base 44 v) (h : DataW.Trod enc Tryz.prog W 0 (fun _ => true) true 44 v d p) :
    ∃ (A : Option Addr) (c : Nat) (rs : List Rl), v = .slice A rs.length c ∧ RR6 W W.heap.size A rs ∧ (∀ r ∈ rs, r.2.2.length ≤ 9223372036854775807) ∧ rs.length ≤ maxLen ∧
      (rs = [] ∨ ∃ elems spare, d = .slice elems spare ∧ ∀ r ∈ rs, ∃ t e f, DataW.agg [.agg [.agg [.lit (.string r.1.1.data.toList), t], e], f] ∈ elems ∧ (r.2.1 = [] ∨ ∃ es sp, e = .slice es sp ∧ ∀ y ∈ r.2.1, ∃ t, DataW.agg [.lit (.string y.1.data.toList), t] ∈ es)) := by
  obtain ⟨A0, l0, k0, rfl⟩ := okWide_slice Tryz.underlying44 hv
  obtain ⟨fuel, hf⟩ := h
  rcases Deep.open_slice Tryz.underlying44 hf with ⟨h0, _⟩ | ⟨a, len, cap, m, n, D, Pl, hcs, hb, hl, hm, hmm, hx, hi⟩
  · have e : (Value.slice A0 l0 k0) = .slice none 0 0 := by simpa [Value.cells] using h0
    injection e with e1 e2 e3
    subst e1 e2 e3
    exact ⟨none, 0, [], rfl, ⟨fun i hi => by simp at hi⟩, by simp, by unfold maxLen; simp, .inl rfl⟩
  · have e : (Value.slice A0 l0 k0) = .slice (some a) len cap := by simpa [Value.cells] using hcs
    injection e with e1 e2 e3
    subst e1 e2 e3
    have hmm' : m = k0 := by simpa using hmm
    subst hmm'
    have hall : ∀ i : Nat, ∃ r : Rl, i < l0 → (∃ t e f, D i = .agg [.agg [.agg [.lit (.string r.1.1.data.toList), t], e], f] ∧ (r.2.1 = [] ∨ ∃ es sp, e = .slice es sp ∧ ∀ y ∈ r.2.1, ∃ t, DataW.agg [.lit (.string y.1.data.toList), t] ∈ es)) ∧ r.2.2.length ≤ maxLen ∧
        ∃ A A2 c c2, RM W W.heap.size A r.2.1 ∧ Plane A c ∧ RN W W.heap.size A2 r.2.2 ∧ Plane A2 c2 ∧ ∀ j u, [Value.string r.1.1, .int .i64 r.1.2.1, .int .i64 r.1.2.2.1, .int .i64 r.1.2.2.2, .slice A r.2.1.length c, .slice A2 r.2.2.length c2][j]? = some u → W.cell? ((a.add (i * 6)).add j) = some u := by
      intro i
      by_cases hlt : i < l0
      · obtain ⟨cs', hc, ht⟩ := hi i (by omega)
        rw [cells40] at hc
        obtain ⟨_, hlen, hat⟩ := World.cells?_some hc
        obtain ⟨r, A, A2, c, c2, t, e, f, rfl, h1, h2, h3, h4, h5, h6, h7⟩ := trod_rls2 ht hlen
        refine ⟨r, fun _ => ⟨⟨t, e, f, h6, h7⟩, h5, A, A2, c, c2, h1, h2, h3, h4, fun j u hu => ?_⟩⟩
        have hj : j < 6 := by have := (List.getElem?_eq_some_iff.1 hu).1; simpa using this
        exact (hat j hj).trans hu
      · exact ⟨((⟨#[]⟩, 0, 0, 0), [], []), fun h => absurd h hlt⟩
    obtain ⟨F, hch⟩ := Classical.axiomOfChoice hall
    by_cases h0 : l0 = 0
    · subst h0
      exact ⟨some a, m, [], rfl, ⟨fun i hi => by simp at hi⟩, by simp, by unfold maxLen; simp, .inl rfl⟩
    have ha : a = ⟨a.block, a.off, none⟩ := by
      obtain ⟨_, _, A, A2, c, c2, _, _, _, _, hc⟩ := hch 0 (by omega)
      have := hc 0 _ rfl
      rw [Nat.zero_mul] at this
      exact spot_none (by simpa [Addr.add] using this)
    obtain ⟨b, o, sp⟩ := a
    simp only [Addr.mk.injEq, true_and] at ha
    subst ha
    refine ⟨some ⟨b, o, none⟩, m, (List.range l0).map F, by simp, ⟨fun k hk => ?_⟩, fun r hr => ?_, by simp; omega, .inr ⟨_, _, (Prod.mk.inj hx).1, fun r hr => ?_⟩⟩
    · have hkl : k < l0 := by simpa using hk
      obtain ⟨_, _, A, A2, c, c2, h1, h2, h3, h4, hc⟩ := hch k hkl
      have hk' : ∀ j u, [Value.string (F k).1.1, .int .i64 (F k).1.2.1, .int .i64 (F k).1.2.2.1, .int .i64 (F k).1.2.2.2, .slice A (F k).2.1.length c, .slice A2 (F k).2.2.length c2][j]? = some u → W.cell? ⟨b, o + k * 6 + j, none⟩ = some u := fun j u hu => by
        have := hc j u hu
        rwa [add_none, add_none] at this
      refine ⟨b, o, A, A2, c, c2, rfl, ?_, ?_⟩
      · exact World.block_lt_of_cell? W _ (hk' 0 _ rfl)
      · have e : ((List.range l0).map F)[k] = F k := by simp
        rw [e]
        exact ⟨by simpa using hk' 0 _ rfl, hk' 1 _ rfl, hk' 2 _ rfl, hk' 3 _ rfl, hk' 4 _ rfl, hk' 5 _ rfl, h1, h2, h3, h4⟩
    · obtain ⟨k, hk, rfl⟩ := List.mem_map.1 hr
      have hkl : k < l0 := by simpa using hk
      have h5 := (hch k hkl).2.1
      unfold maxLen at h5
      omega
    · obtain ⟨k, hk, rfl⟩ := List.mem_map.1 hr
      have hkl : k < l0 := by simpa using hk
      obtain ⟨t, e, f, h6, h7⟩ := (hch k hkl).1
      exact ⟨t, e, f, List.mem_map.2 ⟨k, hk, h6⟩, h7⟩
end Go.Proofs.YthlcdimofagmfaaGreatDoor
