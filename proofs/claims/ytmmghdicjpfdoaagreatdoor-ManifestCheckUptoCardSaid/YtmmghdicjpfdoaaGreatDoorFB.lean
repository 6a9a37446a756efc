/-
  A slice of modules that came in, opened, and what its strings weigh. No condition.
-/
import Derived.Test.YtmmghdicjpfdoaaGreatDoorFA
import Derived.Deep.Slices
namespace Go.Proofs.YtmmghdicjpfdoaaGreatDoor
open Go.ChangeShapes Go.WideShapes Go.ChangeAt Go.RowKit
set_option linter.unusedSimpArgs false
set_option linter.unusedVariables false
set_option maxRecDepth 100000 in
theorem trod_md' {H : Type} {enc : TypeId × Value → H} {W : World} {base f : Nat} {sp : Nat → Bool} {held : Bool} {cs : List Value} {y : DataW H × List MemPlace} (h : DataW.trod enc Tryz.prog W base sp held f 25 cs = some y) :
    ∃ (x : Md) (t : DataW H), cs = mc x ∧ y.1 = .agg [.lit (.string x.1.data.toList), t] := by
  obtain ⟨y0, y1, n, hy, hl, h0, h1⟩ := trod_struct2 Tryz.underlying25 h
  rw [cells25] at hl
  match cs, hl with
  | [c0, c1, c2, c3], _ =>
    simp only [cells9, cells23, List.drop_zero, List.drop_succ_cons, List.take_succ_cons, List.take_zero] at h0 h1
    obtain ⟨s, e0, ey, _⟩ := DataW.trod_string Tryz.underlying9 h0
    obtain ⟨a, b, c, e1⟩ := trod_vv h1
    simp at e0 e1
    obtain ⟨rfl, rfl, rfl⟩ := e1
    exact ⟨(s, a, b, c), y1.1, by rw [e0]; rfl, by rw [hy, ey]⟩
theorem add_none (b o n : Nat) : (⟨b, o, none⟩ : Addr).add n = ⟨b, o + n, none⟩ := by
  unfold Addr.add
  split
  · next h => subst h; rfl
  · rfl
theorem spot_none {W : World} {a : Addr} {v : Value} (h : W.cell? a = some v) : a = ⟨a.block, a.off, none⟩ := by
  obtain ⟨b, o, s⟩ := a
  cases s with
  | none => rfl
  | some x =>
    exfalso
    unfold World.cell? at h
    split at h <;> simp at h
set_option maxRecDepth 100000 in
/-- A SLICE OF MODULES THAT CAME IN -/
theorem open_mods {H : Type} {enc : TypeId × Value → H} {W : World} {base : Nat} {v : Value} {d : DataW H} {p : List MemPlace}
    (hv : Value.okWide Tryz.prog W .any base 26 v) (h : DataW.Trod enc Tryz.prog W 0 (fun _ => true) true 26 v d p) :
    ∃ (A : Option Addr) (c : Nat) (l : List Md), v = .slice A l.length c ∧ RM W W.heap.size A l ∧ (l = [] ∨ ∃ elems spare, d = .slice elems spare ∧ ∀ x ∈ l, ∃ t, DataW.agg [.lit (.string x.1.data.toList), t] ∈ elems) := by
  obtain ⟨A0, l0, k0, rfl⟩ := okWide_slice Tryz.underlying26 hv
  obtain ⟨fuel, hf⟩ := h
  rcases Deep.open_slice Tryz.underlying26 hf with ⟨h0, _⟩ | ⟨a, len, cap, m, n, D, Pl, hcs, hb, hl, hm, hmm, hx, hi⟩
  · have e : (Value.slice A0 l0 k0) = .slice none 0 0 := by simpa [Value.cells] using h0
    injection e with e1 e2 e3
    subst e1 e2 e3
    exact ⟨none, 0, [], rfl, rm_nil _ _ _, .inl rfl⟩
  · have e : (Value.slice A0 l0 k0) = .slice (some a) len cap := by simpa [Value.cells] using hcs
    injection e with e1 e2 e3
    subst e1 e2 e3
    have hmm' : m = k0 := by simpa using hmm
    subst hmm'
    have hall : ∀ i : Nat, ∃ x : Md, i < l0 → (∃ t, D i = .agg [.lit (.string x.1.data.toList), t]) ∧ ∀ c u, (mc x)[c]? = some u → W.cell? ((a.add (i * 4)).add c) = some u := by
      intro i
      by_cases hlt : i < l0
      · obtain ⟨cs', hc, ht⟩ := hi i (by omega)
        obtain ⟨x, t, rfl, hy⟩ := trod_md' ht
        rw [cells25] at hc
        obtain ⟨_, _, hat⟩ := World.cells?_some hc
        refine ⟨x, fun _ => ⟨⟨t, hy⟩, fun c u hu => ?_⟩⟩
        have hc4 : c < 4 := by
          have := (List.getElem?_eq_some_iff.1 hu).1
          simpa [mc] using this
        exact (hat c hc4).trans hu
      · exact ⟨(⟨#[]⟩, 0, 0, 0), fun h => absurd h hlt⟩
    obtain ⟨F, hch⟩ := Classical.axiomOfChoice hall
    by_cases h0 : l0 = 0
    · subst h0
      exact ⟨some a, m, [], rfl, rm_nil _ _ _, .inl rfl⟩
    have ha : a = ⟨a.block, a.off, none⟩ := by
      have := (hch 0 (by omega)).2 0 (.string (F 0).1) rfl
      rw [Nat.zero_mul] at this
      exact spot_none (by simpa [Addr.add] using this)
    obtain ⟨b, o, sp⟩ := a
    simp only [Addr.mk.injEq, true_and] at ha
    subst ha
    refine ⟨some ⟨b, o, none⟩, m, (List.range l0).map F, by simp, ⟨fun k hk => ?_⟩, .inr ⟨_, _, (Prod.mk.inj hx).1, fun x hx' => ?_⟩⟩
    · have hkl : k < l0 := by simpa using hk
      have hc := (hch k hkl).2
      refine ⟨b, o, rfl, ?_, fun c u hu => ?_⟩
      · have h1 := hc 0 (.string (F k).1) rfl
        rw [add_none, add_none] at h1
        exact World.block_lt_of_cell? W _ h1
      · have h1 := hc c u (by simpa using hu)
        rwa [add_none, add_none] at h1
    · obtain ⟨k, hk, rfl⟩ := List.mem_map.1 hx'
      have hkl : k < l0 := by simpa using hk
      obtain ⟨t, ht⟩ := (hch k hkl).1
      exact ⟨t, List.mem_map.2 ⟨k, hk, ht⟩⟩
/-- what a module's path weighs -/
theorem weight_md {H : Type} (bs : List UInt8) (t : DataW H) : bs.length ∈ DataW.weights Tryz.prog 25 (.agg [.lit (.string bs), t]) := by
  unfold DataW.weights
  rw [Tryz.underlying25]
  simp [DataW.weightsEach, DataW.weights]
theorem weight_all {H : Type} {e : TypeId} {d : DataW H} {n : Nat} : ∀ {l : List (DataW H)}, d ∈ l → n ∈ DataW.weights Tryz.prog e d → n ∈ DataW.weightsAll Tryz.prog e l
  | x :: r, h, hn => by
    rw [DataW.weightsAll, List.mem_append]
    rcases List.mem_cons.1 h with rfl | h
    · exact .inl hn
    · exact .inr (weight_all h hn)
theorem weight_mods {H : Type} {elems spare : List (DataW H)} {d : DataW H} {n : Nat} (hd : d ∈ elems) (hn : n ∈ DataW.weights Tryz.prog 25 d) : n ∈ DataW.weights Tryz.prog 26 (.slice elems spare) := by
  unfold DataW.weights
  rw [Tryz.underlying26]
  simp only [List.mem_cons, List.mem_append]
  exact .inr (.inl (weight_all hd hn))
theorem sized_two {H : Type} {ts : List TypeId} {d0 d1 : DataW H} {gs : List (DataW H)} (h : (DataW.weightsEach Tryz.prog (26 :: 9 :: ts) (d0 :: d1 :: gs)).all (· ≤ reachBytes) = true) :
    (∀ n ∈ DataW.weights Tryz.prog 26 d0, n ≤ reachBytes) ∧ ∀ n ∈ DataW.weights Tryz.prog 9 d1, n ≤ reachBytes := by
  simp only [DataW.weightsEach, List.all_append, Bool.and_eq_true, List.all_eq_true, decide_eq_true_eq] at h
  exact ⟨fun n hn => by simpa using h.1 n hn, fun n hn => by simpa using h.2.1 n hn⟩
theorem str_data {H : Type} {enc : TypeId × Value → H} {W : World} {base : Nat} {sp : Nat → Bool} {held : Bool} {s : ByteArray} {d : DataW H} {p : List MemPlace} (h : DataW.Trod enc Tryz.prog W base sp held 9 (.string s) d p) : d = .lit (.string s.data.toList) := by
  obtain ⟨fuel, hf⟩ := h
  obtain ⟨s', e, hx, _⟩ := DataW.trod_string Tryz.underlying9 hf
  have e : s = s' := by simpa [Value.cells] using e
  subst e
  simpa using (Prod.mk.inj hx).1
theorem weight_str {H : Type} (bs : List UInt8) : bs.length ∈ DataW.weights (H := H) Tryz.prog 9 (.lit (.string bs)) := by simp [DataW.weights]
theorem reach_num : reachBytes = 140737488351232 := rfl
end Go.Proofs.YtmmghdicjpfdoaaGreatDoor
