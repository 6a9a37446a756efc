/-
  A manifest that came in, opened, and its bulk. No condition.
-/
import Derived.Test.YtmmghdicjpfdoaaGreatDoorFB
namespace Go.Proofs.YtmmghdicjpfdoaaGreatDoor
open Go.ChangeShapes Go.WideShapes Go.ChangeAt Go.RowKit
set_option linter.unusedSimpArgs false
set_option linter.unusedVariables false
set_option maxRecDepth 100000 in
theorem mods_trod {H : Type} {enc : TypeId × Value → H} {W : World} {A0 : Option Addr} {l0 k0 fuel : Nat} {y : DataW H × List MemPlace}
    (hf : DataW.trod enc Tryz.prog W 0 (fun _ => true) true fuel 26 [.slice A0 l0 k0] = some y) :
    ∃ l : List Md, l.length = l0 ∧ RM W W.heap.size A0 l ∧ (l = [] ∨ ∃ elems spare, y.1 = .slice elems spare ∧ ∀ x ∈ l, ∃ t, DataW.agg [.lit (.string x.1.data.toList), t] ∈ elems) := by
  rcases Deep.open_slice Tryz.underlying26 hf with ⟨h0, _⟩ | ⟨a, len, cap, m, n, D, Pl, hcs, hb, hl, hm, hmm, hx, hi⟩
  · have e : (Value.slice A0 l0 k0) = .slice none 0 0 := by simpa using h0
    injection e with e1 e2 e3
    subst e1 e2 e3
    exact ⟨[], rfl, rm_nil _ _ _, .inl rfl⟩
  · have e : (Value.slice A0 l0 k0) = .slice (some a) len cap := by simpa using hcs
    injection e with e1 e2 e3
    subst e1 e2 e3
    have hmm' : m = k0 := by simpa using hmm
    subst hmm'
    have hall : ∀ i : Nat, ∃ x : Md, i < l0 → (∃ t, D i = .agg [.lit (.string x.1.data.toList), t]) ∧ ∀ c u, (mc x)[c]? = some u → W.cell? ((a.add (i * 4)).add c) = some u := by
      intro i
      by_cases hlt : i < l0
      · obtain ⟨cs', hc, ht⟩ := hi i (by omega)
        obtain ⟨x, t, rfl, hy⟩ := trod_md' ht
        rw [cells25] at hc
        obtain ⟨_, _, hat⟩ := World.cells?_some hc
        refine ⟨x, fun _ => ⟨⟨t, hy⟩, fun c u hu => ?_⟩⟩
        have hc4 : c < 4 := by
          have := (List.getElem?_eq_some_iff.1 hu).1
          simpa [mc] using this
        exact (hat c hc4).trans hu
      · exact ⟨(⟨#[]⟩, 0, 0, 0), fun h => absurd h hlt⟩
    obtain ⟨F, hch⟩ := Classical.axiomOfChoice hall
    by_cases h0 : l0 = 0
    · subst h0
      exact ⟨[], rfl, rm_nil _ _ _, .inl rfl⟩
    have ha : a = ⟨a.block, a.off, none⟩ := by
      have := (hch 0 (by omega)).2 0 (.string (F 0).1) rfl
      rw [Nat.zero_mul] at this
      exact spot_none (by simpa [Addr.add] using this)
    obtain ⟨b, o, sp⟩ := a
    simp only [Addr.mk.injEq, true_and] at ha
    subst ha
    refine ⟨(List.range l0).map F, by simp, ⟨fun k hk => ?_⟩, .inr ⟨_, _, congrArg Prod.fst hx, fun x hx' => ?_⟩⟩
    · have hkl : k < l0 := by simpa using hk
      have hc := (hch k hkl).2
      refine ⟨b, o, rfl, ?_, fun c u hu => ?_⟩
      · have h1 := hc 0 (.string (F k).1) rfl
        rw [add_none, add_none] at h1
        exact World.block_lt_of_cell? W _ h1
      · have h1 := hc c u (by simpa using hu)
        rwa [add_none, add_none] at h1
    · obtain ⟨k, hk, rfl⟩ := List.mem_map.1 hx'
      have hkl : k < l0 := by simpa using hk
      obtain ⟨t, ht⟩ := (hch k hkl).1
      exact ⟨t, List.mem_map.2 ⟨k, hk, ht⟩⟩
theorem cells28 : Tryz.prog.cellsOf 28 = 5 := by kernel_rfl
theorem cells26 : Tryz.prog.cellsOf 26 = 1 := by kernel_rfl
theorem types28 : Tryz.prog.cellTypes Tryz.prog.depth 28 = some [9, 3, 3, 3, 26] := by kernel_rfl
set_option maxRecDepth 100000 in
/-- A MANIFEST THAT CAME IN, by value -/
theorem open_mfst {H : Type} {enc : TypeId × Value → H} {W : World} {base : Nat} {v : Value} {d : DataW H} {p : List MemPlace}
    (hv : Value.okWide Tryz.prog W .any base 28 v) (h : DataW.Trod enc Tryz.prog W 0 (fun _ => true) true 28 v d p) :
    ∃ (x : Md) (A : Option Addr) (c : Nat) (l : List Md) (t d' : DataW H), v = mf x A l.length c ∧ RM W W.heap.size A l ∧ Plain A c ∧ d = .agg [.agg [.lit (.string x.1.data.toList), t], d'] ∧
      (l = [] ∨ ∃ elems spare, d' = .slice elems spare ∧ ∀ y ∈ l, ∃ t, DataW.agg [.lit (.string y.1.data.toList), t] ∈ elems) := by
  have hv' := hv
  simp only [Value.okWide, Tryz.underlying28] at hv'
  obtain ⟨cs, rfl, hsz, ts, hts, _, hrow⟩ := hv'
  obtain rfl := Option.some.inj (types28.symm.trans hts)
  rw [cells28] at hsz
  obtain ⟨fuel, hf⟩ := h
  obtain ⟨y0, y1, n, hy, _, h0, h1⟩ := trod_struct2 Tryz.underlying28 hf
  obtain ⟨cl⟩ := cs
  match cl, hsz with
  | [c0, c1, c2, c3, c4], _ =>
    simp only [Value.cells, cells25, cells26, List.drop_zero, List.drop_succ_cons, List.take_succ_cons, List.take_zero] at h0 h1
    obtain ⟨x, t, hx, hyx⟩ := trod_md' h0
    obtain ⟨A, l0, k0, e4⟩ := Joins.slice_form Tryz.underlying26 h1
    simp at e4
    subst e4
    obtain ⟨l, rfl, hR, hd⟩ := mods_trod h1
    obtain ⟨u, hu, hok⟩ := hrow 4 (.slice A l.length k0) rfl
    have hu : u = 26 := by simpa using hu.symm
    subst hu
    have hpl : Plain A k0 := by
      cases A with
      | none =>
        simp only [Cell.okWide, Cell.ok, Tryz.underlying26] at hok
        left
        refine ⟨rfl, ?_⟩
        split at hok <;> simp_all
      | some a =>
        simp only [Cell.okWide, Cell.ok, Tryz.underlying26] at hok
        obtain ⟨b, o, sp⟩ := a
        obtain ⟨_, _, _, hs, _⟩ := hok
        simp at hs
        subst hs
        exact .inr ⟨b, o, rfl⟩
    have hmc : [c0, c1, c2, c3] = mc x := by simpa using hx
    simp only [mc, List.cons.injEq, and_true] at hmc
    obtain ⟨rfl, rfl, rfl, rfl⟩ := hmc
    exact ⟨x, A, k0, l, t, y1.1, rfl, hR, hpl, by rw [← hyx]; exact congrArg Prod.fst hy, hd⟩
theorem bulk_mem {H : Type} {d : DataW H} : ∀ {l : List (DataW H)}, d ∈ l → Rows.uptoBulk d ≤ Rows.uptoBulkAll l
  | x :: r, h => by
    rw [Rows.uptoBulkAll]
    rcases List.mem_cons.1 h with rfl | h
    · omega
    · have := bulk_mem h; omega
theorem bulk_md {H : Type} (bs : List UInt8) (t : DataW H) : bs.length ≤ Rows.uptoBulk (.agg [.lit (.string bs), t]) := by
  simp [Rows.uptoBulk, Rows.uptoBulkAll]; omega
theorem bulk_mods {H : Type} {elems spare : List (DataW H)} {d : DataW H} (hd : d ∈ elems) : Rows.uptoBulk d ≤ Rows.uptoBulk (.slice elems spare) := by
  have := bulk_mem hd
  simp [Rows.uptoBulk]; omega
theorem bulk_agg {H : Type} {parts : List (DataW H)} {d : DataW H} (hd : d ∈ parts) : Rows.uptoBulk d ≤ Rows.uptoBulk (.agg parts) := by
  have := bulk_mem hd
  simp [Rows.uptoBulk]; omega
end Go.Proofs.YtmmghdicjpfdoaaGreatDoor
