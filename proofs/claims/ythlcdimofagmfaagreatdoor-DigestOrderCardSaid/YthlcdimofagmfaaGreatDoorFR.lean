/-
  A release that came in, opened. No condition.
-/
import Derived.Test.YthlcdimofagmfaaGreatDoorF
import Derived.Test.YthlcdimofagmfaaGreatDoorRe
namespace Go.Proofs.YthlcdimofagmfaaGreatDoor
open Go.ChangeShapes Go.WideShapes Go.ChangeAt Go.RowKit
set_option linter.unusedSimpArgs false
set_option linter.unusedVariables false
set_option linter.constructorNameAsVariable false
theorem cells32 : Tryz.prog.cellsOf 32 = 3 := by kernel_rfl
theorem cells34 : Tryz.prog.cellsOf 34 = 4 := by kernel_rfl
theorem cells9 : Tryz.prog.cellsOf 9 = 1 := by kernel_rfl
theorem cells3 : Tryz.prog.cellsOf 3 = 1 := by kernel_rfl
set_option maxRecDepth 100000 in
theorem trod_vv {H : Type} {enc : TypeId × Value → H} {W : World} {base f : Nat} {sp : Nat → Bool} {held : Bool} {cs : List Value} {y : DataW H × List MemPlace} (h : DataW.trod enc Tryz.prog W base sp held f 32 cs = some y) :
    ∃ a b c : Int, cs = [.int .i64 a, .int .i64 b, .int .i64 c] := by
  obtain ⟨y0, y1, y2, n, _, hl, h0, h1, h2⟩ := Go.Deep.trod_struct3 Tryz.underlying32 h
  rw [cells32] at hl
  match cs, hl with
  | [c0, c1, c2], _ =>
    simp only [cells3, List.drop_zero, List.drop_succ_cons, List.take_succ_cons, List.take_zero] at h0 h1 h2
    obtain ⟨x0, e0, _⟩ := DataW.trod_int Tryz.underlying3 h0
    obtain ⟨x1, e1, _⟩ := DataW.trod_int Tryz.underlying3 h1
    obtain ⟨x2, e2, _⟩ := DataW.trod_int Tryz.underlying3 h2
    simp at e0 e1 e2
    exact ⟨x0, x1, x2, by rw [e0, e1, e2]⟩
set_option maxRecDepth 100000 in
theorem trod_md {H : Type} {enc : TypeId × Value → H} {W : World} {base f : Nat} {sp : Nat → Bool} {held : Bool} {cs : List Value} {y : DataW H × List MemPlace} (h : DataW.trod enc Tryz.prog W base sp held f 34 cs = some y) :
    ∃ x : Md, cs = mc x := by
  obtain ⟨y0, y1, n, _, hl, h0, h1⟩ := trod_struct2 Tryz.underlying34 h
  rw [cells34] at hl
  match cs, hl with
  | [c0, c1, c2, c3], _ =>
    simp only [cells9, cells32, List.drop_zero, List.drop_succ_cons, List.take_succ_cons, List.take_zero] at h0 h1
    obtain ⟨s, e0, _⟩ := DataW.trod_string Tryz.underlying9 h0
    obtain ⟨a, b, c, e1⟩ := trod_vv h1
    simp at e0 e1
    obtain ⟨rfl, rfl, rfl⟩ := e1
    exact ⟨(s, a, b, c), by rw [e0]; rfl⟩
set_option maxRecDepth 100000 in
/-- A MODULE THAT CAME IN, by value -/
theorem open_md {H : Type} {enc : TypeId × Value → H} {W : World} {base : Nat} {sp : Nat → Bool} {v : Value} {d : DataW H} {p : List MemPlace}
    (hv : Value.okWide Tryz.prog W .any base 34 v) (h : DataW.Trod enc Tryz.prog W 0 sp true 34 v d p) : ∃ x : Md, v = md x := by
  obtain ⟨cs, rfl, hsz⟩ := okWide_struct Tryz.underlying34 hv
  obtain ⟨fuel, hf⟩ := h
  obtain ⟨x, hx⟩ := trod_md hf
  refine ⟨x, ?_⟩
  have : cs.toList = mc x := hx
  rw [show cs = (mc x).toArray by rw [← this]]
  rfl
end Go.Proofs.YthlcdimofagmfaaGreatDoor
namespace Go.Proofs.YthlcdimofagmfaaGreatDoor
open Go.ChangeShapes Go.WideShapes Go.ChangeAt Go.RowKit
set_option linter.unusedSimpArgs false
set_option linter.unusedVariables false
set_option maxRecDepth 100000 in
theorem trod_md' {H : Type} {enc : TypeId × Value → H} {W : World} {base f : Nat} {sp : Nat → Bool} {held : Bool} {cs : List Value} {y : DataW H × List MemPlace} (h : DataW.trod enc Tryz.prog W base sp held f 34 cs = some y) :
    ∃ (x : Md) (t : DataW H), cs = mc x ∧ y.1 = .agg [.lit (.string x.1.data.toList), t] := by
  obtain ⟨y0, y1, n, hy, hl, h0, h1⟩ := trod_struct2 Tryz.underlying34 h
  rw [cells34] at hl
  match cs, hl with
  | [c0, c1, c2, c3], _ =>
    simp only [cells9, cells32, List.drop_zero, List.drop_succ_cons, List.take_succ_cons, List.take_zero] at h0 h1
    obtain ⟨s, e0, ey, _⟩ := DataW.trod_string Tryz.underlying9 h0
    obtain ⟨a, b, c, e1⟩ := trod_vv h1
    simp at e0 e1
    obtain ⟨rfl, rfl, rfl⟩ := e1
    exact ⟨(s, a, b, c), y1.1, by rw [e0]; rfl, by rw [hy, ey]⟩
theorem add_none (b o n : Nat) : (⟨b, o, none⟩ : Addr).add n = ⟨b, o + n, none⟩ := by
  unfold Addr.add
  split
  · next h => subst h; rfl
  · rfl
theorem spot_none {W : World} {a : Addr} {v : Value} (h : W.cell? a = some v) : a = ⟨a.block, a.off, none⟩ := by
  obtain ⟨b, o, s⟩ := a
  cases s with
  | none => rfl
  | some x =>
    exfalso
    unfold World.cell? at h
    split at h <;> simp at h
set_option maxRecDepth 100000 in
/-- A SLICE OF MODULES THAT CAME IN -/
theorem open_mods {H : Type} {enc : TypeId × Value → H} {W : World} {base : Nat} {v : Value} {d : DataW H} {p : List MemPlace}
    (hv : Value.okWide Tryz.prog W .any base 35 v) (h : DataW.Trod enc Tryz.prog W 0 (fun _ => true) true 35 v d p) :
    ∃ (A : Option Addr) (c : Nat) (l : List Md), v = .slice A l.length c ∧ RM W W.heap.size A l ∧ (l = [] ∨ ∃ elems spare, d = .slice elems spare ∧ ∀ x ∈ l, ∃ t, DataW.agg [.lit (.string x.1.data.toList), t] ∈ elems) := by
  obtain ⟨A0, l0, k0, rfl⟩ := okWide_slice Tryz.underlying35 hv
  obtain ⟨fuel, hf⟩ := h
  rcases Deep.open_slice Tryz.underlying35 hf with ⟨h0, _⟩ | ⟨a, len, cap, m, n, D, Pl, hcs, hb, hl, hm, hmm, hx, hi⟩
  · have e : (Value.slice A0 l0 k0) = .slice none 0 0 := by simpa [Value.cells] using h0
    injection e with e1 e2 e3
    subst e1 e2 e3
    exact ⟨none, 0, [], rfl, rm_nil _ _ _, .inl rfl⟩
  · have e : (Value.slice A0 l0 k0) = .slice (some a) len cap := by simpa [Value.cells] using hcs
    injection e with e1 e2 e3
    subst e1 e2 e3
    have hmm' : m = k0 := by simpa using hmm
    subst hmm'
    have hall : ∀ i : Nat, ∃ x : Md, i < l0 → (∃ t, D i = .agg [.lit (.string x.1.data.toList), t]) ∧ ∀ c u, (mc x)[c]? = some u → W.cell? ((a.add (i * 4)).add c) = some u := by
      intro i
      by_cases hlt : i < l0
      · obtain ⟨cs', hc, ht⟩ := hi i (by omega)
        obtain ⟨x, t, rfl, hy⟩ := trod_md' ht
        rw [cells34] at hc
        obtain ⟨_, _, hat⟩ := World.cells?_some hc
        refine ⟨x, fun _ => ⟨⟨t, hy⟩, fun c u hu => ?_⟩⟩
        have hc4 : c < 4 := by
          have := (List.getElem?_eq_some_iff.1 hu).1
          simpa [mc] using this
        exact (hat c hc4).trans hu
      · exact ⟨(⟨#[]⟩, 0, 0, 0), fun h => absurd h hlt⟩
    obtain ⟨F, hch⟩ := Classical.axiomOfChoice hall
    by_cases h0 : l0 = 0
    · subst h0
      exact ⟨some a, m, [], rfl, rm_nil _ _ _, .inl rfl⟩
    have ha : a = ⟨a.block, a.off, none⟩ := by
      have := (hch 0 (by omega)).2 0 (.string (F 0).1) rfl
      rw [Nat.zero_mul] at this
      exact spot_none (by simpa [Addr.add] using this)
    obtain ⟨b, o, sp⟩ := a
    simp only [Addr.mk.injEq, true_and] at ha
    subst ha
    refine ⟨some ⟨b, o, none⟩, m, (List.range l0).map F, by simp, ⟨fun k hk => ?_⟩, .inr ⟨_, _, (Prod.mk.inj hx).1, fun x hx' => ?_⟩⟩
    · have hkl : k < l0 := by simpa using hk
      have hc := (hch k hkl).2
      refine ⟨b, o, rfl, ?_, fun c u hu => ?_⟩
      · have h1 := hc 0 (.string (F k).1) rfl
        rw [add_none, add_none] at h1
        exact World.block_lt_of_cell? W _ h1
      · have h1 := hc c u (by simpa using hu)
        rwa [add_none, add_none] at h1
    · obtain ⟨k, hk, rfl⟩ := List.mem_map.1 hx'
      have hkl : k < l0 := by simpa using hk
      obtain ⟨t, ht⟩ := (hch k hkl).1
      exact ⟨t, List.mem_map.2 ⟨k, hk, ht⟩⟩
/-- what a module's path weighs -/
theorem weight_md {H : Type} (bs : List UInt8) (t : DataW H) : bs.length ∈ DataW.weights Tryz.prog 34 (.agg [.lit (.string bs), t]) := by
  unfold DataW.weights
  rw [Tryz.underlying34]
  simp [DataW.weightsEach, DataW.weights]
theorem weight_all {H : Type} {e : TypeId} {d : DataW H} {n : Nat} : ∀ {l : List (DataW H)}, d ∈ l → n ∈ DataW.weights Tryz.prog e d → n ∈ DataW.weightsAll Tryz.prog e l
  | x :: r, h, hn => by
    rw [DataW.weightsAll, List.mem_append]
    rcases List.mem_cons.1 h with rfl | h
    · exact .inl hn
    · exact .inr (weight_all h hn)
theorem weight_mods {H : Type} {elems spare : List (DataW H)} {d : DataW H} {n : Nat} (hd : d ∈ elems) (hn : n ∈ DataW.weights Tryz.prog 34 d) : n ∈ DataW.weights Tryz.prog 35 (.slice elems spare) := by
  unfold DataW.weights
  rw [Tryz.underlying35]
  simp only [List.mem_cons, List.mem_append]
  exact .inr (.inl (weight_all hd hn))
theorem str_data {H : Type} {enc : TypeId × Value → H} {W : World} {base : Nat} {sp : Nat → Bool} {held : Bool} {s : ByteArray} {d : DataW H} {p : List MemPlace} (h : DataW.Trod enc Tryz.prog W base sp held 9 (.string s) d p) : d = .lit (.string s.data.toList) := by
  obtain ⟨fuel, hf⟩ := h
  obtain ⟨s', e, hx, _⟩ := DataW.trod_string Tryz.underlying9 hf
  have e : s = s' := by simpa [Value.cells] using e
  subst e
  simpa using (Prod.mk.inj hx).1
theorem weight_str {H : Type} (bs : List UInt8) : bs.length ∈ DataW.weights (H := H) Tryz.prog 9 (.lit (.string bs)) := by simp [DataW.weights]
theorem reach_num : reachBytes = 140737488351232 := rfl
end Go.Proofs.YthlcdimofagmfaaGreatDoor
namespace Go.Proofs.YthlcdimofagmfaaGreatDoor
open Go.ChangeShapes Go.WideShapes Go.ChangeAt Go.RowKit
set_option linter.unusedSimpArgs false
set_option linter.unusedVariables false
set_option maxRecDepth 100000 in
theorem mods_trod {H : Type} {enc : TypeId × Value → H} {W : World} {A0 : Option Addr} {l0 k0 fuel : Nat} {y : DataW H × List MemPlace}
    (hf : DataW.trod enc Tryz.prog W 0 (fun _ => true) true fuel 35 [.slice A0 l0 k0] = some y) :
    ∃ l : List Md, l.length = l0 ∧ RM W W.heap.size A0 l ∧ (l = [] ∨ ∃ elems spare, y.1 = .slice elems spare ∧ ∀ x ∈ l, ∃ t, DataW.agg [.lit (.string x.1.data.toList), t] ∈ elems) := by
  rcases Deep.open_slice Tryz.underlying35 hf with ⟨h0, _⟩ | ⟨a, len, cap, m, n, D, Pl, hcs, hb, hl, hm, hmm, hx, hi⟩
  · have e : (Value.slice A0 l0 k0) = .slice none 0 0 := by simpa using h0
    injection e with e1 e2 e3
    subst e1 e2 e3
    exact ⟨[], rfl, rm_nil _ _ _, .inl rfl⟩
  · have e : (Value.slice A0 l0 k0) = .slice (some a) len cap := by simpa using hcs
    injection e with e1 e2 e3
    subst e1 e2 e3
    have hmm' : m = k0 := by simpa using hmm
    subst hmm'
    have hall : ∀ i : Nat, ∃ x : Md, i < l0 → (∃ t, D i = .agg [.lit (.string x.1.data.toList), t]) ∧ ∀ c u, (mc x)[c]? = some u → W.cell? ((a.add (i * 4)).add c) = some u := by
      intro i
      by_cases hlt : i < l0
      · obtain ⟨cs', hc, ht⟩ := hi i (by omega)
        obtain ⟨x, t, rfl, hy⟩ := trod_md' ht
        rw [cells34] at hc
        obtain ⟨_, _, hat⟩ := World.cells?_some hc
        refine ⟨x, fun _ => ⟨⟨t, hy⟩, fun c u hu => ?_⟩⟩
        have hc4 : c < 4 := by
          have := (List.getElem?_eq_some_iff.1 hu).1
          simpa [mc] using this
        exact (hat c hc4).trans hu
      · exact ⟨(⟨#[]⟩, 0, 0, 0), fun h => absurd h hlt⟩
    obtain ⟨F, hch⟩ := Classical.axiomOfChoice hall
    by_cases h0 : l0 = 0
    · subst h0
      exact ⟨[], rfl, rm_nil _ _ _, .inl rfl⟩
    have ha : a = ⟨a.block, a.off, none⟩ := by
      have := (hch 0 (by omega)).2 0 (.string (F 0).1) rfl
      rw [Nat.zero_mul] at this
      exact spot_none (by simpa [Addr.add] using this)
    obtain ⟨b, o, sp⟩ := a
    simp only [Addr.mk.injEq, true_and] at ha
    subst ha
    refine ⟨(List.range l0).map F, by simp, ⟨fun k hk => ?_⟩, .inr ⟨_, _, congrArg Prod.fst hx, fun x hx' => ?_⟩⟩
    · have hkl : k < l0 := by simpa using hk
      have hc := (hch k hkl).2
      refine ⟨b, o, rfl, ?_, fun c u hu => ?_⟩
      · have h1 := hc 0 (.string (F k).1) rfl
        rw [add_none, add_none] at h1
        exact World.block_lt_of_cell? W _ h1
      · have h1 := hc c u (by simpa using hu)
        rwa [add_none, add_none] at h1
    · obtain ⟨k, hk, rfl⟩ := List.mem_map.1 hx'
      have hkl : k < l0 := by simpa using hk
      obtain ⟨t, ht⟩ := (hch k hkl).1
      exact ⟨t, List.mem_map.2 ⟨k, hk, ht⟩⟩
theorem cells37 : Tryz.prog.cellsOf 37 = 5 := by kernel_rfl
theorem cells35 : Tryz.prog.cellsOf 35 = 1 := by kernel_rfl
theorem types37 : Tryz.prog.cellTypes Tryz.prog.depth 37 = some [9, 3, 3, 3, 35] := by kernel_rfl
set_option maxRecDepth 100000 in
/-- A MANIFEST THAT CAME IN, by value -/
theorem open_mfst {H : Type} {enc : TypeId × Value → H} {W : World} {base : Nat} {v : Value} {d : DataW H} {p : List MemPlace}
    (hv : Value.okWide Tryz.prog W .any base 37 v) (h : DataW.Trod enc Tryz.prog W 0 (fun _ => true) true 37 v d p) :
    ∃ (x : Md) (A : Option Addr) (c : Nat) (l : List Md) (t d' : DataW H), v = mf x A l.length c ∧ RM W W.heap.size A l ∧ Plain A c ∧ d = .agg [.agg [.lit (.string x.1.data.toList), t], d'] ∧
      (l = [] ∨ ∃ elems spare, d' = .slice elems spare ∧ ∀ y ∈ l, ∃ t, DataW.agg [.lit (.string y.1.data.toList), t] ∈ elems) := by
  have hv' := hv
  simp only [Value.okWide, Tryz.underlying37] at hv'
  obtain ⟨cs, rfl, hsz, ts, hts, _, hrow⟩ := hv'
  obtain rfl := Option.some.inj (types37.symm.trans hts)
  rw [cells37] at hsz
  obtain ⟨fuel, hf⟩ := h
  obtain ⟨y0, y1, n, hy, _, h0, h1⟩ := trod_struct2 Tryz.underlying37 hf
  obtain ⟨cl⟩ := cs
  match cl, hsz with
  | [c0, c1, c2, c3, c4], _ =>
    simp only [Value.cells, cells34, cells35, List.drop_zero, List.drop_succ_cons, List.take_succ_cons, List.take_zero] at h0 h1
    obtain ⟨x, t, hx, hyx⟩ := trod_md' h0
    obtain ⟨A, l0, k0, e4⟩ := Joins.slice_form Tryz.underlying35 h1
    simp at e4
    subst e4
    obtain ⟨l, rfl, hR, hd⟩ := mods_trod h1
    obtain ⟨u, hu, hok⟩ := hrow 4 (.slice A l.length k0) rfl
    have hu : u = 35 := by simpa using hu.symm
    subst hu
    have hpl : Plain A k0 := by
      cases A with
      | none =>
        simp only [Cell.okWide, Cell.ok, Tryz.underlying35] at hok
        left
        refine ⟨rfl, ?_⟩
        split at hok <;> simp_all
      | some a =>
        simp only [Cell.okWide, Cell.ok, Tryz.underlying35] at hok
        obtain ⟨b, o, sp⟩ := a
        obtain ⟨_, _, _, hs, _⟩ := hok
        simp at hs
        subst hs
        exact .inr ⟨b, o, rfl⟩
    have hmc : [c0, c1, c2, c3] = mc x := by simpa using hx
    simp only [mc, List.cons.injEq, and_true] at hmc
    obtain ⟨rfl, rfl, rfl, rfl⟩ := hmc
    exact ⟨x, A, k0, l, t, y1.1, rfl, hR, hpl, by rw [← hyx]; exact congrArg Prod.fst hy, hd⟩
theorem bulk_mem {H : Type} {d : DataW H} : ∀ {l : List (DataW H)}, d ∈ l → Rows.uptoBulk d ≤ Rows.uptoBulkAll l
  | x :: r, h => by
    rw [Rows.uptoBulkAll]
    rcases List.mem_cons.1 h with rfl | h
    · omega
    · have := bulk_mem h; omega
theorem bulk_md {H : Type} (bs : List UInt8) (t : DataW H) : bs.length ≤ Rows.uptoBulk (.agg [.lit (.string bs), t]) := by
  simp [Rows.uptoBulk, Rows.uptoBulkAll]; omega
theorem bulk_mods {H : Type} {elems spare : List (DataW H)} {d : DataW H} (hd : d ∈ elems) : Rows.uptoBulk d ≤ Rows.uptoBulk (.slice elems spare) := by
  have := bulk_mem hd
  simp [Rows.uptoBulk]; omega
theorem bulk_agg {H : Type} {parts : List (DataW H)} {d : DataW H} (hd : d ∈ parts) : Rows.uptoBulk d ≤ Rows.uptoBulk (.agg parts) := by
  have := bulk_mem hd
  simp [Rows.uptoBulk]; omega
end Go.Proofs.YthlcdimofagmfaaGreatDoor
namespace Go.Proofs.YthlcdimofagmfaaGreatDoor
open Go.ChangeShapes Go.WideShapes Go.ChangeAt Go.RowKit
set_option linter.unusedSimpArgs false
set_option linter.unusedVariables false
theorem cells56 : Tryz.prog.cellsOf 56 = 2 := by kernel_rfl
theorem cells38 : Tryz.prog.cellsOf 38 = 1 := by kernel_rfl
theorem cells40 : Tryz.prog.cellsOf 40 = 6 := by kernel_rfl
theorem types40 : Tryz.prog.cellTypes Tryz.prog.depth 40 = some [9, 3, 3, 3, 35, 38] := by kernel_rfl
set_option maxRecDepth 100000 in
theorem trod_sd {H : Type} {enc : TypeId × Value → H} {W : World} {base f : Nat} {sp : Nat → Bool} {held : Bool} {cs : List Value} {y : DataW H × List MemPlace} (h : DataW.trod enc Tryz.prog W base sp held f 56 cs = some y) :
    ∃ x : Src, cs = sc x := by
  obtain ⟨y0, y1, n, _, hl, h0, h1⟩ := trod_struct2 Tryz.underlying56 h
  rw [cells56] at hl
  match cs, hl with
  | [c0, c1], _ =>
    simp only [cells9, List.drop_zero, List.drop_succ_cons, List.take_succ_cons, List.take_zero] at h0 h1
    obtain ⟨s, e0, _⟩ := DataW.trod_string Tryz.underlying9 h0
    obtain ⟨s1, e1, _⟩ := DataW.trod_string Tryz.underlying9 h1
    simp at e0 e1
    exact ⟨(s, s1), by rw [e0, e1]; rfl⟩
set_option maxRecDepth 100000 in
theorem srcs_trod {H : Type} {enc : TypeId × Value → H} {W : World} {A0 : Option Addr} {l0 k0 fuel : Nat} {y : DataW H × List MemPlace}
    (hf : DataW.trod enc Tryz.prog W 0 (fun _ => true) true fuel 38 [.slice A0 l0 k0] = some y) :
    ∃ l : List Src, l.length = l0 ∧ RN W W.heap.size A0 l := by
  rcases Deep.open_slice Tryz.underlying38 hf with ⟨h0, _⟩ | ⟨a, len, cap, m, n, D, Pl, hcs, hb, hl, hm, hmm, hx, hi⟩
  · have e : (Value.slice A0 l0 k0) = .slice none 0 0 := by simpa using h0
    injection e with e1 e2 e3
    subst e1 e2 e3
    exact ⟨[], rfl, rn_nil _ _ _⟩
  · have e : (Value.slice A0 l0 k0) = .slice (some a) len cap := by simpa using hcs
    injection e with e1 e2 e3
    subst e1 e2 e3
    have hmm' : m = k0 := by simpa using hmm
    subst hmm'
    have hall : ∀ i : Nat, ∃ x : Src, i < l0 → ∀ c u, (sc x)[c]? = some u → W.cell? ((a.add (i * 2)).add c) = some u := by
      intro i
      by_cases hlt : i < l0
      · obtain ⟨cs', hc, ht⟩ := hi i (by omega)
        obtain ⟨x, rfl⟩ := trod_sd ht
        rw [cells56] at hc
        obtain ⟨_, _, hat⟩ := World.cells?_some hc
        refine ⟨x, fun _ c u hu => ?_⟩
        have hc4 : c < 2 := by
          have := (List.getElem?_eq_some_iff.1 hu).1
          simpa [sc] using this
        exact (hat c hc4).trans hu
      · exact ⟨(⟨#[]⟩, ⟨#[]⟩), fun h => absurd h hlt⟩
    obtain ⟨F, hch⟩ := Classical.axiomOfChoice hall
    by_cases h0 : l0 = 0
    · subst h0
      exact ⟨[], rfl, rn_nil _ _ _⟩
    have ha : a = ⟨a.block, a.off, none⟩ := by
      have := hch 0 (by omega) 0 (.string (F 0).1) rfl
      rw [Nat.zero_mul] at this
      exact spot_none (by simpa [Addr.add] using this)
    obtain ⟨b, o, sp⟩ := a
    simp only [Addr.mk.injEq, true_and] at ha
    subst ha
    refine ⟨(List.range l0).map F, by simp, ⟨fun k hk => ?_⟩⟩
    have hkl : k < l0 := by simpa using hk
    have hc := hch k hkl
    refine ⟨b, o, rfl, ?_, fun c u hu => ?_⟩
    · have h1 := hc 0 (.string (F k).1) rfl
      rw [add_none, add_none] at h1
      exact World.block_lt_of_cell? W _ h1
    · have h1 := hc c u (by simpa using hu)
      rwa [add_none, add_none] at h1
set_option maxRecDepth 100000 in
theorem plain_of {W : World} {base : Nat} {T E : TypeId} {A : Option Addr} {n k : Nat} (hT : Tryz.prog.underlying T = some (.slice E)) (hok : Cell.okWide Tryz.prog W .any base T (.slice A n k)) : Plain A k := by
  cases A with
  | none =>
    simp only [Cell.okWide, Cell.ok, hT] at hok
    left
    refine ⟨rfl, ?_⟩
    split at hok <;> simp_all
  | some a =>
    simp only [Cell.okWide, Cell.ok, hT] at hok
    obtain ⟨b, o, sp⟩ := a
    obtain ⟨_, _, _, hs, _⟩ := hok
    simp at hs
    subst hs
    exact .inr ⟨b, o, rfl⟩
set_option maxRecDepth 100000 in
theorem len_of {W : World} {base : Nat} {T E : TypeId} {A : Option Addr} {n k : Nat} (hT : Tryz.prog.underlying T = some (.slice E)) (hok : Cell.okWide Tryz.prog W .any base T (.slice A n k)) : n ≤ 9223372036854775807 := by
  cases A with
  | none =>
    simp only [Cell.okWide, Cell.ok, hT] at hok
    split at hok <;> simp_all
  | some a =>
    simp only [Cell.okWide, Cell.ok, hT] at hok
    obtain ⟨h1, h2, _⟩ := hok
    have e : IntKind.i64.max = 9223372036854775807 := by decide
    rw [e] at h2
    omega
set_option maxRecDepth 100000 in
/-- A RELEASE THAT CAME IN, by its cells -/
theorem trod_rls {H : Type} {enc : TypeId × Value → H} {W : World} {fuel : Nat} {cl : List Value} {y : DataW H × List MemPlace}
    (hf : DataW.trod enc Tryz.prog W 0 (fun _ => true) true fuel 40 cl = some y) (hsz : cl.length = 6) :
    ∃ (x : Md) (A A2 : Option Addr) (c c2 : Nat) (l : List Md) (S : List Src) (t e f : DataW H), cl = [.string x.1, .int .i64 x.2.1, .int .i64 x.2.2.1, .int .i64 x.2.2.2, .slice A l.length c, .slice A2 S.length c2] ∧ RM W W.heap.size A l ∧ RN W W.heap.size A2 S ∧
      y.1 = .agg [.agg [.agg [.lit (.string x.1.data.toList), t], e], f] ∧ (l = [] ∨ ∃ elems spare, e = .slice elems spare ∧ ∀ y ∈ l, ∃ t, DataW.agg [.lit (.string y.1.data.toList), t] ∈ elems) := by
  obtain ⟨y0, y1, n, hy, _, h0, h1⟩ := trod_struct2 Tryz.underlying40 hf
  match cl, hsz with
  | [c0, c1, c2, c3, c4, c5], _ =>
    simp only [cells37, cells38, List.drop_zero, List.drop_succ_cons, List.take_succ_cons, List.take_zero] at h0 h1
    obtain ⟨z0, z1, n', hz, _, k0, k1⟩ := trod_struct2 Tryz.underlying37 h0
    simp only [cells34, cells35, List.drop_zero, List.drop_succ_cons, List.take_succ_cons, List.take_zero] at k0 k1
    obtain ⟨x, t, hx, hyx⟩ := trod_md' k0
    obtain ⟨A, l0, q0, e4⟩ := Joins.slice_form Tryz.underlying35 k1
    obtain ⟨A2, l2, q2, e5⟩ := Joins.slice_form Tryz.underlying38 h1
    simp at e4 e5
    subst e4 e5
    obtain ⟨l, rfl, hR, hd⟩ := mods_trod k1
    obtain ⟨S, rfl, hS⟩ := srcs_trod h1
    have hmc : [c0, c1, c2, c3] = mc x := by simpa using hx
    simp only [mc, List.cons.injEq, and_true] at hmc
    obtain ⟨rfl, rfl, rfl, rfl⟩ := hmc
    refine ⟨x, A, A2, q0, q2, l, S, t, z1.1, y1.1, rfl, hR, hS, ?_, hd⟩
    rw [hy, hz, hyx]
set_option maxRecDepth 100000 in
/-- A RELEASE THAT CAME IN, by value -/
theorem open_rls {H : Type} {enc : TypeId × Value → H} {W : World} {base : Nat} {v : Value} {d : DataW H} {p : List MemPlace}
    (hv : Value.okWide Tryz.prog W .any base 40 v) (h : DataW.Trod enc Tryz.prog W 0 (fun _ => true) true 40 v d p) :
    ∃ (x : Md) (A A2 : Option Addr) (c c2 : Nat) (l : List Md) (S : List Src) (t e f : DataW H), v = rl x A l.length c A2 S.length c2 ∧ RM W W.heap.size A l ∧ Plain A c ∧ RN W W.heap.size A2 S ∧ Plain A2 c2 ∧ S.length ≤ 9223372036854775807 ∧
      d = .agg [.agg [.agg [.lit (.string x.1.data.toList), t], e], f] ∧ (l = [] ∨ ∃ elems spare, e = .slice elems spare ∧ ∀ y ∈ l, ∃ t, DataW.agg [.lit (.string y.1.data.toList), t] ∈ elems) := by
  have hv' := hv
  simp only [Value.okWide, Tryz.underlying40] at hv'
  obtain ⟨cs, rfl, hsz, ts, hts, _, hrow⟩ := hv'
  obtain rfl := Option.some.inj (types40.symm.trans hts)
  rw [cells40] at hsz
  obtain ⟨fuel, hf⟩ := h
  obtain ⟨cl⟩ := cs
  obtain ⟨x, A, A2, c, c2, l, S, t, e, f, hcl, hR, hS, hy, hd⟩ := trod_rls hf hsz
  have hcl : cl = _ := hcl
  subst hcl
  obtain ⟨u, hu, hok⟩ := hrow 4 (.slice A l.length c) rfl
  have hu : u = 35 := by simpa using hu.symm
  subst hu
  obtain ⟨u, hu, hok2⟩ := hrow 5 (.slice A2 S.length c2) rfl
  have hu : u = 38 := by simpa using hu.symm
  subst hu
  exact ⟨x, A, A2, c, c2, l, S, t, e, f, rfl, hR, plain_of Tryz.underlying35 hok, hS, plain_of Tryz.underlying38 hok2, len_of Tryz.underlying38 hok2, hy, hd⟩
end Go.Proofs.YthlcdimofagmfaaGreatDoor
