/-
  What the rows' list gives: the table of powers of ten. No condition.
  What the rows' list gives: the two error variables of strconv hold interface values. No condition.
  A module that came in, opened. No condition.
-/
import Derived.Test.YtaeideimlagheaaGreatDoorCards
import Derived.Test.YtaeideimlagheaaGreatDoorTie
import Derived.Test.YtaeideimlagheaaGreatDoorEA
import Derived.ProofKit
import Derived.OpenShut
import Derived.ShutString
import Derived.ChangeOld
import Derived.Below
import Derived.Deep.DeepHandedRow
import Derived.Deep.DeepWitnessRowRef
import Derived.LaidMore
import Derived.Lib.SmallJoins
import Derived.Lib.LaidTab
import Derived.LaidSub
import Derived.ChangeMaps5
import Derived.Deep.Slices
namespace Go.Proofs.YtaeideimlagheaaGreatDoor
open Go.ChangeShapes Go.WideShapes Go.ChangeAt Go.RowKit
set_option linter.unusedSimpArgs false
set_option linter.unusedVariables false

theorem own : ownKnob Tryz.prog.godebug = none := by kernel_rfl
theorem laidOut : laidOutB Tryz.prog = true := by kernel_rfl
theorem cells23 : Tryz.prog.cellsOf 23 = 3 := by kernel_rfl
theorem maxLen_of {W : World} (h : W.ShapedOpen Tryz.prog) : Mx W := by
  obtain ⟨m, hm⟩ : ∃ m : Int, W.cell? ⟨0, 0, none⟩ = some (.int .i64 m) := Go.Proofs.cell_of_shapedOpen_int (zero := #[.int .i64 0]) (t := 3) h (of_decide_eq_true (by kernel_rfl)) (by kernel_rfl) rfl (by kernel_rfl) (by kernel_rfl) Tryz.underlying3
  exact ⟨World.block_lt_of_cell? W _ hm, m, hm⟩
set_option maxRecDepth 100000 in
theorem one3 (f0 f1 f2 : Field) (h : Tryz.prog.underlying 23 = some (.struct #[f0, f1, f2])) : f0.type = 3 ∧ f1.type = 3 ∧ f2.type = 3 := by
  have := Tryz.underlying23.symm.trans h
  simp only [Option.some.injEq, TypeDesc.struct.injEq] at this
  have h0 := congrArg (fun x : Array Field => x.toList) this
  simp at h0
  obtain ⟨h0, h1, h2⟩ := h0
  subst h0 h1 h2
  exact ⟨rfl, rfl, rfl⟩
set_option maxRecDepth 100000 in
/-- A VERSION THAT CAME IN, by value -/
theorem open_vv {H : Type} {enc : TypeId × Value → H} {W : World} {base : Nat} {sp : Nat → Bool} {v : Value} {d : DataW H} {p : List MemPlace}
    (hv : Value.okWide Tryz.prog W .any base 23 v) (h : DataW.Trod enc Tryz.prog W 0 sp true 23 v d p) : ∃ a b c : Int, v = vv a b c := by
  obtain ⟨c0, c1, c2, y0, y1, y2, m, rfl, rfl, rfl, hy0, hy1, hy2⟩ := Joins.open_agg3 Tryz.underlying23 (by kernel_rfl) cells23 hv h
  obtain ⟨x0, e0, rfl, w0⟩ := DataW.trod_int Tryz.underlying3 hy0
  obtain ⟨x1, e1, rfl, w1⟩ := DataW.trod_int Tryz.underlying3 hy1
  obtain ⟨x2, e2, rfl, w2⟩ := DataW.trod_int Tryz.underlying3 hy2
  simp at e0 e1 e2
  subst e0 e1 e2
  exact ⟨x0, x1, x2, rfl⟩
set_option maxRecDepth 100000 in
theorem open_i64 {H : Type} {enc : TypeId × Value → H} {W : World} {base : Nat} {sp : Nat → Bool} {v : Value} {d : DataW H} {p : List MemPlace}
    (hv : Value.okWide Tryz.prog W .any base 3 v) (h : DataW.Trod enc Tryz.prog W 0 sp true 3 v d p) : ∃ n : Int, v = .int .i64 n := by
  obtain ⟨n, rfl, _, _, _⟩ := open_int Tryz.underlying3 hv h
  exact ⟨n, rfl⟩

/-- a world for the witnesses: what the door's run leaves, the pinned table as its text lays it -/
noncomputable def lw (os : Os) : World :=
  { World.doorLaid Tryz.prog 72 os with heap := (World.doorLaid Tryz.prog 72 os).heap.modify ((Tryz.prog.globalNamed "unicode/utf8.first").getD 0) fun
      | .cells _ t frozen => .cells (Go.Pinned.utf8FirstZ.map fun (n : Nat) => Value.int .u8 (n : Int)).toArray t frozen
      | o => o }
set_option maxRecDepth 100000 in
theorem lw_laid (os : Os) : laidMetH Tryz.prog Rows.manifestPathsRow.laid ((lw os).forCall (fun _ _ => 0) ⟨#[], #[.string ⟨#[]⟩, .string ⟨#[]⟩], []⟩).memory :=
  laidMetH_of_parts3 (fuel := 8) (laidMet_of_run' 8 (by kernel_rfl) (by kernel_rfl)) (by kernel_rfl) (by kernel_rfl)
end Go.Proofs.YtaeideimlagheaaGreatDoor
namespace Go.Proofs.YtaeideimlagheaaGreatDoor
open Go.ChangeShapes Go.WideShapes Go.ChangeAt Go.RowKit
set_option linter.unusedSimpArgs false
set_option linter.unusedVariables false
theorem gP10 : Tryz.prog.globalNamed "internal/strconv.uint64pow10" = some 3 := by kernel_rfl
theorem gP10T : (Tryz.prog.globals[3]?).map (·.type) = some 161 := by kernel_rfl
theorem cells161 : Tryz.prog.cellsOf 161 = 20 := by kernel_rfl
theorem cells128 : Tryz.prog.cellsOf 128 = 1 := by kernel_rfl
def pow10L : List Int := [1, 10, 100, 1000, 10000, 100000, 1000000, 10000000, 100000000, 1000000000, 10000000000, 100000000000, 1000000000000, 10000000000000, 100000000000000, 1000000000000000, 10000000000000000, 100000000000000000, 1000000000000000000, 10000000000000000000]
theorem pow10_eq : Lib.pow10Tab = pow10L := by decide +kernel
theorem keep_one (l : List (String × DataW Unit)) (a b c d e f g : DataW Unit)
    (h : l = [("math/bits.deBruijn32tab", a), ("math/bits.deBruijn64tab", b), ("internal/strconv.uint64pow10", c), ("unicode/utf8.acceptRanges", d), ("strconv.ErrRange", e), ("strconv.ErrSyntax", f), ("unicode/utf8.first", g)]) :
    l.filter (fun x => x.1 == "internal/strconv.uint64pow10") = [("internal/strconv.uint64pow10", c)] := by
  subst h
  simp
theorem p10_of {W : World} (h : laidMetH Tryz.prog Rows.manifestPathsRow.laid W) : P10 W := by
  have h1 := h.filter (fun x => x.1 == "internal/strconv.uint64pow10")
  rw [keep_one Rows.manifestPathsRow.laid _ _ _ _ _ _ _ rfl] at h1
  have h2 : Lib.TabIs Tryz.prog W "internal/strconv.uint64pow10" .u64 pow10L := Lib.tabIs_of_head (rest := []) gP10 gP10T Tryz.underlying161 Tryz.underlying128 cells128 cells161 h1
  unfold P10
  rw [pow10_eq]
  exact h2
end Go.Proofs.YtaeideimlagheaaGreatDoor
namespace Go.Proofs.YtaeideimlagheaaGreatDoor
open Go.ChangeShapes Go.WideShapes Go.ChangeAt Go.RowKit
set_option linter.unusedSimpArgs false
set_option linter.unusedVariables false
theorem gErrR : Tryz.prog.globalNamed "strconv.ErrRange" = some 5 := by kernel_rfl
theorem gErrS : Tryz.prog.globalNamed "strconv.ErrSyntax" = some 4 := by kernel_rfl
theorem gErrRT : (Tryz.prog.globals[5]?).map (·.type) = some 67 := by kernel_rfl
theorem gErrST : (Tryz.prog.globals[4]?).map (·.type) = some 67 := by kernel_rfl
theorem keep_err (n : String) (x : DataW Unit) (l : List (String × DataW Unit)) (a b c d e f g : DataW Unit)
    (h : l = [("math/bits.deBruijn32tab", a), ("math/bits.deBruijn64tab", b), ("internal/strconv.uint64pow10", c), ("unicode/utf8.acceptRanges", d), ("strconv.ErrRange", e), ("strconv.ErrSyntax", f), ("unicode/utf8.first", g)])
    (hx : (n = "strconv.ErrRange" ∧ x = e) ∨ (n = "strconv.ErrSyntax" ∧ x = f)) :
    l.filter (fun x => x.1 == n) = [(n, x)] := by
  subst h
  rcases hx with ⟨rfl, rfl⟩ | ⟨rfl, rfl⟩ <;> simp
theorem iface_cells {H : Type} {enc : TypeId × Value → H} {P : Program} {w : World} {b f : Nat} {sp : Nat → Bool} {held : Bool} {t : TypeId} {cs : List Value} {ms : Array (String × TypeId)} {r : DataW H × List MemPlace} (hi : P.underlying t = some (.interface ms))
    (h : DataW.trod enc P w b sp held f t cs = some r) : ∃ x, cs = [x] ∧ IsErr x := by
  cases f with
  | zero => simp [DataW.trod] at h
  | succ f =>
    unfold DataW.trod at h
    rw [hi] at h
    rcases cs with _ | ⟨x, _ | ⟨y, l⟩⟩
    · simp at h
    · refine ⟨x, rfl, ?_⟩
      unfold IsErr
      cases x <;> simp at h ⊢
    · cases x <;> simp at h
theorem iface_of_head {W : World} {n : String} {d : DataW Unit} {g : Nat} (hg : Tryz.prog.globalNamed n = some g) (hty : (Tryz.prog.globals[g]?).map (·.type) = some 67)
    (h : laidMet Tryz.prog [(n, d)] W) : g < W.heap.size ∧ ∃ v, W.cell? ⟨g, 0, none⟩ = some v ∧ IsErr v := by
  obtain ⟨ps, ⟨g', t', cs, fuel, p, q, hg', ht', hvar, hd, _, _⟩, _⟩ := h
  obtain rfl := Option.some.inj (hg.symm.trans hg')
  obtain rfl := Option.some.inj (hty.symm.trans ht')
  obtain ⟨x, hcs, hx⟩ := iface_cells Tryz.underlying67 hd
  have hc : W.cell? ⟨g, 0, none⟩ = some x := by
    have e : cs = #[x] := by cases cs; simp_all
    subst e
    simpa using World.var?_cell hg hvar 0
  exact ⟨World.block_lt_of_cell? W _ hc, x, hc, hx⟩
theorem er_of {W : World} (h : laidMetH Tryz.prog Rows.manifestPathsRow.laid W) : Er W := by
  have h1 := h.filter (fun x => x.1 == "strconv.ErrSyntax")
  have h2 := h.filter (fun x => x.1 == "strconv.ErrRange")
  rw [keep_err "strconv.ErrSyntax" _ Rows.manifestPathsRow.laid _ _ _ _ _ _ _ rfl (.inr ⟨rfl, rfl⟩)] at h1
  rw [keep_err "strconv.ErrRange" _ Rows.manifestPathsRow.laid _ _ _ _ _ _ _ rfl (.inl ⟨rfl, rfl⟩)] at h2
  have k1 := iface_of_head gErrS gErrST h1
  have k2 := iface_of_head gErrR gErrRT h2
  exact ⟨k2.1, k1.2, k2.2⟩
theorem p10_of' {W : World} (h : laidMetH Tryz.prog Rows.manifestPathsRow.laid W) : P10 W := p10_of h
end Go.Proofs.YtaeideimlagheaaGreatDoor
namespace Go.Proofs.YtaeideimlagheaaGreatDoor
open Go.ChangeShapes Go.WideShapes Go.ChangeAt Go.RowKit
set_option linter.unusedSimpArgs false
set_option linter.unusedVariables false
theorem cells25 : Tryz.prog.cellsOf 25 = 4 := by kernel_rfl
theorem cells9 : Tryz.prog.cellsOf 9 = 1 := by kernel_rfl
theorem cells3 : Tryz.prog.cellsOf 3 = 1 := by kernel_rfl
set_option maxRecDepth 100000 in
theorem trod_vv {H : Type} {enc : TypeId × Value → H} {W : World} {base f : Nat} {sp : Nat → Bool} {held : Bool} {cs : List Value} {y : DataW H × List MemPlace} (h : DataW.trod enc Tryz.prog W base sp held f 23 cs = some y) :
    ∃ a b c : Int, cs = [.int .i64 a, .int .i64 b, .int .i64 c] := by
  obtain ⟨y0, y1, y2, n, _, hl, h0, h1, h2⟩ := Go.Deep.trod_struct3 Tryz.underlying23 h
  rw [cells23] at hl
  match cs, hl with
  | [c0, c1, c2], _ =>
    simp only [cells3, List.drop_zero, List.drop_succ_cons, List.take_succ_cons, List.take_zero] at h0 h1 h2
    obtain ⟨x0, e0, _⟩ := DataW.trod_int Tryz.underlying3 h0
    obtain ⟨x1, e1, _⟩ := DataW.trod_int Tryz.underlying3 h1
    obtain ⟨x2, e2, _⟩ := DataW.trod_int Tryz.underlying3 h2
    simp at e0 e1 e2
    exact ⟨x0, x1, x2, by rw [e0, e1, e2]⟩
set_option maxRecDepth 100000 in
theorem trod_md {H : Type} {enc : TypeId × Value → H} {W : World} {base f : Nat} {sp : Nat → Bool} {held : Bool} {cs : List Value} {y : DataW H × List MemPlace} (h : DataW.trod enc Tryz.prog W base sp held f 25 cs = some y) :
    ∃ x : Md, cs = mc x := by
  obtain ⟨y0, y1, n, _, hl, h0, h1⟩ := trod_struct2 Tryz.underlying25 h
  rw [cells25] at hl
  match cs, hl with
  | [c0, c1, c2, c3], _ =>
    simp only [cells9, cells23, List.drop_zero, List.drop_succ_cons, List.take_succ_cons, List.take_zero] at h0 h1
    obtain ⟨s, e0, _⟩ := DataW.trod_string Tryz.underlying9 h0
    obtain ⟨a, b, c, e1⟩ := trod_vv h1
    simp at e0 e1
    obtain ⟨rfl, rfl, rfl⟩ := e1
    exact ⟨(s, a, b, c), by rw [e0]; rfl⟩
set_option maxRecDepth 100000 in
/-- A MODULE THAT CAME IN, by value -/
theorem open_md {H : Type} {enc : TypeId × Value → H} {W : World} {base : Nat} {sp : Nat → Bool} {v : Value} {d : DataW H} {p : List MemPlace}
    (hv : Value.okWide Tryz.prog W .any base 25 v) (h : DataW.Trod enc Tryz.prog W 0 sp true 25 v d p) : ∃ x : Md, v = md x := by
  obtain ⟨cs, rfl, hsz⟩ := okWide_struct Tryz.underlying25 hv
  obtain ⟨fuel, hf⟩ := h
  obtain ⟨x, hx⟩ := trod_md hf
  refine ⟨x, ?_⟩
  have : cs.toList = mc x := hx
  rw [show cs = (mc x).toArray by rw [← this]]
  rfl
end Go.Proofs.YtaeideimlagheaaGreatDoor
namespace Go.Proofs.YtaeideimlagheaaGreatDoor
open Go.ChangeShapes Go.WideShapes Go.ChangeAt Go.RowKit
set_option linter.unusedSimpArgs false
set_option linter.unusedVariables false
set_option maxRecDepth 100000 in
theorem trod_md' {H : Type} {enc : TypeId × Value → H} {W : World} {base f : Nat} {sp : Nat → Bool} {held : Bool} {cs : List Value} {y : DataW H × List MemPlace} (h : DataW.trod enc Tryz.prog W base sp held f 25 cs = some y) :
    ∃ (x : Md) (t : DataW H), cs = mc x ∧ y.1 = .agg [.lit (.string x.1.data.toList), t] := by
  obtain ⟨y0, y1, n, hy, hl, h0, h1⟩ := trod_struct2 Tryz.underlying25 h
  rw [cells25] at hl
  match cs, hl with
  | [c0, c1, c2, c3], _ =>
    simp only [cells9, cells23, List.drop_zero, List.drop_succ_cons, List.take_succ_cons, List.take_zero] at h0 h1
    obtain ⟨s, e0, ey, _⟩ := DataW.trod_string Tryz.underlying9 h0
    obtain ⟨a, b, c, e1⟩ := trod_vv h1
    simp at e0 e1
    obtain ⟨rfl, rfl, rfl⟩ := e1
    exact ⟨(s, a, b, c), y1.1, by rw [e0]; rfl, by rw [hy, ey]⟩
theorem add_none (b o n : Nat) : (⟨b, o, none⟩ : Addr).add n = ⟨b, o + n, none⟩ := by
  unfold Addr.add
  split
  · next h => subst h; rfl
  · rfl
theorem spot_none {W : World} {a : Addr} {v : Value} (h : W.cell? a = some v) : a = ⟨a.block, a.off, none⟩ := by
  obtain ⟨b, o, s⟩ := a
  cases s with
  | none => rfl
  | some x =>
    exfalso
    unfold World.cell? at h
    split at h <;> simp at h
set_option maxRecDepth 100000 in
/-- A SLICE OF MODULES THAT CAME IN -/
theorem open_mods {H : Type} {enc : TypeId × Value → H} {W : World} {base : Nat} {v : Value} {d : DataW H} {p : List MemPlace}
    (hv : Value.okWide Tryz.prog W .any base 26 v) (h : DataW.Trod enc Tryz.prog W 0 (fun _ => true) true 26 v d p) :
    ∃ (A : Option Addr) (c : Nat) (l : List Md), v = .slice A l.length c ∧ RM W W.heap.size A l ∧ (l = [] ∨ ∃ elems spare, d = .slice elems spare ∧ ∀ x ∈ l, ∃ t, DataW.agg [.lit (.string x.1.data.toList), t] ∈ elems) := by
  obtain ⟨A0, l0, k0, rfl⟩ := okWide_slice Tryz.underlying26 hv
  obtain ⟨fuel, hf⟩ := h
  rcases Deep.open_slice Tryz.underlying26 hf with ⟨h0, _⟩ | ⟨a, len, cap, m, n, D, Pl, hcs, hb, hl, hm, hmm, hx, hi⟩
  · have e : (Value.slice A0 l0 k0) = .slice none 0 0 := by simpa [Value.cells] using h0
    injection e with e1 e2 e3
    subst e1 e2 e3
    exact ⟨none, 0, [], rfl, rm_nil _ _ _, .inl rfl⟩
  · have e : (Value.slice A0 l0 k0) = .slice (some a) len cap := by simpa [Value.cells] using hcs
    injection e with e1 e2 e3
    subst e1 e2 e3
    have hmm' : m = k0 := by simpa using hmm
    subst hmm'
    have hall : ∀ i : Nat, ∃ x : Md, i < l0 → (∃ t, D i = .agg [.lit (.string x.1.data.toList), t]) ∧ ∀ c u, (mc x)[c]? = some u → W.cell? ((a.add (i * 4)).add c) = some u := by
      intro i
      by_cases hlt : i < l0
      · obtain ⟨cs', hc, ht⟩ := hi i (by omega)
        obtain ⟨x, t, rfl, hy⟩ := trod_md' ht
        rw [cells25] at hc
        obtain ⟨_, _, hat⟩ := World.cells?_some hc
        refine ⟨x, fun _ => ⟨⟨t, hy⟩, fun c u hu => ?_⟩⟩
        have hc4 : c < 4 := by
          have := (List.getElem?_eq_some_iff.1 hu).1
          simpa [mc] using this
        exact (hat c hc4).trans hu
      · exact ⟨(⟨#[]⟩, 0, 0, 0), fun h => absurd h hlt⟩
    obtain ⟨F, hch⟩ := Classical.axiomOfChoice hall
    by_cases h0 : l0 = 0
    · subst h0
      exact ⟨some a, m, [], rfl, rm_nil _ _ _, .inl rfl⟩
    have ha : a = ⟨a.block, a.off, none⟩ := by
      have := (hch 0 (by omega)).2 0 (.string (F 0).1) rfl
      rw [Nat.zero_mul] at this
      exact spot_none (by simpa [Addr.add] using this)
    obtain ⟨b, o, sp⟩ := a
    simp only [Addr.mk.injEq, true_and] at ha
    subst ha
    refine ⟨some ⟨b, o, none⟩, m, (List.range l0).map F, by simp, ⟨fun k hk => ?_⟩, .inr ⟨_, _, (Prod.mk.inj hx).1, fun x hx' => ?_⟩⟩
    · have hkl : k < l0 := by simpa using hk
      have hc := (hch k hkl).2
      refine ⟨b, o, rfl, ?_, fun c u hu => ?_⟩
      · have h1 := hc 0 (.string (F k).1) rfl
        rw [add_none, add_none] at h1
        exact World.block_lt_of_cell? W _ h1
      · have h1 := hc c u (by simpa using hu)
        rwa [add_none, add_none] at h1
    · obtain ⟨k, hk, rfl⟩ := List.mem_map.1 hx'
      have hkl : k < l0 := by simpa using hk
      obtain ⟨t, ht⟩ := (hch k hkl).1
      exact ⟨t, List.mem_map.2 ⟨k, hk, ht⟩⟩
/-- what a module's path weighs -/
theorem weight_md {H : Type} (bs : List UInt8) (t : DataW H) : bs.length ∈ DataW.weights Tryz.prog 25 (.agg [.lit (.string bs), t]) := by
  unfold DataW.weights
  rw [Tryz.underlying25]
  simp [DataW.weightsEach, DataW.weights]
theorem weight_all {H : Type} {e : TypeId} {d : DataW H} {n : Nat} : ∀ {l : List (DataW H)}, d ∈ l → n ∈ DataW.weights Tryz.prog e d → n ∈ DataW.weightsAll Tryz.prog e l
  | x :: r, h, hn => by
    rw [DataW.weightsAll, List.mem_append]
    rcases List.mem_cons.1 h with rfl | h
    · exact .inl hn
    · exact .inr (weight_all h hn)
theorem weight_mods {H : Type} {elems spare : List (DataW H)} {d : DataW H} {n : Nat} (hd : d ∈ elems) (hn : n ∈ DataW.weights Tryz.prog 25 d) : n ∈ DataW.weights Tryz.prog 26 (.slice elems spare) := by
  unfold DataW.weights
  rw [Tryz.underlying26]
  simp only [List.mem_cons, List.mem_append]
  exact .inr (.inl (weight_all hd hn))
theorem sized_two {H : Type} {ts : List TypeId} {d0 d1 : DataW H} {gs : List (DataW H)} (h : (DataW.weightsEach Tryz.prog (26 :: 9 :: ts) (d0 :: d1 :: gs)).all (· ≤ reachBytes) = true) :
    (∀ n ∈ DataW.weights Tryz.prog 26 d0, n ≤ reachBytes) ∧ ∀ n ∈ DataW.weights Tryz.prog 9 d1, n ≤ reachBytes := by
  simp only [DataW.weightsEach, List.all_append, Bool.and_eq_true, List.all_eq_true, decide_eq_true_eq] at h
  exact ⟨fun n hn => by simpa using h.1 n hn, fun n hn => by simpa using h.2.1 n hn⟩
theorem str_data {H : Type} {enc : TypeId × Value → H} {W : World} {base : Nat} {sp : Nat → Bool} {held : Bool} {s : ByteArray} {d : DataW H} {p : List MemPlace} (h : DataW.Trod enc Tryz.prog W base sp held 9 (.string s) d p) : d = .lit (.string s.data.toList) := by
  obtain ⟨fuel, hf⟩ := h
  obtain ⟨s', e, hx, _⟩ := DataW.trod_string Tryz.underlying9 hf
  have e : s = s' := by simpa [Value.cells] using e
  subst e
  simpa using (Prod.mk.inj hx).1
theorem weight_str {H : Type} (bs : List UInt8) : bs.length ∈ DataW.weights (H := H) Tryz.prog 9 (.lit (.string bs)) := by simp [DataW.weights]
theorem reach_num : reachBytes = 140737488351232 := rfl
end Go.Proofs.YtaeideimlagheaaGreatDoor
namespace Go.Proofs.YtaeideimlagheaaGreatDoor
open Go.ChangeShapes Go.WideShapes Go.ChangeAt Go.RowKit
set_option linter.unusedSimpArgs false
set_option linter.unusedVariables false
set_option maxRecDepth 100000 in
theorem mods_trod {H : Type} {enc : TypeId × Value → H} {W : World} {A0 : Option Addr} {l0 k0 fuel : Nat} {y : DataW H × List MemPlace}
    (hf : DataW.trod enc Tryz.prog W 0 (fun _ => true) true fuel 26 [.slice A0 l0 k0] = some y) :
    ∃ l : List Md, l.length = l0 ∧ RM W W.heap.size A0 l ∧ (l = [] ∨ ∃ elems spare, y.1 = .slice elems spare ∧ ∀ x ∈ l, ∃ t, DataW.agg [.lit (.string x.1.data.toList), t] ∈ elems) := by
  rcases Deep.open_slice Tryz.underlying26 hf with ⟨h0, _⟩ | ⟨a, len, cap, m, n, D, Pl, hcs, hb, hl, hm, hmm, hx, hi⟩
  · have e : (Value.slice A0 l0 k0) = .slice none 0 0 := by simpa using h0
    injection e with e1 e2 e3
    subst e1 e2 e3
    exact ⟨[], rfl, rm_nil _ _ _, .inl rfl⟩
  · have e : (Value.slice A0 l0 k0) = .slice (some a) len cap := by simpa using hcs
    injection e with e1 e2 e3
    subst e1 e2 e3
    have hmm' : m = k0 := by simpa using hmm
    subst hmm'
    have hall : ∀ i : Nat, ∃ x : Md, i < l0 → (∃ t, D i = .agg [.lit (.string x.1.data.toList), t]) ∧ ∀ c u, (mc x)[c]? = some u → W.cell? ((a.add (i * 4)).add c) = some u := by
      intro i
      by_cases hlt : i < l0
      · obtain ⟨cs', hc, ht⟩ := hi i (by omega)
        obtain ⟨x, t, rfl, hy⟩ := trod_md' ht
        rw [cells25] at hc
        obtain ⟨_, _, hat⟩ := World.cells?_some hc
        refine ⟨x, fun _ => ⟨⟨t, hy⟩, fun c u hu => ?_⟩⟩
        have hc4 : c < 4 := by
          have := (List.getElem?_eq_some_iff.1 hu).1
          simpa [mc] using this
        exact (hat c hc4).trans hu
      · exact ⟨(⟨#[]⟩, 0, 0, 0), fun h => absurd h hlt⟩
    obtain ⟨F, hch⟩ := Classical.axiomOfChoice hall
    by_cases h0 : l0 = 0
    · subst h0
      exact ⟨[], rfl, rm_nil _ _ _, .inl rfl⟩
    have ha : a = ⟨a.block, a.off, none⟩ := by
      have := (hch 0 (by omega)).2 0 (.string (F 0).1) rfl
      rw [Nat.zero_mul] at this
      exact spot_none (by simpa [Addr.add] using this)
    obtain ⟨b, o, sp⟩ := a
    simp only [Addr.mk.injEq, true_and] at ha
    subst ha
    refine ⟨(List.range l0).map F, by simp, ⟨fun k hk => ?_⟩, .inr ⟨_, _, congrArg Prod.fst hx, fun x hx' => ?_⟩⟩
    · have hkl : k < l0 := by simpa using hk
      have hc := (hch k hkl).2
      refine ⟨b, o, rfl, ?_, fun c u hu => ?_⟩
      · have h1 := hc 0 (.string (F k).1) rfl
        rw [add_none, add_none] at h1
        exact World.block_lt_of_cell? W _ h1
      · have h1 := hc c u (by simpa using hu)
        rwa [add_none, add_none] at h1
    · obtain ⟨k, hk, rfl⟩ := List.mem_map.1 hx'
      have hkl : k < l0 := by simpa using hk
      obtain ⟨t, ht⟩ := (hch k hkl).1
      exact ⟨t, List.mem_map.2 ⟨k, hk, ht⟩⟩
theorem cells28 : Tryz.prog.cellsOf 28 = 5 := by kernel_rfl
theorem cells26 : Tryz.prog.cellsOf 26 = 1 := by kernel_rfl
theorem types28 : Tryz.prog.cellTypes Tryz.prog.depth 28 = some [9, 3, 3, 3, 26] := by kernel_rfl
set_option maxRecDepth 100000 in
/-- A MANIFEST THAT CAME IN, by value -/
theorem open_mfst {H : Type} {enc : TypeId × Value → H} {W : World} {base : Nat} {v : Value} {d : DataW H} {p : List MemPlace}
    (hv : Value.okWide Tryz.prog W .any base 28 v) (h : DataW.Trod enc Tryz.prog W 0 (fun _ => true) true 28 v d p) :
    ∃ (x : Md) (A : Option Addr) (c : Nat) (l : List Md) (t d' : DataW H), v = mf x A l.length c ∧ RM W W.heap.size A l ∧ Plain A c ∧ d = .agg [.agg [.lit (.string x.1.data.toList), t], d'] ∧
      (l = [] ∨ ∃ elems spare, d' = .slice elems spare ∧ ∀ y ∈ l, ∃ t, DataW.agg [.lit (.string y.1.data.toList), t] ∈ elems) := by
  have hv' := hv
  simp only [Value.okWide, Tryz.underlying28] at hv'
  obtain ⟨cs, rfl, hsz, ts, hts, _, hrow⟩ := hv'
  obtain rfl := Option.some.inj (types28.symm.trans hts)
  rw [cells28] at hsz
  obtain ⟨fuel, hf⟩ := h
  obtain ⟨y0, y1, n, hy, _, h0, h1⟩ := trod_struct2 Tryz.underlying28 hf
  obtain ⟨cl⟩ := cs
  match cl, hsz with
  | [c0, c1, c2, c3, c4], _ =>
    simp only [Value.cells, cells25, cells26, List.drop_zero, List.drop_succ_cons, List.take_succ_cons, List.take_zero] at h0 h1
    obtain ⟨x, t, hx, hyx⟩ := trod_md' h0
    obtain ⟨A, l0, k0, e4⟩ := Joins.slice_form Tryz.underlying26 h1
    simp at e4
    subst e4
    obtain ⟨l, rfl, hR, hd⟩ := mods_trod h1
    obtain ⟨u, hu, hok⟩ := hrow 4 (.slice A l.length k0) rfl
    have hu : u = 26 := by simpa using hu.symm
    subst hu
    have hpl : Plain A k0 := by
      cases A with
      | none =>
        simp only [Cell.okWide, Cell.ok, Tryz.underlying26] at hok
        left
        refine ⟨rfl, ?_⟩
        split at hok <;> simp_all
      | some a =>
        simp only [Cell.okWide, Cell.ok, Tryz.underlying26] at hok
        obtain ⟨b, o, sp⟩ := a
        obtain ⟨_, _, _, hs, _⟩ := hok
        simp at hs
        subst hs
        exact .inr ⟨b, o, rfl⟩
    have hmc : [c0, c1, c2, c3] = mc x := by simpa using hx
    simp only [mc, List.cons.injEq, and_true] at hmc
    obtain ⟨rfl, rfl, rfl, rfl⟩ := hmc
    exact ⟨x, A, k0, l, t, y1.1, rfl, hR, hpl, by rw [← hyx]; exact congrArg Prod.fst hy, hd⟩
theorem bulk_mem {H : Type} {d : DataW H} : ∀ {l : List (DataW H)}, d ∈ l → Rows.uptoBulk d ≤ Rows.uptoBulkAll l
  | x :: r, h => by
    rw [Rows.uptoBulkAll]
    rcases List.mem_cons.1 h with rfl | h
    · omega
    · have := bulk_mem h; omega
theorem bulk_md {H : Type} (bs : List UInt8) (t : DataW H) : bs.length ≤ Rows.uptoBulk (.agg [.lit (.string bs), t]) := by
  simp [Rows.uptoBulk, Rows.uptoBulkAll]; omega
theorem bulk_mods {H : Type} {elems spare : List (DataW H)} {d : DataW H} (hd : d ∈ elems) : Rows.uptoBulk d ≤ Rows.uptoBulk (.slice elems spare) := by
  have := bulk_mem hd
  simp [Rows.uptoBulk]; omega
theorem bulk_agg {H : Type} {parts : List (DataW H)} {d : DataW H} (hd : d ∈ parts) : Rows.uptoBulk d ≤ Rows.uptoBulk (.agg parts) := by
  have := bulk_mem hd
  simp [Rows.uptoBulk]; omega
end Go.Proofs.YtaeideimlagheaaGreatDoor
