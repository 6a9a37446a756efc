/-
  What the example's comparison calls: reversed, and the map of places. No condition but on the cells.
-/
import Derived.Test.YtlanjfjmffcgdaaN
import Derived.Laws.IdiomCopy
namespace Go.Proofs.Ytlanjfjmffcgdaa
open Go.RowKit
set_option linter.unusedSimpArgs false
set_option linter.unusedVariables false
theorem below_setCells {B b : Nat} {w0 : World} (hB : B ≤ b) : ∀ (vs : List Value) (o : Nat) (w : World), Below B w0 w → Below B w0 (w.setCells b o vs)
  | [], _, _, h => h
  | v :: vs, o, w, h => below_setCells hB vs (o + 1) _ (h.setCell (p := ⟨b, o, none⟩) hB v)
def RevP (w : World) (zs : List Int) (e : Ending) (w' : World) : Prop :=
  ∃ g cap, e = .returned (.slice (some ⟨g, 0, none⟩) zs.length cap) ∧ w.heap.size ≤ g ∧ g < w'.heap.size ∧ (∀ j (h : j < zs.length), w'.cell? ⟨g, j, none⟩ = some (.int .i64 (zs.reverse.getD j 0))) ∧ Below w.heap.size w w'
set_option maxRecDepth 100000 in
set_option maxHeartbeats 4000000 in
theorem reversed_any (b off c : Nat) (zs : List Int) (w : World) (h0 : 0 < zs.length) (h1 : zs.length ≤ 1000) (hc : ∀ j, j < zs.length → w.cell? ⟨b, off + j, none⟩ = some (.int .i64 (zs.getD j 0))) :
    Calls Try.prog 43 #[.slice (some ⟨b, off, none⟩) zs.length c] w (RevP w zs) := by
  have C0 := Lib.hid (Try.slices_Clone_int b off zs.length c zs w (Nat.le_refl _) (by omega) hc)
  clear hc
  obtain ⟨n, hn⟩ : ∃ n, zs.length = n := ⟨_, rfl⟩
  have HN := Lib.hid hn
  rw [hn] at C0 h0 h1 ⊢
  clear hn
  go_enter Try.func43, Try.ntmps43
  go_wp2_with fail
  refine C0.out.mono ?_
  rintro e w1 ⟨v, rfl, hown, _, hb1⟩
  obtain ⟨g, cap, rfl⟩ := Joins.ownsRow_form hown (by omega)
  have hg := hown.lt g rfl
  have C1 := Lib.hid (Try.slices_Reverse_int_cells g 0 n cap zs w1 (by rw [HN.out]; exact Nat.le_refl _) (by omega) (fun j hj => by
    have hjn : j < n := by have := HN.out; omega
    rw [Nat.zero_add, hown.cellAt j (by simp; omega), List.getElem?_map, List.getElem?_take_of_lt hjn]
    simp [List.getD_eq_getElem?_getD, List.getElem?_eq_getElem hj]) (fun j hj => by rw [Nat.zero_add]; exact hown.frozenAt j))
  have HB1 := Lib.hid hb1
  have HCo : Hid (∀ j, j < n → (w1.cell? ⟨g, 0 + j, none⟩).isSome = true) := Lib.hid fun j hj => by
    rw [Nat.zero_add, hown.cellAt j (by simp; have := HN.out; omega), List.getElem?_map, List.getElem?_take_of_lt hj]
    simp [List.getElem?_eq_getElem (show j < zs.length by rw [HN.out]; exact hj)]
  clear hown hb1
  go_wp2_with fail
  refine C1.out.mono ?_
  rintro e w2 ⟨rfl, q, rfl⟩
  have HB2 := Lib.hid (below_setCells hg.1 ((zs.take n).reverse.map (Value.int .i64)) 0 _ (bdrewN HB1.out q))
  have HL : Hid (((zs.take n).reverse.map (Value.int .i64)).length = n) := Lib.hid (by simp [HN.out])
  have HC2 : Hid (∀ j (h : j < n), ((w1.drewN q).setCells g 0 ((zs.take n).reverse.map (Value.int .i64))).cell? ⟨g, j, none⟩ = some (.int .i64 (zs.reverse.getD j 0))) := Lib.hid fun j hj => by
    have := World.cell?_setCells_in g ((zs.take n).reverse.map (Value.int .i64)) 0 (w1.drewN q) (fun j hj => by rw [HL.out] at hj; exact HCo.out j hj) j (by rw [HL.out]; exact hj)
    rw [Nat.zero_add] at this
    rw [this]
    have ht : zs.take n = zs := by rw [← HN.out]; exact List.take_length
    simp only [ht, List.getElem_map]
    rw [List.getD_eq_getElem?_getD, List.getElem?_eq_getElem (by rw [List.length_reverse, HN.out]; exact hj)]
    rfl
  have HZ : Hid (g < ((w1.drewN q).setCells g 0 ((zs.take n).reverse.map (Value.int .i64))).heap.size) := Lib.hid (by
    have h := HC2.out 0 h0
    exact World.block_lt_of_cell? _ _ h)
  generalize (w1.drewN q).setCells g 0 ((zs.take n).reverse.map (Value.int .i64)) = w3 at *
  clear C1 C0 HCo HL
  go_wp2_with fail
  go_ret
  exact ⟨g, cap, by rw [HN.out]; rfl, hg.1, HZ.out, fun j hj => HC2.out j (by rw [← HN.out]; exact hj), HB2.out⟩
/-! ### the map of places -/
def MP (w : World) (b : Nat) (es : List MapEntry) (clock : Nat) : Prop := w.heap[b]? = some (.map es.toArray clock)
theorem MP.lt {w : World} {b : Nat} {es : List MapEntry} {clock : Nat} (h : MP w b es clock) : b < w.heap.size := (Array.getElem?_eq_some_iff.1 h).1
theorem MP.grown {w w' : World} {b : Nat} {es : List MapEntry} {clock : Nat} {r : Option Nat} (h : MP w b es clock) (hg : w.grownBy w' r) (hne : some b ≠ r) : MP w' b es clock := (hg.block b h.lt hne).trans h
theorem MP.below {w w' : World} {b : Nat} {es : List MapEntry} {clock : Nat} (h : MP w b es clock) (hb : Below w.heap.size w w') : MP w' b es clock := by
  unfold MP; rw [hb.block _ h.lt]; exact h
theorem run_getObj {w : World} {b : Nat} {es : Array MapEntry} {c : Nat} (h : w.heap[b]? = some (.map es c)) : (getObj b).run Try.prog w = .ok (.map es c) w := by
  simp [getObj, Sem.run, h]
theorem run_check3 (em : Bool) (key : Int) (w : World) : (Instr.checkKey em 10000 3 (.int .i64 key)).run Try.prog w = .ok () w := by
  rw [show (10000 : Nat) = 9999 + 1 from rfl, Instr.checkKey, Sem.run_bind, run_underlying Try.underlying3, Result.andThen_ok]; rfl
theorem run_find3 {key : Int} {es : List MapEntry} {r : Option (Nat × Value)} (w : World) (hf : Instr.findNow (.int .i64) (.int .i64 key) es 0 = some r) : (Instr.findKey 3 (.int .i64 key) es).run Try.prog w = .ok r w := by
  simp only [Instr.findKey, Sem.run_bind, run_underlying Try.underlying3, Result.andThen_ok, hf]; rfl
theorem look75 {w : World} {b : Nat} {es : List MapEntry} {clock : Nat} (h : MP w b es clock) (key : Int) (v : Value) (hv : (Instr.findNow (.int .i64) (.int .i64 key) es 0 = some none ∧ v = .slice none 0 0) ∨ ∃ i, Instr.findNow (.int .i64) (.int .i64 key) es 0 = some (some (i, v))) :
    (Instr.lookup 75 (.map (some b)) (.int .i64 key) false).run Try.prog w = .ok v w := by
  unfold MP at h
  rcases hv with ⟨hf, rfl⟩ | ⟨i, hf⟩
  · simp only [Instr.lookup, Sem.run_bind, run_underlying Try.underlying75, Result.andThen_ok, run_getObj h, Sem.run_pure, run_check3, run_find3 _ hf, Try.zeroValue76]
    rfl
  · simp only [Instr.lookup, Sem.run_bind, run_underlying Try.underlying75, Result.andThen_ok, run_getObj h, Sem.run_pure, run_check3, run_find3 _ hf]
    rfl
def putMap (w : World) (b : Nat) (es : List MapEntry) (clock : Nat) : World := { w with heap := w.heap.setIfInBounds b (.map es.toArray clock) }
theorem putMap_mp {w : World} {b : Nat} (h : b < w.heap.size) (es : List MapEntry) (clock : Nat) : MP (putMap w b es clock) b es clock := by
  unfold MP putMap; simp [h]
theorem putMap_gb (w : World) (b : Nat) (es : List MapEntry) (clock : Nat) : w.grownBy (putMap w b es clock) (some b) :=
  ⟨rfl, rfl, rfl, by simp [putMap], fun i _ hi => by
    have hne : b ≠ i := fun e => hi (by rw [e])
    simp [putMap, hne]⟩
theorem upd75 {w : World} {b : Nat} {es : List MapEntry} {clock : Nat} (h : MP w b es clock) (key : Int) (v : Value) (hf : Instr.findNow (.int .i64) (.int .i64 key) es 0 = some none) :
    (Instr.mapUpdate 75 (.map (some b)) (.int .i64 key) v).run Try.prog w = .ok () (putMap w b (es ++ [⟨.int .i64 key, v, clock⟩]) (clock + 1)) := by
  unfold MP at h
  simp only [Instr.mapUpdate, Sem.run_bind, run_underlying Try.underlying75, Result.andThen_ok, run_getObj h, run_check3, run_find3 _ hf]
  simp only [List.push_toArray]
  unfold setObj
  simp only [Sem.run, h]
  rfl
