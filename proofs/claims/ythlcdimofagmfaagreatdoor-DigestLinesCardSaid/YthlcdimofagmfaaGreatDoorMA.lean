/-
  The map of List: any entries. No condition.
-/
import Derived.Test.YthlcdimofagmfaaGreatDoorLC
namespace Go.Proofs.YthlcdimofagmfaaGreatDoor
open Go.RowKit Go.Sort Go.Lib Go.Shelf Go.Proofs
set_option linter.unusedSimpArgs false
set_option linter.unusedVariables false
/-- an entry: module, text, birth -/
abbrev En := Md × ByteArray × Nat
def ent (e : En) : MapEntry := ⟨mdk e.1, .string e.2.1, e.2.2⟩
def fnd (x : Md) : List En → Nat → Option (Nat × Value)
  | [], _ => none
  | e :: t, i => if x = e.1 then some (i, .string e.2.1) else fnd x t (i + 1)
theorem eqk (x y : Md) (w : World) : (Op.equal 34 (mdk x) (mdk y)).run Tryz.prog w = .ok (decide (x = y)) w := by
  show (Op.equalIn 10000 34 (md x) (md y)).run Tryz.prog w = _
  rw [eqMd]
theorem find_ask (x : Md) (w : World) : ∀ (es : List En) (i : Nat), (Instr.findAsking 34 (mdk x) (es.map ent) i).run Tryz.prog w = .ok (fnd x es i) w
  | [], i => rfl
  | e :: t, i => by
    rw [List.map_cons, Instr.findAsking, Sem.run_bind]
    show Result.andThen ((Op.equal 34 (mdk x) (mdk e.1)).run Tryz.prog w) _ = _
    rw [eqk, Result.andThen_ok]
    by_cases h : x = e.1
    · rw [if_pos (by simp [h])]; unfold fnd; rw [if_pos h]; rfl
    · rw [if_neg (by simp [h])]; unfold fnd; rw [if_neg h]; exact find_ask x w t (i + 1)
theorem find_key (x : Md) (es : List En) (w : World) : (Instr.findKey 34 (mdk x) (es.map ent)).run Tryz.prog w = .ok (fnd x es 0) w := by
  simp only [Instr.findKey, Sem.run_bind, run_underlying Tryz.underlying34, Result.andThen_ok]
  cases es with
  | nil => rfl
  | cons e t => exact find_ask x w (e :: t) 0
theorem fnd_none (x : Md) : ∀ (es : List En) (i : Nat), x ∉ es.map (·.1) → fnd x es i = none
  | [], _, _ => rfl
  | e :: t, i, h => by
    unfold fnd
    rw [if_neg (fun e' => h (by simp [e'])), fnd_none x t (i + 1) (fun h' => h (by simp at h' ⊢; exact .inr h'))]
theorem fnd_some (x : Md) : ∀ (es : List En) (i : Nat), x ∈ es.map (·.1) → ∃ j v, fnd x es i = some (i + j, v) ∧ ∃ e, es[j]? = some e ∧ e.1 = x ∧ v = .string e.2.1
  | [], _, h => by simp at h
  | e :: t, i, h => by
    unfold fnd
    by_cases hx : x = e.1
    · rw [if_pos hx]; exact ⟨0, _, rfl, e, rfl, hx.symm, rfl⟩
    · rw [if_neg hx]
      have ht : x ∈ t.map (·.1) := by
        rw [List.map_cons] at h
        rcases List.mem_cons.1 h with h | h
        · exact absurd h hx
        · exact h
      obtain ⟨j, v, h1, e', h2, h3, h4⟩ := fnd_some x t (i + 1) ht
      exact ⟨j + 1, v, by rw [h1, show i + 1 + j = i + (j + 1) by omega], e', by simpa using h2, h3, h4⟩
theorem same_mdk (x : Md) : Instr.sameBits 10000 (mdk x) (mdk x) = true := by
  rw [show (10000 : Nat) = 9998 + 1 + 1 from rfl]
  generalize 9998 = n
  simp [Instr.sameBits]
  obtain ⟨⟨d⟩, r⟩ := x
  exact beq_self_eq_true d
theorem stays (x : Md) (w : World) : (Instr.keyThatStays (mdk x) (mdk x)).run Tryz.prog w = .ok (mdk x) w := by
  unfold Instr.keyThatStays
  rw [if_pos (same_mdk x)]; rfl
/-- m[x] = T -/
theorem upd_any {w : World} {b : Nat} {es : List En} {clock : Nat} (h : w.heap[b]? = some (.map (es.map ent).toArray clock)) (x : Md) (T : ByteArray) :
    ∃ (es' : List En) (clock' : Nat), (Instr.mapUpdate 70 (.map (some b)) (mdk x) (.string T)).run Tryz.prog w = .ok () (putMap w b (es'.map ent) clock') ∧ (x ∉ es.map (·.1) → ∃ c, es' = es ++ [(x, T, c)]) ∧ (x ∈ es.map (·.1) → es'.map (·.1) = es.map (·.1)) := by
  by_cases hx : x ∈ es.map (·.1)
  · obtain ⟨j, v, hj, e, he, hex, _⟩ := fnd_some x es 0 hx
    rw [Nat.zero_add] at hj
    have hjl : j < es.length := (List.getElem?_eq_some_iff.1 he).1
    have hje : es[j] = e := (List.getElem?_eq_some_iff.1 he).2
    refine ⟨es.set j (x, T, e.2.2), clock, ?_, fun h => absurd hx h, fun _ => ?_⟩
    · have hf := find_key x es w
      rw [hj] at hf
      have hold : (((es.map ent).toArray[j]?).map (·.key)).getD (mdk x) = mdk x := by
        simp [he, ent, hex]
      have harr : ((es.map ent).toArray.modify j fun e => { e with key := mdk x, val := .string T }) = ((es.set j (x, T, e.2.2)).map ent).toArray := by
        apply Array.ext'
        simp only [Array.toList_modify, List.map_set]
        apply List.ext_getElem?
        intro i
        rw [List.getElem?_modify, List.getElem?_set]
        by_cases hij : j = i
        · subst hij
          simp [he, ent, hjl, hje]
        · simp [hij]
      simp only [Instr.mapUpdate, Sem.run_bind, run_underlying Tryz.underlying70, Result.andThen_ok, run_getObj h, chk34, hf, hold, stays, harr]
      unfold setObj
      simp only [Sem.run, h]
      rfl
    · apply List.ext_getElem?
      intro i
      rw [List.getElem?_map, List.getElem?_map, List.getElem?_set]
      by_cases hij : j = i
      · subst hij; rw [he]; simp [hjl, hex]
      · simp [hij]
  · refine ⟨es ++ [(x, T, clock)], clock + 1, ?_, fun _ => ⟨clock, rfl⟩, fun h => absurd h hx⟩
    have hf := find_key x es w
    rw [fnd_none x es 0 hx] at hf
    have harr : (es.map ent).toArray.push { key := mdk x, val := .string T, born := clock } = ((es ++ [(x, T, clock)]).map ent).toArray := by
      apply Array.ext'
      simp [ent]
    simp only [Instr.mapUpdate, Sem.run_bind, run_underlying Tryz.underlying70, Result.andThen_ok, run_getObj h, chk34, hf, harr]
    unfold setObj
    simp only [Sem.run, h]
    rfl
/-- m[x] -/
theorem look_any {w : World} {b : Nat} {es : List En} {clock : Nat} {x : Md} {T : ByteArray} (h : w.heap[b]? = some (.map (es.map ent).toArray clock)) {i : Nat} (hf : fnd x es 0 = some (i, .string T)) :
    (Instr.lookup 70 (.map (some b)) (mdk x) false).run Tryz.prog w = .ok (.string T) w := by
  have hk := find_key x es w
  rw [hf] at hk
  simp only [Instr.lookup, Sem.run_bind, run_underlying Tryz.underlying70, Result.andThen_ok, run_getObj h, Sem.run_pure, chk34, hk]
  rfl
end Go.Proofs.YthlcdimofagmfaaGreatDoor
