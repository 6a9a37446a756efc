/-
  The map of List: its first entry. No condition.
-/
import Derived.Test.YthlcdimofagmfaaGreatDoorRe
namespace Go.Proofs.YthlcdimofagmfaaGreatDoor
open Go.RowKit Go.Sort Go.Lib Go.Shelf Go.Proofs
set_option linter.unusedSimpArgs false
set_option linter.unusedVariables false
def putMap (w : World) (b : Nat) (es : List MapEntry) (clock : Nat) : World := { w with heap := w.heap.setIfInBounds b (.map es.toArray clock) }
theorem run_getObj {w : World} {b : Nat} {es : Array MapEntry} {c : Nat} (h : w.heap[b]? = some (.map es c)) : (getObj b).run Tryz.prog w = .ok (.map es c) w := by
  simp [getObj, Sem.run, h]
abbrev mdk (x : Md) : Value := .agg #[.string x.1, .int .i64 x.2.1, .int .i64 x.2.2.1, .int .i64 x.2.2.2]
theorem chk_leaf (em : Bool) (n : Nat) (s : ByteArray) (w : World) : (Instr.checkKey em (n + 1) 9 (.string s)).run Tryz.prog w = .ok () w := by
  rw [Instr.checkKey, Sem.run_bind, run_underlying Tryz.underlying9, Result.andThen_ok]; rfl
theorem chk_int (em : Bool) (n : Nat) (i : Int) (w : World) : (Instr.checkKey em (n + 1) 3 (.int .i64 i)).run Tryz.prog w = .ok () w := by
  rw [Instr.checkKey, Sem.run_bind, run_underlying Tryz.underlying3, Result.andThen_ok]; rfl
theorem chk32 (em : Bool) (n : Nat) (a b c : Int) (w : World) : (Instr.checkKey em (n + 1 + 1) 32 (.agg #[.int .i64 a, .int .i64 b, .int .i64 c])).run Tryz.prog w = .ok () w := by
  rw [Instr.checkKey, Sem.run_bind, run_underlying Tryz.underlying32, Result.andThen_ok]
  simp [go_sem, part, chk_int]
theorem chk34 (em : Bool) (x : Md) (w : World) : (Instr.checkKey em 10000 34 (mdk x)).run Tryz.prog w = .ok () w := by
  rw [show (10000 : Nat) = 9997 + 1 + 1 + 1 from rfl]
  generalize 9997 = n
  rw [Instr.checkKey, Sem.run_bind, run_underlying Tryz.underlying34, Result.andThen_ok]
  simp [go_sem, part, chk_leaf, chk32]
theorem upd70 {w : World} {b : Nat} {clock : Nat} (h : w.heap[b]? = some (.map #[] clock)) (x : Md) (v : Value) :
    (Instr.mapUpdate 70 (.map (some b)) (mdk x) v).run Tryz.prog w = .ok () (putMap w b [⟨mdk x, v, clock⟩] (clock + 1)) := by
  have hf : (Instr.findKey 34 (mdk x) []).run Tryz.prog w = .ok none w := by
    simp only [Instr.findKey, Sem.run_bind, run_underlying Tryz.underlying34, Result.andThen_ok]; rfl
  simp only [Instr.mapUpdate, Sem.run_bind, run_underlying Tryz.underlying70, Result.andThen_ok, run_getObj h, chk34, hf]
  unfold setObj
  simp only [Sem.run, h]
  rfl
theorem eq34 (x : Md) (w : World) : (Op.equal 34 (mdk x) (mdk x)).run Tryz.prog w = .ok true w := by
  show (Op.equalIn 10000 34 (md x) (md x)).run Tryz.prog w = _
  rw [eqMd]; simp
theorem look70 {w : World} {b : Nat} {clock c : Nat} {x : Md} {v : Value} (h : w.heap[b]? = some (.map #[⟨mdk x, v, c⟩] clock)) :
    (Instr.lookup 70 (.map (some b)) (mdk x) false).run Tryz.prog w = .ok v w := by
  have hf : (Instr.findKey 34 (mdk x) [⟨mdk x, v, c⟩]).run Tryz.prog w = .ok (some (0, v)) w := by
    simp only [Instr.findKey, Sem.run_bind, run_underlying Tryz.underlying34, Result.andThen_ok]
    show (Instr.findAsking 34 (mdk x) [⟨mdk x, v, c⟩]).run Tryz.prog w = _
    simp only [Instr.findAsking, Sem.run_bind, eq34, Result.andThen_ok]; rfl
  simp only [Instr.lookup, Sem.run_bind, run_underlying Tryz.underlying70, Result.andThen_ok, run_getObj h, Sem.run_pure, chk34, hf]
  rfl
end Go.Proofs.YthlcdimofagmfaaGreatDoor
