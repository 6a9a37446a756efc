/-
  The map of List: its first entry. No condition.
-/
import Derived.Test.YthlcdimofagmfaaGreatDoorRe
namespace Go.Proofs.YthlcdimofagmfaaGreatDoor
open Go.RowKit Go.Sort Go.Lib Go.Shelf Go.Proofs
set_option linter.unusedSimpArgs false
set_option linter.unusedVariables false
def putMap (w : World) (b : Nat) (es : List MapEntry) (clock : Nat) : World := { w with heap := w.heap.setIfInBounds b (.map es.toArray clock) }
theorem run_getObj {w : World} {b : Nat} {es : Array MapEntry} {c : Nat} (h : w.heap[b]? = some (.map es c)) : (getObj b).run Tryz.prog w = .ok (.map es c) w := by
  simp [getObj, Sem.run, h]
abbrev mdk (x : Md) : Value := .agg #[.string x.1, .int .i64 x.2.1, .int .i64 x.2.2.1, .int .i64 x.2.2.2]
theorem chk_leaf (em : Bool) (n : Nat) (s : ByteArray) (w : World) : (Instr.checkKey em (n + 1) 9 (.string s)).run Tryz.prog w = .ok () w := by
  rw [Instr.checkKey, Sem.run_bind, run_underlying Tryz.underlying9, Result.andThen_ok]; rfl
theorem chk_int (em : Bool) (n : Nat) (i : Int) (w : World) : (Instr.checkKey em (n + 1) 3 (.int .i64 i)).run Tryz.prog w = .ok () w := by
  rw [Instr.checkKey, Sem.run_bind, run_underlying Tryz.underlying3, Result.andThen_ok]; rfl
theorem chk32 (em : Bool) (n : Nat) (a b c : Int) (w : World) : (Instr.checkKey em (n + 1 + 1) 32 (.agg #[.int .i64 a, .int .i64 b, .int .i64 c])).run Tryz.prog w = .ok () w := by
  rw [Instr.checkKey, Sem.run_bind, run_underlying Tryz.underlying32, Result.andThen_ok]
  simp [go_sem, part, chk_int]
theorem chk34 (em : Bool) (x : Md) (w : World) : (Instr.checkKey em 10000 34 (mdk x)).run Tryz.prog w = .ok () w := by
  rw [show (10000 : Nat) = 9997 + 1 + 1 + 1 from rfl]
  generalize 9997 = n
  rw [Instr.checkKey, Sem.run_bind, run_underlying Tryz.underlying34, Result.andThen_ok]
  simp [go_sem, part, chk_leaf, chk32]
theorem upd70 {w : World} {b : Nat} {clock : Nat} (h : w.heap[b]? = some (.map #[] clock)) (x : Md) (v : Value) :
    (Instr.mapUpdate 70 (.map (some b)) (mdk x) v).run Tryz.prog w = .ok () (putMap w b [⟨mdk x, v, clock⟩] (clock + 1)) := by
  have hf : (Instr.findKey 34 (mdk x) []).run Tryz.prog w = .ok none w := by
    simp only [Instr.findKey, Sem.run_bind, run_underlying Tryz.underlying34, Result.andThen_ok]; rfl
  simp only [Instr.mapUpdate, Sem.run_bind, run_underlying Tryz.underlying70, Result.andThen_ok, run_getObj h, chk34, hf]
  unfold setObj
  simp only [Sem.run, h]
  rfl
theorem eq34 (x : Md) (w : World) : (Op.equal 34 (mdk x) (mdk x)).run Tryz.prog w = .ok true w := by
  show (Op.equalIn 10000 34 (md x) (md x)).run Tryz.prog w = _
  rw [eqMd]; simp
theorem look70 {w : World} {b : Nat} {clock c : Nat} {x : Md} {v : Value} (h : w.heap[b]? = some (.map #[⟨mdk x, v, c⟩] clock)) :
    (Instr.lookup 70 (.map (some b)) (mdk x) false).run Tryz.prog w = .ok v w := by
  have hf : (Instr.findKey 34 (mdk x) [⟨mdk x, v, c⟩]).run Tryz.prog w = .ok (some (0, v)) w := by
    simp only [Instr.findKey, Sem.run_bind, run_underlying Tryz.underlying34, Result.andThen_ok]
    show (Instr.findAsking 34 (mdk x) [⟨mdk x, v, c⟩]).run Tryz.prog w = _
    simp only [Instr.findAsking, Sem.run_bind, eq34, Result.andThen_ok]; rfl
  simp only [Instr.lookup, Sem.run_bind, run_underlying Tryz.underlying70, Result.andThen_ok, run_getObj h, Sem.run_pure, chk34, hf]
  rfl
end Go.Proofs.YthlcdimofagmfaaGreatDoor
namespace Go.Proofs.YthlcdimofagmfaaGreatDoor
open Go.RowKit Go.Sort Go.Lib Go.Shelf Go.Proofs
set_option linter.unusedSimpArgs false
set_option linter.unusedVariables false
def xm : Md := (⟨#[109]⟩, 1, 0, 0)
def nmB : ByteArray := ⟨#[109, 32, 118, 49, 46, 48, 46, 48]⟩
def txm : ByteArray := ⟨#[109, 111, 100, 117, 108, 101, 32, 109, 32, 118, 49, 46, 48, 46, 48, 10]⟩
theorem chk_xm : chkM xm [] = 0 := by kernel_rfl
theorem text_xm : textB xm [] = txm := by kernel_rfl
theorem trim_xm : Lib.trimSuffix txm.data.toList [10] = [109, 111, 100, 117, 108, 101, 32, 109, 32, 118, 49, 46, 48, 46, 48] := by kernel_rfl
theorem cut_xm : Lib.cut [109, 111, 100, 117, 108, 101, 32, 109, 32, 118, 49, 46, 48, 46, 48] [32] = ([109, 111, 100, 117, 108, 101], [109, 32, 118, 49, 46, 48, 46, 48], true) := by kernel_rfl
set_option maxRecDepth 100000 in
theorem name_xm (w : World) (hM : Mx w) (hT : P10 w) : Calls Tryz.prog 40 #[mdk xm] w fun e w' => e = .returned (.string nmB) ∧ Below w.heap.size w w' := by
  have hb0 := bal w (.cells #[.string xm.1, .int .i64 xm.2.1, .int .i64 xm.2.2.1, .int .i64 xm.2.2.2] 34)
  have HB0 := Lib.hid hb0
  have KT := Lib.hid (text_any xm none 0 [] _ (hM.keep hb0 hM.1) (P10.keep hT hb0) (rm_nil _ _ _) (.inl (by unfold Plain; simp)) (by simp))
  rw [chk_xm, text_xm] at KT
  have HM := Lib.hid hM
  clear hb0 hM hT
  unfold mdk
  unfold xm at *
  go_enter Tryz.func40, Tryz.ntmps40
  go_wp2_with fail
  refine KT.out.mono ?_
  rintro e w1 ⟨rfl, hb1⟩
  have HB1 := Lib.hid (HB0.out.trans (hb1.mono HB0.out.size))
  have HM1 := Lib.hid (HM.out.keep HB1.out HM.out.1)
  clear hb1
  have C1 := Lib.hid (Tryz.strings_TrimSuffix txm ⟨#[10]⟩ w1 (by unfold txm; decide))
  rw [show (⟨#[10]⟩ : ByteArray).data.toList = [10] from rfl, trim_xm] at C1
  obtain ⟨m, hm⟩ := HM1.out.2
  have C2 : Hid (Calls Tryz.prog 66 #[.string ⟨#[109, 111, 100, 117, 108, 101, 32, 109, 32, 118, 49, 46, 48, 46, 48]⟩, .string ⟨#[32]⟩] w1 fun e w' => e = .returned (.tuple #[.string ⟨#[109, 111, 100, 117, 108, 101]⟩, .string nmB, .bool true]) ∧ Below w1.heap.size w1 w') :=
    Lib.hid ((Tryz.strings_Cut ⟨#[109, 111, 100, 117, 108, 101, 32, 109, 32, 118, 49, 46, 48, 46, 48]⟩ ⟨#[32]⟩ m w1 (by decide) hm).mono fun e w' ⟨he, hw⟩ => ⟨by
      rw [show (⟨#[109, 111, 100, 117, 108, 101, 32, 109, 32, 118, 49, 46, 48, 46, 48]⟩ : ByteArray).data.toList = [109, 111, 100, 117, 108, 101, 32, 109, 32, 118, 49, 46, 48, 46, 48] from rfl, show (⟨#[32]⟩ : ByteArray).data.toList = [32] from rfl, cut_xm] at he
      exact he, by obtain ⟨n, rfl⟩ := hw; exact drewB w1 n⟩)
  clear hm
  go_wp2_with fail
  refine C1.out.mono ?_
  rintro e w2 ⟨rfl, rfl⟩
  go_wp2_with fail
  refine C2.out.mono ?_
  rintro e w3 ⟨rfl, hb3⟩
  have HB3 := Lib.hid (HB1.out.trans (hb3.mono HB1.out.size))
  go_wp2_with fail
  go_ret
  exact ⟨rfl, HB3.out⟩
end Go.Proofs.YthlcdimofagmfaaGreatDoor
