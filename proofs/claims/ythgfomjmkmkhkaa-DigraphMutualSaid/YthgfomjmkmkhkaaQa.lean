/-
  How a method that is promoted through the embedded slice of the queue is found. No condition.
-/
import Derived.Test.YthgfomjmkmkhkaaP
namespace Go.Proofs.Ythgfomjmkmkhkaa
open Go.RowKit
set_option linter.unusedSimpArgs false
set_option linter.unusedVariables false
theorem find_less : (Try.prog.info? 46).bind (fun i => i.methods.find? (fun m => m.name == "Less")) = some ⟨"Less", 64, #[⟨49, 0, true⟩], some (69, false)⟩ := by kernel_rfl
theorem find_swap : (Try.prog.info? 46).bind (fun i => i.methods.find? (fun m => m.name == "Swap")) = some ⟨"Swap", 40, #[⟨49, 0, true⟩], some (73, false)⟩ := by kernel_rfl
theorem find_len : (Try.prog.info? 46).bind (fun i => i.methods.find? (fun m => m.name == "Len")) = some ⟨"Len", 51, #[⟨49, 0, true⟩], some (43, false)⟩ := by kernel_rfl
theorem find_push : (Try.prog.info? 46).bind (fun i => i.methods.find? (fun m => m.name == "Push")) = some ⟨"Push", 60, #[], some (71, true)⟩ := by kernel_rfl
theorem find_pop : (Try.prog.info? 46).bind (fun i => i.methods.find? (fun m => m.name == "Pop")) = some ⟨"Pop", 63, #[], some (70, true)⟩ := by kernel_rfl
theorem via {name : String} {sig f : Nat} (hf : (Try.prog.info? 46).bind (fun i => i.methods.find? (fun m => m.name == name)) = some ⟨name, sig, #[⟨49, 0, true⟩], some (f, false)⟩) {w : World} {q : Nat} {v : Value} (h : w.cell? ⟨q, 0, none⟩ = some v) :
    Sem.run Try.prog (method 181 46 (.pointer (some ⟨q, 0, none⟩)) name) w = .ok (f, v) w := by
  obtain ⟨i, hi⟩ : ∃ i, Try.prog.info? 46 = some i := by
    cases hh : Try.prog.info? 46 with
    | none => rw [hh] at hf; cases hf
    | some i => exact ⟨i, rfl⟩
  rw [hi] at hf
  simp only [Option.bind_some] at hf
  unfold method
  have hp : Sem.run Try.prog program w = .ok Try.prog w := rfl
  simp only [Sem.run_bind, typeInfo, hp, Result.andThen_ok, hi, Sem.run_pure, hf]
  have hu : ∀ w', Sem.run Try.prog (underlying 49) w' = .ok (.struct #[⟨"IntSlice", 47, 0, true, "", "", 0⟩]) w' := fun w' => run_underlying Try.underlying49 w'
  have hu7 : ∀ w', Sem.run Try.prog (underlying 47) w' = .ok (.slice 3) w' := fun w' => run_underlying Try.underlying47 w'
  have hs : ∀ w', Sem.run Try.prog (sizeOf 47) w' = .ok 1 w' := fun w' => Try.sizeOf47 w'
  have ha : ∀ w', Sem.run Try.prog (isAgg 47) w' = .ok false w' := fun w' => Try.isAgg47 w'
  have hadd : (⟨q, 0, none⟩ : Addr).add 0 = ⟨q, 0, none⟩ := by simp [Addr.add]
  have hld : Sem.run Try.prog (load ⟨q, 0, none⟩) w = .ok v w := by
    simp [load, Sem.run, h]
  simp [follow, hu, Place.get, asAddr, fieldPlace, hs, receiverAt, hu7, loadVar, ha, hadd, hld, Result.andThen]
theorem direct {name : String} {sig f : Nat} (hf : (Try.prog.info? 46).bind (fun i => i.methods.find? (fun m => m.name == name)) = some ⟨name, sig, #[], some (f, true)⟩) (w : World) (q : Nat) :
    Sem.run Try.prog (method 181 46 (.pointer (some ⟨q, 0, none⟩)) name) w = .ok (f, .pointer (some ⟨q, 0, none⟩)) w := by
  obtain ⟨i, hi⟩ : ∃ i, Try.prog.info? 46 = some i := by
    cases hh : Try.prog.info? 46 with
    | none => rw [hh] at hf; cases hf
    | some i => exact ⟨i, rfl⟩
  rw [hi] at hf
  simp only [Option.bind_some] at hf
  unfold method
  have hp : Sem.run Try.prog program w = .ok Try.prog w := rfl
  simp only [Sem.run_bind, typeInfo, hp, Result.andThen_ok, hi, Sem.run_pure, hf]
  have hu : ∀ w', Sem.run Try.prog (underlying 46) w' = .ok (.pointer 49) w' := fun w' => run_underlying Try.underlying46 w'
  simp [follow, hu, Place.get, receiverAt, Result.andThen]
end Go.Proofs.Ythgfomjmkmkhkaa
