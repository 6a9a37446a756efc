/-
  alive: what the laws of the digests ask in every world. Conditions: the table of powers of ten, internal/bytealg.MaxLen holds some number.
-/
import Derived.Test.YthlcdimofagmfaaGreatDoorLAB
import Derived.Test.YthlcdimofagmfaaGreatDoorD45
namespace Go.Proofs.YthlcdimofagmfaaGreatDoor
open Go.RowKit Go.Sort Go.Lib Go.Shelf Go.Proofs
open Dg (txtH hsum txtL txtL_len hsum_lt)
set_option linter.unusedSimpArgs false
set_option linter.unusedVariables false
def srcA : List Src := [(⟨#[98]⟩, ⟨#[]⟩), (⟨#[97]⟩, ⟨#[120]⟩)]
def srcB : List Src := [(⟨#[98]⟩, ⟨#[]⟩), (⟨#[98]⟩, ⟨#[120]⟩)]
theorem out_A : ∃ T : ByteArray, relOut xm [] srcA = (T, 0) ∧ T.size = 18 := by
  obtain ⟨n, hn⟩ : ∃ n, n = hsum 14695981039346656037 ((relPs (textB xm []) (sortN srcA)).flatMap fun s => s.data.toList) := ⟨_, rfl⟩
  refine ⟨txtH n, ?_, ?_⟩
  · rw [hn]
    exact relOut_ok (D := sortN srcA) chk_xm (sortN_perm _) (sortN_sorted _) (by rw [show (sortN srcA).map (·.1) = [⟨#[97]⟩, ⟨#[98]⟩] by kernel_rfl]; decide)
  · unfold txtH; show (Dg.txtL n 16).toArray.size = 18
    rw [List.size_toArray, txtL_len]
theorem out_B : relOut xm [] srcB = (⟨#[]⟩, 6) := relOut_dup (D := srcB) chk_xm (List.Perm.refl _) (by kernel_rfl)
theorem sum_0 (w : World) : Calls Tryz.prog 12 #[.string ⟨#[]⟩] w fun e w' => e = .returned (.int .u64 14695981039346656037) ∧ Below w.heap.size w w' := Dg.sum1_any ⟨#[]⟩ (by decide) w
theorem sum_a (w : World) : Calls Tryz.prog 12 #[.string ⟨#[97]⟩] w fun e w' => e = .returned (.int .u64 12638187200555641996) ∧ Below w.heap.size w w' := by
  have h := Dg.sum1_any ⟨#[97]⟩ (by decide) w
  rw [show hsum 14695981039346656037 (⟨#[97]⟩ : ByteArray).data.toList = 12638187200555641996 by kernel_rfl] at h
  exact h
theorem text_a (w : World) : Calls Tryz.prog 14 #[.int .u64 12638187200555641996] w fun e w' => e = .returned (.string ⟨#[104, 58, 97, 102, 54, 51, 100, 99, 52, 99, 56, 54, 48, 49, 101, 99, 56, 99]⟩) ∧ Below w.heap.size w w' := by
  have h := Dg.text_any 12638187200555641996 (by decide) w
  rw [show txtH 12638187200555641996 = ⟨#[104, 58, 97, 102, 54, 51, 100, 99, 52, 99, 56, 54, 48, 49, 101, 99, 56, 99]⟩ by kernel_rfl] at h
  exact h
end Go.Proofs.YthlcdimofagmfaaGreatDoor
