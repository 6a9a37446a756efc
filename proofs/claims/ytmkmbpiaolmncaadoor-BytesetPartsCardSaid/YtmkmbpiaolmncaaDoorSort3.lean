/-
  Sorting a row of the call's own: a permutation of what it held, by the least bytes; what lies below is as it was. Condition: the table deBruijn64tab, in a block below.
-/
import Derived.Test.YtmkmbpiaolmncaaDoorSort2
namespace Go.Proofs.YtmkmbpiaolmncaaDoor
open Go.RowKit Go.Sort Go.Lib Go.Shelf Go.Proofs
set_option linter.unusedSimpArgs false
set_option linter.unnecessarySimpa false
set_option linter.unusedVariables false
theorem b4_one (x : BS) : ∀ v ∈ b4 x, v.oneCell' = true := by
  intro v hv; simp [b4] at hv; rcases hv with rfl | rfl | rfl | rfl <;> rfl
theorem b4_get (x : BS) (c : Nat) (h : c < 4) : (b4 x)[c]! = .int .u64 (wd c x) := by
  rcases (show c = 0 ∨ c = 1 ∨ c = 2 ∨ c = 3 by omega) with rfl | rfl | rfl | rfl <;> rfl
/-- the row's cells, as the sort reads them -/
theorem holds_own {w : World} {B g cap : Nat} {R : List BS} (h : w.ownsRow B 24 4 (.slice (some ⟨g, 0, none⟩) R.length cap) R.length (flatB R)) : HoldsK b4 4 w g 0 R.toArray := by
  intro j hj
  have hj' : j < R.length * 4 := by simpa using hj
  rw [get_flatK _ _ _ _ (by simpa using hj')]
  have hq : j / 4 < R.length := by omega
  have hc := h.cellAt j hj'
  have hx : R[j / 4]? = some R[j / 4] := List.getElem?_eq_getElem hq
  have hf := flatB_at R (j / 4) _ hx (j % 4) (by omega)
  rw [show j / 4 * 4 + j % 4 = j by omega] at hf
  have e : (R.toArray[j / 4]!) = R[j / 4] := by simp [hq]
  rw [e, b4_get _ _ (by omega), Nat.zero_add]
  exact ⟨hc.trans hf, h.frozenAt j⟩
theorem tab_sort {w : World} {g m : Nat} {dk : Array BS} {os : Array Obj} (hT : Tab w) (hg : 0 < g) : Tab (sortWorldK b4 4 w g 0 m dk os) := by
  refine ⟨by have := hT.1; simp [sortWorldK, putRowK, putRow, mapBlock, Sort.ahead]; omega, fun j hj => ?_⟩
  unfold sortWorldK
  rw [cell?_grow _ _ _ (by have := hT.1; simpa [putRowK, putRow, mapBlock, Sort.ahead] using this), cell?_putRowK_other _ _ _ _ _ _ _ (by show 0 ≠ g; omega)]
  exact hT.2 j hj
theorem below_sort {w : World} {B g n : Nat} {d : Array BS} {os : Array Obj} (hB : B ≤ g) (hg : g < w.heap.size) : Below B w (sortWorldK b4 4 w g 0 n d os) := by
  refine ⟨rfl, rfl, rfl, by simp [sortWorldK, putRowK, putRow, mapBlock, Sort.ahead], fun k hk => ?_⟩
  unfold sortWorldK
  have hne : g ≠ k := by omega
  have hlt : k < w.heap.size := by omega
  rw [heap_grow_old _ _ (by simpa [putRowK, putRow, mapBlock, Sort.ahead] using hlt)]
  simp [putRowK, putRow, mapBlock, Sort.ahead, Array.getElem?_modify, hne]
set_option maxRecDepth 100000 in
theorem sort_own (R : List BS) (g cap B : Nat) (w : World) (hB : 0 < B) (hT : Tab w) (hR : R.length ≤ 1000000) (hown : w.ownsRow B 24 4 (.slice (some ⟨g, 0, none⟩) R.length cap) R.length (flatB R)) :
    Calls Tryd.prog 37 #[.slice (some ⟨g, 0, none⟩) R.length cap, .func (.func 38) #[] #[]] w fun e w' => e = .returned (.tuple #[]) ∧
      ∃ R' : List BS, R'.Perm R ∧ (∀ i j, i < j → j < R'.length → lst (R'.getD i 0#256) ≤ lst (R'.getD j 0#256)) ∧
        (∀ i x c, R'[i]? = some x → c < 4 → w'.cell? ⟨g, i * 4 + c, none⟩ = some (.int .u64 (wd c x))) ∧ g < w'.heap.size ∧ Below B w w' := by
  have hg := hown.lt g rfl
  have hH := holds_own hown
  have eg : ∀ args w, (callFunc 38 args).run Tryd.prog w = .ok (.enter 38 args) w := enters_of Tryd.func38 (by kernel_rfl) rfl
  have hcon := AnyQ.slices_SortFunc Tryd.sortB 4 agg24 siz24 b4 (fun _ => rfl) b4_one (fun a b => cmpN (lst a) (lst b)) swoC 38 #[] g 0 cap R.toArray w eg
    (fun m os dk _ x y => closure38 x y _ (tab_sort hT (by omega))) hH hg.2 (by simp; omega)
  rw [List.size_toArray] at hcon
  refine Calls.mono hcon ?_
  rintro e w' ⟨rfl, d', n, os, hp, hs, rfl⟩
  have hsz : d'.size = R.length := by simpa using hp.1
  refine ⟨rfl, d'.toList, ?_, ?_, ?_, ?_, below_sort hg.1 hg.2⟩
  · have := hp.2.2
    rw [← hsz, Array.extract_size, hsz, show R.toArray.extract 0 R.length = R.toArray by simp] at this
    simpa using this
  · intro i j hij hj
    have hj' : j < d'.size := by simpa using hj
    have := hs i j (Nat.zero_le _) hij (by simpa [hsz] using hj')
    rw [ltC] at this
    have h1 : d'.toList.getD i 0#256 = d'[i]! := by simp [List.getD_eq_getElem?_getD, show i < d'.size by omega]
    have h2 : d'.toList.getD j 0#256 = d'[j]! := by simp [List.getD_eq_getElem?_getD, hj']
    rw [h1, h2]
    simpa using this
  · intro i x c hx hc
    have hi : i < d'.size := by have := (List.getElem?_eq_some_iff.1 hx).1; simpa using this
    have hh := (holdsK_sortWorldK b4 4 w g 0 n R.toArray d' os hg.2 hH (by simpa using hsz)).cell (i := i) (c := c) hi hc
    have e : d'[i]! = x := by
      have := (List.getElem?_eq_some_iff.1 hx).2
      simp only [Array.getElem_toList] at this
      simp [hi, this]
    rw [e, b4_get _ _ hc] at hh
    simpa using hh.1
  · have := hg.2
    simp [sortWorldK, putRowK, putRow, mapBlock, Sort.ahead]; omega
end Go.Proofs.YtmkmbpiaolmncaaDoor
