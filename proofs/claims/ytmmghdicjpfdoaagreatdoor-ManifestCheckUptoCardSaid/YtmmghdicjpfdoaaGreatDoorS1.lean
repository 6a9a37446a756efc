/-
  Sorting modules: a new list, in order. Condition: at most 100000 modules.
-/
import Derived.Test.YtmmghdicjpfdoaaGreatDoorC2
import Derived.Test.YtmmghdicjpfdoaaGreatDoorSoL
import Derived.Shelf.SlSortCmp.NoneTotal
namespace Go.Proofs.YtmmghdicjpfdoaaGreatDoor
open Go.RowKit Go.Sort Go.Lib Go.Shelf Go.Proofs
set_option linter.unusedSimpArgs false
set_option linter.unnecessarySimpa false
set_option linter.unusedVariables false
theorem ltC (x y : Md) : ltOf cmpM x y = decide (cmpM x y < 0) := by
  unfold ltOf
  rfl
theorem swoC : SWO (ltOf cmpM) where
  irrefl x := by rw [ltC, cmpM_ok.self]; rfl
  trans x y z h1 h2 := by
    rw [ltC] at *
    simp only [decide_eq_true_eq] at *
    have h3 := cmpM_ok.trans x y z (Int.le_of_lt h1) (Int.le_of_lt h2)
    rcases Int.lt_or_eq_of_le h3 with h | h
    · exact h
    · have := (cmpM_ok.strict (Int.le_of_lt h1) (Int.le_of_lt h2) h).1; omega
  ntrans x y z h1 h2 := by
    rw [ltC] at *
    simp only [decide_eq_false_iff_not] at *
    have a1 := cmpM_ok.anti x y
    have a2 := cmpM_ok.anti y z
    have a3 := cmpM_ok.anti x z
    have h3 := cmpM_ok.trans z y x (by omega) (by omega)
    omega
theorem holds_own {w : World} {B g cap : Nat} {R : List Md} (h : w.ownsRow B 25 4 (.slice (some ⟨g, 0, none⟩) R.length cap) R.length (flatM R)) : HoldsK mc 4 w g 0 R.toArray := by
  intro j hj
  have hj' : j < R.length * 4 := by simpa using hj
  rw [get_flatK _ _ _ _ (by simpa using hj')]
  have hq : j / 4 < R.length := by omega
  have hc := h.cellAt j hj'
  have hf := flatM_at R (j / 4) hq (j % 4) (by omega)
  rw [show j / 4 * 4 + j % 4 = j by omega] at hf
  have e : (R.toArray[j / 4]!) = R[j / 4] := by simp [hq]
  rw [e, Nat.zero_add]
  refine ⟨hc.trans ?_, h.frozenAt j⟩
  rw [hf]
  have hm : j % 4 < (mc R[j / 4]).length := by show j % 4 < 4; omega
  have hg : (mc R[j / 4])[j % 4]! = (mc R[j / 4])[j % 4] := getElem!_pos (mc R[j / 4]) (j % 4) hm
  rw [List.getElem?_eq_getElem hm]
  show some _ = some ((mc R[j / 4])[j % 4]!)
  rw [hg]
theorem below_sort {w : World} {B g n : Nat} {d : Array Md} {os : Array Obj} (hB : B ≤ g) (hg : g < w.heap.size) : Below B w (sortWorldK mc 4 w g 0 n d os) := by
  refine ⟨rfl, rfl, rfl, by simp [sortWorldK, putRowK, putRow, mapBlock, Sort.ahead], fun k hk => ?_⟩
  unfold sortWorldK
  have hne : g ≠ k := by omega
  have hlt : k < w.heap.size := by omega
  rw [heap_grow_old _ _ (by simpa [putRowK, putRow, mapBlock, Sort.ahead] using hlt)]
  simp [putRowK, putRow, mapBlock, Sort.ahead, Array.getElem?_modify, hne]
theorem sort_own (R : List Md) (g cap B : Nat) (w : World) (hR : R.length ≤ 1000000) (hown : w.ownsRow B 25 4 (.slice (some ⟨g, 0, none⟩) R.length cap) R.length (flatM R)) :
    Calls Tryz.prog 65 #[.slice (some ⟨g, 0, none⟩) R.length cap, .func (.func 23) #[] #[]] w fun e w' => e = .returned (.tuple #[]) ∧ (RM w' w'.heap.size (some ⟨g, 0, none⟩) (sortM R) ∧ Ty w' (some ⟨g, 0, none⟩)) ∧ Below B w w' := by
  have hg := hown.lt g rfl
  have hH := holds_own hown
  have eg : ∀ args w, (callFunc 23 args).run Tryz.prog w = .ok (.enter 23 args) w := enters_of Tryz.func23 (by kernel_rfl) rfl
  have hcon := AnyQ.slices_SortFunc Tryz.sortB 4 Tryz.isAgg25 Tryz.sizeOf25 mc (fun _ => rfl) mc_one cmpM swoC 23 #[] g 0 cap R.toArray w eg
    (fun m os dk _ x y => mcompare_gr x y _) hH hg.2 (by simp; omega)
  rw [List.size_toArray] at hcon
  refine Calls.mono hcon ?_
  rintro e w' ⟨rfl, d', n, os, hp, hs, rfl⟩
  have hsz : d'.size = R.length := by simpa using hp.1
  have hperm : d'.toList.Perm R := by
    have := hp.2.2
    rw [← hsz, Array.extract_size, hsz, show R.toArray.extract 0 R.length = R.toArray by simp] at this
    simpa using this
  have hsort : d'.toList.Pairwise LeM := by
    rw [List.pairwise_iff_getElem]
    intro i j hi hj hij
    have hi' : i < d'.size := by simpa using hi
    have hj' : j < d'.size := by simpa using hj
    have := hs i j (Nat.zero_le _) hij (by simpa [hsz] using hj')
    rw [ltC] at this
    have a := cmpM_ok.anti d'[i]! d'[j]!
    simp only [decide_eq_false_iff_not] at this
    show cmpM _ _ ≤ 0
    simp [hi', hj'] at this a ⊢
    omega
  rw [← sortM_of hperm hsort]
  refine ⟨rfl, ⟨⟨fun i hi => ⟨g, 0, rfl, ?_, fun c v hv => ?_⟩⟩, ?_⟩, below_sort hg.1 hg.2⟩
  rotate_left 2
  · intro b o e
    cases e
    obtain ⟨cs, fz, hcs⟩ := own_ty hown _ _ _ rfl g 0 rfl
    obtain ⟨ds, hds⟩ : ∃ ds, (sortWorldK mc 4 w g 0 n d' os).heap[g]? = some (.cells ds 25 fz) := by
      unfold sortWorldK
      rw [heap_grow_old _ _ (by simpa [putRowK, putRow, mapBlock, Sort.ahead] using hg.2)]
      have hcs' : (Sort.ahead w n).heap[g]? = some (.cells cs 25 fz) := hcs
      simp only [putRowK, putRow, mapBlock]
      rw [Array.getElem?_modify, if_pos rfl, hcs']
      exact ⟨_, rfl⟩
    exact ⟨ds, fz, hds⟩
  · have := hg.2
    simp [sortWorldK, putRowK, putRow, mapBlock, Sort.ahead]; omega
  · have hi' : i < d'.size := by simpa using hi
    have hc : c < 4 := by have := (List.getElem?_eq_some_iff.1 hv).1; simpa [mc] using this
    have h0 := (holdsK_sortWorldK mc 4 w g 0 n R.toArray d' os hg.2 hH (by simpa using hsz)).cell (i := i) (c := c) hi' hc
    have e : d'[i]! = d'.toList[i] := by simp [hi']
    rw [e] at h0
    have hm : c < (mc d'.toList[i]).length := by show c < 4; omega
    have hg : (mc d'.toList[i])[c]! = (mc d'.toList[i])[c] := getElem!_pos (mc d'.toList[i]) c hm
    rw [hg] at h0
    rw [h0.1, ← hv, List.getElem?_eq_getElem hm]
def CloneIs (A : Option Addr) (l : List Md) (w : World) (e : Ending) (w' : World) : Prop :=
  (A = none ∧ e = .returned (.slice none 0 0) ∧ w = w') ∨ ∃ g c, e = .returned (.slice (some ⟨g, 0, none⟩) l.length c) ∧ w'.ownsRow w.heap.size 25 4 (.slice (some ⟨g, 0, none⟩) l.length c) l.length (flatM l) ∧ Below w.heap.size w w'
theorem rm_cells {w : World} {b o : Nat} {l : List Md} {B : Nat} (hR : RM w B (some ⟨b, o, none⟩) l) : ∀ j u, (flatM l)[j]? = some u → w.cell? ⟨b, o + j, none⟩ = some u := by
  intro j u hj
  have hjl : j < l.length * 4 := by have := (List.getElem?_eq_some_iff.1 hj).1; rwa [flatM_len] at this
  obtain ⟨b', o', e, _, hc⟩ := hR.at_ (j / 4) (by omega)
  simp only [Option.some.injEq, Addr.mk.injEq] at e
  obtain ⟨rfl, rfl, _⟩ := e
  have hfl := flatM_at l (j / 4) (by omega) (j % 4) (by omega)
  rw [show j / 4 * 4 + j % 4 = j by omega] at hfl
  have := hc (j % 4) u (by rw [← hfl]; exact hj)
  rwa [show o + j / 4 * 4 + j % 4 = o + j by omega] at this
theorem clone_any (A : Option Addr) (cap : Nat) (l : List Md) (w : World) (hR : RM w w.heap.size A l) (hl : l.length ≤ 100000) (hf : Plain A cap) :
    Calls Tryz.prog 64 #[.slice A l.length cap] w (CloneIs A l w) := by
  rcases hf with ⟨rfl, _⟩ | ⟨b, o, rfl⟩
  · exact (AnyE.slices_Clone_nil Tryz.cloneB l.length cap w).mono fun e w' ⟨h1, h2⟩ => .inl ⟨rfl, h1, h2.symm⟩
  · obtain ⟨i0, hi, hz0, hz1, hz2⟩ := info_parts info25
    refine (AnyE.slices_Clone Tryz.cloneB i0 _ 4 40 hi hz0 hz1 hz2 rfl (by decide) Tryz.sizeOf25 b o l.length cap (flatM l) w (flatM_len l) (by unfold maxLen; omega) (by omega) (rm_cells hR) (flatM_one l)).mono ?_
    rintro e w' ⟨v', rfl, hown, hne, hb⟩
    rcases hown.2 with ⟨h1, _⟩ | ⟨g, c, cur, rfl, h2, _⟩
    · exact absurd h1 hne
    · exact .inr ⟨g, c, rfl, hown, hb⟩
theorem rm_none {w : World} {B : Nat} {l : List Md} (h : RM w B none l) : l = [] := by
  cases l with
  | nil => rfl
  | cons x t => obtain ⟨b, o, e, _⟩ := h.at_ 0 (by simp); cases e
set_option maxRecDepth 100000 in
theorem sorted_any (A : Option Addr) (cap : Nat) (l : List Md) (w : World) (hR : RM w w.heap.size A l) (hl : l.length ≤ 100000) (hf : Plain A cap) :
    Calls Tryz.prog 44 #[.slice A l.length cap] w (GivesM (sortM l) w) := by
  have K := Lib.hid (clone_any A cap l w hR hl hf)
  by_cases hA : A = none
  · subst hA
    obtain rfl := rm_none hR
    clear hR hl hf
    go_enter Tryz.func44, Tryz.ntmps44
    go_wp2_with fail
    refine K.out.mono ?_
    rintro e w1 (⟨_, rfl, rfl⟩ | ⟨g, c, rfl, hown, hb⟩)
    · go_wp2_with fail
      refine (AnyF.slices_SortFunc_none (P := Tryz.prog) Tryz.sortB none 0 (.func (.func 23) #[] #[]) _).mono ?_
      rintro e w1 ⟨rfl, rfl⟩
      go_wp2_with fail
      go_ret
      exact ⟨none, 0, rfl, rm_nil _ _ _, ⟨.inl ⟨rfl, rfl⟩, fun b o e => (by cases e), Ty.none _⟩, Below.refl _ _⟩
    · have HS := Lib.hid (sort_own [] g c w.heap.size w1 (by simp) hown)
      have HH := Lib.hid (hown.lt g rfl)
      have HB := Lib.hid hb
      clear hown hb
      go_wp2_with fail
      refine HS.out.mono ?_
      rintro e w2 ⟨rfl, h1, h2⟩
      have H1 := Lib.hid h1
      have H2 := Lib.hid (HB.out.trans h2)
      clear h1 h2
      go_wp2_with fail
      go_ret
      exact ⟨some ⟨g, 0, none⟩, c, rfl, H1.out.1, ⟨.inr ⟨g, 0, rfl⟩, fun b o e => (by cases e; exact HH.out.1), H1.out.2⟩, H2.out⟩
  · have HA := Lib.hid hA
    have hsl := sortM_length l
    have HV : Hid (∀ g c w', (RM w' w'.heap.size (some ⟨g, 0, none⟩) (sortM l) ∧ Ty w' (some ⟨g, 0, none⟩)) → w.heap.size ≤ g → Below w.heap.size w w' → GivesM (sortM l) w (.returned (.slice (some ⟨g, 0, none⟩) l.length c)) w') :=
      Lib.hid (fun g c w' h1 h2 h3 => ⟨some ⟨g, 0, none⟩, c, by rw [hsl], h1.1, ⟨.inr ⟨g, 0, rfl⟩, fun b o e => (by cases e; exact h2), h1.2⟩, h3⟩)
    have HL := Lib.hid hl
    clear hA hR hl hf hsl
    go_enter Tryz.func44, Tryz.ntmps44
    go_wp2_with fail
    refine K.out.mono ?_
    rintro e w1 (⟨h, _⟩ | ⟨g, c, rfl, hown, hb⟩)
    · exact absurd h HA.out
    · have HS := Lib.hid (sort_own l g c w.heap.size w1 (by have := HL.out; omega) hown)
      have HH := Lib.hid (hown.lt g rfl)
      have HB := Lib.hid hb
      clear hown hb
      go_wp2_with fail
      refine HS.out.mono ?_
      rintro e w2 ⟨rfl, h1, h2⟩
      have H1 := Lib.hid h1
      have H2 := Lib.hid (HB.out.trans h2)
      clear h1 h2
      go_wp2_with fail
      go_ret
      exact HV.out g c w2 H1.out HH.out.1 H2.out
end Go.Proofs.YtmmghdicjpfdoaaGreatDoor
