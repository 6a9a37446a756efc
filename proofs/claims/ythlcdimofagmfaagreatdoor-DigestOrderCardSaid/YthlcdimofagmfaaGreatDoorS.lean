/-
  Sorting modules: a new list, in order. Condition: at most 100000 modules.
-/
import Derived.Test.YthlcdimofagmfaaGreatDoorC2
import Derived.Test.YthlcdimofagmfaaGreatDoorSoL
import Derived.Shelf.SlSortCmp.NoneTotal
import Derived.Laws.AppendOwnNone
import Derived.BigQuiet
import Derived.Deep.QuietTactic
namespace Go.Proofs.YthlcdimofagmfaaGreatDoor
open Go.RowKit Go.Sort Go.Lib Go.Shelf Go.Proofs
set_option linter.unusedSimpArgs false
set_option linter.unnecessarySimpa false
set_option linter.unusedVariables false
theorem ltC (x y : Md) : ltOf cmpM x y = decide (cmpM x y < 0) := by
  unfold ltOf
  rfl
theorem swoC : SWO (ltOf cmpM) where
  irrefl x := by rw [ltC, cmpM_ok.self]; rfl
  trans x y z h1 h2 := by
    rw [ltC] at *
    simp only [decide_eq_true_eq] at *
    have h3 := cmpM_ok.trans x y z (Int.le_of_lt h1) (Int.le_of_lt h2)
    rcases Int.lt_or_eq_of_le h3 with h | h
    · exact h
    · have := (cmpM_ok.strict (Int.le_of_lt h1) (Int.le_of_lt h2) h).1; omega
  ntrans x y z h1 h2 := by
    rw [ltC] at *
    simp only [decide_eq_false_iff_not] at *
    have a1 := cmpM_ok.anti x y
    have a2 := cmpM_ok.anti y z
    have a3 := cmpM_ok.anti x z
    have h3 := cmpM_ok.trans z y x (by omega) (by omega)
    omega
theorem holds_own {w : World} {B g cap : Nat} {R : List Md} (h : w.ownsRow B 34 4 (.slice (some ⟨g, 0, none⟩) R.length cap) R.length (flatM R)) : HoldsK mc 4 w g 0 R.toArray := by
  intro j hj
  have hj' : j < R.length * 4 := by simpa using hj
  rw [get_flatK _ _ _ _ (by simpa using hj')]
  have hq : j / 4 < R.length := by omega
  have hc := h.cellAt j hj'
  have hf := flatM_at R (j / 4) hq (j % 4) (by omega)
  rw [show j / 4 * 4 + j % 4 = j by omega] at hf
  have e : (R.toArray[j / 4]!) = R[j / 4] := by simp [hq]
  rw [e, Nat.zero_add]
  refine ⟨hc.trans ?_, h.frozenAt j⟩
  rw [hf]
  have hm : j % 4 < (mc R[j / 4]).length := by show j % 4 < 4; omega
  have hg : (mc R[j / 4])[j % 4]! = (mc R[j / 4])[j % 4] := getElem!_pos (mc R[j / 4]) (j % 4) hm
  rw [List.getElem?_eq_getElem hm]
  show some _ = some ((mc R[j / 4])[j % 4]!)
  rw [hg]
theorem below_sort {w : World} {B g n : Nat} {d : Array Md} {os : Array Obj} (hB : B ≤ g) (hg : g < w.heap.size) : Below B w (sortWorldK mc 4 w g 0 n d os) := by
  refine ⟨rfl, rfl, rfl, by simp [sortWorldK, putRowK, putRow, mapBlock, Sort.ahead], fun k hk => ?_⟩
  unfold sortWorldK
  have hne : g ≠ k := by omega
  have hlt : k < w.heap.size := by omega
  rw [heap_grow_old _ _ (by simpa [putRowK, putRow, mapBlock, Sort.ahead] using hlt)]
  simp [putRowK, putRow, mapBlock, Sort.ahead, Array.getElem?_modify, hne]
theorem sort_own (R : List Md) (g cap B : Nat) (w : World) (hR : R.length ≤ 1000000) (hown : w.ownsRow B 34 4 (.slice (some ⟨g, 0, none⟩) R.length cap) R.length (flatM R)) :
    Calls Tryz.prog 39 #[.slice (some ⟨g, 0, none⟩) R.length cap, .func (.func 25) #[] #[]] w fun e w' => e = .returned (.tuple #[]) ∧ (RM w' w'.heap.size (some ⟨g, 0, none⟩) (sortM R) ∧ Ty w' (some ⟨g, 0, none⟩)) ∧ Below B w w' := by
  have hg := hown.lt g rfl
  have hH := holds_own hown
  have eg : ∀ args w, (callFunc 25 args).run Tryz.prog w = .ok (.enter 25 args) w := enters_of Tryz.func25 (by kernel_rfl) rfl
  have hcon := AnyQ.slices_SortFunc Tryz.sortB 4 Tryz.isAgg34 Tryz.sizeOf34 mc (fun _ => rfl) mc_one cmpM swoC 25 #[] g 0 cap R.toArray w eg
    (fun m os dk _ x y => mcompare_gr x y _) hH hg.2 (by simp; omega)
  rw [List.size_toArray] at hcon
  refine Calls.mono hcon ?_
  rintro e w' ⟨rfl, d', n, os, hp, hs, rfl⟩
  have hsz : d'.size = R.length := by simpa using hp.1
  have hperm : d'.toList.Perm R := by
    have := hp.2.2
    rw [← hsz, Array.extract_size, hsz, show R.toArray.extract 0 R.length = R.toArray by simp] at this
    simpa using this
  have hsort : d'.toList.Pairwise LeM := by
    rw [List.pairwise_iff_getElem]
    intro i j hi hj hij
    have hi' : i < d'.size := by simpa using hi
    have hj' : j < d'.size := by simpa using hj
    have := hs i j (Nat.zero_le _) hij (by simpa [hsz] using hj')
    rw [ltC] at this
    have a := cmpM_ok.anti d'[i]! d'[j]!
    simp only [decide_eq_false_iff_not] at this
    show cmpM _ _ ≤ 0
    simp [hi', hj'] at this a ⊢
    omega
  rw [← sortM_of hperm hsort]
  refine ⟨rfl, ⟨⟨fun i hi => ⟨g, 0, rfl, ?_, fun c v hv => ?_⟩⟩, ?_⟩, below_sort hg.1 hg.2⟩
  rotate_left 2
  · intro b o e
    cases e
    obtain ⟨cs, fz, hcs⟩ := own_ty hown _ _ _ rfl g 0 rfl
    obtain ⟨ds, hds⟩ : ∃ ds, (sortWorldK mc 4 w g 0 n d' os).heap[g]? = some (.cells ds 34 fz) := by
      unfold sortWorldK
      rw [heap_grow_old _ _ (by simpa [putRowK, putRow, mapBlock, Sort.ahead] using hg.2)]
      have hcs' : (Sort.ahead w n).heap[g]? = some (.cells cs 34 fz) := hcs
      simp only [putRowK, putRow, mapBlock]
      rw [Array.getElem?_modify, if_pos rfl, hcs']
      exact ⟨_, rfl⟩
    exact ⟨ds, fz, hds⟩
  · have := hg.2
    simp [sortWorldK, putRowK, putRow, mapBlock, Sort.ahead]; omega
  · have hi' : i < d'.size := by simpa using hi
    have hc : c < 4 := by have := (List.getElem?_eq_some_iff.1 hv).1; simpa [mc] using this
    have h0 := (holdsK_sortWorldK mc 4 w g 0 n R.toArray d' os hg.2 hH (by simpa using hsz)).cell (i := i) (c := c) hi' hc
    have e : d'[i]! = d'.toList[i] := by simp [hi']
    rw [e] at h0
    have hm : c < (mc d'.toList[i]).length := by show c < 4; omega
    have hg : (mc d'.toList[i])[c]! = (mc d'.toList[i])[c] := getElem!_pos (mc d'.toList[i]) c hm
    rw [hg] at h0
    rw [h0.1, ← hv, List.getElem?_eq_getElem hm]
def CloneIs (A : Option Addr) (l : List Md) (w : World) (e : Ending) (w' : World) : Prop :=
  (A = none ∧ e = .returned (.slice none 0 0) ∧ w = w') ∨ ∃ g c, e = .returned (.slice (some ⟨g, 0, none⟩) l.length c) ∧ w'.ownsRow w.heap.size 34 4 (.slice (some ⟨g, 0, none⟩) l.length c) l.length (flatM l) ∧ Below w.heap.size w w'
theorem rm_cells {w : World} {b o : Nat} {l : List Md} {B : Nat} (hR : RM w B (some ⟨b, o, none⟩) l) : ∀ j u, (flatM l)[j]? = some u → w.cell? ⟨b, o + j, none⟩ = some u := by
  intro j u hj
  have hjl : j < l.length * 4 := by have := (List.getElem?_eq_some_iff.1 hj).1; rwa [flatM_len] at this
  obtain ⟨b', o', e, _, hc⟩ := hR.at_ (j / 4) (by omega)
  simp only [Option.some.injEq, Addr.mk.injEq] at e
  obtain ⟨rfl, rfl, _⟩ := e
  have hfl := flatM_at l (j / 4) (by omega) (j % 4) (by omega)
  rw [show j / 4 * 4 + j % 4 = j by omega] at hfl
  have := hc (j % 4) u (by rw [← hfl]; exact hj)
  rwa [show o + j / 4 * 4 + j % 4 = o + j by omega] at this
theorem cloneM_empty (a : Addr) (w : World) :
    Calls Tryz.prog 84 #[.slice (some a) 0 0] w fun e w' => ∃ v', e = .returned v' ∧ w'.ownsRow w.heap.size 34 4 v' 0 [] ∧ v' ≠ .slice none 0 0 ∧ Below w.heap.size w w' := by
  obtain ⟨i0, hi, hz0, hz1, hz2⟩ := info_parts info25
  have q := fun (w : World) (a : Option Addr) (n c n' c' : Nat) => Lib.run_eql_slice_nil (P := Tryz.prog) w 35 34 a n c n' c' Tryz.underlying35
  go_enter Tryz.func84, Tryz.ntmps84
  go_wp2_with (at_builtin; refine wpList_append_own _ rfl _ _ 35 rfl w.heap.size 34 i0 (.agg #[.string ⟨#[]⟩, .int .i64 0, .int .i64 0, .int .i64 0]) 4 40 Tryz.underlying35 hi hz0 hz1 hz2 rfl (by decide) _ _ _ rfl (World.ownsRow_made w #[] 0 (Nat.le_refl _) (Nat.zero_le _) (by simp)) a 0 0 [] rfl rfl (fun j u hj => by simp at hj) (by simp) (by unfold maxLen; omega) (by omega) (by simp) ?_)
  intro v' w1 hown hgrow hnil
  go_wp2_with fail
  go_ret
  exact ⟨v', rfl, by simpa using hown, hnil, ((Below.refl _ w).alloc (Nat.le_refl _) _).grown hgrow (by simp) (by intro k hk; simp [Value.ownBlock] at hk; omega)⟩
theorem clone_any (A : Option Addr) (cap : Nat) (l : List Md) (w : World) (hR : RM w w.heap.size A l) (hl : l.length ≤ 100000) (hf : Plane A cap) :
    Calls Tryz.prog 84 #[.slice A l.length cap] w (CloneIs A l w) := by
  have hfe : Plain A cap ∨ ∃ a, A = some a ∧ cap = 0 ∧ l = [] := by
    rcases hf with hf | ⟨a, ha, hc⟩
    · exact .inl hf
    · cases l with
      | nil => exact .inr ⟨a, ha, hc, rfl⟩
      | cons x t => obtain ⟨b, o, e, _⟩ := hR.at_ 0 (by simp); exact .inl (.inr ⟨b, o, e⟩)
  rcases hfe with (⟨rfl, _⟩ | ⟨b, o, rfl⟩) | ⟨a, rfl, rfl, rfl⟩
  · exact (AnyE.slices_Clone_nil Tryz.cloneB l.length cap w).mono fun e w' ⟨h1, h2⟩ => .inl ⟨rfl, h1, h2.symm⟩
  · obtain ⟨i0, hi, hz0, hz1, hz2⟩ := info_parts info25
    refine (AnyE.slices_Clone Tryz.cloneB i0 _ 4 40 hi hz0 hz1 hz2 rfl (by decide) Tryz.sizeOf34 b o l.length cap (flatM l) w (flatM_len l) (by unfold maxLen; omega) (by omega) (rm_cells hR) (flatM_one l)).mono ?_
    rintro e w' ⟨v', rfl, hown, hne, hb⟩
    rcases hown.2 with ⟨h1, _⟩ | ⟨g, c, cur, rfl, h2, _⟩
    · exact absurd h1 hne
    · exact .inr ⟨g, c, rfl, hown, hb⟩
  · refine (cloneM_empty a w).mono ?_
    rintro e w' ⟨v', rfl, hown, hne, hb⟩
    rcases hown.2 with ⟨h1, _⟩ | ⟨g, c, cur, rfl, h2, _⟩
    · exact absurd h1 hne
    · exact .inr ⟨g, c, rfl, hown, hb⟩
theorem rm_none {w : World} {B : Nat} {l : List Md} (h : RM w B none l) : l = [] := by
  cases l with
  | nil => rfl
  | cons x t => obtain ⟨b, o, e, _⟩ := h.at_ 0 (by simp); cases e
set_option maxRecDepth 100000 in
theorem sorted_any (A : Option Addr) (cap : Nat) (l : List Md) (w : World) (hR : RM w w.heap.size A l) (hl : l.length ≤ 100000) (hf : Plane A cap) :
    Calls Tryz.prog 54 #[.slice A l.length cap] w (GivesM (sortM l) w) := by
  have K := Lib.hid (clone_any A cap l w hR hl hf)
  by_cases hA : A = none
  · subst hA
    obtain rfl := rm_none hR
    clear hR hl hf
    go_enter Tryz.func54, Tryz.ntmps54
    go_wp2_with fail
    refine K.out.mono ?_
    rintro e w1 (⟨_, rfl, rfl⟩ | ⟨g, c, rfl, hown, hb⟩)
    · go_wp2_with fail
      refine (AnyF.slices_SortFunc_none (P := Tryz.prog) Tryz.sortB none 0 (.func (.func 25) #[] #[]) _).mono ?_
      rintro e w1 ⟨rfl, rfl⟩
      go_wp2_with fail
      go_ret
      exact ⟨none, 0, rfl, rm_nil _ _ _, ⟨.inl ⟨rfl, rfl⟩, fun b o e => (by cases e), Ty.none _⟩, Below.refl _ _⟩
    · have HS := Lib.hid (sort_own [] g c w.heap.size w1 (by simp) hown)
      have HH := Lib.hid (hown.lt g rfl)
      have HB := Lib.hid hb
      clear hown hb
      go_wp2_with fail
      refine HS.out.mono ?_
      rintro e w2 ⟨rfl, h1, h2⟩
      have H1 := Lib.hid h1
      have H2 := Lib.hid (HB.out.trans h2)
      clear h1 h2
      go_wp2_with fail
      go_ret
      exact ⟨some ⟨g, 0, none⟩, c, rfl, H1.out.1, ⟨.inr ⟨g, 0, rfl⟩, fun b o e => (by cases e; exact HH.out.1), H1.out.2⟩, H2.out⟩
  · have HA := Lib.hid hA
    have hsl := sortM_length l
    have HV : Hid (∀ g c w', (RM w' w'.heap.size (some ⟨g, 0, none⟩) (sortM l) ∧ Ty w' (some ⟨g, 0, none⟩)) → w.heap.size ≤ g → Below w.heap.size w w' → GivesM (sortM l) w (.returned (.slice (some ⟨g, 0, none⟩) l.length c)) w') :=
      Lib.hid (fun g c w' h1 h2 h3 => ⟨some ⟨g, 0, none⟩, c, by rw [hsl], h1.1, ⟨.inr ⟨g, 0, rfl⟩, fun b o e => (by cases e; exact h2), h1.2⟩, h3⟩)
    have HL := Lib.hid hl
    clear hA hR hl hf hsl
    go_enter Tryz.func54, Tryz.ntmps54
    go_wp2_with fail
    refine K.out.mono ?_
    rintro e w1 (⟨h, _⟩ | ⟨g, c, rfl, hown, hb⟩)
    · exact absurd h HA.out
    · have HS := Lib.hid (sort_own l g c w.heap.size w1 (by have := HL.out; omega) hown)
      have HH := Lib.hid (hown.lt g rfl)
      have HB := Lib.hid hb
      clear hown hb
      go_wp2_with fail
      refine HS.out.mono ?_
      rintro e w2 ⟨rfl, h1, h2⟩
      have H1 := Lib.hid h1
      have H2 := Lib.hid (HB.out.trans h2)
      clear h1 h2
      go_wp2_with fail
      go_ret
      exact HV.out g c w2 H1.out HH.out.1 H2.out
end Go.Proofs.YthlcdimofagmfaaGreatDoor
namespace Go.Proofs.YthlcdimofagmfaaGreatDoor
open Go.RowKit Go.Sort Go.Lib Go.Shelf Go.Proofs
set_option linter.unusedSimpArgs false
set_option linter.unnecessarySimpa false
set_option linter.unusedVariables false
/-- append of a slice that reads as a list of modules, a nil one too, to a row of the call's own -/
theorem wpList_append_rm {w : World} {ops : Array Oper} {rest : List Oper} {o : Oper} {a : Act} {Q : Exit → Act → World → Prop} (hgd : o.guard = none) (s x : Operand)
    (ho : o.op = .call { callee := .builtin .append, args := #[s, x], argTypes := #[35, 35] })
    (base N : Nat) (v : Value) (n : Nat) (xs : List Value) (hs : a.eval s = v) (hown : w.ownsRow base 34 4 v n xs)
    (A : Option Addr) (c : Nat) (l : List Md) (hx : a.eval x = .slice A l.length c) (hR : RM w N A l) (hf : Plain A c)
    (hn : n + l.length ≤ 1000000) (hbase : base ≤ w.heap.size)
    (h : ∀ v' w', w'.ownsRow base 34 4 v' (n + l.length) (xs ++ flatM l) → w.grownBy w' v.ownBlock → wpList Tryz.prog ops Q rest (a.put o.dst v') w') : wpList Tryz.prog ops Q (o :: rest) a w := by
  obtain ⟨i0, hi, hz0, hz1, hz2⟩ := info_parts info25
  rcases hf with ⟨rfl, rfl⟩ | ⟨b, oo, rfl⟩
  · obtain rfl := rm_none hR
    refine wpList_append_own_none hgd s x 35 ho base 34 i0 4 Tryz.underlying35 hi v n xs hs hown hx ?_
    refine h v w (by simpa [flatM_nil] using hown) ?_
    exact ⟨rfl, rfl, rfl, Nat.le_refl _, fun _ _ _ => rfl⟩
  · refine wpList_append_own w hgd s x 35 ho base 34 i0 (.agg #[.string ⟨#[]⟩, .int .i64 0, .int .i64 0, .int .i64 0]) 4 40 Tryz.underlying35 hi hz0 hz1 hz2 rfl (by decide) v n xs hs hown ⟨b, oo, none⟩ l.length c (flatM l) hx (flatM_len l) ?_ (flatM_one l) (by unfold maxLen; omega) (by omega) hbase (fun v' w' h1 h2 _ => h v' w' h1 h2)
    intro j u hj
    have hadd : (⟨b, oo, none⟩ : Addr).add j = ⟨b, oo + j, none⟩ := by unfold Addr.add; split <;> simp_all
    rw [hadd]
    exact rm_cells hR j u hj
theorem wpList_append_rmP {w : World} {ops : Array Oper} {rest : List Oper} {o : Oper} {a : Act} {Q : Exit → Act → World → Prop} (hgd : o.guard = none) (s x : Operand)
    (ho : o.op = .call { callee := .builtin .append, args := #[s, x], argTypes := #[35, 35] })
    (base N : Nat) (v : Value) (n : Nat) (xs : List Value) (hs : a.eval s = v) (hown : w.ownsRow base 34 4 v n xs)
    (A : Option Addr) (c : Nat) (l : List Md) (hx : a.eval x = .slice A l.length c) (hR : RM w N A l) (hf : Plane A c)
    (hn : n + l.length ≤ 1000000) (hbase : base ≤ w.heap.size)
    (h : ∀ v' w', w'.ownsRow base 34 4 v' (n + l.length) (xs ++ flatM l) → w.grownBy w' v.ownBlock → wpList Tryz.prog ops Q rest (a.put o.dst v') w') : wpList Tryz.prog ops Q (o :: rest) a w := by
  have hfe : Plain A c ∨ ∃ a, A = some a ∧ c = 0 ∧ l = [] := by
    rcases hf with hf | ⟨a, ha, hc⟩
    · exact .inl hf
    · cases l with
      | nil => exact .inr ⟨a, ha, hc, rfl⟩
      | cons x t => obtain ⟨b, o, e, _⟩ := hR.at_ 0 (by simp); exact .inl (.inr ⟨b, o, e⟩)
  rcases hfe with hfe | ⟨a', rfl, rfl, rfl⟩
  · exact wpList_append_rm hgd s x ho base N v n xs hs hown A c l hx hR hfe hn hbase h
  · obtain ⟨i0, hi, hz0, hz1, hz2⟩ := info_parts info25
    exact wpList_append_own w hgd s x 35 ho base 34 i0 (.agg #[.string ⟨#[]⟩, .int .i64 0, .int .i64 0, .int .i64 0]) 4 40 Tryz.underlying35 hi hz0 hz1 hz2 rfl (by decide) v n xs hs hown a' 0 0 [] hx rfl (fun j u hj => by simp at hj) (by simp) (by unfold maxLen; simp at hn; omega) (by simp at hn; omega) hbase (fun v' w' h1 h2 _ => h v' w' h1 h2)
theorem own_lit (w : World) (base g : Nat) (x : Md) (hg : g = w.heap.size) (hb : base ≤ g) : (w.alloc (.cells #[.string x.1, .int .i64 x.2.1, .int .i64 x.2.2.1, .int .i64 x.2.2.2] 34)).ownsRow base 34 4 (.slice (some ⟨g, 0, none⟩) 1 1) 1 (mc x) :=
  ⟨rfl, .inr ⟨g, 1, _, rfl, hb, by rw [hg]; exact heap_alloc_new w _, Nat.le_refl _, by unfold maxLen; omega, rfl, rfl⟩⟩
/-- a manifest, by value -/
abbrev mf (x : Md) (A : Option Addr) (n c : Nat) : Value := .agg #[.string x.1, .int .i64 x.2.1, .int .i64 x.2.2.1, .int .i64 x.2.2.2, .slice A n c]
abbrev mblk (x : Md) (A : Option Addr) (n c : Nat) (T : TypeId) : Obj := .cells #[.string x.1, .int .i64 x.2.1, .int .i64 x.2.2.1, .int .i64 x.2.2.2, .slice A n c] T
set_option maxRecDepth 100000 in
set_option maxHeartbeats 2000000 in
theorem modules_any (x : Md) (A : Option Addr) (c : Nat) (l : List Md) (w : World) (hR : RM w w.heap.size A l) (hf : Plane A c) (hl : l.length ≤ 90000) :
    Calls Tryz.prog 75 #[mf x A l.length c] w (GivesM (x :: l) w) := by
  have hb0 := bal w (mblk x A l.length c 37)
  have HR := Lib.hid (hR.up hb0)
  have HB := Lib.hid hb0
  have HV : Hid (∀ v w', w'.ownsRow w.heap.size 34 4 v (1 + l.length) (mc x ++ flatM l) → Below w.heap.size w w' → GivesM (x :: l) w (.returned v) w') := Lib.hid (fun v w' h hb => by
    obtain ⟨A', c', rfl, h1, h2, h3⟩ := rm_of_own (l := x :: l) (show w'.ownsRow w.heap.size 34 4 v (x :: l).length (flatM (x :: l)) by rw [List.length_cons, Nat.add_comm, flatM_cons]; exact h)
    exact ⟨A', c', rfl, h1, ⟨h2, h3⟩, hb⟩)
  have HF := Lib.hid hf
  have HL := Lib.hid hl
  clear hb0 hR hf hl
  unfold mf
  unfold mblk at HR HB
  go_enter Tryz.func75, Tryz.ntmps75
  have hown := own_lit (w.alloc (.cells #[.string x.1, .int .i64 x.2.1, .int .i64 x.2.2.1, .int .i64 x.2.2.2, .slice A l.length c] 37)) w.heap.size (w.heap.size + 1) x (by simp) (by omega)
  have hRR := (HR.out.up (bal _ (.cells #[.string x.1, .int .i64 x.2.1, .int .i64 x.2.2.1, .int .i64 x.2.2.2] 34)))
  go_wp2_with (at_builtin; refine wpList_append_rmP rfl _ _ rfl w.heap.size _ _ 1 (mc x) rfl hown A c l rfl hRR HF.out ?_ ?_ ?_)
  · have := HL.out; omega
  · simp; omega
  intro v' w' h1 h2
  have HE := Lib.hid (HV.out v' w' h1 ((HB.out.alloc (by simp) _).grown h2 (by simp; omega) (fun k hk => by simp [Value.ownBlock] at hk; subst hk; simp)))
  clear h1 h2 hown hRR
  go_wp2_with fail
  go_ret
  exact HE.out
theorem cont_any (g : Nat) (p : Md → Bool) (A : Option Addr) (c : Nat) (l : List Md) (w : World) (hR : RM w w.heap.size A l) (hl : l.length ≤ 100000) (hp : ∀ W x, Below w.heap.size w W → Calls Tryz.prog g #[md x] W fun e w' => e = .returned (.bool (p x)) ∧ Below W.heap.size W w')
    (eg : ∀ args w, (callFunc g args).run Tryz.prog w = .ok (.enter g args) w) (hne : l ≠ []) :
    Calls Tryz.prog 76 #[.slice A l.length c, .func (.func g) #[] #[]] w fun e w' => e = .returned (.bool (l.any p)) ∧ Below w.heap.size w w' := by
  obtain ⟨b, o, rfl, hb, _⟩ := hR.at_ 0 (List.length_pos_iff.2 hne)
  have hc := rm_cells hR
  have := AnyQ.slices_ContainsFunc Tryz.contB 4 Tryz.isAgg34 Tryz.sizeOf34 mc (fun _ => rfl) p g #[] eg b o l.length c l w (fun W x hW => by
    have := hp W x hW
    exact this.mono fun e w' ⟨h1, h2⟩ => ⟨h1, hW.trans (h2.mono hW.size)⟩) (Nat.le_refl _) (by omega) hb
    (fun j hj i v hv => by
      have hi : i < 4 := by have := (List.getElem?_eq_some_iff.1 hv).1; simpa [mc] using this
      have e : l[j]! = l[j] := getElem!_pos l j hj
      rw [e] at hv
      have := hc (j * 4 + i) v (by rw [flatM_at l j hj i hi]; exact hv)
      rwa [← Nat.add_assoc] at this)
  rw [List.take_length] at this
  exact this
end Go.Proofs.YthlcdimofagmfaaGreatDoor
namespace Go.Proofs.YthlcdimofagmfaaGreatDoor
open Go.RowKit Go.Sort Go.Lib Go.Shelf Go.Proofs
set_option linter.unusedSimpArgs false
set_option linter.unnecessarySimpa false
set_option linter.unusedVariables false
theorem nextB_drop (l : List Md) (k : Nat) (h : k + 1 < l.length) : nextB (l.drop k) = (decide (l[k].1 = l[k + 1].1) || nextB (l.drop (k + 1))) := by
  rw [List.drop_eq_getElem_cons (by omega : k < l.length), List.drop_eq_getElem_cons h]; rfl
theorem nextB_end (l : List Md) (k : Nat) (h : ¬ k + 1 < l.length) : nextB (l.drop k) = false := by
  have hl : (l.drop k).length ≤ 1 := by rw [List.length_drop]; omega
  match l.drop k, hl with
  | [], _ => rfl
  | [x], _ => rfl
theorem drewB (w : World) (n : Nat) : Below w.heap.size w (w.drewN n) := ((Gr.refl w).drewN n).below
set_option maxRecDepth 100000 in
set_option maxHeartbeats 4000000 in
theorem repeated_any (A : Option Addr) (c : Nat) (l : List Md) (w : World) (hR : RM w w.heap.size A l) (hf : Plain A c) (hl : l.length ≤ 100000) :
    Calls Tryz.prog 81 #[.slice A l.length c] w fun e w' => e = .returned (.bool (twiceB l)) ∧ Below w.heap.size w w' := by
  have K := Lib.hid (sorted_any A c l w hR hl (.inl hf))
  obtain ⟨R, hRR⟩ : ∃ R, R = twiceB l := ⟨_, rfl⟩
  have HN := Lib.hid (show R = nextB (sortM l) by rw [nextB_sorted _ (sortM_sorted l), twiceB_perm (sortM_perm l), hRR])
  rw [← hRR]
  have hls := sortM_length l
  obtain ⟨S, hS⟩ : ∃ S, S = sortM l := ⟨_, rfl⟩
  rw [← hS] at HN K hls
  have hsl : S.length ≤ 100000 := by omega
  clear hR hf hl hRR hS hls
  go_enter Tryz.func81, Tryz.ntmps81
  go_wp2_with fail
  refine K.out.mono ?_
  rintro e w1 ⟨A1, c1, rfl, hre, hpl, hb⟩
  have HRE := Lib.hid hre
  have HB := Lib.hid hb
  clear hre hpl hb K
  go_wp2_with fail
  go_loopw [3] (fun s3 wr => ∃ k : Nat, s3 = .int .i64 ((k : Int) + 1) ∧ k ≤ S.length ∧ Hid (R = nextB (S.drop k)) ∧ Hid (Below w1.heap.size w1 wr)) (fun s3 _ => (S.length + 1 - intOf s3).toNat)
  case atStart => exact ⟨0, rfl, by omega, Lib.hid (by rw [List.drop_zero]; exact HN.out), Lib.hid (Below.refl _ _)⟩
  case round =>
    obtain ⟨k, rfl, hk, HK, HW⟩ := hrel
    have HBW := Lib.hid (show Below w.heap.size w wr from HB.out.trans (HW.out.mono HB.out.size))
    by_cases hlt : k + 1 < S.length
    · obtain ⟨b, o, hA, hbl, c0, _, _, _⟩ := HRE.out.four k (by omega)
      obtain ⟨b', o', hA', _, d0, _, _, _⟩ := HRE.out.four (k + 1) hlt
      subst hA
      simp only [Option.some.injEq, Addr.mk.injEq] at hA'
      obtain ⟨rfl, rfl, _⟩ := hA'
      rw [← HW.out.cell (p := ⟨b, o + k * 4, none⟩) hbl] at c0
      rw [← HW.out.cell (p := ⟨b, o + (k + 1) * 4, none⟩) hbl] at d0
      have HD := Lib.hid (nextB_drop S k hlt)
      have hkl : (k : Int) + 1 < (S.length : Int) := by omega
      have t1 : IntKind.i64.wrap ((k : Int) + 1 - 1) = (k : Int) := by rw [show (k : Int) + 1 - 1 = k by omega]; exact IntWalk.i64_in _ (by omega)
      have t2 : ((k : Int) + 1).toNat = k + 1 := by omega
      by_cases he : (S[k]).1 = (S[k + 1]).1
      · have HR1 := Lib.hid (show R = true by rw [HK.out, HD.out, decide_eq_true he]; rfl)
        rw [he] at c0
        generalize (S[k + 1]).1 = p at *
        clear he HK HD HN
        go_wp2_with fail
        go_quiet (fail)
        have HBQ := Lib.hid (HBW.out.trans ((drewB wr nq).mono HBW.out.size))
        go_wp2_with fail
        go_ret
        exact ⟨ret_bool HR1.out.symm, HBQ.out⟩
      · have HR1 := Lib.hid (show R = nextB (S.drop (k + 1)) by rw [HK.out, HD.out, decide_eq_false he]; rfl)
        have q1 : ((S[k]).1.toList == (S[k + 1]).1.toList) = false := by
          rw [beq_eq_false_iff_ne, Go.ByteArray.toList_eq, Go.ByteArray.toList_eq]
          exact fun h => he (ByteArray.ext (Array.ext' h))
        generalize (S[k + 1]).1 = p at *
        generalize (S[k]).1 = p' at *
        clear he HK HD HN
        go_wp2_with fail
        go_quiet (fail)
        have HWQ := Lib.hid (HW.out.trans ((drewB wr nq).mono HW.out.size))
        clear t1 t2
        go_wp2_with fail
        go_roundw
        case rel => exact ⟨k + 1, by go_num, by omega, HR1, HWQ⟩
        case measure => simp [intOf]; omega
    · have HR1 := Lib.hid (show R = false by rw [HK.out, nextB_end S k hlt])
      have hkl : ¬ (k : Int) + 1 < (S.length : Int) := by omega
      clear HK HN hlt
      go_wp2_with fail
      go_ret
      exact ⟨ret_bool HR1.out.symm, HBW.out⟩
end Go.Proofs.YthlcdimofagmfaaGreatDoor
namespace Go.Proofs.YthlcdimofagmfaaGreatDoor
open Go.RowKit Go.Sort Go.Lib Go.Shelf Go.Proofs
set_option linter.unusedSimpArgs false
set_option linter.unnecessarySimpa false
set_option linter.unusedVariables false
theorem eg32 : ∀ args w, (callFunc 77 args).run Tryz.prog w = .ok (.enter 77 args) w := enters_of Tryz.func77 (by kernel_rfl) rfl
theorem eg33 : ∀ args w, (callFunc 79 args).run Tryz.prog w = .ok (.enter 79 args) w := enters_of Tryz.func79 (by kernel_rfl) rfl
def p1 (x : Md) : Bool := !pathB x.1.data.toList
def p2 (x : Md) : Bool := !okV x.2.1 x.2.2.1 x.2.2.2
theorem chkM_def (m : Md) (R : List Md) : chkM m R = if (m :: R).any p1 then 5 else if (m :: R).any p2 then 11 else if twiceB (m :: R) then 6 else if 64 < R.length then 2 else 0 := rfl
theorem cont32 (A : Option Addr) (c : Nat) (l : List Md) (w : World) (hM : Mx w) (hR : RM w w.heap.size A l) (hl : l.length ≤ 100000) (hne : l ≠ []) (v : Bool) (hv : l.any p1 = v) :
    Calls Tryz.prog 76 #[.slice A l.length c, .func (.func 77) #[] #[]] w fun e w' => e = .returned (.bool v) ∧ Below w.heap.size w w' := by
  subst hv
  exact cont_any 77 p1 A c l w hR hl (fun W x hW => closure32 x W (hM.keep hW hM.1)) eg32 hne
theorem cont33 (A : Option Addr) (c : Nat) (l : List Md) (w : World) (hR : RM w w.heap.size A l) (hl : l.length ≤ 100000) (hne : l ≠ []) (v : Bool) (hv : l.any p2 = v) :
    Calls Tryz.prog 76 #[.slice A l.length c, .func (.func 79) #[] #[]] w fun e w' => e = .returned (.bool v) ∧ Below w.heap.size w w' := by
  subst hv
  exact cont_any 79 p2 A c l w hR hl (fun W x hW => closure33 x W) eg33 hne
theorem rep_at (A : Option Addr) (c : Nat) (l : List Md) (w : World) (hR : RM w w.heap.size A l) (hf : Plain A c) (hl : l.length ≤ 100000) (v : Bool) (hv : twiceB l = v) :
    Calls Tryz.prog 81 #[.slice A l.length c] w fun e w' => e = .returned (.bool v) ∧ Below w.heap.size w w' := by
  subst hv; exact repeated_any A c l w hR hf hl
set_option maxRecDepth 100000 in
set_option maxHeartbeats 4000000 in
theorem check_any (x : Md) (A : Option Addr) (c : Nat) (l : List Md) (w : World) (hM : Mx w) (hR : RM w w.heap.size A l) (hf : Plane A c) (hl : l.length ≤ 90000) :
    Calls Tryz.prog 51 #[mf x A l.length c] w fun e w' => e = .returned (.int .i64 (chkM x l)) ∧ Below w.heap.size w w' := by
  have hb0 := bal w (mblk x A l.length c 37)
  have K := Lib.hid (modules_any x A c l _ (hR.up hb0) hf hl)
  have HM0 := Lib.hid (hM.keep hb0 hM.1)
  have HB0 := Lib.hid hb0
  have c4 : (w.alloc (mblk x A l.length c 37)).cell? ⟨w.heap.size, 4, none⟩ = some (.slice A l.length c) := by simp
  have HC4 := Lib.hid c4
  have hlen : (x :: l).length ≤ 100000 := by simp; omega
  have hne : x :: l ≠ [] := by simp
  have HL := Lib.hid (And.intro hlen hne)
  have hcd := chkM_def x l
  obtain ⟨V, hV⟩ : ∃ V, V = chkM x l := ⟨_, rfl⟩
  rw [← hV] at hcd ⊢
  have HV := Lib.hid hcd
  obtain ⟨X, hX⟩ : ∃ X, X = x :: l := ⟨_, rfl⟩
  rw [← hX] at K HL HV
  have hn4 : l.length ≤ 90000 := hl
  clear hb0 hM hR hf hlen hne hV hcd hX c4 hl
  unfold mf at *
  unfold mblk at *
  go_enter Tryz.func51, Tryz.ntmps51
  go_wp2_with fail
  refine K.out.mono ?_
  rintro e w1 ⟨A1, c1, rfl, hre, ⟨hpl, _⟩, hb1⟩
  have HB1 := Lib.hid (HB0.out.trans (hb1.mono HB0.out.size))
  have HM1 := Lib.hid (HM0.out.keep hb1 HM0.out.1)
  have HC1 := Lib.hid (cell_keep HC4.out hb1)
  have HRE := Lib.hid (And.intro hre hpl)
  clear hre hpl hb1 K HB0 HM0 HC4
  cases hB1 : X.any p1 with
  | true =>
    have HVV := Lib.hid (show V = 5 by rw [HV.out, hB1]; rfl)
    have K1 := Lib.hid (cont32 A1 c1 X w1 HM1.out HRE.out.1 HL.out.1 HL.out.2 _ hB1)
    clear hB1
    go_wp2_with fail
    refine K1.out.mono ?_
    rintro e w2 ⟨rfl, hb2⟩
    have HB2 := Lib.hid (HB1.out.trans (hb2.mono HB1.out.size))
    clear hb2
    go_wp2_with fail
    go_ret
    exact ⟨ret_int HVV.out.symm, HB2.out⟩
  | false =>
    have HV1 := Lib.hid (show V = if X.any p2 then 11 else if twiceB X then 6 else if 64 < l.length then 2 else 0 by rw [HV.out, hB1]; rfl)
    have K1 := Lib.hid (cont32 A1 c1 X w1 HM1.out HRE.out.1 HL.out.1 HL.out.2 _ hB1)
    clear hB1 HV
    go_wp2_with fail
    refine K1.out.mono ?_
    rintro e w2 ⟨rfl, hb2⟩
    have HB2 := Lib.hid (HB1.out.trans (hb2.mono HB1.out.size))
    have HC2 := Lib.hid (cell_keep HC1.out hb2)
    have HRE2 := Lib.hid (And.intro (HRE.out.1.up hb2) HRE.out.2)
    clear hb2 HB1 HC1 HRE HM1 K1
    cases hB2 : X.any p2 with
    | true =>
      have HVV := Lib.hid (show V = 11 by rw [HV1.out, hB2]; rfl)
      have K1 := Lib.hid (cont33 A1 c1 X w2 HRE2.out.1 HL.out.1 HL.out.2 _ hB2)
      clear hB2
      go_wp2_with fail
      refine K1.out.mono ?_
      rintro e w3 ⟨rfl, hb3⟩
      have HB3 := Lib.hid (HB2.out.trans (hb3.mono HB2.out.size))
      clear hb3
      go_wp2_with fail
      go_ret
      exact ⟨ret_int HVV.out.symm, HB3.out⟩
    | false =>
      have HV2 := Lib.hid (show V = if twiceB X then 6 else if 64 < l.length then 2 else 0 by rw [HV1.out, hB2]; rfl)
      have K1 := Lib.hid (cont33 A1 c1 X w2 HRE2.out.1 HL.out.1 HL.out.2 _ hB2)
      clear hB2 HV1
      go_wp2_with fail
      refine K1.out.mono ?_
      rintro e w3 ⟨rfl, hb3⟩
      have HB3 := Lib.hid (HB2.out.trans (hb3.mono HB2.out.size))
      have HC3 := Lib.hid (cell_keep HC2.out hb3)
      have HRE3 := Lib.hid (And.intro (HRE2.out.1.up hb3) HRE2.out.2)
      clear hb3 HB2 HC2 HRE2 K1
      cases hB3 : twiceB X with
      | true =>
        have HVV := Lib.hid (show V = 6 by rw [HV2.out, hB3]; rfl)
        have K1 := Lib.hid (rep_at A1 c1 X w3 HRE3.out.1 HRE3.out.2 HL.out.1 _ hB3)
        clear hB3
        go_wp2_with fail
        refine K1.out.mono ?_
        rintro e w4 ⟨rfl, hb4⟩
        have HB4 := Lib.hid (HB3.out.trans (hb4.mono HB3.out.size))
        clear hb4
        go_wp2_with fail
        go_ret
        exact ⟨ret_int HVV.out.symm, HB4.out⟩
      | false =>
        have HV3 := Lib.hid (show V = if 64 < l.length then 2 else 0 by rw [HV2.out, hB3]; rfl)
        have K1 := Lib.hid (rep_at A1 c1 X w3 HRE3.out.1 HRE3.out.2 HL.out.1 _ hB3)
        clear hB3 HV2
        go_wp2_with fail
        refine K1.out.mono ?_
        rintro e w4 ⟨rfl, hb4⟩
        have HB4 := Lib.hid (HB3.out.trans (hb4.mono HB3.out.size))
        have d4 := cell_keep HC3.out hb4
        clear hb4 HB3 HC3 HRE3 K1
        by_cases h64 : 64 < l.length
        · have HVV := Lib.hid (show V = 2 by rw [HV3.out, if_pos h64])
          have q : (64 : Int) < (l.length : Int) := by omega
          go_wp2_with fail
          go_ret
          exact ⟨ret_int HVV.out.symm, HB4.out⟩
        · have HVV := Lib.hid (show V = 0 by rw [HV3.out, if_neg h64])
          have q : ¬ (64 : Int) < (l.length : Int) := by omega
          go_wp2_with fail
          go_ret
          exact ⟨ret_int HVV.out.symm, HB4.out⟩
end Go.Proofs.YthlcdimofagmfaaGreatDoor
