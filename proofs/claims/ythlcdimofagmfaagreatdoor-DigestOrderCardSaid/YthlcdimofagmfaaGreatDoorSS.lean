/-
  Lists of sources: how they lie, cloned and sorted. Condition: at most 100000 sources.
-/
import Derived.Test.YthlcdimofagmfaaGreatDoorS
import Derived.Test.YthlcdimofagmfaaGreatDoorSoS
namespace Go.Proofs.YthlcdimofagmfaaGreatDoor
open Go.RowKit Go.Sort Go.Lib Go.Shelf Go.Proofs
set_option linter.unusedSimpArgs false
set_option linter.unnecessarySimpa false
set_option linter.unusedVariables false
/-- a source: its name and its text -/
abbrev Src := ByteArray × ByteArray
def sc (x : Src) : List Value := [.string x.1, .string x.2]
abbrev sd (x : Src) : Value := .agg #[.string x.1, .string x.2]
def flatS (l : List Src) : List Value := l.flatMap sc
theorem flatS_nil : flatS [] = [] := rfl
theorem flatS_cons (x : Src) (l : List Src) : flatS (x :: l) = sc x ++ flatS l := rfl
theorem flatS_append (l m : List Src) : flatS (l ++ m) = flatS l ++ flatS m := by simp [flatS]
theorem flatS_len (l : List Src) : (flatS l).length = l.length * 2 := by
  induction l with
  | nil => rfl
  | cons s l ih => simp only [flatS_cons, List.length_append, List.length_cons, ih, sc, List.length_nil]; omega
theorem flatS_at (l : List Src) (i : Nat) (h : i < l.length) (c : Nat) (hc : c < 2) : (flatS l)[i * 2 + c]? = (sc l[i])[c]? := by
  induction l generalizing i with
  | nil => simp at h
  | cons s l ih =>
    rw [flatS_cons]
    have hm : (sc s).length = 2 := rfl
    cases i with
    | zero => rw [List.getElem?_append_left (by omega)]; simp
    | succ i =>
      rw [List.getElem?_append_right (by omega), hm, show (i + 1) * 2 + c - 2 = i * 2 + c by omega]
      simpa using ih i (by simpa using h)
theorem sc_one (x : Src) : ∀ v ∈ sc x, v.oneCell' = true := by
  intro v hv; simp [sc] at hv; rcases hv with rfl | rfl <;> rfl
theorem flatS_one (l : List Src) : ∀ v ∈ flatS l, v.oneCell' = true := by
  intro v hv
  simp only [flatS, List.mem_flatMap] at hv
  obtain ⟨s, _, hs⟩ := hv
  exact sc_one s v hs
/-- the slice at A reads as the modules l, in blocks below B -/
structure RN (w : World) (B : Nat) (A : Option Addr) (l : List Src) : Prop where
  at_ : ∀ i (h : i < l.length), ∃ b o, A = some ⟨b, o, none⟩ ∧ b < B ∧ ∀ c v, (sc l[i])[c]? = some v → w.cell? ⟨b, o + i * 2 + c, none⟩ = some v
theorem RN.below {w w' : World} {B : Nat} {A : Option Addr} {l : List Src} (h : RN w B A l) (hb : Below B w w') : RN w' B A l :=
  ⟨fun i hi => by
    obtain ⟨b, o, e, hl, c0⟩ := h.at_ i hi
    exact ⟨b, o, e, hl, fun c v hv => by rw [hb.cell (p := ⟨b, o + i * 2 + c, none⟩) hl]; exact c0 c v hv⟩⟩
theorem RN.up {w w' : World} {A : Option Addr} {l : List Src} (h : RN w w.heap.size A l) (hb : Below w.heap.size w w') : RN w' w'.heap.size A l :=
  ⟨fun i hi => by
    obtain ⟨b, o, e, hl, c⟩ := (h.below hb).at_ i hi
    exact ⟨b, o, e, Nat.lt_of_lt_of_le hl hb.size, c⟩⟩
theorem RN.le {w : World} {B B' : Nat} {A : Option Addr} {l : List Src} (h : RN w B A l) (hb : B ≤ B') : RN w B' A l :=
  ⟨fun i hi => by
    obtain ⟨b, o, e, hl, c⟩ := h.at_ i hi
    exact ⟨b, o, e, Nat.lt_of_lt_of_le hl hb, c⟩⟩
theorem rn_nil (w : World) (B : Nat) (A : Option Addr) : RN w B A [] := ⟨fun i hi => by simp at hi⟩
/-- the two cells of one source -/
theorem RN.two {w : World} {B : Nat} {A : Option Addr} {l : List Src} (h : RN w B A l) (i : Nat) (hi : i < l.length) : ∃ b o, A = some ⟨b, o, none⟩ ∧ b < B ∧
    w.cell? ⟨b, o + i * 2, none⟩ = some (.string l[i].1) ∧ w.cell? ⟨b, o + i * 2 + 1, none⟩ = some (.string l[i].2) := by
  obtain ⟨b, o, e, hl, c⟩ := h.at_ i hi
  exact ⟨b, o, e, hl, by simpa using c 0 _ rfl, c 1 _ rfl⟩
def TyS (w : World) (A : Option Addr) : Prop := ∀ b o, A = some ⟨b, o, none⟩ → ∃ cs fz, w.heap[b]? = some (.cells cs 56 fz)
theorem TyS.none (w : World) : TyS w none := fun b o e => by cases e
theorem info56 : (Tryz.prog.info? 56).map (fun i => (i.zero, i.size, i.bytes)) = some (some (.agg #[.string ⟨#[]⟩, .string ⟨#[]⟩]), 2, 32) := by kernel_rfl
theorem own_tyS {w : World} {B n : Nat} {v : Value} {xs : List Value} (h : w.ownsRow B 56 2 v n xs) : ∀ A m c, v = .slice A m c → TyS w A := by
  intro A m c hv b o hA
  subst hA
  rcases h.2 with ⟨h1, _⟩ | ⟨g, cap, cur, h1, _, hg, _⟩
  · rw [h1] at hv; cases hv
  · rw [h1] at hv; cases hv; exact ⟨_, _, hg⟩
theorem rn_of_own {w : World} {B : Nat} {v : Value} {l : List Src} (h : w.ownsRow B 56 2 v l.length (flatS l)) : ∃ A c, v = .slice A l.length c ∧ RN w w.heap.size A l ∧ Plain A c ∧ Hi B A ∧ TyS w A := by
  have hty := own_tyS h
  rcases own_cell h with ⟨h1, h2⟩ | ⟨g, c, rfl, hB, hg, _, _, hc⟩
  · obtain rfl : l = [] := List.length_eq_zero_iff.1 h2
    exact ⟨none, 0, h1, rn_nil _ _ _, .inl ⟨rfl, rfl⟩, fun b o e => (by cases e), TyS.none _⟩
  · refine ⟨_, c, rfl, ⟨fun i hi => ⟨g, 0, rfl, hg, fun c v hv => ?_⟩⟩, .inr ⟨g, 0, rfl⟩, fun b o e => (by cases e; exact hB), hty _ _ _ rfl⟩
    have hlt : c < 2 := by have := (List.getElem?_eq_some_iff.1 hv).1; simpa [sc] using this
    refine hc (0 + i * 2 + c) v ?_
    rw [Nat.zero_add, flatS_at l i hi c hlt]; exact hv
/-- the order of names -/
def cmpN (x y : Src) : Int := cmpB x.1 y.1
def LeN (x y : Src) : Prop := cmpN x y ≤ 0
theorem ltN (x y : Src) : ltOf cmpN x y = decide (cmpN x y < 0) := by
  unfold ltOf
  rfl
theorem swoN : SWO (ltOf cmpN) where
  irrefl x := by rw [ltN]; unfold cmpN; rw [cmpB_ok.self]; rfl
  trans x y z h1 h2 := by
    rw [ltN] at *
    unfold cmpN at *
    simp only [decide_eq_true_eq] at *
    have h3 := cmpB_ok.trans x.1 y.1 z.1 (Int.le_of_lt h1) (Int.le_of_lt h2)
    rcases Int.lt_or_eq_of_le h3 with h | h
    · exact h
    · have := (cmpB_ok.strict (Int.le_of_lt h1) (Int.le_of_lt h2) h).1; omega
  ntrans x y z h1 h2 := by
    rw [ltN] at *
    unfold cmpN at *
    simp only [decide_eq_false_iff_not] at *
    have a1 := cmpB_ok.anti x.1 y.1
    have a2 := cmpB_ok.anti y.1 z.1
    have a3 := cmpB_ok.anti x.1 z.1
    have h3 := cmpB_ok.trans z.1 y.1 x.1 (by omega) (by omega)
    omega
set_option maxRecDepth 100000 in
theorem closure34 (x y : Src) (w : World) : Calls Tryz.prog 34 #[sd x, sd y] w fun e w' => e = .returned (.int .i64 (cmpN x y)) ∧ Gr w w' := by
  unfold sd
  have HG := Lib.hid ((((Gr.refl w).alloc (.cells #[.string x.1, .string x.2] 56)).alloc (.cells #[.string y.1, .string y.2] 56)))
  have x0 : ((w.alloc (.cells #[.string x.1, .string x.2] 56)).alloc (.cells #[.string y.1, .string y.2] 56)).cell? ⟨w.heap.size, 0, none⟩ = some (.string x.1) := by simp
  have y0 : ((w.alloc (.cells #[.string x.1, .string x.2] 56)).alloc (.cells #[.string y.1, .string y.2] 56)).cell? ⟨w.heap.size + 1, 0, none⟩ = some (.string y.1) := by simp
  go_enter Tryz.func34, Tryz.ntmps34
  go_wp2_with fail
  refine (scmp_q _ _ _ rfl _).mono ?_
  rintro e w1 ⟨rfl, rfl⟩
  go_wp2_with fail
  go_ret
  exact ⟨rfl, HG.out⟩
theorem holds_ownS {w : World} {B g cap : Nat} {R : List Src} (h : w.ownsRow B 56 2 (.slice (some ⟨g, 0, none⟩) R.length cap) R.length (flatS R)) : HoldsK sc 2 w g 0 R.toArray := by
  intro j hj
  have hj' : j < R.length * 2 := by simpa using hj
  rw [get_flatK _ _ _ _ (by simpa using hj')]
  have hq : j / 2 < R.length := by omega
  have hc := h.cellAt j hj'
  have hf := flatS_at R (j / 2) hq (j % 2) (by omega)
  rw [show j / 2 * 2 + j % 2 = j by omega] at hf
  have e : (R.toArray[j / 2]!) = R[j / 2] := by simp [hq]
  rw [e, Nat.zero_add]
  refine ⟨hc.trans ?_, h.frozenAt j⟩
  rw [hf]
  have hm : j % 2 < (sc R[j / 2]).length := by show j % 2 < 2; omega
  have hg : (sc R[j / 2])[j % 2]! = (sc R[j / 2])[j % 2] := getElem!_pos (sc R[j / 2]) (j % 2) hm
  rw [List.getElem?_eq_getElem hm]
  show some _ = some ((sc R[j / 2])[j % 2]!)
  rw [hg]
theorem below_sortS {w : World} {B g n : Nat} {d : Array Src} {os : Array Obj} (hB : B ≤ g) (hg : g < w.heap.size) : Below B w (sortWorldK sc 2 w g 0 n d os) := by
  refine ⟨rfl, rfl, rfl, by simp [sortWorldK, putRowK, putRow, mapBlock, Sort.ahead], fun k hk => ?_⟩
  unfold sortWorldK
  have hne : g ≠ k := by omega
  have hlt : k < w.heap.size := by omega
  rw [heap_grow_old _ _ (by simpa [putRowK, putRow, mapBlock, Sort.ahead] using hlt)]
  simp [putRowK, putRow, mapBlock, Sort.ahead, Array.getElem?_modify, hne]
theorem sortS_own (R : List Src) (g cap B : Nat) (w : World) (hR : R.length ≤ 1000000) (hown : w.ownsRow B 56 2 (.slice (some ⟨g, 0, none⟩) R.length cap) R.length (flatS R)) :
    Calls Tryz.prog 33 #[.slice (some ⟨g, 0, none⟩) R.length cap, .func (.func 34) #[] #[]] w fun e w' => e = .returned (.tuple #[]) ∧ (∃ D : List Src, D.Perm R ∧ D.Pairwise LeN ∧ RN w' w'.heap.size (some ⟨g, 0, none⟩) D) ∧ Below B w w' := by
  have hg := hown.lt g rfl
  have hH := holds_ownS hown
  have eg : ∀ args w, (callFunc 34 args).run Tryz.prog w = .ok (.enter 34 args) w := enters_of Tryz.func34 (by kernel_rfl) rfl
  have hcon := AnyQ.slices_SortFunc Tryz.sortS 2 Tryz.isAgg56 Tryz.sizeOf56 sc (fun _ => rfl) sc_one cmpN swoN 34 #[] g 0 cap R.toArray w eg
    (fun m os dk _ x y => closure34 x y _) hH hg.2 (by simp; omega)
  rw [List.size_toArray] at hcon
  refine Calls.mono hcon ?_
  rintro e w' ⟨rfl, d', n, os, hp, hs, rfl⟩
  have hsz : d'.size = R.length := by simpa using hp.1
  have hperm : d'.toList.Perm R := by
    have := hp.2.2
    rw [← hsz, Array.extract_size, hsz, show R.toArray.extract 0 R.length = R.toArray by simp] at this
    simpa using this
  have hsort : d'.toList.Pairwise LeN := by
    rw [List.pairwise_iff_getElem]
    intro i j hi hj hij
    have hi' : i < d'.size := by simpa using hi
    have hj' : j < d'.size := by simpa using hj
    have := hs i j (Nat.zero_le _) hij (by simpa [hsz] using hj')
    rw [ltN] at this
    have a := cmpB_ok.anti (d'[i]!).1 (d'[j]!).1
    simp only [decide_eq_false_iff_not] at this
    show cmpN _ _ ≤ 0
    unfold cmpN at *
    simp [hi', hj'] at this a ⊢
    omega
  refine ⟨rfl, ⟨d'.toList, hperm, hsort, ⟨fun i hi => ⟨g, 0, rfl, ?_, fun c v hv => ?_⟩⟩⟩, below_sortS hg.1 hg.2⟩
  · have := hg.2
    simp [sortWorldK, putRowK, putRow, mapBlock, Sort.ahead]; omega
  · have hi' : i < d'.size := by simpa using hi
    have hc : c < 2 := by have := (List.getElem?_eq_some_iff.1 hv).1; simpa [sc] using this
    have h0 := (holdsK_sortWorldK sc 2 w g 0 n R.toArray d' os hg.2 hH (by simpa using hsz)).cell (i := i) (c := c) hi' hc
    have e : d'[i]! = d'.toList[i] := by simp [hi']
    rw [e] at h0
    have hm : c < (sc d'.toList[i]).length := by show c < 2; omega
    have hg : (sc d'.toList[i])[c]! = (sc d'.toList[i])[c] := getElem!_pos (sc d'.toList[i]) c hm
    rw [hg] at h0
    rw [h0.1, ← hv, List.getElem?_eq_getElem hm]
def CloneSs (A : Option Addr) (l : List Src) (w : World) (e : Ending) (w' : World) : Prop :=
  (A = none ∧ e = .returned (.slice none 0 0) ∧ w = w') ∨ ∃ g c, e = .returned (.slice (some ⟨g, 0, none⟩) l.length c) ∧ w'.ownsRow w.heap.size 56 2 (.slice (some ⟨g, 0, none⟩) l.length c) l.length (flatS l) ∧ Below w.heap.size w w'
theorem rn_cells {w : World} {b o : Nat} {l : List Src} {B : Nat} (hR : RN w B (some ⟨b, o, none⟩) l) : ∀ j u, (flatS l)[j]? = some u → w.cell? ⟨b, o + j, none⟩ = some u := by
  intro j u hj
  have hjl : j < l.length * 2 := by have := (List.getElem?_eq_some_iff.1 hj).1; rwa [flatS_len] at this
  obtain ⟨b', o', e, _, hc⟩ := hR.at_ (j / 2) (by omega)
  simp only [Option.some.injEq, Addr.mk.injEq] at e
  obtain ⟨rfl, rfl, _⟩ := e
  have hfl := flatS_at l (j / 2) (by omega) (j % 2) (by omega)
  rw [show j / 2 * 2 + j % 2 = j by omega] at hfl
  have := hc (j % 2) u (by rw [← hfl]; exact hj)
  rwa [show o + j / 2 * 2 + j % 2 = o + j by omega] at this
theorem cloneS_empty (a : Addr) (w : World) :
    Calls Tryz.prog 32 #[.slice (some a) 0 0] w fun e w' => ∃ v', e = .returned v' ∧ w'.ownsRow w.heap.size 56 2 v' 0 [] ∧ v' ≠ .slice none 0 0 ∧ Below w.heap.size w w' := by
  obtain ⟨i0, hi, hz0, hz1, hz2⟩ := info_parts info56
  have q := fun (w : World) (a : Option Addr) (n c n' c' : Nat) => Lib.run_eql_slice_nil (P := Tryz.prog) w 38 56 a n c n' c' Tryz.underlying38
  go_enter Tryz.func32, Tryz.ntmps32
  go_wp2_with (at_builtin; refine wpList_append_own _ rfl _ _ 38 rfl w.heap.size 56 i0 (.agg #[.string ⟨#[]⟩, .string ⟨#[]⟩]) 2 32 Tryz.underlying38 hi hz0 hz1 hz2 rfl (by decide) _ _ _ rfl (World.ownsRow_made w #[] 0 (Nat.le_refl _) (Nat.zero_le _) (by simp)) a 0 0 [] rfl rfl (fun j u hj => by simp at hj) (by simp) (by unfold maxLen; omega) (by omega) (by simp) ?_)
  intro v' w1 hown hgrow hnil
  go_wp2_with fail
  go_ret
  exact ⟨v', rfl, by simpa using hown, hnil, ((Below.refl _ w).alloc (Nat.le_refl _) _).grown hgrow (by simp) (by intro k hk; simp [Value.ownBlock] at hk; omega)⟩
theorem cloneS_any (A : Option Addr) (cap : Nat) (l : List Src) (w : World) (hR : RN w w.heap.size A l) (hl : l.length ≤ 100000) (hf : Plane A cap) :
    Calls Tryz.prog 32 #[.slice A l.length cap] w (CloneSs A l w) := by
  have hfe : Plain A cap ∨ ∃ a, A = some a ∧ cap = 0 ∧ l = [] := by
    rcases hf with hf | ⟨a, ha, hc⟩
    · exact .inl hf
    · cases l with
      | nil => exact .inr ⟨a, ha, hc, rfl⟩
      | cons x t => obtain ⟨b, o, e, _⟩ := hR.at_ 0 (by simp); exact .inl (.inr ⟨b, o, e⟩)
  rcases hfe with (⟨rfl, _⟩ | ⟨b, o, rfl⟩) | ⟨a, rfl, rfl, rfl⟩
  · exact (AnyE.slices_Clone_nil Tryz.cloneS l.length cap w).mono fun e w' ⟨h1, h2⟩ => .inl ⟨rfl, h1, h2.symm⟩
  · obtain ⟨i0, hi, hz0, hz1, hz2⟩ := info_parts info56
    refine (AnyE.slices_Clone Tryz.cloneS i0 _ 2 32 hi hz0 hz1 hz2 rfl (by decide) Tryz.sizeOf56 b o l.length cap (flatS l) w (flatS_len l) (by unfold maxLen; omega) (by omega) (rn_cells hR) (flatS_one l)).mono ?_
    rintro e w' ⟨v', rfl, hown, hne, hb⟩
    rcases hown.2 with ⟨h1, _⟩ | ⟨g, c, cur, rfl, h2, _⟩
    · exact absurd h1 hne
    · exact .inr ⟨g, c, rfl, hown, hb⟩
  · refine (cloneS_empty a w).mono ?_
    rintro e w' ⟨v', rfl, hown, hne, hb⟩
    rcases hown.2 with ⟨h1, _⟩ | ⟨g, c, cur, rfl, h2, _⟩
    · exact absurd h1 hne
    · exact .inr ⟨g, c, rfl, hown, hb⟩
theorem rn_none {w : World} {B : Nat} {l : List Src} (h : RN w B none l) : l = [] := by
  cases l with
  | nil => rfl
  | cons x t => obtain ⟨b, o, e, _⟩ := h.at_ 0 (by simp); cases e
end Go.Proofs.YthlcdimofagmfaaGreatDoor
