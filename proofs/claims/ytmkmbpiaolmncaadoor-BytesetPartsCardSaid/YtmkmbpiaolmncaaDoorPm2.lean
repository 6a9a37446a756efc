/-
  PLAIN: the parts, sorted by their least bytes, are the classes in the order of their first bytes.
-/
import Derived.Test.YtmkmbpiaolmncaaDoorPm
namespace Go.Proofs.YtmkmbpiaolmncaaDoor
set_option linter.unusedSimpArgs false
set_option linter.unnecessarySimpa false
set_option linter.unusedVariables false
theorem sameB_refl (a : Nat) (l : List BS) : sameB a a l = true := by unfold sameB; rw [List.all_eq_true]; intro s _; simp
theorem sameB_symm {a b : Nat} {l : List BS} (h : sameB a b l = true) : sameB b a l = true := by
  unfold sameB at *; rw [List.all_eq_true] at *; intro s hs; have := h s hs; simp only [beq_iff_eq] at *; exact this.symm
theorem sameB_trans {a b c : Nat} {l : List BS} (h : sameB a b l = true) (h' : sameB b c l = true) : sameB a c l = true := by
  unfold sameB at *; rw [List.all_eq_true] at *; intro s hs; have h1 := h s hs; have h2 := h' s hs; simp only [beq_iff_eq] at *; exact h1.trans h2
/-- the class of a byte -/
def cls (l : List BS) (x : Nat) : Nat → BS
  | 0 => 0#256
  | k + 1 => if sameB x k l then wth (cls l x k) k else cls l x k
theorem mem_cls (l : List BS) (x : Nat) : ∀ (k y : Nat), k ≤ 256 → y < 256 → (cls l x k).getLsbD y = (decide (y < k) && sameB x y l)
  | 0, y, _, hy => by simp [cls]
  | k + 1, y, hk, hy => by
    have ih := mem_cls l x k y (by omega) hy
    unfold cls
    cases h : sameB x k l with
    | true =>
      rw [if_pos rfl, mem_wth _ k y hy, ih]
      by_cases e : y = k
      · subst e; rw [h]; simp
      · have h1 : decide (y < k + 1) = decide (y < k) := by rw [decide_eq_decide]; omega
        rw [h1]; simp [e]
    | false =>
      rw [if_neg (by simp), ih]
      by_cases e : y = k
      · subst e; rw [h]; simp
      · have h1 : decide (y < k + 1) = decide (y < k) := by rw [decide_eq_decide]; omega
        rw [h1]
def cl (l : List BS) (x : Nat) : BS := cls l x 256
theorem mem_cl (l : List BS) (x y : Nat) (hy : y < 256) : (cl l x).getLsbD y = sameB x y l := by
  unfold cl; rw [mem_cls l x 256 y (Nat.le_refl _) hy]; simp [hy]
theorem ext_bs {s t : BS} (h : ∀ y, y < 256 → s.getLsbD y = t.getLsbD y) : s = t := BitVec.eq_of_getLsbD_eq (fun i hi => h i hi)
def first (l : List BS) (x : Nat) : Bool := (List.range x).all fun z => !sameB z x l
theorem first_iff (l : List BS) (x : Nat) : first l x = true ↔ ∀ z, z < x → sameB z x l = false := by
  unfold first; rw [List.all_eq_true]; simp
def refL (l : List BS) (k : Nat) : List BS := ((List.range k).filter (first l)).map (cl l)
theorem refL_next (l : List BS) (k : Nat) : refL l (k + 1) = if first l k then refL l k ++ [cl l k] else refL l k := by
  unfold refL
  rw [List.range_succ, List.filter_append, List.map_append]
  cases h : first l k with
  | true => simp [h]
  | false => simp [h]
/-- of two rows in order with the same members -/
theorem sorted_ext : ∀ (l m : List Nat), l.Pairwise (· < ·) → m.Pairwise (· < ·) → (∀ x, x ∈ l ↔ x ∈ m) → l = m
  | [], [], _, _, _ => rfl
  | [], b :: m, _, _, h => by have := (h b).2 (by simp); simp at this
  | a :: l, [], _, _, h => by have := (h a).1 (by simp); simp at this
  | a :: l, b :: m, hl, hm, h => by
    rw [List.pairwise_cons] at hl hm
    have hab : a = b := by
      rcases List.mem_cons.1 ((h a).1 (by simp)) with e | e
      · exact e
      · rcases List.mem_cons.1 ((h b).2 (by simp)) with e' | e'
        · exact e'.symm
        · have := hl.1 b e'; have := hm.1 a e; omega
    subst hab
    rw [sorted_ext l m hl.2 hm.2 (fun x => ?_)]
    constructor
    · intro hx
      rcases List.mem_cons.1 ((h x).1 (by simp [hx])) with e | e
      · subst e; have := hl.1 x hx; omega
      · exact e
    · intro hx
      rcases List.mem_cons.1 ((h x).2 (by simp [hx])) with e | e
      · subst e; have := hm.1 x hx; omega
      · exact e
theorem ne_outs (s : BS) : ∀ (l : List BS), (∀ x ∈ l, x ≠ 0#256) → ∀ x ∈ splitL l s, x ≠ 0#256
  | [], _, x, hx => by simp [splitL, outs] at hx
  | p :: t, h, x, hx => by
    have ih := ne_outs s t (fun y hy => h y (by simp [hy]))
    have hp := h p (by simp)
    unfold splitL at hx ih
    cases hc : cutP s p with
    | false =>
      rw [(map_no t hc).1, (map_no t hc).2, List.cons_append] at hx
      rcases List.mem_cons.1 hx with rfl | hx
      · exact hp
      · exact ih x hx
    | true =>
      rw [(map_yes t hc).1, (map_yes t hc).2] at hx
      have h1 : p &&& s ≠ 0#256 ∧ p &&& ~~~s ≠ 0#256 := by
        unfold cutP at hc
        simp only [Bool.and_eq_true, Bool.not_eq_true', beq_eq_false_iff_ne] at hc
        exact hc
      simp only [List.cons_append, List.mem_cons, List.mem_append] at hx
      rcases hx with rfl | hx | rfl | hx
      · exact h1.1
      · exact ih x (by simp [hx])
      · exact h1.2
      · exact ih x (by simp [hx])
theorem ne_foldl : ∀ (l p : List BS), (∀ x ∈ p, x ≠ 0#256) → ∀ x ∈ l.foldl splitL p, x ≠ 0#256
  | [], p, h => h
  | s :: t, p, h => ne_foldl t (splitL p s) (ne_outs s p h)
theorem parts_ne (l : List BS) : ∀ x ∈ partsL l, x ≠ 0#256 := ne_foldl l [fullS] (by
  intro x hx
  rw [List.mem_singleton] at hx
  subst hx
  intro h
  have := full_has 0 (by decide)
  rw [h] at this
  simp at this)
theorem lst_mem {s : BS} (h : s ≠ 0#256) : isLeast s (lst s) ∧ lst s < 256 := by
  have hex : ∃ y, y < 256 ∧ s.getLsbD y = true := by
    apply Classical.byContradiction
    intro hno
    apply h
    apply ext_bs
    intro y hy
    rw [BitVec.getLsbD_zero]
    cases e : s.getLsbD y with
    | false => rfl
    | true => exact absurd ⟨y, hy, e⟩ hno
  obtain ⟨y, hy, hs⟩ := hex
  cases hf : (List.range 256).find? (fun j => s.getLsbD j) with
  | none =>
    rw [List.find?_eq_none] at hf
    have := hf y (by simpa using hy)
    rw [hs] at this; simp at this
  | some b =>
    have e : lst s = b := by unfold lst; rw [hf]; rfl
    rw [List.find?_range_eq_some] at hf
    rw [e]
    exact ⟨⟨hf.1, fun j hj => by have := hf.2.2 j hj; simpa using this⟩, by simpa using hf.2.1⟩
theorem cnt_two (f : BS → Bool) : ∀ (l : List BS) (i j : Nat) (hi : i < l.length) (hj : j < l.length), i < j → f l[i] = true → f l[j] = true → 2 ≤ cnt f l
  | [], i, j, hi, _, _, _, _ => by simp at hi
  | x :: t, 0, j + 1, hi, hj, _, h1, h2 => by
    rw [cnt_cons]
    have h1' : f x = true := h1
    have : 1 ≤ cnt f t := by
      have hj' : j < t.length := by simpa using hj
      have h2' : f t[j] = true := h2
      have e : t = t.take j ++ (t[j] :: t.drop (j + 1)) := by rw [← List.drop_eq_getElem_cons hj', List.take_append_drop]
      rw [e, cnt_append, cnt_cons, h2']; simp; omega
    rw [h1']; simp; omega
  | x :: t, i + 1, j + 1, hi, hj, hij, h1, h2 => by
    have := cnt_two f t i j (by simpa using hi) (by simpa using hj) (by omega) h1 h2
    rw [cnt_cons]; omega
theorem cnt_mem (f : BS → Bool) : ∀ (l : List BS), 1 ≤ cnt f l → ∃ x ∈ l, f x = true
  | [], h => by simp [cnt] at h
  | x :: t, h => by
    rw [cnt_cons] at h
    cases hx : f x with
    | true => exact ⟨x, by simp, hx⟩
    | false =>
      rw [hx] at h
      obtain ⟨y, hy, e⟩ := cnt_mem f t (by simpa using h)
      exact ⟨y, by simp [hy], e⟩
theorem cnt2_le (a b : Nat) : ∀ (l : List BS) (x : BS), x ∈ l → has1 a x = true → cnt (has1 a) l = 1 → cnt (has2 a b) l = (x.getLsbD b).toNat
  | [], x, h, _, _ => by simp at h
  | y :: t, x, h, hx, hc => by
    rw [cnt_cons] at hc ⊢
    rcases List.mem_cons.1 h with rfl | h
    · rw [hx] at hc
      have h0 : cnt (has1 a) t = 0 := by simp at hc; omega
      rw [cnt2_zero a b t h0, has2_def, ← has1_def, hx]; simp
    · have h1 : 1 ≤ cnt (has1 a) t := by
        obtain ⟨i, hi, e⟩ := List.mem_iff_getElem.1 h
        have e2 : t = t.take i ++ (t[i] :: t.drop (i + 1)) := by rw [← List.drop_eq_getElem_cons hi, List.take_append_drop]
        rw [e2, cnt_append, cnt_cons, e, hx]; simp; omega
      have hy : has1 a y = false := by
        cases e : has1 a y with
        | false => rfl
        | true => rw [e] at hc; simp at hc; omega
      rw [hy] at hc
      rw [has2_def, ← has1_def, hy, cnt2_le a b t x h hx (by simpa using hc)]; simp
/-- a part is the class of each of its bytes -/
theorem part_cl {l R : List BS} (hp : R.Perm (partsL l)) {x : BS} (hx : x ∈ R) {a : Nat} (ha : a < 256) (hxa : x.getLsbD a = true) : x = cl l a := by
  apply ext_bs
  intro b hb
  rw [mem_cl l a b hb]
  have h1 : cnt (has1 a) R = 1 := (cnt_perm _ hp).trans (parts_has1 l a ha)
  have h2 := cnt2_le a b R x hx hxa h1
  rw [cnt_perm _ hp, parts_has2 l a b ha hb] at h2
  revert h2
  cases sameB a b l <;> cases x.getLsbD b <;> simp
theorem sorted_parts {l R : List BS} (hp : R.Perm (partsL l)) (hs : ∀ i j, i < j → j < R.length → lst (R.getD i 0#256) ≤ lst (R.getD j 0#256)) : R = refL l 256 := by
  have hne : ∀ x ∈ R, x ≠ 0#256 := fun x hx => parts_ne l x (hp.mem_iff.1 hx)
  have hls : ∀ x ∈ R, isLeast x (lst x) ∧ lst x < 256 := fun x hx => lst_mem (hne x hx)
  have hcl : ∀ x ∈ R, x = cl l (lst x) := fun x hx => part_cl hp hx (hls x hx).2 (hls x hx).1.1
  have hmap : R.map lst = (List.range 256).filter (first l) := by
    apply sorted_ext
    · rw [List.pairwise_map, List.pairwise_iff_getElem]
      intro i j hi hj hij
      have h1 := hs i j hij hj
      have e1 : R.getD i 0#256 = R[i] := by simp [List.getD_eq_getElem?_getD, hi]
      have e2 : R.getD j 0#256 = R[j] := by simp [List.getD_eq_getElem?_getD, hj]
      rw [e1, e2] at h1
      rcases Nat.lt_or_ge (lst R[i]) (lst R[j]) with h | h
      · exact h
      · exfalso
        have he : lst R[i] = lst R[j] := by omega
        have hi' := hls R[i] (List.getElem_mem hi)
        have hj' := hls R[j] (List.getElem_mem hj)
        have := cnt_two (has1 (lst R[i])) R i j hi hj hij hi'.1.1 (by rw [he]; exact hj'.1.1)
        have h1 : cnt (has1 (lst R[i])) R = 1 := (cnt_perm _ hp).trans (parts_has1 l _ hi'.2)
        omega
    · exact List.Pairwise.filter _ List.pairwise_lt_range
    · intro a
      rw [List.mem_map, List.mem_filter, List.mem_range]
      constructor
      · rintro ⟨x, hx, rfl⟩
        refine ⟨(hls x hx).2, ?_⟩
        rw [first_iff]
        intro z hz
        have h1 := (hls x hx).1.2 z hz
        have h2 := congrArg (fun s : BS => s.getLsbD z) (hcl x hx)
        simp only [h1, mem_cl l _ z (by have := (hls x hx).2; omega)] at h2
        cases e : sameB z (lst x) l with
        | false => rfl
        | true => rw [sameB_symm e] at h2; cases h2
      · rintro ⟨ha, hf⟩
        rw [first_iff] at hf
        have h1 : cnt (has1 a) R = 1 := (cnt_perm _ hp).trans (parts_has1 l a ha)
        obtain ⟨x, hx, hxa⟩ := cnt_mem (has1 a) R (by omega)
        refine ⟨x, hx, ?_⟩
        have e := part_cl hp hx (hls x hx).2 (hls x hx).1.1
        have h2 : sameB (lst x) a l = true := by
          rw [← mem_cl l (lst x) a ha, ← e]; exact hxa
        rcases Nat.lt_trichotomy (lst x) a with h | h | h
        · rw [hf _ h] at h2; cases h2
        · exact h
        · have := (hls x hx).1.2 a h
          rw [← has1_def, hxa] at this; cases this
  unfold refL
  rw [← hmap, List.map_map]
  have : R.map (cl l ∘ lst) = R.map id := List.map_congr_left (fun x hx => (hcl x hx).symm)
  rw [this, List.map_id]
end Go.Proofs.YtmkmbpiaolmncaaDoor
