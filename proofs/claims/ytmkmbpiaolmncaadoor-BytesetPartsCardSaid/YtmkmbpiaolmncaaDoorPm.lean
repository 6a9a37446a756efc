/-
  PLAIN: of the parts exactly one has a byte, and it has another exactly if the sets do not part the two.
-/
import Derived.Test.YtmkmbpiaolmncaaDoorPa
namespace Go.Proofs.YtmkmbpiaolmncaaDoor
set_option linter.unusedSimpArgs false
set_option linter.unnecessarySimpa false
set_option linter.unusedVariables false
def cnt (f : BS → Bool) : List BS → Nat
  | [] => 0
  | x :: t => (f x).toNat + cnt f t
theorem cnt_cons (f : BS → Bool) (x : BS) (t : List BS) : cnt f (x :: t) = (f x).toNat + cnt f t := rfl
theorem cnt_append (f : BS → Bool) : ∀ l m, cnt f (l ++ m) = cnt f l + cnt f m
  | [], m => by simp [cnt]
  | x :: t, m => by simp only [List.cons_append, cnt_cons, cnt_append f t m]; omega
theorem cnt_perm (f : BS → Bool) {l m : List BS} (h : l.Perm m) : cnt f l = cnt f m := by
  induction h with
  | nil => rfl
  | cons x _ ih => simp only [cnt_cons, ih]
  | swap x y l => simp only [cnt_cons]; omega
  | trans _ _ h1 h2 => exact h1.trans h2
def has1 (a : Nat) (x : BS) : Bool := x.getLsbD a
def has2 (a b : Nat) (x : BS) : Bool := x.getLsbD a && x.getLsbD b
theorem has1_def (a : Nat) (x : BS) : has1 a x = x.getLsbD a := rfl
theorem has2_def (a b : Nat) (x : BS) : has2 a b x = (x.getLsbD a && x.getLsbD b) := rfl
theorem bit_and (x s : BS) (a : Nat) : (x &&& s).getLsbD a = (x.getLsbD a && s.getLsbD a) := BitVec.getLsbD_and
theorem bit_not (x s : BS) (a : Nat) (ha : a < 256) : (x &&& ~~~s).getLsbD a = (x.getLsbD a && !s.getLsbD a) := by
  rw [BitVec.getLsbD_and, BitVec.getLsbD_not]; simp [ha]
theorem cut_no {s x : BS} (h : cutP s x = false) : x &&& s = 0#256 ∨ x &&& ~~~s = 0#256 := by
  unfold cutP at h
  by_cases h1 : x &&& s = 0#256
  · exact .inl h1
  · by_cases h2 : x &&& ~~~s = 0#256
    · exact .inr h2
    · exfalso
      rw [beq_eq_false_iff_ne.2 h1, beq_eq_false_iff_ne.2 h2] at h
      simp at h
theorem map_no {s x : BS} (t : List BS) (hc : cutP s x = false) : (x :: t).map (inP s) = x :: t.map (inP s) ∧ outs s (x :: t) = outs s t := by
  simp [inP, outs, hc]
theorem map_yes {s x : BS} (t : List BS) (hc : cutP s x = true) : (x :: t).map (inP s) = (x &&& s) :: t.map (inP s) ∧ outs s (x :: t) = (x &&& ~~~s) :: outs s t := by
  simp [inP, outs, hc]
theorem nat1 : ∀ p q : Bool, ((p && q).toNat + (p && !q).toNat) = p.toNat := by decide
theorem nat2 : ∀ p q p' q' : Bool, (((p && q) && (p' && q')).toNat + ((p && !q) && (p' && !q')).toNat) = bif q == q' then (p && p').toNat else 0 := by decide
theorem nat3 : ∀ p q p' q' : Bool, (p && q) = false → (p' && q') = false → (p && p').toNat = bif q == q' then (p && p').toNat else 0 := by decide
theorem nat4 : ∀ p q p' q' : Bool, (p && !q) = false → (p' && !q') = false → (p && p').toNat = bif q == q' then (p && p').toNat else 0 := by decide
theorem split_has1 (s : BS) (a : Nat) (ha : a < 256) : ∀ l : List BS, cnt (has1 a) (l.map (inP s)) + cnt (has1 a) (outs s l) = cnt (has1 a) l
  | [] => rfl
  | x :: t => by
    have ih := split_has1 s a ha t
    cases hc : cutP s x with
    | false => rw [(map_no t hc).1, (map_no t hc).2, cnt_cons, cnt_cons]; omega
    | true =>
      rw [(map_yes t hc).1, (map_yes t hc).2, cnt_cons, cnt_cons, cnt_cons, has1_def, has1_def, has1_def, bit_and, bit_not x s a ha]
      have := nat1 (x.getLsbD a) (s.getLsbD a)
      omega
theorem bif_add (c : Bool) (m n : Nat) : (bif c then m else 0) + (bif c then n else 0) = bif c then m + n else 0 := by cases c <;> rfl
theorem split_has2 (s : BS) (a b : Nat) (ha : a < 256) (hb : b < 256) : ∀ l : List BS, cnt (has2 a b) (l.map (inP s)) + cnt (has2 a b) (outs s l) = bif s.getLsbD a == s.getLsbD b then cnt (has2 a b) l else 0
  | [] => by cases (s.getLsbD a == s.getLsbD b) <;> rfl
  | x :: t => by
    have ih := split_has2 s a b ha hb t
    cases hc : cutP s x with
    | true =>
      rw [(map_yes t hc).1, (map_yes t hc).2, cnt_cons, cnt_cons, cnt_cons, has2_def, has2_def, has2_def, bit_and, bit_and, bit_not x s a ha, bit_not x s b hb, ← bif_add, ← ih]
      have := nat2 (x.getLsbD a) (s.getLsbD a) (x.getLsbD b) (s.getLsbD b)
      omega
    | false =>
      rw [(map_no t hc).1, (map_no t hc).2, cnt_cons, cnt_cons, has2_def, ← bif_add, ← ih]
      have : (x.getLsbD a && x.getLsbD b).toNat = bif s.getLsbD a == s.getLsbD b then (x.getLsbD a && x.getLsbD b).toNat else 0 := by
        rcases cut_no hc with h | h
        · have h1 := bit_and x s a
          have h2 := bit_and x s b
          rw [h, BitVec.getLsbD_zero] at h1 h2
          exact nat3 _ _ _ _ h1.symm h2.symm
        · have h1 := bit_not x s a ha
          have h2 := bit_not x s b hb
          rw [h, BitVec.getLsbD_zero] at h1 h2
          exact nat4 _ _ _ _ h1.symm h2.symm
      omega
def sameB (a b : Nat) (l : List BS) : Bool := l.all fun s => s.getLsbD a == s.getLsbD b
theorem sameB_cons (a b : Nat) (s : BS) (t : List BS) : sameB a b (s :: t) = ((s.getLsbD a == s.getLsbD b) && sameB a b t) := rfl
theorem sameB_snoc (a b : Nat) (s : BS) (t : List BS) : sameB a b (t ++ [s]) = (sameB a b t && (s.getLsbD a == s.getLsbD b)) := by
  unfold sameB; rw [List.all_append]; simp
theorem foldl_has1 (a : Nat) (ha : a < 256) : ∀ (l p : List BS), cnt (has1 a) (l.foldl splitL p) = cnt (has1 a) p
  | [], p => rfl
  | s :: t, p => by
    rw [List.foldl_cons, foldl_has1 a ha t, splitL, cnt_append, split_has1 s a ha]
theorem bif_bif (c d : Bool) (m : Nat) : (bif c then (bif d then m else 0) else 0) = bif d && c then m else 0 := by cases c <;> cases d <;> rfl
theorem foldl_has2 (a b : Nat) (ha : a < 256) (hb : b < 256) : ∀ (l p : List BS), cnt (has2 a b) (l.foldl splitL p) = bif sameB a b l then cnt (has2 a b) p else 0
  | [], p => rfl
  | s :: t, p => by
    rw [List.foldl_cons, foldl_has2 a b ha hb t, splitL, cnt_append, split_has2 s a b ha hb, sameB_cons, bif_bif]
theorem full_has (a : Nat) (ha : a < 256) : fullS.getLsbD a = true := by
  unfold fullS; rw [mem_rgo 0 255 a ha]
  simp only [Nat.zero_le, decide_true, Bool.true_and, decide_eq_true_eq]; omega
theorem parts_has1 (l : List BS) (a : Nat) (ha : a < 256) : cnt (has1 a) (partsL l) = 1 := by
  unfold partsL; rw [foldl_has1 a ha, cnt_cons, has1_def, full_has a ha]; rfl
theorem parts_has2 (l : List BS) (a b : Nat) (ha : a < 256) (hb : b < 256) : cnt (has2 a b) (partsL l) = bif sameB a b l then 1 else 0 := by
  unfold partsL; rw [foldl_has2 a b ha hb, cnt_cons, has2_def, full_has a ha, full_has b hb]; rfl
/-- what the law's second loop keeps -/
def tog (a b : Nat) (t : Bool) : List BS → Bool
  | [] => t
  | x :: r => tog a b (bif x.getLsbD a then x.getLsbD b else t) r
theorem tog_snoc (a b : Nat) (x : BS) : ∀ (l : List BS) (t : Bool), tog a b t (l ++ [x]) = bif x.getLsbD a then x.getLsbD b else tog a b t l
  | [], t => rfl
  | y :: r, t => tog_snoc a b x r _
theorem tog_none (a b : Nat) : ∀ (l : List BS) (t : Bool), cnt (has1 a) l = 0 → tog a b t l = t
  | [], t, _ => rfl
  | x :: r, t, h => by
    rw [cnt_cons, has1_def] at h
    cases hx : x.getLsbD a with
    | true => rw [hx] at h; simp at h
    | false =>
      show tog a b (bif x.getLsbD a then x.getLsbD b else t) r = t
      rw [hx]
      exact tog_none a b r t (by omega)
theorem cnt2_zero (a b : Nat) : ∀ l : List BS, cnt (has1 a) l = 0 → cnt (has2 a b) l = 0
  | [], _ => rfl
  | x :: r, h => by
    rw [cnt_cons, has1_def] at h
    have := cnt2_zero a b r (by omega)
    cases hx : x.getLsbD a with
    | true => rw [hx] at h; simp at h
    | false => rw [cnt_cons, has2_def, hx, this]; rfl
theorem nat5 : ∀ p : Bool, p = ((true && p).toNat + 0 == 1) := by decide
theorem tog_one (a b : Nat) : ∀ (l : List BS) (t : Bool), cnt (has1 a) l = 1 → tog a b t l = (cnt (has2 a b) l == 1)
  | [], t, h => by simp [cnt] at h
  | x :: r, t, h => by
    rw [cnt_cons, has1_def] at h
    show tog a b (bif x.getLsbD a then x.getLsbD b else t) r = _
    rw [cnt_cons, has2_def]
    cases hx : x.getLsbD a with
    | true =>
      rw [hx] at h
      have h0 : cnt (has1 a) r = 0 := by simp at h; omega
      rw [cnt2_zero a b r h0, tog_none a b r _ h0]
      exact nat5 _
    | false =>
      rw [hx] at h
      have h1 : cnt (has1 a) r = 1 := by simpa using h
      rw [Bool.false_and]
      simpa using tog_one a b r t h1
theorem tog_parts {l R : List BS} (hp : R.Perm (partsL l)) (a b : Nat) (ha : a < 256) (hb : b < 256) : cnt (has1 a) R = 1 ∧ tog a b false R = sameB a b l := by
  have h1 : cnt (has1 a) R = 1 := (cnt_perm _ hp).trans (parts_has1 l a ha)
  refine ⟨h1, ?_⟩
  rw [tog_one a b R false h1, cnt_perm _ hp, parts_has2 l a b ha hb]
  cases sameB a b l <;> rfl
end Go.Proofs.YtmkmbpiaolmncaaDoor
