/-
  Mathematics of numset: normal lists, complements, and sets of numbers as two lists of spans. No condition.
-/
import Derived.Test.YteekccjfokoglaaM1
namespace Go.Proofs.Yteekccjfokoglaa
set_option linter.unusedSimpArgs false
set_option linter.unnecessarySimpa false
set_option linter.unusedVariables false
def memb (l : List Sp) (n : Int) : Bool := l.any fun s => decide (s.1 ≤ n) && decide (n ≤ s.2)
theorem memb_iff (l : List Sp) (n : Int) : memb l n = true ↔ mem l n := by simp [memb, mem]
theorem memb_append (l m : List Sp) (n : Int) : memb (l ++ m) n = (memb l n || memb m n) := by simp [memb]
def kept (b : Bool) (l : List Sp) : List Sp := (l.filter fun s => !wo b s).map (trm b)
theorem kept_mem (b : Bool) (l : List Sp) (n : Int) (hn : on b n) : mem (kept b l) n ↔ mem l n := by
  constructor
  · rintro ⟨s, hs, h1, h2⟩
    obtain ⟨t, ht, rfl⟩ := List.mem_map.1 hs
    exact ⟨t, (List.mem_filter.1 ht).1, (trm_mem b t n hn).1 ⟨h1, h2⟩⟩
  · rintro ⟨s, hs, h1, h2⟩
    refine ⟨trm b s, List.mem_map.2 ⟨s, List.mem_filter.2 ⟨hs, ?_⟩, rfl⟩, (trm_mem b s n hn).2 ⟨h1, h2⟩⟩
    cases hw : wo b s
    · rfl
    · exact absurd ⟨h1, h2⟩ (wo_true b s hw n hn)
theorem kept_ok (b : Bool) (l : List Sp) : ∀ s ∈ kept b l, ok b s := by
  intro s hs
  obtain ⟨t, ht, rfl⟩ := List.mem_map.1 hs
  have := (List.mem_filter.1 ht).2
  exact (wo_false b t (by simpa using this)).1
theorem kept_len (b : Bool) (l : List Sp) : (kept b l).length ≤ l.length := by
  unfold kept; rw [List.length_map]; exact List.length_filter_le _ _
def sortS (l : List Sp) : List Sp := l.mergeSort fun s t => decide (s.1 ≤ t.1)
theorem sortS_perm (l : List Sp) : (sortS l).Perm l := List.mergeSort_perm _ _
theorem sortS_sorted (l : List Sp) : (sortS l).Pairwise fun s t => s.1 ≤ t.1 := by
  have := List.pairwise_mergeSort (le := fun s t : Sp => decide (s.1 ≤ t.1)) (fun a b c h1 h2 => by simp at *; omega) (fun a b => by simp; omega) l
  exact this.imp fun h => by simpa using h
def nrm (b : Bool) (l : List Sp) : List Sp := (sortS (kept b l)).foldl (jstep b) []
theorem can_nil (b : Bool) : Can b [] := ⟨by simp, by simp⟩
theorem fold_spec (b : Bool) (l R : List Sp) (hp : R.Perm (kept b l)) (hs : R.Pairwise fun s t => s.1 ≤ t.1) : Can b (R.foldl (jstep b) []) ∧ ∀ n, on b n → (mem (R.foldl (jstep b) []) n ↔ mem l n) := by
  obtain ⟨h1, h2⟩ := jfold b R [] (can_nil b) hs (by simp) (fun s hs => kept_ok b l s (hp.mem_iff.1 hs))
  refine ⟨h1, fun n hn => ?_⟩
  rw [h2 n hn, mem_nil, false_or, mem_perm hp, kept_mem b l n hn]
theorem nrm_can (b : Bool) (l : List Sp) : Can b (nrm b l) := (fold_spec b l _ (sortS_perm _) (sortS_sorted _)).1
theorem nrm_mem (b : Bool) (l : List Sp) (n : Int) (hn : on b n) : mem (nrm b l) n ↔ mem l n := (fold_spec b l _ (sortS_perm _) (sortS_sorted _)).2 n hn
/-- **Whichever way equal ends are sorted, the joined list is one.** -/
theorem fold_nrm (b : Bool) (l R : List Sp) (hp : R.Perm (kept b l)) (hs : R.Pairwise fun s t => s.1 ≤ t.1) : R.foldl (jstep b) [] = nrm b l := by
  obtain ⟨h1, h2⟩ := fold_spec b l R hp hs
  exact can_unique b _ _ h1 (nrm_can b l) fun n hn => (h2 n hn).trans (nrm_mem b l n hn).symm
theorem jstep_len (b : Bool) (acc : List Sp) (s : Sp) : (jstep b acc s).length ≤ acc.length + 1 := by
  rcases List.eq_nil_or_concat acc with rfl | ⟨l, t, rfl⟩
  · simp [jstep]
  · rw [List.concat_eq_append, jstep_snoc]; split <;> simp
theorem fold_len (b : Bool) : ∀ (R acc : List Sp), (R.foldl (jstep b) acc).length ≤ acc.length + R.length
  | [], acc => by simp
  | s :: R, acc => by
    have := fold_len b R (jstep b acc s)
    have := jstep_len b acc s
    simp only [List.foldl_cons, List.length_cons]; omega
theorem nrm_len (b : Bool) (l : List Sp) : (nrm b l).length ≤ l.length := by
  have h1 := fold_len b (sortS (kept b l)) []
  have h2 := (sortS_perm (kept b l)).length_eq
  have h3 := kept_len b l
  unfold nrm; simp at h1; omega
theorem nrm_eq (b : Bool) {l m : List Sp} (h : ∀ n, on b n → (mem l n ↔ mem m n)) : nrm b l = nrm b m :=
  can_unique b _ _ (nrm_can b l) (nrm_can b m) fun n hn => by rw [nrm_mem b l n hn, nrm_mem b m n hn, h n hn]
theorem nrm_of_can (b : Bool) {l : List Sp} (h : Can b l) : nrm b l = l :=
  can_unique b _ _ (nrm_can b l) h fun n hn => nrm_mem b l n hn
def gapsL (b : Bool) : Int → List Sp → List Sp
  | x, [] => [(x, lim b)]
  | x, s :: r => (x, s.1 - 1) :: gapsL b (s.2 + 1) r
theorem gapsL_len (b : Bool) : ∀ (x : Int) (l : List Sp), (gapsL b x l).length = l.length + 1
  | x, [] => rfl
  | x, s :: r => by simp [gapsL, gapsL_len b (s.2 + 1) r]
theorem gapsL_mem (b : Bool) : ∀ (l : List Sp) (x : Int), Can b l → ∀ n, on b n → x ≤ n → (∀ s ∈ l, x ≤ s.1) → (mem (gapsL b x l) n ↔ ¬mem l n)
  | [], x, _, n, hn, hx, _ => by
    have := hn.2.1
    simp [gapsL, mem]; omega
  | s :: r, x, hc, n, hn, hx, hs => by
    have hso := (hc.1 s (List.mem_cons_self ..)).1
    have hp := List.pairwise_cons.1 hc.2
    have hr : ∀ t ∈ r, s.2 + 1 ≤ t.1 := fun t ht => by obtain ⟨k, _, h1, h2⟩ := hp.1 t ht; omega
    have hcr : Can b r := ⟨fun t ht => hc.1 t (List.mem_cons_of_mem _ ht), hp.2⟩
    rw [gapsL, mem_cons, mem_cons]
    by_cases h : s.2 + 1 ≤ n
    · rw [gapsL_mem b r (s.2 + 1) hcr n hn h hr]
      constructor
      · rintro (h1 | h1)
        · have := h1.2; simp at this; omega
        · rintro (h2 | h2)
          · omega
          · exact h1 h2
      · intro h1; exact .inr fun h2 => h1 (.inr h2)
    · have hno : ¬mem r n := fun ⟨t, ht, h1, h2⟩ => by have := hr t ht; omega
      have hng : ¬mem (gapsL b (s.2 + 1) r) n := by
        have aux : ∀ (r : List Sp) (y : Int), n < y → (∀ t ∈ r, n < t.2) → ¬mem (gapsL b y r) n := by
          intro r
          induction r with
          | nil => intro y hy _; simp [gapsL, mem]; intro; omega
          | cons t r ih =>
            intro y hy ht
            rw [gapsL, mem_cons]
            rintro (h1 | h1)
            · have := h1.1; simp at this; omega
            · exact ih (t.2 + 1) (by have := ht t (List.mem_cons_self ..); omega) (fun u hu => ht u (List.mem_cons_of_mem _ hu)) h1
        exact aux r (s.2 + 1) (by omega) fun t ht => by have := hr t ht; have := (hcr.1 t ht).1; omega
      constructor
      · rintro (h1 | h1)
        · have := h1.2; simp at this
          rintro (h2 | h2)
          · omega
          · exact hno h2
        · exact absurd h1 hng
      · intro h1; refine .inl ⟨hx, ?_⟩
        show n ≤ s.1 - 1
        have : ¬(s.1 ≤ n ∧ n ≤ s.2) := fun h2 => h1 (.inl h2)
        omega
def cpl (b : Bool) (l : List Sp) : List Sp := nrm b (gapsL b (-lim b) (nrm b l))
theorem cpl_mem (b : Bool) (l : List Sp) (n : Int) (hn : on b n) : mem (cpl b l) n ↔ ¬mem l n := by
  unfold cpl
  rw [nrm_mem b _ n hn, gapsL_mem b _ _ (nrm_can b l) n hn hn.1 (fun s hs => ((nrm_can b l).1 s hs).2.1.1), nrm_mem b l n hn]
theorem cpl_can (b : Bool) (l : List Sp) : Can b (cpl b l) := nrm_can b _
theorem cpl_len (b : Bool) (l : List Sp) : (cpl b l).length ≤ l.length + 1 := by
  have h1 := nrm_len b (gapsL b (-lim b) (nrm b l))
  rw [gapsL_len] at h1
  have h2 := nrm_len b l
  unfold cpl; omega
/-- a set of numbers: spans of integers, spans of other numbers -/
abbrev NS := List Sp × List Sp
def mk (s : NS) : NS := (nrm false s.1, nrm true s.2)
def nt (s : NS) : NS := (cpl false s.1, cpl true s.2)
def orr (a b : NS) : NS := mk (a.1 ++ b.1, a.2 ++ b.2)
def andd (a b : NS) : NS := nt (orr (nt a) (nt b))
def minus (a b : NS) : NS := nt (orr (nt a) b)
def vld (u : Int) : Bool := decide (-1000000000000000 ≤ u) && decide (u ≤ 1000000000000000)
theorem vld_iff (u : Int) : vld u = true ↔ -1000000000000000 ≤ u ∧ u ≤ 1000000000000000 := by simp [vld]
def hasB (s : NS) (u : Int) : Bool := vld u && (if u % 10000 = 0 then memb s.1 (u / 10000) else memb s.2 u)
def CanS (s : NS) : Prop := Can false s.1 ∧ Can true s.2
theorem on_f (n : Int) : on false n ↔ vld (n * 10000) = true := by
  rw [vld_iff]; simp [on, lim]; omega
theorem on_w {u : Int} (hv : vld u = true) (hw : u % 10000 = 0) : on false (u / 10000) := by
  rw [vld_iff] at hv; simp [on, lim]; omega
theorem on_t {u : Int} (hv : vld u = true) (hw : ¬u % 10000 = 0) : on true u := by
  rw [vld_iff] at hv; simp only [on, lim]; exact ⟨hv.1, hv.2, fun _ => hw⟩
theorem on_t' {u : Int} (h : on true u) : vld u = true ∧ ¬u % 10000 = 0 := by
  simp only [on, lim] at h; exact ⟨(vld_iff u).2 ⟨h.1, h.2.1⟩, h.2.2 trivial⟩
theorem has_f (s : NS) (n : Int) (h : on false n) : hasB s (n * 10000) = memb s.1 n := by
  unfold hasB
  rw [(on_f n).1 h, if_pos (by omega), show n * 10000 / 10000 = n by omega]; rfl
theorem has_t (s : NS) (n : Int) (h : on true n) : hasB s n = memb s.2 n := by
  unfold hasB
  rw [(on_t' h).1, if_neg (on_t' h).2]; rfl
theorem memb_eq {l m : List Sp} {n : Int} (h : mem l n ↔ mem m n) : memb l n = memb m n := by
  rw [Bool.eq_iff_iff, memb_iff, memb_iff]; exact h
theorem memb_not {l m : List Sp} {n : Int} (h : mem l n ↔ ¬mem m n) : memb l n = !memb m n := by
  have := memb_iff m n
  have := memb_iff l n
  cases h1 : memb l n <;> cases h2 : memb m n <;> simp_all
theorem has_vld {s : NS} {u : Int} (h : hasB s u = true) : vld u = true := by
  unfold hasB at h; simp at h; exact h.1
theorem has_mk (s : NS) (u : Int) : hasB (mk s) u = hasB s u := by
  unfold hasB
  cases hv : vld u
  · rfl
  · by_cases hw : u % 10000 = 0
    · rw [if_pos hw, if_pos hw]; exact congrArg _ (memb_eq (nrm_mem _ _ _ (on_w hv hw)))
    · rw [if_neg hw, if_neg hw]; exact congrArg _ (memb_eq (nrm_mem _ _ _ (on_t hv hw)))
theorem has_nt (s : NS) (u : Int) : hasB (nt s) u = (vld u && !hasB s u) := by
  unfold hasB
  cases hv : vld u
  · rfl
  · by_cases hw : u % 10000 = 0
    · rw [if_pos hw, if_pos hw]; exact memb_not (cpl_mem _ _ _ (on_w hv hw))
    · rw [if_neg hw, if_neg hw]; exact memb_not (cpl_mem _ _ _ (on_t hv hw))
theorem has_or (a b : NS) (u : Int) : hasB (orr a b) u = (hasB a u || hasB b u) := by
  unfold orr; rw [has_mk]; unfold hasB
  cases hv : vld u
  · rfl
  · by_cases hw : u % 10000 = 0
    · simp only [if_pos hw, memb_append, Bool.true_and]
    · simp only [if_neg hw, memb_append, Bool.true_and]
theorem has_and (a b : NS) (u : Int) : hasB (andd a b) u = (hasB a u && hasB b u) := by
  unfold andd; rw [has_nt, has_or, has_nt, has_nt]
  have h1 := @has_vld a u
  cases hv : vld u <;> cases ha : hasB a u <;> cases hb : hasB b u <;> simp_all
theorem has_minus (a b : NS) (u : Int) : hasB (minus a b) u = (hasB a u && !hasB b u) := by
  unfold minus; rw [has_nt, has_or, has_nt]
  have h1 := @has_vld a u
  cases hv : vld u <;> cases ha : hasB a u <;> cases hb : hasB b u <;> simp_all
theorem can_mk (s : NS) : CanS (mk s) := ⟨nrm_can _ _, nrm_can _ _⟩
theorem can_nt (s : NS) : CanS (nt s) := ⟨cpl_can _ _, cpl_can _ _⟩
theorem can_or (a b : NS) : CanS (orr a b) := can_mk _
theorem can_and (a b : NS) : CanS (andd a b) := can_nt _
theorem can_minus (a b : NS) : CanS (minus a b) := can_nt _
/-- **Sets with the same numbers have the same spans.** -/
theorem ns_ext {a b : NS} (ha : CanS a) (hb : CanS b) (h : ∀ u, hasB a u = hasB b u) : a = b := by
  refine Prod.ext (can_unique false _ _ ha.1 hb.1 fun n hn => ?_) (can_unique true _ _ ha.2 hb.2 fun n hn => ?_)
  · rw [← memb_iff, ← memb_iff, ← has_f a n hn, ← has_f b n hn, h]
  · rw [← memb_iff, ← memb_iff, ← has_t a n hn, ← has_t b n hn, h]
theorem mk_of_can {a : NS} (h : CanS a) : mk a = a := Prod.ext (nrm_of_can _ h.1) (nrm_of_can _ h.2)
theorem ns_eq_iff {a b : NS} (ha : CanS a) (hb : CanS b) : a = b ↔ ∀ u, hasB a u = hasB b u := ⟨fun h u => by rw [h], ns_ext ha hb⟩
def empB (s : NS) : Bool := s.1.isEmpty && s.2.isEmpty
theorem emp_iff {s : NS} (h : CanS s) : empB s = true ↔ ∀ u, hasB s u = false := by
  have he : CanS (([], []) : NS) := ⟨can_nil _, can_nil _⟩
  have h0 : ∀ u, hasB (([], []) : NS) u = false := fun u => by unfold hasB; simp [memb]
  constructor
  · intro h1 u
    have : s = ([], []) := by unfold empB at h1; simp at h1; exact Prod.ext h1.1 h1.2
    rw [this, h0]
  · intro h1
    have := ns_ext h he fun u => by rw [h1, h0]
    rw [this]; rfl
def subB (a b : NS) : Bool := empB (minus a b)
theorem sub_iff (a b : NS) : subB a b = true ↔ ∀ u, hasB a u = true → hasB b u = true := by
  unfold subB
  rw [emp_iff (can_minus a b)]
  constructor
  · intro h u hu; have := h u; rw [has_minus, hu] at this; simpa using this
  · intro h u
    rw [has_minus]
    cases ha : hasB a u
    · rfl
    · rw [h u ha]; rfl
end Go.Proofs.Yteekccjfokoglaa
