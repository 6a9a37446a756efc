/-
  Mathematics of numset: spans of numbers on an axis; the one list of spans that a set of numbers has. No condition.
-/
import Init
namespace Go.Proofs.Yteekccjfokoglaa
set_option linter.unusedSimpArgs false
set_option linter.unnecessarySimpa false
set_option linter.unusedVariables false
abbrev Sp := Int × Int
def lim : Bool → Int
  | true => 1000000000000000
  | false => 100000000000
def on (b : Bool) (n : Int) : Prop := -lim b ≤ n ∧ n ≤ lim b ∧ (b = true → n % 10000 ≠ 0)
instance (b : Bool) (n : Int) : Decidable (on b n) := by unfold on; exact inferInstance
def whl (u : Int) : Bool := decide (-1000000000000000 ≤ u) && (decide (u ≤ 1000000000000000) && decide (u % 10000 = 0))
theorem whl_iff (u : Int) : whl u = true ↔ -1000000000000000 ≤ u ∧ u ≤ 1000000000000000 ∧ u % 10000 = 0 := by simp [whl]
def loT (b : Bool) (x : Int) : Int := if (b && whl (max x (-lim b))) = true then max x (-lim b) + 1 else max x (-lim b)
def hiT (b : Bool) (x : Int) : Int := if (b && whl (min x (lim b))) = true then min x (lim b) - 1 else min x (lim b)
def trm (b : Bool) (s : Sp) : Sp := (loT b s.1, hiT b s.2)
def wo (b : Bool) (s : Sp) : Bool := decide (hiT b s.2 < loT b s.1)
theorem loT_f (x : Int) : loT false x = max x (-100000000000) := rfl
theorem hiT_f (x : Int) : hiT false x = min x 100000000000 := rfl
theorem loT_t (x : Int) : (whl (max x (-1000000000000000)) = true ∧ loT true x = max x (-1000000000000000) + 1) ∨ (whl (max x (-1000000000000000)) = false ∧ loT true x = max x (-1000000000000000)) := by
  by_cases h : whl (max x (-1000000000000000)) = true
  · exact .inl ⟨h, by simp only [loT, lim, Bool.true_and]; rw [if_pos h]⟩
  · exact .inr ⟨Bool.eq_false_iff.2 h, by simp only [loT, lim, Bool.true_and]; rw [if_neg h]⟩
theorem hiT_t (x : Int) : (whl (min x 1000000000000000) = true ∧ hiT true x = min x 1000000000000000 - 1) ∨ (whl (min x 1000000000000000) = false ∧ hiT true x = min x 1000000000000000) := by
  by_cases h : whl (min x 1000000000000000) = true
  · exact .inl ⟨h, by simp only [hiT, lim, Bool.true_and]; rw [if_pos h]⟩
  · exact .inr ⟨Bool.eq_false_iff.2 h, by simp only [hiT, lim, Bool.true_and]; rw [if_neg h]⟩
theorem whl_no (u : Int) (h : whl u = false) : -1000000000000000 ≤ u → u ≤ 1000000000000000 → u % 10000 ≠ 0 := by
  intro a b c; have := (whl_iff u).2 ⟨a, b, c⟩; rw [h] at this; exact absurd this (by simp)
theorem lo_spec (b : Bool) (x n : Int) (h : on b n) : loT b x ≤ n ↔ x ≤ n := by
  obtain ⟨h1, h2, h3⟩ := h
  cases b
  · rw [loT_f]; simp only [lim] at *; omega
  · have h3 := h3 rfl
    simp only [lim] at *
    rcases loT_t x with ⟨h, e⟩ | ⟨h, e⟩ <;> rw [e]
    · have := (whl_iff _).1 h; omega
    · omega
theorem hi_spec (b : Bool) (x n : Int) (h : on b n) : n ≤ hiT b x ↔ n ≤ x := by
  obtain ⟨h1, h2, h3⟩ := h
  cases b
  · rw [hiT_f]; simp only [lim] at *; omega
  · have h3 := h3 rfl
    simp only [lim] at *
    rcases hiT_t x with ⟨h, e⟩ | ⟨h, e⟩ <;> rw [e]
    · have := (whl_iff _).1 h; omega
    · omega
theorem lo_ge (b : Bool) (x : Int) : -lim b ≤ loT b x := by
  cases b
  · rw [loT_f]; simp only [lim]; omega
  · simp only [lim]
    rcases loT_t x with ⟨h, e⟩ | ⟨h, e⟩ <;> omega
theorem hi_le (b : Bool) (x : Int) : hiT b x ≤ lim b := by
  cases b
  · rw [hiT_f]; simp only [lim]; omega
  · simp only [lim]
    rcases hiT_t x with ⟨h, e⟩ | ⟨h, e⟩ <;> omega
theorem lo_on (b : Bool) (x y : Int) (h : loT b x ≤ hiT b y) : on b (loT b x) := by
  have h1 := hi_le b y
  have h2 := lo_ge b x
  refine ⟨h2, by omega, fun hb => ?_⟩
  subst hb
  simp only [lim] at h1 h2
  rcases loT_t x with ⟨h, e⟩ | ⟨h, e⟩
  · have := (whl_iff _).1 h; omega
  · have := whl_no _ h; omega
theorem hi_on (b : Bool) (x y : Int) (h : loT b x ≤ hiT b y) : on b (hiT b y) := by
  have h1 := hi_le b y
  have h2 := lo_ge b x
  refine ⟨by omega, h1, fun hb => ?_⟩
  subst hb
  simp only [lim] at h1 h2
  rcases hiT_t y with ⟨h, e⟩ | ⟨h, e⟩
  · have := (whl_iff _).1 h; omega
  · have := whl_no _ h; omega
def mem (l : List Sp) (n : Int) : Prop := ∃ s ∈ l, s.1 ≤ n ∧ n ≤ s.2
theorem mem_nil (n : Int) : mem [] n ↔ False := by simp [mem]
theorem mem_cons (s : Sp) (l : List Sp) (n : Int) : mem (s :: l) n ↔ (s.1 ≤ n ∧ n ≤ s.2) ∨ mem l n := by simp [mem]
theorem mem_append (l m : List Sp) (n : Int) : mem (l ++ m) n ↔ mem l n ∨ mem m n := by
  unfold mem; simp only [List.mem_append]
  constructor
  · rintro ⟨s, h | h, hs⟩
    · exact .inl ⟨s, h, hs⟩
    · exact .inr ⟨s, h, hs⟩
  · rintro (⟨s, h, hs⟩ | ⟨s, h, hs⟩)
    · exact ⟨s, .inl h, hs⟩
    · exact ⟨s, .inr h, hs⟩
theorem mem_perm {l m : List Sp} (h : l.Perm m) (n : Int) : mem l n ↔ mem m n := by
  unfold mem; constructor <;> rintro ⟨s, hs, h2⟩
  · exact ⟨s, h.mem_iff.1 hs, h2⟩
  · exact ⟨s, h.mem_iff.2 hs, h2⟩
def ok (b : Bool) (s : Sp) : Prop := s.1 ≤ s.2 ∧ on b s.1 ∧ on b s.2
def gap (b : Bool) (x y : Int) : Prop := ∃ n, on b n ∧ x < n ∧ n < y
def Can (b : Bool) (l : List Sp) : Prop := (∀ s ∈ l, ok b s) ∧ l.Pairwise fun s t => gap b s.2 t.1
theorem wo_false (b : Bool) (s : Sp) (h : wo b s = false) : ok b (trm b s) ∧ ∃ n, on b n ∧ s.1 ≤ n ∧ n ≤ s.2 := by
  have h' : loT b s.1 ≤ hiT b s.2 := by simpa [wo] using h
  have h1 := lo_on _ _ _ h'
  exact ⟨⟨h', h1, hi_on _ _ _ h'⟩, loT b s.1, h1, (lo_spec _ _ _ h1).1 (Int.le_refl _), (hi_spec _ _ _ h1).1 h'⟩
theorem wo_true (b : Bool) (s : Sp) (h : wo b s = true) (n : Int) (hn : on b n) : ¬(s.1 ≤ n ∧ n ≤ s.2) := by
  have h' : hiT b s.2 < loT b s.1 := by simpa [wo] using h
  rw [← lo_spec b _ _ hn, ← hi_spec b _ _ hn]; omega
theorem trm_mem (b : Bool) (s : Sp) (n : Int) (hn : on b n) : ((trm b s).1 ≤ n ∧ n ≤ (trm b s).2) ↔ (s.1 ≤ n ∧ n ≤ s.2) := by
  simp only [trm]; rw [lo_spec b _ _ hn, hi_spec b _ _ hn]
/-- one step of the joining -/
def jstep (b : Bool) (acc : List Sp) (s : Sp) : List Sp :=
  match acc.getLast? with
  | none => [s]
  | some t => if wo b (t.2 + 1, s.1 - 1) = true then acc.dropLast ++ [(t.1, max t.2 s.2)] else acc ++ [s]
theorem jstep_nil (b : Bool) (s : Sp) : jstep b [] s = [s] := rfl
theorem jstep_snoc (b : Bool) (l : List Sp) (t s : Sp) : jstep b (l ++ [t]) s = if wo b (t.2 + 1, s.1 - 1) = true then l ++ [(t.1, max t.2 s.2)] else l ++ [t, s] := by
  simp [jstep]
theorem max_on {b : Bool} {x y : Int} (hx : on b x) (hy : on b y) : on b (max x y) := by
  rcases Int.le_total x y with h | h
  · rw [Int.max_eq_right h]; exact hy
  · rw [Int.max_eq_left h]; exact hx
theorem jfold (b : Bool) : ∀ (rest acc : List Sp), Can b acc → rest.Pairwise (fun s t => s.1 ≤ t.1) → (∀ t ∈ acc, ∀ s ∈ rest, t.1 ≤ s.1) → (∀ s ∈ rest, ok b s) →
    Can b (rest.foldl (jstep b) acc) ∧ ∀ n, on b n → (mem (rest.foldl (jstep b) acc) n ↔ mem acc n ∨ mem rest n)
  | [], acc, hc, _, _, _ => ⟨hc, fun n _ => by simp [mem_nil]⟩
  | s :: rest, acc, hc, hp, hl, ho => by
    have hp' := List.pairwise_cons.1 hp
    have hos := ho s (List.mem_cons_self ..)
    have hor : ∀ s ∈ rest, ok b s := fun t ht => ho t (List.mem_cons_of_mem _ ht)
    suffices H : Can b (jstep b acc s) ∧ (∀ t ∈ jstep b acc s, t.1 ≤ s.1) ∧ ∀ n, on b n → (mem (jstep b acc s) n ↔ mem acc n ∨ (s.1 ≤ n ∧ n ≤ s.2)) by
      obtain ⟨h1, h2, h3⟩ := H
      obtain ⟨h4, h5⟩ := jfold b rest (jstep b acc s) h1 hp'.2 (fun t ht u hu => Int.le_trans (h2 t ht) (hp'.1 u hu)) hor
      refine ⟨h4, fun n hn => ?_⟩
      rw [List.foldl_cons, h5 n hn, h3 n hn, mem_cons, or_assoc]
    rcases List.eq_nil_or_concat acc with rfl | ⟨l, t, hlt⟩
    · rw [jstep_nil]
      exact ⟨⟨fun u hu => by rw [List.mem_singleton.1 hu]; exact hos, by simp⟩, fun u hu => by rw [List.mem_singleton.1 hu]; exact Int.le_refl _, fun n _ => by simp [mem]⟩
    · rw [List.concat_eq_append] at hlt
      subst hlt
      have hts : t.1 ≤ s.1 := hl t (by simp) s (List.mem_cons_self ..)
      have hot : ok b t := hc.1 t (by simp)
      have hpw := List.pairwise_append.1 hc.2
      rw [jstep_snoc]
      by_cases hw : wo b (t.2 + 1, s.1 - 1) = true
      · rw [if_pos hw]
        have hno := wo_true b _ hw
        simp only at hno
        refine ⟨⟨fun u hu => ?_, ?_⟩, fun u hu => ?_, fun n hn => ?_⟩
        · rcases List.mem_append.1 hu with h | h
          · exact hc.1 u (List.mem_append_left _ h)
          · rw [List.mem_singleton.1 h]
            exact ⟨by have := hot.1; show t.1 ≤ max t.2 s.2; omega, hot.2.1, max_on hot.2.2 hos.2.2⟩
        · refine List.pairwise_append.2 ⟨hpw.1, by simp, fun u hu v hv => ?_⟩
          rw [List.mem_singleton.1 hv]
          exact hpw.2.2 u hu t (by simp)
        · rcases List.mem_append.1 hu with h | h
          · exact hl u (List.mem_append_left _ h) s (List.mem_cons_self ..)
          · rw [List.mem_singleton.1 h]; exact hts
        · have h1 := hno n hn
          have h2 := hot.1
          have h3 := hos.1
          rw [mem_append, mem_append, mem_cons, mem_cons, mem_nil]
          simp only [or_false]
          constructor
          · rintro (h | h)
            · exact .inl (.inl h)
            · by_cases h5 : n ≤ t.2
              · exact .inl (.inr ⟨h.1, h5⟩)
              · exact .inr ⟨by omega, by omega⟩
          · rintro ((h | h) | h)
            · exact .inl h
            · exact .inr ⟨h.1, by omega⟩
            · exact .inr ⟨by omega, by omega⟩
      · rw [if_neg hw]
        have hg : gap b t.2 s.1 := by
          obtain ⟨_, n, hn, h1, h2⟩ := wo_false b _ (Bool.eq_false_iff.2 hw)
          exact ⟨n, hn, by simp at h1; omega, by simp at h2; omega⟩
        have hlt : t.2 < s.1 := by obtain ⟨n, _, h1, h2⟩ := hg; omega
        refine ⟨⟨fun u hu => ?_, ?_⟩, fun u hu => ?_, fun n hn => ?_⟩
        · rcases List.mem_append.1 hu with h | h
          · exact hc.1 u (List.mem_append_left _ h)
          · rcases List.mem_cons.1 h with rfl | h
            · exact hot
            · rw [List.mem_singleton.1 h]; exact hos
        · refine List.pairwise_append.2 ⟨hpw.1, by simp [hg], fun u hu v hv => ?_⟩
          have hgu := hpw.2.2 u hu t (by simp)
          rcases List.mem_cons.1 hv with rfl | h
          · exact hgu
          · rw [List.mem_singleton.1 h]
            obtain ⟨m, hm, h1, h2⟩ := hgu
            exact ⟨m, hm, h1, by have := hot.1; omega⟩
        · rcases List.mem_append.1 hu with h | h
          · exact hl u (List.mem_append_left _ h) s (List.mem_cons_self ..)
          · rcases List.mem_cons.1 h with rfl | h
            · exact hts
            · rw [List.mem_singleton.1 h]; exact Int.le_refl _
        · rw [show l ++ [t, s] = (l ++ [t]) ++ [s] by simp, mem_append, mem_cons s, mem_nil]; simp
/-- **One list for one set.** -/
theorem can_unique (b : Bool) : ∀ (l m : List Sp), Can b l → Can b m → (∀ n, on b n → (mem l n ↔ mem m n)) → l = m
  | [], [], _, _, _ => rfl
  | [], t :: m, _, hm, h => by
    have ht := hm.1 t (List.mem_cons_self ..)
    exact absurd ((h t.1 ht.2.1).2 ⟨t, List.mem_cons_self .., Int.le_refl _, ht.1⟩) (by simp [mem])
  | s :: l, [], hl, _, h => by
    have ht := hl.1 s (List.mem_cons_self ..)
    exact absurd ((h s.1 ht.2.1).1 ⟨s, List.mem_cons_self .., Int.le_refl _, ht.1⟩) (by simp [mem])
  | s :: l, t :: m, hl, hm, h => by
    have hs := hl.1 s (List.mem_cons_self ..)
    have ht := hm.1 t (List.mem_cons_self ..)
    have hlp := List.pairwise_cons.1 hl.2
    have hmp := List.pairwise_cons.1 hm.2
    have hl2 : ∀ n, mem l n → s.2 < n := fun n ⟨u, hu, h1, h2⟩ => by obtain ⟨k, _, h3, h4⟩ := hlp.1 u hu; omega
    have hm2 : ∀ n, mem m n → t.2 < n := fun n ⟨u, hu, h1, h2⟩ => by obtain ⟨k, _, h3, h4⟩ := hmp.1 u hu; omega
    have a1 : t.1 ≤ s.1 := by
      rcases (mem_cons ..).1 ((h s.1 hs.2.1).1 ⟨s, List.mem_cons_self .., Int.le_refl _, hs.1⟩) with h1 | h1
      · exact h1.1
      · have := hm2 _ h1; have := ht.1; omega
    have a2 : s.1 ≤ t.1 := by
      rcases (mem_cons ..).1 ((h t.1 ht.2.1).2 ⟨t, List.mem_cons_self .., Int.le_refl _, ht.1⟩) with h1 | h1
      · exact h1.1
      · have := hl2 _ h1; have := hs.1; omega
    have key : ∀ (s t : Sp) (l m : List Sp), Can b (s :: l) → Can b (t :: m) → (∀ n, on b n → (mem (s :: l) n ↔ mem (t :: m) n)) → s.1 = t.1 → ¬s.2 < t.2 := by
      intro s t l m hl hm h he hlt
      have hs := hl.1 s (List.mem_cons_self ..)
      have ht := hm.1 t (List.mem_cons_self ..)
      have hlp := List.pairwise_cons.1 hl.2
      rcases (mem_cons ..).1 ((h t.2 ht.2.2).2 ⟨t, List.mem_cons_self .., ht.1, Int.le_refl _⟩) with h1 | h1
      · omega
      · cases l with
        | nil => simp [mem] at h1
        | cons u l =>
          have hlq := List.pairwise_cons.1 hlp.2
          obtain ⟨k, hk, h3, h4⟩ := hlp.1 u (List.mem_cons_self ..)
          have hu := hl.1 u (by simp)
          have hb : ∀ n, mem (u :: l) n → k < n := fun n hn => by
            rcases (mem_cons ..).1 hn with h5 | ⟨v, hv, h5, h6⟩
            · omega
            · obtain ⟨k', _, h7, h8⟩ := hlq.1 v hv; have := hu.1; omega
          have := hb _ h1
          rcases (mem_cons ..).1 ((h k hk).2 ⟨t, List.mem_cons_self .., by have := hs.1; omega, by omega⟩) with h5 | h5
          · omega
          · have := hb _ h5; omega
    have e1 : s.1 = t.1 := Int.le_antisymm a2 a1
    have n1 := key s t l m hl hm h e1
    have n2 := key t s m l hm hl (fun n hn => (h n hn).symm) e1.symm
    have e2 : s.2 = t.2 := by omega
    have e : s = t := Prod.ext e1 e2
    subst e
    rw [can_unique b l m ⟨fun u hu => hl.1 u (List.mem_cons_of_mem _ hu), hlp.2⟩ ⟨fun u hu => hm.1 u (List.mem_cons_of_mem _ hu), hmp.2⟩ fun n hn => ?_]
    have := h n hn
    rw [mem_cons, mem_cons] at this
    constructor
    · intro hx
      have := hl2 n hx
      rcases (h n hn).1 ((mem_cons ..).2 (.inr hx)) |> (mem_cons ..).1 with h5 | h5
      · omega
      · exact h5
    · intro hx
      have := hm2 n hx
      rcases (h n hn).2 ((mem_cons ..).2 (.inr hx)) |> (mem_cons ..).1 with h5 | h5
      · omega
      · exact h5
end Go.Proofs.Yteekccjfokoglaa
