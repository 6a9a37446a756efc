/-
  Mathematics of the specification's normal spans: insertion into a list of spans in order; the line of the numbers that are not whole. No condition.
-/
import Derived.Test.YteekccjfokoglaaM2
namespace Go.Proofs.Yteekccjfokoglaa
set_option linter.unusedSimpArgs false
set_option linter.unusedVariables false
def CanP (l : List Sp) : Prop := (∀ s ∈ l, s.1 ≤ s.2) ∧ l.Pairwise fun s t => s.2 + 1 < t.1
def mrg (s x : Sp) : Sp := (min s.1 x.1, max s.2 x.2)
def ins : List Sp → Sp → List Sp
  | [], s => [s]
  | x :: l, s => if x.2 + 1 < s.1 then x :: ins l s else if s.2 + 1 < x.1 then s :: x :: l else ins l (mrg s x)
theorem ins_low : ∀ (l : List Sp) (s : Sp) (y : Int), y < s.1 → (∀ u ∈ l, y < u.1) → ∀ t ∈ ins l s, y < t.1
  | [], s, y, h, _, t, ht => by simp only [ins, List.mem_singleton] at ht; subst ht; exact h
  | x :: l, s, y, h, hl, t, ht => by
    have hx := hl x (List.mem_cons_self ..)
    have hl' : ∀ u ∈ l, y < u.1 := fun u hu => hl u (List.mem_cons_of_mem _ hu)
    rw [ins] at ht
    split at ht
    · rcases List.mem_cons.1 ht with rfl | ht
      · exact hx
      · exact ins_low l s y h hl' t ht
    · split at ht
      · rcases List.mem_cons.1 ht with rfl | ht
        · exact h
        · exact hl t ht
      · exact ins_low l (mrg s x) y (by simp only [mrg]; omega) hl' t ht
theorem ins_spec : ∀ (l : List Sp) (s : Sp), CanP l → s.1 ≤ s.2 → CanP (ins l s) ∧ ∀ n, mem (ins l s) n ↔ mem l n ∨ (s.1 ≤ n ∧ n ≤ s.2)
  | [], s, _, h => ⟨⟨fun t ht => by simp only [ins, List.mem_singleton] at ht; subst ht; exact h, by simp [ins]⟩, fun n => by simp [ins, mem]⟩
  | x :: l, s, hc, h => by
    have hx := hc.1 x (List.mem_cons_self ..)
    have hp := List.pairwise_cons.1 hc.2
    have hcl : CanP l := ⟨fun t ht => hc.1 t (List.mem_cons_of_mem _ ht), hp.2⟩
    rw [ins]
    split
    · rename_i h1
      obtain ⟨c, m⟩ := ins_spec l s hcl h
      refine ⟨⟨fun t ht => ?_, ?_⟩, fun n => ?_⟩
      · rcases List.mem_cons.1 ht with rfl | ht
        · exact hx
        · exact c.1 t ht
      · exact List.pairwise_cons.2 ⟨fun t ht => ins_low l s (x.2 + 1) h1 hp.1 t ht, c.2⟩
      · rw [mem_cons, m, mem_cons, or_assoc]
    · rename_i h1
      split
      · rename_i h2
        refine ⟨⟨fun t ht => ?_, ?_⟩, fun n => ?_⟩
        · rcases List.mem_cons.1 ht with rfl | ht
          · exact h
          · exact hc.1 t ht
        · refine List.pairwise_cons.2 ⟨fun t ht => ?_, hc.2⟩
          rcases List.mem_cons.1 ht with rfl | ht
          · exact h2
          · have := hp.1 t ht; omega
        · rw [mem_cons, or_comm]
      · rename_i h2
        obtain ⟨c, m⟩ := ins_spec l (mrg s x) hcl (by simp only [mrg]; omega)
        refine ⟨c, fun n => ?_⟩
        rw [m, mem_cons]
        simp only [mrg]
        constructor
        · rintro (hm | hm)
          · exact .inl (.inr hm)
          · by_cases h3 : s.1 ≤ n ∧ n ≤ s.2
            · exact .inr h3
            · exact .inl (.inl (by omega))
        · rintro ((hm | hm) | hm)
          · exact .inr (by omega)
          · exact .inl hm
          · exact .inr (by omega)
theorem ins_len : ∀ (l : List Sp) (s : Sp), (ins l s).length ≤ l.length + 1
  | [], s => by simp [ins]
  | x :: l, s => by
    rw [ins]; split
    · have := ins_len l s; simp; omega
    · split
      · simp
      · have := ins_len l (mrg s x); simp; omega
/-- all ends between -B and B -/
def BdB (B : Int) (l : List Sp) : Prop := ∀ s ∈ l, -B ≤ s.1 ∧ s.1 ≤ B ∧ -B ≤ s.2 ∧ s.2 ≤ B
theorem ins_bd {B : Int} : ∀ (l : List Sp) (s : Sp), BdB B l → (-B ≤ s.1 ∧ s.1 ≤ B ∧ -B ≤ s.2 ∧ s.2 ≤ B) → BdB B (ins l s)
  | [], s, _, h => fun t ht => by simp only [ins, List.mem_singleton] at ht; subst ht; exact h
  | x :: l, s, hl, h => by
    have hx := hl x (List.mem_cons_self ..)
    have hl' : BdB B l := fun u hu => hl u (List.mem_cons_of_mem _ hu)
    rw [ins]
    split
    · intro t ht
      rcases List.mem_cons.1 ht with rfl | ht
      · exact hx
      · exact ins_bd l s hl' h t ht
    · split
      · intro t ht
        rcases List.mem_cons.1 ht with rfl | ht
        · exact h
        · exact hl t ht
      · exact ins_bd l (mrg s x) hl' (by simp only [mrg]; omega)
def rstep (out : List Sp) (s : Sp) : List Sp := if s.2 < s.1 then out else ins out s
def rn (l : List Sp) : List Sp := l.foldl rstep []
theorem rn_snoc (l : List Sp) (s : Sp) : rn (l ++ [s]) = rstep (rn l) s := by simp [rn]
theorem rfold (B : Int) : ∀ (l out : List Sp), CanP out → BdB B out → (∀ s ∈ l, s.1 ≤ s.2 → -B ≤ s.1 ∧ s.1 ≤ B ∧ -B ≤ s.2 ∧ s.2 ≤ B) → CanP (l.foldl rstep out) ∧ BdB B (l.foldl rstep out) ∧ (l.foldl rstep out).length ≤ out.length + l.length ∧ ∀ n, mem (l.foldl rstep out) n ↔ mem out n ∨ mem l n
  | [], out, h, hb, _ => ⟨h, hb, by simp, fun n => by simp [mem_nil]⟩
  | s :: l, out, h, hb, hl => by
    have hl' : ∀ s ∈ l, s.1 ≤ s.2 → -B ≤ s.1 ∧ s.1 ≤ B ∧ -B ≤ s.2 ∧ s.2 ≤ B := fun t ht => hl t (List.mem_cons_of_mem _ ht)
    rw [List.foldl_cons]
    by_cases h1 : s.2 < s.1
    · have e : rstep out s = out := by unfold rstep; rw [if_pos h1]
      rw [e]
      obtain ⟨a, b, c, d⟩ := rfold B l out h hb hl'
      refine ⟨a, b, by simp; omega, fun n => ?_⟩
      rw [d, mem_cons]
      constructor
      · rintro (h | h)
        · exact .inl h
        · exact .inr (.inr h)
      · rintro (h | h | h)
        · exact .inl h
        · omega
        · exact .inr h
    · have e : rstep out s = ins out s := by unfold rstep; rw [if_neg h1]
      rw [e]
      obtain ⟨c1, m1⟩ := ins_spec out s h (by omega)
      obtain ⟨a, b, c, d⟩ := rfold B l (ins out s) c1 (ins_bd out s hb (hl s (List.mem_cons_self ..) (by omega))) hl'
      have hn := ins_len out s
      refine ⟨a, b, by simp; omega, fun n => ?_⟩
      rw [d, m1, mem_cons, or_assoc]
theorem rn_spec (B : Int) (l : List Sp) (hl : ∀ s ∈ l, s.1 ≤ s.2 → -B ≤ s.1 ∧ s.1 ≤ B ∧ -B ≤ s.2 ∧ s.2 ≤ B) : CanP (rn l) ∧ BdB B (rn l) ∧ (rn l).length ≤ l.length ∧ ∀ n, mem (rn l) n ↔ mem l n := by
  obtain ⟨a, b, c, d⟩ := rfold B l [] ⟨by simp, by simp⟩ (by intro s hs; cases hs) hl
  exact ⟨a, b, by simpa [rn] using c, fun n => by rw [rn, d, mem_nil, false_or]⟩
/-- the whole numbers' spans, cut to the valid ones -/
def clipI (x : Sp) : Sp := (max x.1 (-100000000000), min x.2 100000000000)
theorem ints_nrm (l : List Sp) : rn (l.map clipI) = nrm false l := by
  obtain ⟨a, b, c, d⟩ := rn_spec 100000000000 (l.map clipI) (fun s hs h => by
    obtain ⟨t, _, rfl⟩ := List.mem_map.1 hs
    simp only [clipI] at h ⊢; omega)
  refine can_unique false _ _ ⟨fun s hs => ?_, ?_⟩ (nrm_can false l) fun n hn => ?_
  · have := b s hs; have h2 := a.1 s hs
    simp only [ok, on, lim]; simp; omega
  · refine a.2.imp_of_mem fun {s t} hs ht h => ?_
    have := b s hs; have := b t ht
    exact ⟨s.2 + 1, by simp only [on, lim]; simp; omega, by omega, h⟩
  · rw [d, nrm_mem false l n hn]
    obtain ⟨h1, h2, _⟩ := hn
    simp only [lim] at h1 h2
    constructor
    · rintro ⟨s, hs, h3, h4⟩
      obtain ⟨t, ht, rfl⟩ := List.mem_map.1 hs
      simp only [clipI] at h3 h4
      exact ⟨t, ht, by omega, by omega⟩
    · rintro ⟨t, ht, h3, h4⟩
      exact ⟨clipI t, List.mem_map.2 ⟨t, ht, rfl⟩, by simp only [clipI]; omega, by simp only [clipI]; omega⟩
/-- the place on the line of a number that is not whole -/
def rk (u : Int) : Int := u / 10000 * 9999 + u % 10000 - 1
def un (k : Int) : Int := k / 9999 * 10000 + k % 9999 + 1
theorem rk_un (k : Int) : rk (un k) = k := by unfold rk un; omega
theorem un_rk (u : Int) (h : u % 10000 ≠ 0) : un (rk u) = u := by unfold rk un; omega
theorem un_frac (k : Int) : un k % 10000 ≠ 0 := by unfold un; omega
theorem un_le (a b : Int) : un a ≤ un b ↔ a ≤ b := by unfold un; omega
theorem un_lt (a b : Int) : un a < un b ↔ a < b := by unfold un; omega
theorem rk_le (a b : Int) (ha : a % 10000 ≠ 0) (hb : b % 10000 ≠ 0) : rk a ≤ rk b ↔ a ≤ b := by unfold rk; omega
/-- the fractions' spans, cut to the valid ones -/
def clipF (x : Sp) : Sp := (max x.1 (-1000000000000000), min x.2 1000000000000000)
def inF (x : Sp) : Sp := (if (clipF x).1 % 10000 = 0 then (clipF x).1 + 1 else (clipF x).1, if (clipF x).2 % 10000 = 0 then (clipF x).2 - 1 else (clipF x).2)
def fstep (acc : List Sp) (x : Sp) : List Sp := if (clipF x).2 < (clipF x).1 then acc else if (inF x).1 ≤ (inF x).2 then acc ++ [(rk (inF x).1, rk (inF x).2)] else acc
def fr (l : List Sp) : List Sp := l.foldl fstep []
theorem fr_snoc (l : List Sp) (x : Sp) : fr (l ++ [x]) = fstep (fr l) x := by simp [fr]
def kpF (x : Sp) : Bool := decide ((clipF x).1 ≤ (clipF x).2) && decide ((inF x).1 ≤ (inF x).2)
theorem fstep_eq (acc : List Sp) (x : Sp) : fstep acc x = acc ++ (if kpF x = true then [(rk (inF x).1, rk (inF x).2)] else []) := by
  unfold fstep kpF
  by_cases h1 : (clipF x).2 < (clipF x).1
  · rw [if_pos h1, if_neg (by simp; omega)]; simp
  · rw [if_neg h1]
    by_cases h2 : (inF x).1 ≤ (inF x).2
    · rw [if_pos h2, if_pos (by simp; omega)]
    · rw [if_neg h2, if_neg (by simp; omega)]; simp
theorem fr_fold : ∀ (l acc : List Sp), l.foldl fstep acc = acc ++ (l.filter kpF).map fun x => (rk (inF x).1, rk (inF x).2)
  | [], acc => by simp
  | x :: l, acc => by
    rw [List.foldl_cons, fr_fold l, fstep_eq]
    cases h : kpF x
    · rw [if_neg (by simp), List.filter_cons_of_neg (by simp [h])]; simp
    · rw [if_pos rfl, List.filter_cons_of_pos h]; simp
theorem fr_eq (l : List Sp) : fr l = (l.filter kpF).map fun x => (rk (inF x).1, rk (inF x).2) := by rw [fr, fr_fold]; simp
theorem inF_bd (x : Sp) (h : kpF x = true) : -1000000000000000 ≤ (inF x).1 ∧ (inF x).1 ≤ (inF x).2 ∧ (inF x).2 ≤ 1000000000000000 ∧ (inF x).1 % 10000 ≠ 0 ∧ (inF x).2 % 10000 ≠ 0 := by
  unfold kpF at h
  rw [Bool.and_eq_true, decide_eq_true_eq, decide_eq_true_eq] at h
  obtain ⟨h1, h2⟩ := h
  unfold inF clipF at *
  simp only at *
  split at h2 <;> split at h2 <;> refine ⟨?_, ?_, ?_, ?_, ?_⟩ <;> simp_all <;> omega
theorem inF_mem (x : Sp) (n : Int) (hn : on true n) : (kpF x = true ∧ (inF x).1 ≤ n ∧ n ≤ (inF x).2) ↔ (x.1 ≤ n ∧ n ≤ x.2) := by
  obtain ⟨h1, h2, h3⟩ := hn
  have h3 := h3 rfl
  simp only [lim] at h1 h2
  unfold kpF
  rw [Bool.and_eq_true, decide_eq_true_eq, decide_eq_true_eq]
  unfold inF clipF
  simp only
  split <;> split <;> constructor <;> intro h <;> omega
theorem fr_len (l : List Sp) : (fr l).length ≤ l.length := by rw [fr_eq, List.length_map]; exact List.length_filter_le _ _
theorem fr_bd (l : List Sp) : ∀ s ∈ fr l, -1000000000000000 ≤ s.1 ∧ s.1 ≤ 1000000000000000 ∧ -1000000000000000 ≤ s.2 ∧ s.2 ≤ 1000000000000000 := by
  intro s hs
  rw [fr_eq] at hs
  obtain ⟨x, hx, rfl⟩ := List.mem_map.1 hs
  have := inF_bd x (List.mem_filter.1 hx).2
  simp only [rk]; omega
theorem fr_le (l : List Sp) : ∀ s ∈ fr l, s.1 ≤ s.2 := by
  intro s hs
  rw [fr_eq] at hs
  obtain ⟨x, hx, rfl⟩ := List.mem_map.1 hs
  have := inF_bd x (List.mem_filter.1 hx).2
  simp only; rw [rk_le _ _ this.2.2.2.1 this.2.2.2.2]; exact this.2.1
theorem fr_mem (l : List Sp) (n : Int) (hn : on true n) : mem (fr l) (rk n) ↔ mem l n := by
  have h3 := hn.2.2 rfl
  rw [fr_eq]
  constructor
  · rintro ⟨s, hs, h1, h2⟩
    obtain ⟨x, hx, rfl⟩ := List.mem_map.1 hs
    have hk := (List.mem_filter.1 hx).2
    have hb := inF_bd x hk
    simp only at h1 h2
    rw [rk_le _ _ hb.2.2.2.1 h3] at h1
    rw [rk_le _ _ h3 hb.2.2.2.2] at h2
    exact ⟨x, (List.mem_filter.1 hx).1, (inF_mem x n hn).1 ⟨hk, h1, h2⟩⟩
  · rintro ⟨x, hx, h⟩
    obtain ⟨hk, h1, h2⟩ := (inF_mem x n hn).2 h
    have hb := inF_bd x hk
    refine ⟨_, List.mem_map.2 ⟨x, List.mem_filter.2 ⟨hx, hk⟩, rfl⟩, ?_, ?_⟩
    · simp only; rw [rk_le _ _ hb.2.2.2.1 h3]; exact h1
    · simp only; rw [rk_le _ _ h3 hb.2.2.2.2]; exact h2
def unS (x : Sp) : Sp := (un x.1, un x.2)
/-- a list in order on the line is the spans of the numbers -/
theorem un_can (L : List Sp) (hc : CanP L) (hb : ∀ s ∈ L, -999900000000 * 1000 ≤ s.1 ∧ s.2 ≤ 999900000000 * 1000 - 1) : Can true (L.map unS) := by
  refine ⟨fun s hs => ?_, ?_⟩
  · obtain ⟨x, hx, rfl⟩ := List.mem_map.1 hs
    have h1 := hc.1 x hx
    have h2 := hb x hx
    refine ⟨(un_le _ _).2 h1, ⟨?_, ?_, fun _ => un_frac _⟩, ⟨?_, ?_, fun _ => un_frac _⟩⟩ <;> simp only [lim, unS, un] <;> omega
  · rw [List.pairwise_map]
    refine hc.2.imp_of_mem fun {s t} hs ht h => ?_
    have h1 := hb s hs
    have h2 := hb t ht
    have h3 := hc.1 s hs
    have h4 := hc.1 t ht
    refine ⟨un (s.2 + 1), ⟨?_, ?_, fun _ => un_frac _⟩, (un_lt _ _).2 (by omega), (un_lt _ _).2 h⟩ <;> simp only [lim, un] <;> omega
theorem un_mem (L : List Sp) (n : Int) (hn : on true n) : mem (L.map unS) n ↔ mem L (rk n) := by
  have h3 := hn.2.2 rfl
  have key : ∀ k, (un k ≤ n ↔ k ≤ rk n) ∧ (n ≤ un k ↔ rk n ≤ k) := fun k => by
    constructor
    · rw [← un_le k (rk n), un_rk n h3]
    · rw [← un_le (rk n) k, un_rk n h3]
  constructor
  · rintro ⟨s, hs, h1, h2⟩
    obtain ⟨x, hx, rfl⟩ := List.mem_map.1 hs
    exact ⟨x, hx, (key _).1.1 h1, (key _).2.1 h2⟩
  · rintro ⟨x, hx, h1, h2⟩
    exact ⟨unS x, List.mem_map.2 ⟨x, hx, rfl⟩, (key _).1.2 h1, (key _).2.2 h2⟩
theorem fr_line (l : List Sp) : ∀ s ∈ fr l, -999900000000 * 1000 ≤ s.1 ∧ s.2 ≤ 999900000000 * 1000 - 1 := by
  intro s hs
  rw [fr_eq] at hs
  obtain ⟨x, hx, rfl⟩ := List.mem_map.1 hs
  have := inF_bd x (List.mem_filter.1 hx).2
  simp only [rk]; omega
theorem rnF_line (l : List Sp) : ∀ s ∈ rn (fr l), -999900000000 * 1000 ≤ s.1 ∧ s.2 ≤ 999900000000 * 1000 - 1 := by
  obtain ⟨a, b, c, d⟩ := rn_spec 1000000000000000 (fr l) (fun s hs _ => by have := fr_bd l s hs; omega)
  intro s hs
  have h1 := a.1 s hs
  obtain ⟨t, ht, h2, h3⟩ := (d s.1).1 ⟨s, hs, Int.le_refl _, h1⟩
  obtain ⟨t', ht', h2', h3'⟩ := (d s.2).1 ⟨s, hs, h1, Int.le_refl _⟩
  have := fr_line l t ht
  have := fr_line l t' ht'
  omega
theorem rnF_spec (l : List Sp) : CanP (rn (fr l)) ∧ (rn (fr l)).length ≤ l.length ∧ ∀ n, on true n → (mem (rn (fr l)) (rk n) ↔ mem l n) := by
  obtain ⟨a, b, c, d⟩ := rn_spec 1000000000000000 (fr l) (fun s hs _ => by have := fr_bd l s hs; omega)
  exact ⟨a, Nat.le_trans c (fr_len l), fun n hn => by rw [d, fr_mem l n hn]⟩
theorem frac_nrm (l : List Sp) : (rn (fr l)).map unS = nrm true l :=
  can_unique true _ _ (un_can _ (rnF_spec l).1 (rnF_line l)) (nrm_can true l) fun n hn => by
    rw [un_mem _ n hn, (rnF_spec l).2.2 n hn, nrm_mem true l n hn]
theorem rnI_line (l : List Sp) : ∀ s ∈ rn (l.map clipI), -100000000000 ≤ s.1 ∧ s.2 ≤ 100000000000 := by
  rw [ints_nrm]
  intro s hs
  have := (nrm_can false l).1 s hs
  obtain ⟨_, h1, h2⟩ := this
  have := h1.1; have := h2.2.1
  simp only [lim] at *; omega
theorem rnI_spec (l : List Sp) : CanP (rn (l.map clipI)) ∧ (rn (l.map clipI)).length ≤ l.length := by
  obtain ⟨a, b, c, d⟩ := rn_spec 100000000000 (l.map clipI) (fun s hs h => by
    obtain ⟨t, _, rfl⟩ := List.mem_map.1 hs
    simp only [clipI] at h ⊢; omega)
  exact ⟨a, by simpa using c⟩
/-- what is between the spans -/
def rg (hi : Int) : Int → List Sp → List Sp
  | lo, [] => if lo ≤ hi then [(lo, hi)] else []
  | lo, s :: l => if lo < s.1 then (lo, s.1 - 1) :: rg hi (s.2 + 1) l else rg hi (s.2 + 1) l
theorem rg_spec (hi : Int) : ∀ (l : List Sp) (lo : Int), CanP l → (∀ s ∈ l, lo ≤ s.1 ∧ s.2 ≤ hi) → CanP (rg hi lo l) ∧ (∀ t ∈ rg hi lo l, lo ≤ t.1 ∧ t.2 ≤ hi) ∧ (rg hi lo l).length ≤ l.length + 1 ∧ ∀ n, mem (rg hi lo l) n ↔ (lo ≤ n ∧ n ≤ hi) ∧ ¬mem l n
  | [], lo, _, _ => by
    rw [rg]
    split
    · rename_i h
      exact ⟨⟨fun s hs => by rw [List.mem_singleton.1 hs]; exact h, by simp⟩, fun t ht => by rw [List.mem_singleton.1 ht]; exact ⟨Int.le_refl _, Int.le_refl _⟩, by simp, fun n => by simp [mem]⟩
    · rename_i h
      exact ⟨⟨by simp, by simp⟩, by simp, by simp, fun n => by simp [mem]; omega⟩
  | s :: l, lo, hc, hb => by
    have hs := hc.1 s (List.mem_cons_self ..)
    have hp := List.pairwise_cons.1 hc.2
    have hcl : CanP l := ⟨fun t ht => hc.1 t (List.mem_cons_of_mem _ ht), hp.2⟩
    have hbs := hb s (List.mem_cons_self ..)
    have hbl : ∀ t ∈ l, s.2 + 1 ≤ t.1 ∧ t.2 ≤ hi := fun t ht => ⟨by have := hp.1 t ht; omega, (hb t (List.mem_cons_of_mem _ ht)).2⟩
    obtain ⟨c, b, ln, m⟩ := rg_spec hi l (s.2 + 1) hcl hbl
    have hno : ∀ n, n ≤ s.2 → ¬mem l n := fun n hn ⟨t, ht, h1, h2⟩ => by have := (hbl t ht).1; omega
    -- the next span begins behind s.2 + 1, or the list begins there
    rw [rg]
    split
    · rename_i h
      refine ⟨⟨fun t ht => ?_, ?_⟩, fun t ht => ?_, by simp; omega, fun n => ?_⟩
      · rcases List.mem_cons.1 ht with rfl | ht
        · simp only; omega
        · exact c.1 t ht
      · refine List.pairwise_cons.2 ⟨fun t ht => ?_, c.2⟩
        have := (b t ht).1
        simp only; omega
      · rcases List.mem_cons.1 ht with rfl | ht
        · simp only; omega
        · have := b t ht; omega
      · rw [mem_cons, m, mem_cons]
        simp only
        by_cases h1 : n ≤ s.2
        · have := hno n h1
          constructor
          · rintro (h2 | h2)
            · exact ⟨by omega, by rintro (h3 | h3); omega; exact this h3⟩
            · omega
          · rintro ⟨h2, h3⟩
            exact .inl ⟨h2.1, by
              have : ¬(s.1 ≤ n ∧ n ≤ s.2) := fun h4 => h3 (.inl h4)
              omega⟩
        · constructor
          · rintro (h2 | h2)
            · omega
            · exact ⟨by omega, by rintro (h3 | h3); omega; exact h2.2 h3⟩
          · rintro ⟨h2, h3⟩
            exact .inr ⟨by omega, fun h4 => h3 (.inr h4)⟩
    · rename_i h
      refine ⟨c, fun t ht => by have := b t ht; omega, by simp; omega, fun n => ?_⟩
      rw [m, mem_cons]
      by_cases h1 : n ≤ s.2
      · constructor
        · intro h2; omega
        · rintro ⟨h2, h3⟩
          have : ¬(s.1 ≤ n ∧ n ≤ s.2) := fun h4 => h3 (.inl h4)
          omega
      · constructor
        · rintro ⟨h2, h3⟩
          exact ⟨by omega, by rintro (h4 | h4); omega; exact h3 h4⟩
        · rintro ⟨h2, h3⟩
          exact ⟨by omega, fun h4 => h3 (.inr h4)⟩
theorem gapI_cpl (l : List Sp) : rg 100000000000 (-100000000000) (rn (l.map clipI)) = cpl false l := by
  obtain ⟨a, b, c, d⟩ := rg_spec 100000000000 _ (-100000000000) (rnI_spec l).1 (rnI_line l)
  refine can_unique false _ _ ⟨fun s hs => ?_, ?_⟩ (cpl_can false l) fun n hn => ?_
  · have := b s hs; have h2 := a.1 s hs
    simp only [ok, on, lim]; simp; omega
  · refine a.2.imp_of_mem fun {s t} hs ht h => ?_
    have := b s hs; have := b t ht; have := a.1 s hs; have := a.1 t ht
    exact ⟨s.2 + 1, by simp only [on, lim]; simp; omega, by omega, h⟩
  · rw [d, cpl_mem false l n hn, ints_nrm, nrm_mem false l n hn]
    have h1 := hn.1; have h2 := hn.2.1
    simp only [lim] at h1 h2
    exact ⟨fun h => h.2, fun h => ⟨⟨h1, h2⟩, h⟩⟩
theorem gapF_cpl (l : List Sp) : (rg (999900000000 * 1000 - 1) (-999900000000 * 1000) (rn (fr l))).map unS = cpl true l := by
  obtain ⟨a, b, c, d⟩ := rg_spec (999900000000 * 1000 - 1) _ (-999900000000 * 1000) (rnF_spec l).1 (rnF_line l)
  refine can_unique true _ _ (un_can _ a b) (cpl_can true l) fun n hn => ?_
  rw [un_mem _ n hn, d, cpl_mem true l n hn, (rnF_spec l).2.2 n hn]
  have h1 := hn.1; have h2 := hn.2.1; have h3 := hn.2.2 rfl
  simp only [lim] at h1 h2
  exact ⟨fun h => h.2, fun h => ⟨by unfold rk; omega, h⟩⟩
end Go.Proofs.Yteekccjfokoglaa
