/-
  Mathematics of numset: the nearest number of a set, the order of sets, the number of elements. No condition.
-/
import Derived.Test.YteekccjfokoglaaM2
namespace Go.Proofs.Yteekccjfokoglaa
set_option linter.unusedSimpArgs false
set_option linter.unnecessarySimpa false
set_option linter.unusedVariables false
def nearB (u v : Int) : Bool := decide (max u (-u) < max v (-v)) || (decide (max u (-u) = max v (-v)) && decide (v < u))
theorem nearB_iff (u v : Int) : nearB u v = true ↔ max u (-u) < max v (-v) ∨ (max u (-u) = max v (-v) ∧ v < u) := by simp [nearB]
theorem near_irr (u : Int) : nearB u u = false := by rw [Bool.eq_false_iff]; intro h; rw [nearB_iff] at h; omega
theorem near_trans {u v w : Int} (h1 : nearB u v = true) (h2 : nearB v w = true) : nearB u w = true := by rw [nearB_iff] at *; omega
theorem near_tot {u v : Int} (h : u ≠ v) : nearB u v = true ∨ nearB v u = true := by rw [nearB_iff, nearB_iff]; omega
theorem near_asym {u v : Int} (h1 : nearB u v = true) : nearB v u = false := by rw [Bool.eq_false_iff]; intro h; rw [nearB_iff] at *; omega
def candI (s : Sp) : Int := min (max s.1 0) s.2 * 10000
def candF (s : Sp) : Int := min (max s.1 1) s.2
def cands (s : NS) : List Int := s.1.map candI ++ s.2.map candF
def lstep (a : Option Int) (u : Int) : Option Int := match a with
  | none => some u
  | some l => if nearB u l = true then some u else some l
def leastO (s : NS) : Option Int := (cands (mk s)).foldl lstep none
theorem lfold : ∀ (L : List Int) (l : Int), ∃ m, L.foldl lstep (some l) = some m ∧ (m = l ∨ m ∈ L) ∧ (m = l ∨ nearB m l = true) ∧ ∀ u ∈ L, u = m ∨ nearB m u = true
  | [], l => ⟨l, rfl, .inl rfl, .inl rfl, by simp⟩
  | x :: L, l => by
    rw [List.foldl_cons]
    by_cases h : nearB x l = true
    · obtain ⟨m, h1, h2, h3, h4⟩ := lfold L x
      refine ⟨m, by simp only [lstep, if_pos h]; exact h1, .inr ?_, .inr ?_, ?_⟩
      · rcases h2 with rfl | h2
        · exact List.mem_cons_self ..
        · exact List.mem_cons_of_mem _ h2
      · rcases h3 with rfl | h3
        · exact h
        · exact near_trans h3 h
      · intro u hu
        rcases List.mem_cons.1 hu with rfl | hu
        · rcases h3 with h3 | h3
          · exact .inl h3.symm
          · exact .inr h3
        · exact h4 u hu
    · obtain ⟨m, h1, h2, h3, h4⟩ := lfold L l
      refine ⟨m, by simp only [lstep, if_neg h]; exact h1, ?_, h3, ?_⟩
      · rcases h2 with h2 | h2
        · exact .inl h2
        · exact .inr (List.mem_cons_of_mem _ h2)
      · intro u hu
        rcases List.mem_cons.1 hu with rfl | hu
        · by_cases hum : u = m
          · exact .inl hum
          · rcases near_tot hum with h5 | h5
            · rcases h3 with rfl | h3
              · exact absurd h5 h
              · exact absurd (near_trans h5 h3) h
            · exact .inr h5
        · exact h4 u hu
theorem lfold_none (L : List Int) : (L = [] ∧ L.foldl lstep none = none) ∨ ∃ m, L.foldl lstep none = some m ∧ m ∈ L ∧ ∀ u ∈ L, u = m ∨ nearB m u = true := by
  cases L with
  | nil => exact .inl ⟨rfl, rfl⟩
  | cons x L =>
    obtain ⟨m, h1, h2, h3, h4⟩ := lfold L x
    refine .inr ⟨m, h1, ?_, ?_⟩
    · rcases h2 with rfl | h2
      · exact List.mem_cons_self ..
      · exact List.mem_cons_of_mem _ h2
    · intro u hu
      rcases List.mem_cons.1 hu with rfl | hu
      · rcases h3 with h3 | h3
        · exact .inl h3.symm
        · exact .inr h3
      · exact h4 u hu
/-- l is the nearest number of s -/
def IsLeast (s : NS) (l : Int) : Prop := hasB s l = true ∧ ∀ u, hasB s u = true → u = l ∨ nearB l u = true
theorem cand_in {s : NS} (hc : CanS s) {u : Int} (h : u ∈ cands s) : hasB s u = true := by
  rcases List.mem_append.1 h with h | h
  · obtain ⟨p, hp, rfl⟩ := List.mem_map.1 h
    obtain ⟨h1, h2, h3⟩ := hc.1.1 p hp
    have hn : on false (min (max p.1 0) p.2) := by simp only [on, lim] at *; exact ⟨by omega, by omega, fun h => by cases h⟩
    rw [candI, has_f s _ hn, memb_iff]
    exact ⟨p, hp, by omega, by omega⟩
  · obtain ⟨p, hp, rfl⟩ := List.mem_map.1 h
    obtain ⟨h1, h2, h3⟩ := hc.2.1 p hp
    have hn : on true (min (max p.1 1) p.2) := by simp only [on, lim] at *; have := h2.2.2 trivial; have := h3.2.2 trivial; exact ⟨by omega, by omega, fun _ => by omega⟩
    rw [candF, has_t s _ hn, memb_iff]
    exact ⟨p, hp, by omega, by omega⟩
theorem cand_near {s : NS} (hc : CanS s) {v : Int} (h : hasB s v = true) : ∃ u ∈ cands s, v = u ∨ nearB u v = true := by
  have hv := has_vld h
  by_cases hw : v % 10000 = 0
  · have hon := on_w hv hw
    have e : v / 10000 * 10000 = v := by omega
    rw [← e, has_f s _ hon, memb_iff] at h
    obtain ⟨p, hp, h1, h2⟩ := h
    refine ⟨candI p, List.mem_append_left _ (List.mem_map.2 ⟨p, hp, rfl⟩), ?_⟩
    rw [nearB_iff, candI]
    obtain ⟨n, hn⟩ : ∃ n, n = v / 10000 := ⟨_, rfl⟩
    rw [← hn] at h1 h2 e
    clear hn hon hw hv
    subst e
    by_cases ha : 0 ≤ p.1
    · rw [show min (max p.1 0) p.2 = p.1 by omega]; omega
    · by_cases hb : p.2 ≤ 0
      · rw [show min (max p.1 0) p.2 = p.2 by omega]; omega
      · rw [show min (max p.1 0) p.2 = 0 by omega]; omega
  · have hon := on_t hv hw
    rw [has_t s _ hon, memb_iff] at h
    obtain ⟨p, hp, h1, h2⟩ := h
    refine ⟨candF p, List.mem_append_right _ (List.mem_map.2 ⟨p, hp, rfl⟩), ?_⟩
    obtain ⟨h3, h4, h5⟩ := hc.2.1 p hp
    rw [nearB_iff, candF]
    have := h4.2.2 rfl; have := h5.2.2 rfl
    by_cases ha : 1 ≤ p.1
    · rw [show min (max p.1 1) p.2 = p.1 by omega]; omega
    · by_cases hb : p.2 ≤ 1
      · rw [show min (max p.1 1) p.2 = p.2 by omega]; omega
      · rw [show min (max p.1 1) p.2 = 1 by omega]; omega
theorem least_spec (s : NS) : (leastO s = none ∧ ∀ u, hasB s u = false) ∨ ∃ l, leastO s = some l ∧ IsLeast s l := by
  have hc := can_mk s
  rcases lfold_none (cands (mk s)) with ⟨h1, h2⟩ | ⟨m, h1, h2, h3⟩
  · refine .inl ⟨h2, fun u => ?_⟩
    cases h : hasB s u
    · rfl
    · rw [← has_mk] at h
      obtain ⟨v, hv, _⟩ := cand_near hc h
      rw [h1] at hv; simp at hv
  · refine .inr ⟨m, h1, by rw [← has_mk]; exact cand_in hc h2, fun u hu => ?_⟩
    rw [← has_mk] at hu
    obtain ⟨v, hv, h4⟩ := cand_near hc hu
    rcases h3 v hv with rfl | h5
    · exact h4
    · rcases h4 with rfl | h4
      · exact .inr h5
      · exact .inr (near_trans h5 h4)
theorem isLeast_unique {s : NS} {l m : Int} (h1 : IsLeast s l) (h2 : IsLeast s m) : l = m := by
  rcases h1.2 m h2.1 with h | h
  · exact h.symm
  · rcases h2.2 l h1.1 with h' | h'
    · exact h'
    · rw [near_asym h] at h'; exact absurd h' (by simp)
def cmpS (a b : NS) : Int := match leastO (minus a b), leastO (minus b a) with
  | some u, some v => if nearB u v = true then -1 else 1
  | some _, none => -1
  | none, some _ => 1
  | none, none => 0
/-- a is less than b: at the nearest number that is in one of them, it is in a -/
def LT (a b : NS) : Prop := ∃ u, hasB a u = true ∧ hasB b u = false ∧ ∀ v, hasB a v ≠ hasB b v → v = u ∨ nearB u v = true
def EQ (a b : NS) : Prop := ∀ u, hasB a u = hasB b u
theorem cmp_spec (a b : NS) : (cmpS a b = -1 ∧ LT a b) ∨ (cmpS a b = 0 ∧ EQ a b) ∨ (cmpS a b = 1 ∧ LT b a) := by
  unfold cmpS
  have diff : ∀ v, hasB a v ≠ hasB b v → hasB (minus a b) v = true ∨ hasB (minus b a) v = true := by
    intro v; rw [has_minus, has_minus]; cases hasB a v <;> cases hasB b v <;> simp
  rcases least_spec (minus a b) with ⟨e1, h1⟩ | ⟨u, e1, h1⟩ <;> rcases least_spec (minus b a) with ⟨e2, h2⟩ | ⟨v, e2, h2⟩ <;> rw [e1, e2]
  · refine .inr (.inl ⟨rfl, fun u => ?_⟩)
    have a1 := h1 u; have a2 := h2 u
    rw [has_minus] at a1 a2
    cases ha : hasB a u <;> cases hb : hasB b u <;> simp_all
  · refine .inr (.inr ⟨rfl, v, ?_⟩)
    have hv := h2.1
    rw [has_minus] at hv
    refine ⟨by cases h : hasB b v <;> simp_all, by cases h : hasB a v <;> simp_all, fun x hx => ?_⟩
    rcases diff x hx.symm with h | h
    · rw [h1 x] at h; exact absurd h (by simp)
    · exact h2.2 x h
  · refine .inl ⟨rfl, u, ?_⟩
    have hv := h1.1
    rw [has_minus] at hv
    refine ⟨by cases h : hasB a u <;> simp_all, by cases h : hasB b u <;> simp_all, fun x hx => ?_⟩
    rcases diff x hx with h | h
    · exact h1.2 x h
    · rw [h2 x] at h; exact absurd h (by simp)
  · have hu := h1.1
    have hv := h2.1
    rw [has_minus] at hu hv
    have hne : u ≠ v := by rintro rfl; cases h : hasB a u <;> simp_all
    by_cases hn : nearB u v = true
    · refine .inl ⟨by simp [hn], u, by cases h : hasB a u <;> simp_all, by cases h : hasB b u <;> simp_all, fun x hx => ?_⟩
      rcases diff x hx with h | h
      · exact h1.2 x h
      · rcases h2.2 x h with rfl | h
        · exact .inr hn
        · exact .inr (near_trans hn h)
    · have hn' : nearB v u = true := (near_tot hne).resolve_left hn
      refine .inr (.inr ⟨by simp [hn], v, by cases h : hasB b v <;> simp_all, by cases h : hasB a v <;> simp_all, fun x hx => ?_⟩)
      rcases diff x hx.symm with h | h
      · rcases h1.2 x h with rfl | h
        · exact .inr hn'
        · exact .inr (near_trans hn' h)
      · exact h2.2 x h
theorem lt_irr {a b : NS} (h : LT a b) : ¬EQ a b := fun e => by obtain ⟨u, h1, h2, _⟩ := h; rw [e u, h2] at h1; exact absurd h1 (by simp)
theorem lt_asym {a b : NS} (h : LT a b) : ¬LT b a := by
  rintro ⟨v, h4, h5, h6⟩
  obtain ⟨u, h1, h2, h3⟩ := h
  rcases h3 v (by rw [h4, h5]; simp) with rfl | h
  · rw [h4] at h2; exact absurd h2 (by simp)
  · rcases h6 u (by rw [h1, h2]; simp) with rfl | h'
    · rw [near_irr] at h; exact absurd h (by simp)
    · rw [near_asym h] at h'; exact absurd h' (by simp)
theorem lt_trans {a b c : NS} (h : LT a b) (h' : LT b c) : LT a c := by
  obtain ⟨u, h1, h2, h3⟩ := h
  obtain ⟨v, h4, h5, h6⟩ := h'
  have hne : u ≠ v := by rintro rfl; rw [h4] at h2; exact absurd h2 (by simp)
  rcases near_tot hne with hn | hn
  · -- u is nearer: b and c agree there
    have hcu : hasB c u = false := by
      by_cases he : hasB b u = hasB c u
      · rw [← he, h2]
      · rcases h6 u he with rfl | h
        · exact absurd rfl hne
        · rw [near_asym hn] at h; exact absurd h (by simp)
    refine ⟨u, h1, hcu, fun x hx => ?_⟩
    by_cases he : hasB a x = hasB b x
    · have : hasB b x ≠ hasB c x := by rw [← he]; exact hx
      rcases h6 x this with rfl | h
      · exact .inr hn
      · exact .inr (near_trans hn h)
    · exact h3 x he
  · have hav : hasB a v = true := by
      by_cases he : hasB a v = hasB b v
      · rw [he, h4]
      · rcases h3 v he with rfl | h
        · exact absurd rfl hne
        · rw [near_asym hn] at h; exact absurd h (by simp)
    refine ⟨v, hav, h5, fun x hx => ?_⟩
    by_cases he : hasB b x = hasB c x
    · have : hasB a x ≠ hasB b x := by rw [he]; exact hx
      rcases h3 x this with rfl | h
      · exact .inr hn
      · exact .inr (near_trans hn h)
    · exact h6 x he
theorem lt_eq {a b c : NS} (h : LT a b) (e : EQ b c) : LT a c := by
  obtain ⟨u, h1, h2, h3⟩ := h
  exact ⟨u, h1, by rw [← e u]; exact h2, fun v hv => h3 v (by rw [e v]; exact hv)⟩
theorem eq_lt {a b c : NS} (e : EQ a b) (h : LT b c) : LT a c := by
  obtain ⟨u, h1, h2, h3⟩ := h
  exact ⟨u, by rw [e u]; exact h1, h2, fun v hv => h3 v (by rw [← e v]; exact hv)⟩
theorem cmp_lt {a b : NS} (h : LT a b) : cmpS a b = -1 := by
  rcases cmp_spec a b with ⟨e, _⟩ | ⟨e, h'⟩ | ⟨e, h'⟩
  · exact e
  · exact absurd h' (lt_irr h)
  · exact absurd h' (lt_asym h)
theorem cmp_eq {a b : NS} (h : EQ a b) : cmpS a b = 0 := by
  rcases cmp_spec a b with ⟨e, h'⟩ | ⟨e, h'⟩ | ⟨e, h'⟩
  · exact absurd h (lt_irr h')
  · exact e
  · exact absurd (fun u => (h u).symm) (lt_irr h')
theorem cmp_gt {a b : NS} (h : LT b a) : cmpS a b = 1 := by
  rcases cmp_spec a b with ⟨e, h'⟩ | ⟨e, h'⟩ | ⟨e, h'⟩
  · exact absurd h' (lt_asym h)
  · exact absurd (fun u => (h' u).symm) (lt_irr h)
  · exact e
theorem cmp_neg (a b : NS) : cmpS b a = -cmpS a b := by
  rcases cmp_spec a b with ⟨e, h⟩ | ⟨e, h⟩ | ⟨e, h⟩
  · rw [e, cmp_gt h]; rfl
  · rw [e, cmp_eq fun u => (h u).symm]; rfl
  · rw [e, cmp_lt h]
theorem cmp_self (a : NS) : cmpS a a = 0 := cmp_eq fun _ => rfl
theorem cmp_bd (a b : NS) : -1 ≤ cmpS a b ∧ cmpS a b ≤ 1 := by
  rcases cmp_spec a b with ⟨e, h⟩ | ⟨e, h⟩ | ⟨e, h⟩ <;> rw [e] <;> decide
theorem cmp_zero (a b : NS) : cmpS a b = 0 ↔ mk a = mk b := by
  rw [ns_eq_iff (can_mk a) (can_mk b)]
  rcases cmp_spec a b with ⟨e, h⟩ | ⟨e, h⟩ | ⟨e, h⟩
  · rw [e]; exact ⟨fun h => by simp at h, fun h' => absurd (fun u => by have := h' u; rwa [has_mk, has_mk] at this) (lt_irr h)⟩
  · rw [e]; exact ⟨fun _ u => by rw [has_mk, has_mk]; exact h u, fun _ => rfl⟩
  · rw [e]; exact ⟨fun h => by simp at h, fun h' => absurd (fun u => by have := h' u; rw [has_mk, has_mk] at this; exact this.symm) (lt_irr h)⟩
theorem cmp_tr (a b c : NS) (h1 : cmpS a b ≤ 0) (h2 : cmpS b c ≤ 0) : cmpS a c ≤ 0 ∧ (cmpS a c = 0 → ¬(cmpS a b < 0 ∨ cmpS b c < 0)) := by
  rcases cmp_spec a b with ⟨e, h⟩ | ⟨e, h⟩ | ⟨e, h⟩ <;> rcases cmp_spec b c with ⟨e', h'⟩ | ⟨e', h'⟩ | ⟨e', h'⟩
  · rw [cmp_lt (lt_trans h h')]; exact ⟨by decide, fun h => absurd h (by decide)⟩
  · rw [cmp_lt (lt_eq h h')]; exact ⟨by decide, fun h => absurd h (by decide)⟩
  · rw [e'] at h2; exact absurd h2 (by decide)
  · rw [cmp_lt (eq_lt h h')]; exact ⟨by decide, fun h => absurd h (by decide)⟩
  · rw [cmp_eq fun u => (h u).trans (h' u), e, e']; exact ⟨by decide, fun _ => by decide⟩
  · rw [e'] at h2; exact absurd h2 (by decide)
  · rw [e] at h1; exact absurd h1 (by decide)
  · rw [e] at h1; exact absurd h1 (by decide)
  · rw [e] at h1; exact absurd h1 (by decide)
theorem cmp_sup (a b : NS) : cmpS a (orr a b) = 1 ↔ subB b a = false := by
  rw [← Bool.not_eq_true, sub_iff]
  rcases cmp_spec a (orr a b) with ⟨e, u, h1, h2, _⟩ | ⟨e, h⟩ | ⟨e, u, h1, h2, _⟩
  · rw [has_or, h1] at h2; exact absurd h2 (by simp)
  · rw [e]
    refine ⟨fun h => absurd h (by decide), fun h' => absurd (fun u hu => ?_) h'⟩
    have := h u; rw [has_or, hu] at this; simpa using this
  · rw [e]
    refine ⟨fun _ h' => ?_, fun _ => rfl⟩
    rw [has_or, h2, Bool.false_or] at h1
    rw [h' u h1] at h2; exact absurd h2 (by simp)
end Go.Proofs.Yteekccjfokoglaa
