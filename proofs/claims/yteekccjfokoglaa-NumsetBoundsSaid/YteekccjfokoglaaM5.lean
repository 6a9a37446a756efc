/-
  Mathematics of numset: the number of elements. No condition.
-/
import Derived.Test.YteekccjfokoglaaM3
import Derived.Test.YteekccjfokoglaaM4
namespace Go.Proofs.Yteekccjfokoglaa
set_option linter.unusedSimpArgs false
set_option linter.unnecessarySimpa false
set_option linter.unusedVariables false
def wgt (b : Bool) (s : Sp) : Int := s.2 - s.1 + 1 - (if b = true then s.2 / 10000 - s.1 / 10000 else 0)
def wsum (b : Bool) : List Sp → Int
  | [] => 0
  | s :: l => wgt b s + wsum b l
theorem wsum_append (b : Bool) (l m : List Sp) : wsum b (l ++ m) = wsum b l + wsum b m := by
  induction l with
  | nil => simp [wsum]
  | cons s l ih => simp only [List.cons_append, wsum, ih]; omega
theorem wgt_bd {b : Bool} {s : Sp} (h : ok b s) : 1 ≤ wgt b s ∧ wgt b s ≤ 2000000000000001 := by
  have := ok_bd h
  have := h.1
  unfold wgt
  cases b
  · simp; omega
  · simp only [if_true]; omega
theorem wsum_bd {b : Bool} {l : List Sp} (h : Can b l) : ∀ k, k ≤ l.length → (k : Int) ≤ wsum b (l.take k) ∧ wsum b (l.take k) ≤ k * 2000000000000001 := by
  intro k hk
  induction k with
  | zero => simp [wsum]
  | succ k ih =>
    have := ih (by omega)
    rw [← List.take_append_getElem (show k < l.length by omega), wsum_append]
    have h2 := wgt_bd (h.1 l[k] (List.getElem_mem (by omega)))
    simp only [wsum]
    refine ⟨?_, ?_⟩
    · omega
    · have : ((k + 1 : Nat) : Int) * 2000000000000001 = (k : Int) * 2000000000000001 + 2000000000000001 := by omega
      omega
def countS (s : NS) : Int := wsum false (mk s).1 + wsum true (mk s).2
/-- how many of the k numbers from -lim on are on the axis and meet p -/
def card (b : Bool) (p : Int → Bool) : Nat → Int
  | 0 => 0
  | k + 1 => card b p k + ((decide (on b (-lim b + k)) && p (-lim b + k)).toNat : Int)
theorem card_congr (b : Bool) (p q : Int → Bool) (h : ∀ n, on b n → p n = q n) (k : Nat) : card b p k = card b q k := by
  induction k with
  | zero => rfl
  | succ k ih =>
    simp only [card, ih]
    by_cases hn : on b (-lim b + k)
    · rw [h _ hn]
    · simp [hn]
theorem card_or (b : Bool) (p q : Int → Bool) (k : Nat) : card b p k + card b q k = card b (fun n => p n || q n) k + card b (fun n => p n && q n) k := by
  induction k with
  | zero => rfl
  | succ k ih =>
    simp only [card]
    generalize decide (on b (-lim b + k)) = r
    generalize p (-lim b + k) = x
    generalize q (-lim b + k) = y
    cases r <;> cases x <;> cases y <;> simp <;> omega
theorem card_none (b : Bool) (p : Int → Bool) (h : ∀ n, on b n → p n = false) (k : Nat) : card b p k = 0 := by
  induction k with
  | zero => rfl
  | succ k ih =>
    simp only [card, ih]
    by_cases hn : on b (-lim b + k)
    · rw [h _ hn]; simp
    · simp [hn]
def gG (b : Bool) (n : Int) : Int := if b = true then n - n / 10000 else n
theorem gG_step (b : Bool) (n : Int) (h1 : -lim b ≤ n) (h2 : n ≤ lim b) : gG b n = gG b (n - 1) + ((decide (on b n)).toNat : Int) := by
  cases b
  · rw [decide_eq_true (p := on false n) ⟨h1, h2, fun h => by cases h⟩]; simp only [gG]; simp
  · simp only [gG, if_true]
    by_cases hz : n % 10000 = 0
    · rw [decide_eq_false (p := on true n) (fun hh => hh.2.2 rfl hz)]; simp; omega
    · rw [decide_eq_true (p := on true n) ⟨h1, h2, fun _ => hz⟩]; simp; omega
theorem gG_on (b : Bool) (n : Int) (h : on b n) : gG b n = gG b (n - 1) + 1 := by
  have := gG_step b n h.1 h.2.1
  rw [decide_eq_true h] at this; simpa using this
theorem card_span (b : Bool) (s : Sp) (h : ok b s) (k : Nat) (hk : -lim b + k ≤ lim b + 1) :
    (-lim b + k ≤ s.1 → card b (fun n => decide (s.1 ≤ n) && decide (n ≤ s.2)) k = 0) ∧ (s.1 < -lim b + k → card b (fun n => decide (s.1 ≤ n) && decide (n ≤ s.2)) k = gG b (min (-lim b + k - 1) s.2) - gG b (s.1 - 1)) := by
  induction k with
  | zero =>
    have := h.2.1.1
    exact ⟨fun _ => rfl, fun hh => by simp at hh; omega⟩
  | succ k ih =>
    obtain ⟨ih1, ih2⟩ := ih (by omega)
    have hle := h.1
    simp only [card]
    by_cases h1 : -lim b + (k : Int) ≤ s.1
    · rw [ih1 h1]
      by_cases h2 : -lim b + (k : Int) = s.1
      · refine ⟨fun hh => by omega, fun _ => ?_⟩
        have hg := gG_on b s.1 h.2.1
        rw [h2, decide_eq_true h.2.1, show min (-lim b + ((k + 1 : Nat) : Int) - 1) s.2 = s.1 by omega]
        simp [hle]; omega
      · refine ⟨fun _ => ?_, fun hh => by omega⟩
        have : ¬s.1 ≤ -lim b + (k : Int) := by omega
        simp [this]
    · rw [ih2 (by omega)]
      refine ⟨fun hh => by omega, fun _ => ?_⟩
      have h3 : s.1 ≤ -lim b + (k : Int) := by omega
      by_cases h2 : -lim b + (k : Int) ≤ s.2
      · rw [show min (-lim b + (k : Int) - 1) s.2 = -lim b + (k : Int) - 1 by omega, show min (-lim b + ((k + 1 : Nat) : Int) - 1) s.2 = -lim b + (k : Int) by omega]
        have hg := gG_step b (-lim b + k) (by omega) (by omega)
        rw [decide_eq_true h3, decide_eq_true h2, Bool.and_self, Bool.and_true]
        omega
      · rw [show min (-lim b + (k : Int) - 1) s.2 = s.2 by omega, show min (-lim b + ((k + 1 : Nat) : Int) - 1) s.2 = s.2 by omega, decide_eq_false h2]
        simp
def full (b : Bool) : Nat := (2 * lim b + 1).toNat
theorem full_eq (b : Bool) : (full b : Int) = 2 * lim b + 1 := by cases b <;> simp [full, lim]
theorem wgt_card (b : Bool) (s : Sp) (h : ok b s) : wgt b s = card b (fun n => decide (s.1 ≤ n) && decide (n ≤ s.2)) (full b) := by
  have hf := full_eq b
  have h1 := h.1; have h2 := h.2.1.2.1; have h3 := h.2.2.2.1
  have hg := gG_on b s.1 h.2.1
  rw [(card_span b s h _ (by omega)).2 (by omega), show min (-lim b + (full b : Int) - 1) s.2 = s.2 by omega]
  unfold wgt
  cases b
  · simp only [gG] at *; simp at *; omega
  · simp only [gG, if_true] at *; omega
theorem wsum_card (b : Bool) : ∀ (l : List Sp), Can b l → wsum b l = card b (memb l) (full b)
  | [], _ => by rw [card_none b (memb []) (fun n _ => rfl)]; rfl
  | s :: l, h => by
    have hp := List.pairwise_cons.1 h.2
    have hs := h.1 s (List.mem_cons_self ..)
    have hl : Can b l := ⟨fun t ht => h.1 t (List.mem_cons_of_mem _ ht), hp.2⟩
    rw [wsum, wgt_card b s hs, wsum_card b l hl, card_or]
    rw [card_none b (fun n => (decide (s.1 ≤ n) && decide (n ≤ s.2)) && memb l n)]
    · rw [Int.add_zero]
      exact card_congr b _ _ (fun n _ => by simp [memb]) _
    · intro n _
      cases hm : memb l n
      · simp
      · obtain ⟨t, ht, h1, h2⟩ := (memb_iff l n).1 hm
        obtain ⟨k, _, h3, h4⟩ := hp.1 t ht
        have : ¬n ≤ s.2 := by omega
        simp [this]
theorem mem_part (s : NS) : (∀ n, on false n → memb (mk s).1 n = hasB s (n * 10000)) ∧ ∀ n, on true n → memb (mk s).2 n = hasB s n :=
  ⟨fun n hn => by rw [← has_f _ n hn, has_mk], fun n hn => by rw [← has_t _ n hn, has_mk]⟩
theorem count_card (s : NS) : countS s = card false (fun n => hasB s (n * 10000)) (full false) + card true (fun n => hasB s n) (full true) := by
  unfold countS
  rw [wsum_card _ _ (can_mk s).1, wsum_card _ _ (can_mk s).2, card_congr false _ _ (mem_part s).1, card_congr true _ _ (mem_part s).2]
theorem count_or (a b : NS) : countS a + countS b = countS (orr a b) + countS (andd a b) := by
  rw [count_card a, count_card b, count_card (orr a b), count_card (andd a b)]
  generalize full false = K0
  generalize full true = K1
  have h1 := card_or false (fun n => hasB a (n * 10000)) (fun n => hasB b (n * 10000)) K0
  have h2 := card_or true (fun n => hasB a n) (fun n => hasB b n) K1
  have e1 : card false (fun n => hasB (orr a b) (n * 10000)) K0 = card false (fun n => hasB a (n * 10000) || hasB b (n * 10000)) K0 := card_congr _ _ _ (fun n _ => has_or ..) _
  have e2 : card false (fun n => hasB (andd a b) (n * 10000)) K0 = card false (fun n => hasB a (n * 10000) && hasB b (n * 10000)) K0 := card_congr _ _ _ (fun n _ => has_and ..) _
  have e3 : card true (fun n => hasB (orr a b) n) K1 = card true (fun n => hasB a n || hasB b n) K1 := card_congr _ _ _ (fun n _ => has_or ..) _
  have e4 : card true (fun n => hasB (andd a b) n) K1 = card true (fun n => hasB a n && hasB b n) K1 := card_congr _ _ _ (fun n _ => has_and ..) _
  omega
theorem count_nt (a : NS) : countS a + countS (nt a) = countS (nt ([], [])) := by
  have h := count_or a (nt a)
  have e1 : mk (orr a (nt a)) = mk (nt ([], [])) := by
    refine ns_ext (can_mk _) (can_mk _) fun u => ?_
    rw [has_mk, has_mk, has_or, has_nt, has_nt]
    have h1 := @has_vld a u
    have h0 : hasB ([], []) u = false := by unfold hasB; simp [memb]
    rw [h0]
    cases hv : vld u <;> cases ha : hasB a u <;> simp_all
  have e2 : countS (andd a (nt a)) = 0 := by
    rw [count_card, card_none, card_none]
    · rfl
    · intro n _; rw [has_and, has_nt]; cases hasB a n <;> simp
    · intro n _; rw [has_and, has_nt]; cases hasB a (n * 10000) <;> simp
  have e3 : countS (orr a (nt a)) = countS (nt ([], [])) := by unfold countS; rw [e1]
  omega
theorem count_pos (s : NS) : 0 ≤ countS s ∧ (countS s = 0 ↔ ∀ u, hasB s u = false) := by
  have hc := can_mk s
  have h1 := wsum_bd hc.1 _ (Nat.le_refl _)
  have h2 := wsum_bd hc.2 _ (Nat.le_refl _)
  rw [List.take_length] at h1 h2
  refine ⟨by unfold countS; omega, ?_⟩
  constructor
  · intro h u
    unfold countS at h
    have l1 : (mk s).1 = [] := List.length_eq_zero_iff.1 (by omega)
    have l2 : (mk s).2 = [] := List.length_eq_zero_iff.1 (by omega)
    rw [← has_mk]
    have : mk s = ([], []) := Prod.ext l1 l2
    rw [this]; unfold hasB; simp [memb]
  · intro h
    rw [count_card, card_none _ _ (fun n _ => h _), card_none _ _ (fun n _ => h _)]; rfl
end Go.Proofs.Yteekccjfokoglaa
