/-
  PLAIN: the place of a module's line in the list.
-/
import Derived.Test.YthlcdimofagmfaaGreatDoorLG
namespace Go.Proofs.YthlcdimofagmfaaGreatDoor
open Go.RowKit Go.Sort Go.Lib Go.Shelf Go.Proofs
set_option linter.unusedSimpArgs false
set_option linter.unusedVariables false
theorem out_inv {rs : List Rl} (h : (listOut rs).2 = 0) : (∀ r ∈ rs, er r = 0) ∧ (rs.map (·.1)).Nodup ∧ listOut rs = ((sortM (rs.map (·.1))).map (lineM rs), 0) := by
  have h0 : ∀ r ∈ rs, er r = 0 := by
    unfold listOut at h
    cases hf : rs.find? (fun r => decide (er r ≠ 0)) with
    | none => exact fun r hr => by have := List.find?_eq_none.1 hf r hr; simpa using this
    | some q =>
      rw [hf] at h
      have := List.find?_some hf
      simp at this h
      exact absurd h this
  have hd : (rs.map (·.1)).Nodup := by
    refine Classical.byContradiction fun hd => ?_
    rw [out_dup h0 hd] at h; cases h
  exact ⟨h0, hd, out_ok h0 hd⟩
theorem out_fail {rs : List Rl} (h : (listOut rs).2 ≠ 0) : (listOut rs).1 = [] := by
  unfold listOut at h ⊢
  cases hf : rs.find? (fun r => decide (er r ≠ 0)) with
  | some q => rfl
  | none =>
    rw [hf] at h
    simp only at h ⊢
    by_cases hd : (rs.map (·.1)).Nodup
    · rw [if_pos hd] at h; exact absurd rfl h
    · rw [if_neg hd]
theorem look_of {rs : List Rl} (hd : (rs.map (·.1)).Nodup) : ∀ r ∈ rs, lookT rs r.1 = tx r := by
  induction rs with
  | nil => intro r h; cases h
  | cons q t ih =>
    intro r hr
    rw [List.map_cons, List.nodup_cons] at hd
    unfold lookT
    by_cases hq : r.1 = q.1
    · rw [List.find?_cons_of_pos (by simpa using hq)]
      rcases List.mem_cons.1 hr with rfl | hr
      · rfl
      · exact absurd (List.mem_map.2 ⟨r, hr, hq⟩) hd.1
    · rw [List.find?_cons_of_neg (by simpa using hq)]
      rcases List.mem_cons.1 hr with rfl | hr
      · exact absurd rfl hq
      · exact ih hd.2 r hr
theorem out_one {r : Rl} (h : er r = 0) : listOut [r] = ([lineM [r] r.1], 0) := by
  rw [out_ok (by simpa using h) (by simp)]
  have e : sortM (([r] : List Rl).map (·.1)) = [r.1] := sortM_turn (List.Perm.refl _) |>.symm.trans (by unfold sortM; rfl)
  rw [e]; rfl
theorem line_one {rs : List Rl} (hd : (rs.map (·.1)).Nodup) {r : Rl} (hr : r ∈ rs) : lineM [r] r.1 = lineM rs r.1 := by
  unfold lineM
  rw [look_of hd r hr, look_of (rs := [r]) (by simp) r (by simp)]
/-- how many are before -/
def cntM (l : List Md) (m : Md) : Nat := l.countP fun q => decide (cmpM q m < 0)
theorem cnt_at {D : List Md} (hs : D.Pairwise LeM) (hn : D.Nodup) (j : Nat) (hj : j < D.length) : cntM D D[j] = j := by
  unfold cntM
  have e : D = D.take j ++ D[j] :: D.drop (j + 1) := by rw [← List.drop_eq_getElem_cons hj, List.take_append_drop]
  have h1 : (D.take j).countP (fun q => decide (cmpM q D[j] < 0)) = (D.take j).length := by
    rw [List.countP_eq_length]
    intro q hq
    obtain ⟨i, hi, rfl⟩ := List.getElem_of_mem hq
    rw [List.length_take] at hi
    rw [List.getElem_take]
    have hle : cmpM D[i] D[j] ≤ 0 := List.pairwise_iff_getElem.1 hs i j (by omega) hj (by omega)
    have hne : cmpM D[i] D[j] ≠ 0 := fun h0 => List.pairwise_iff_getElem.1 hn i j (by omega) hj (by omega) (cmpM_ok.eq _ _ h0)
    exact decide_eq_true (by omega)
  have h2 : (D.drop (j + 1)).countP (fun q => decide (cmpM q D[j] < 0)) = 0 := by
    rw [List.countP_eq_zero]
    intro q hq
    obtain ⟨i, hi, rfl⟩ := List.getElem_of_mem hq
    rw [List.length_drop] at hi
    rw [List.getElem_drop]
    have hle : cmpM D[j] D[j + 1 + i] ≤ 0 := List.pairwise_iff_getElem.1 hs j (j + 1 + i) hj (by omega) (by omega)
    have := cmpM_ok.anti D[j] D[j + 1 + i]
    simp; omega
  have h3 : cmpM D[j] D[j] = 0 := cmpM_ok.self _
  have e2 : D.countP (fun q => decide (cmpM q D[j] < 0)) = (D.take j ++ D[j] :: D.drop (j + 1)).countP (fun q => decide (cmpM q D[j] < 0)) := by rw [← e]
  rw [e2, List.countP_append, List.countP_cons, h1, h2, List.length_take]
  simp [h3]; omega
theorem cnt_sort {ms : List Md} (hn : ms.Nodup) {m : Md} (hm : m ∈ ms) : ∃ h : cntM ms m < (sortM ms).length, (sortM ms)[cntM ms m] = m := by
  have hp := sortM_perm ms
  have hc : cntM ms m = cntM (sortM ms) m := (hp.countP_eq _).symm
  obtain ⟨j, hj, rfl⟩ := List.getElem_of_mem (hp.mem_iff.2 hm)
  have := cnt_at (sortM_sorted ms) (hp.nodup_iff.2 hn) j hj
  rw [hc]
  exact ⟨by rw [this]; exact hj, by simp only [this]⟩
theorem cnt_take {l : List Md} {m : Md} {k : Nat} (h : k < l.length) : cntM (l.take (k + 1)) m = cntM (l.take k) m + if cmpM l[k] m < 0 then 1 else 0 := by
  unfold cntM
  rw [← List.take_append_getElem h, List.countP_append]
  simp [List.countP_cons]
theorem cnt_le (l : List Md) (m : Md) (k : Nat) : cntM (l.take k) m ≤ k := by
  unfold cntM
  refine Nat.le_trans List.countP_le_length ?_
  rw [List.length_take]; omega
end Go.Proofs.YthlcdimofagmfaaGreatDoor
namespace Go.Proofs.YthlcdimofagmfaaGreatDoor
open Go.RowKit Go.Sort Go.Lib Go.Shelf Go.Proofs
set_option linter.unusedSimpArgs false
set_option linter.unusedVariables false
/-- the lines of all releases of one module -/
def linesOf (rs : List Rl) (m : Md) : List ByteArray := (rs.filter fun r => decide (r.1 = m)).map fun r => nmM m ++ (⟨#[32]⟩ : ByteArray) ++ tx r
def linesTo (rs : List Rl) (D : List Md) : List ByteArray := D.flatMap (linesOf rs)
theorem linesTo_next {rs : List Rl} {D : List Md} {i : Nat} (h : i < D.length) : linesTo rs (D.take (i + 1)) = linesTo rs (D.take i) ++ linesOf rs D[i] := by
  unfold linesTo
  rw [← List.take_append_getElem h, List.flatMap_append]; simp
theorem linesOf_yes {rs : List Rl} {m : Md} {j : Nat} (h : j < rs.length) (e : rs[j].1 = m) : linesOf (rs.take (j + 1)) m = linesOf (rs.take j) m ++ [nmM m ++ (⟨#[32]⟩ : ByteArray) ++ tx rs[j]] := by
  unfold linesOf
  rw [← List.take_append_getElem h, List.filter_append, List.map_append]
  simp [e]
theorem linesOf_no {rs : List Rl} {m : Md} {j : Nat} (h : j < rs.length) (e : rs[j].1 ≠ m) : linesOf (rs.take (j + 1)) m = linesOf (rs.take j) m := by
  unfold linesOf
  rw [← List.take_append_getElem h, List.filter_append]
  simp [e]
theorem linesOf_len (rs : List Rl) (m : Md) : (linesOf rs m).length ≤ rs.length := by
  unfold linesOf
  rw [List.length_map]; exact List.length_filter_le _ _
theorem linesTo_len (rs : List Rl) (D : List Md) : (linesTo rs D).length ≤ D.length * rs.length := by
  induction D with
  | nil => simp [linesTo]
  | cons m t ih =>
    unfold linesTo at *
    rw [List.flatMap_cons, List.length_append, List.length_cons]
    have := linesOf_len rs m
    rw [Nat.add_mul]; omega
def noAdjM (D : List Md) (k : Nat) : Prop := ∀ i (h : i + 1 < D.length), i + 1 < k → D[i] ≠ D[i + 1]
theorem noAdjM_next {D : List Md} {k : Nat} (h : noAdjM D k) (hk : ∀ i (h : i + 1 = k) (h' : k < D.length), D[i]'(by omega) ≠ D[k]) : noAdjM D (k + 1) := fun i h1 h2 => by
  rcases Nat.lt_succ_iff_lt_or_eq.1 h2 with h3 | h3
  · exact h i h1 h3
  · subst h3; exact hk i rfl h1
theorem nodup_adjM {D : List Md} (hs : D.Pairwise LeM) (h : noAdjM D D.length) : D.Nodup := by
  refine List.pairwise_iff_getElem.2 (fun i j hi hj hij => ?_)
  intro e
  have h1 : cmpM D[i] (D[i + 1]'(by omega)) ≤ 0 := List.pairwise_iff_getElem.1 hs i (i + 1) hi (by omega) (by omega)
  have h2 : cmpM (D[i + 1]'(by omega)) D[j] ≤ 0 := by
    rcases Nat.lt_or_eq_of_le (show i + 1 ≤ j by omega) with h | h
    · exact List.pairwise_iff_getElem.1 hs (i + 1) j (by omega) hj h
    · subst h; rw [cmpM_ok.self]; omega
  have h3 : cmpM D[i] D[j] = 0 := by rw [e]; exact cmpM_ok.self _
  exact h i (by omega) (by omega) (cmpM_ok.eq _ _ (cmpM_ok.strict h1 h2 h3).1)
theorem dup_adjM {D : List Md} {i : Nat} (h : i + 1 < D.length) (e : D[i] = D[i + 1]) : ¬ D.Nodup := fun hn =>
  List.pairwise_iff_getElem.1 hn i (i + 1) (by omega) h (by omega) e
theorem linesOf_one {rs : List Rl} (hd : (rs.map (·.1)).Nodup) {m : Md} (hm : m ∈ rs.map (·.1)) : linesOf rs m = [lineM rs m] := by
  unfold linesOf lineM lookT
  induction rs with
  | nil => simp at hm
  | cons r t ih =>
    rw [List.map_cons, List.nodup_cons] at hd
    by_cases h : r.1 = m
    · subst h
      have ht : t.filter (fun q => decide (q.1 = r.1)) = [] := by
        rw [List.filter_eq_nil_iff]
        intro q hq
        simp only [decide_eq_true_eq]
        intro e
        exact hd.1 (List.mem_map.2 ⟨q, hq, e⟩)
      rw [List.filter_cons_of_pos (by simp), ht, List.find?_cons_of_pos (by simp)]
      rfl
    · rw [List.filter_cons_of_neg (by simpa using h), List.find?_cons_of_neg (by simpa using fun e => h e.symm)]
      rw [List.map_cons] at hm
      exact ih hd.2 (by
        rcases List.mem_cons.1 hm with e | e
        · exact absurd e.symm h
        · exact e)
theorem linesTo_all {rs : List Rl} (hd : (rs.map (·.1)).Nodup) {D : List Md} (h : ∀ m ∈ D, m ∈ rs.map (·.1)) : linesTo rs D = D.map (lineM rs) := by
  unfold linesTo
  induction D with
  | nil => rfl
  | cons m t ih =>
    rw [List.flatMap_cons, List.map_cons, linesOf_one hd (h m (by simp)), ih (fun q hq => h q (by simp [hq]))]
    rfl
end Go.Proofs.YthlcdimofagmfaaGreatDoor
