/-
  PLAIN: the order of sources, requirements and releases does not matter.
-/
import Derived.Test.YthlcdimofagmfaaGreatDoorLNP
namespace Go.Proofs.YthlcdimofagmfaaGreatDoor
open Go.RowKit Go.Sort Go.Lib Go.Shelf Go.Proofs
set_option linter.unusedSimpArgs false
set_option linter.unusedVariables false
theorem chk_perm {x : Md} {l l' : List Md} (h : l.Perm l') : chkM x l = chkM x l' := by
  rw [chkM_def, chkM_def]
  have h1 : (x :: l).any p1 = (x :: l').any p1 := (h.cons x).any_eq
  have h2 : (x :: l).any p2 = (x :: l').any p2 := (h.cons x).any_eq
  have h3 : twiceB (x :: l) = twiceB (x :: l') := by
    unfold twiceB
    rw [decide_eq_decide.2 ((h.cons x).map _).nodup_iff]
  rw [h1, h2, h3, h.length_eq]
theorem text_perm {x : Md} {l l' : List Md} (h : l.Perm l') : textB x l = textB x l' := by
  unfold textB
  rw [chk_perm h, sortM_turn h]
theorem rel_perm {x : Md} {l l' : List Md} {S S' : List Src} (h : l.Perm l') (hS : S.Perm S') : relOut x l S = relOut x l' S' := by
  by_cases h1 : chkM x l = 0
  · by_cases h2 : dupN S = true
    · rw [relOut_dup h1 (List.Perm.refl _) h2, relOut_dup (by rw [← chk_perm h]; exact h1) hS h2]
    · have hn : (S.map (·.1)).Nodup := by unfold dupN at h2; simpa using h2
      have hn2 : ((sortN S).map (·.1)).Nodup := ((sortN_perm S).map _).nodup_iff.2 hn
      rw [relOut_ok h1 (sortN_perm S) (sortN_sorted S) hn2, relOut_ok (x := x) (l := l') (S := S') (D := sortN S) (by rw [← chk_perm h]; exact h1) ((sortN_perm S).trans hS) (sortN_sorted S) hn2, text_perm h]
  · rw [relOut_chk h1, relOut_chk (by rw [← chk_perm h]; exact h1), chk_perm h]
def revR (r : Rl) : Rl := (r.1, r.2.1.reverse, r.2.2.reverse)
theorem rel_rev (r : Rl) : relOut (revR r).1 (revR r).2.1 (revR r).2.2 = relOut r.1 r.2.1 r.2.2 := rel_perm (List.reverse_perm _) (List.reverse_perm _)
theorem tx_rev (r : Rl) : tx (revR r) = tx r := by unfold tx; rw [rel_rev]
theorem er_rev (r : Rl) : er (revR r) = er r := by unfold er; rw [rel_rev]
/-- all releases, each reversed, in the opposite order -/
def backR (rs : List Rl) : List Rl := (rs.map revR).reverse
theorem mem_back {rs : List Rl} {q : Rl} : q ∈ backR rs ↔ ∃ r ∈ rs, revR r = q := by unfold backR; simp
theorem back_mods (rs : List Rl) : ((backR rs).map (·.1)).Perm (rs.map (·.1)) := by
  unfold backR
  rw [List.map_reverse, List.map_map]
  exact List.reverse_perm _
theorem look_back {rs : List Rl} (hd : (rs.map (·.1)).Nodup) {m : Md} (hm : m ∈ rs.map (·.1)) : lookT (backR rs) m = lookT rs m := by
  obtain ⟨r, hr, rfl⟩ := List.mem_map.1 hm
  rw [look_of hd r hr]
  have := look_of (rs := backR rs) ((back_mods rs).nodup_iff.2 hd) (revR r) (mem_back.2 ⟨r, hr, rfl⟩)
  rw [tx_rev] at this
  exact this
theorem out_back (rs : List Rl) : (listOut (backR rs)).1 = (listOut rs).1 ∧ ((listOut (backR rs)).2 = 0 ↔ (listOut rs).2 = 0) := by
  by_cases h0 : ∀ r ∈ rs, er r = 0
  · have hb0 : ∀ q ∈ backR rs, er q = 0 := fun q hq => by
      obtain ⟨r, hr, rfl⟩ := mem_back.1 hq
      rw [er_rev]; exact h0 r hr
    by_cases hd : (rs.map (·.1)).Nodup
    · rw [out_ok h0 hd, out_ok hb0 ((back_mods rs).nodup_iff.2 hd), sortM_turn (back_mods rs)]
      refine ⟨?_, Iff.rfl⟩
      simp only
      refine List.map_congr_left (fun m hm => ?_)
      have hm' : m ∈ rs.map (·.1) := (sortM_perm _).mem_iff.1 hm
      unfold lineM
      rw [look_back hd hm']
    · rw [out_dup h0 hd, out_dup hb0 (fun h => hd ((back_mods rs).nodup_iff.1 h))]
      exact ⟨rfl, Iff.rfl⟩
  · have h1 : (listOut rs).2 ≠ 0 := fun h => h0 (out_inv h).1
    have h2 : (listOut (backR rs)).2 ≠ 0 := fun h => h0 (fun r hr => by
      have := (out_inv h).1 (revR r) (mem_back.2 ⟨r, hr, rfl⟩)
      rw [er_rev] at this; exact this)
    exact ⟨by rw [out_fail h1, out_fail h2], ⟨fun h => absurd h h2, fun h => absurd h h1⟩⟩
theorem back_next {rs : List Rl} {m : Nat} (h : m < rs.length) : backR (rs.drop m) = backR (rs.drop (m + 1)) ++ [revR rs[m]] := by
  unfold backR
  rw [List.drop_eq_getElem_cons h, List.map_cons, List.reverse_cons]
end Go.Proofs.YthlcdimofagmfaaGreatDoor
