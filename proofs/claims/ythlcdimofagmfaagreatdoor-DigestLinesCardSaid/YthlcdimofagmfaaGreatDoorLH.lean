/-
  PLAIN: lists of releases, how they lie, and what List makes of them.
-/
import Derived.Test.YthlcdimofagmfaaGreatDoorMA
import Derived.Test.YthlcdimofagmfaaGreatDoorNA
namespace Go.Proofs.YthlcdimofagmfaaGreatDoor
open Go.RowKit Go.Sort Go.Lib Go.Shelf Go.Proofs
open Dg (txtH hsum txtL txtL_len hsum_lt)
set_option linter.unusedSimpArgs false
set_option linter.unusedVariables false
/-- a release: module, requirements, sources -/
abbrev Rl := Md × List Md × List Src
def tx (r : Rl) : ByteArray := (relOut r.1 r.2.1 r.2.2).1
def er (r : Rl) : Int := (relOut r.1 r.2.1 r.2.2).2
def okRl (r : Rl) : Prop := r.2.1.length ≤ 20 ∧ r.2.2.length ≤ 8 ∧ ∀ y ∈ r.2.2, y.1.size ≤ 200 ∧ y.2.size ≤ 1000
theorem er_ok {r : Rl} (h : er r = 0) : chkM r.1 r.2.1 = 0 ∧ (tx r).size = 18 := by
  unfold er tx relOut at *
  by_cases h1 : chkM r.1 r.2.1 ≠ 0
  · rw [if_pos h1] at h; exact absurd h h1
  · rw [if_neg h1] at h ⊢
    by_cases h2 : dupN r.2.2 = true
    · rw [if_pos h2] at h; cases h
    · rw [if_neg h2]
      refine ⟨by omega, ?_⟩
      show (txtL _ 16).toArray.size = 18
      rw [List.size_toArray, txtL_len]
/-- a release in six cells -/
structure RlAt (w : World) (B b o : Nat) (r : Rl) (A A2 : Option Addr) (c c2 : Nat) : Prop where
  k0 : w.cell? ⟨b, o, none⟩ = some (.string r.1.1)
  k1 : w.cell? ⟨b, o + 1, none⟩ = some (.int .i64 r.1.2.1)
  k2 : w.cell? ⟨b, o + 2, none⟩ = some (.int .i64 r.1.2.2.1)
  k3 : w.cell? ⟨b, o + 3, none⟩ = some (.int .i64 r.1.2.2.2)
  k4 : w.cell? ⟨b, o + 4, none⟩ = some (.slice A r.2.1.length c)
  k5 : w.cell? ⟨b, o + 5, none⟩ = some (.slice A2 r.2.2.length c2)
  rm : RM w B A r.2.1
  pm : Plane A c
  rn : RN w B A2 r.2.2
  pn : Plane A2 c2
theorem RM.leB {w : World} {B B' : Nat} {A : Option Addr} {l : List Md} (h : RM w B A l) (hb : B ≤ B') : RM w B' A l :=
  ⟨fun i hi => by
    obtain ⟨b, o, e, hl, c⟩ := h.at_ i hi
    exact ⟨b, o, e, Nat.lt_of_lt_of_le hl hb, c⟩⟩
theorem RlAt.below {w w' : World} {B b o : Nat} {r : Rl} {A A2 : Option Addr} {c c2 : Nat} (h : RlAt w B b o r A A2 c c2) (hb : Below B w w') (hlt : b < B) : RlAt w' B b o r A A2 c c2 where
  k0 := by rw [hb.cell (p := ⟨b, o, none⟩) hlt]; exact h.k0
  k1 := by rw [hb.cell (p := ⟨b, o + 1, none⟩) hlt]; exact h.k1
  k2 := by rw [hb.cell (p := ⟨b, o + 2, none⟩) hlt]; exact h.k2
  k3 := by rw [hb.cell (p := ⟨b, o + 3, none⟩) hlt]; exact h.k3
  k4 := by rw [hb.cell (p := ⟨b, o + 4, none⟩) hlt]; exact h.k4
  k5 := by rw [hb.cell (p := ⟨b, o + 5, none⟩) hlt]; exact h.k5
  rm := h.rm.below hb
  pm := h.pm
  rn := h.rn.below hb
  pn := h.pn
theorem RlAt.le {w : World} {B B' b o : Nat} {r : Rl} {A A2 : Option Addr} {c c2 : Nat} (h : RlAt w B b o r A A2 c c2) (hb : B ≤ B') : RlAt w B' b o r A A2 c c2 := { h with rm := h.rm.leB hb, rn := h.rn.le hb }
/-- the slice at A reads as the releases rs -/
structure RR6 (w : World) (B : Nat) (A : Option Addr) (rs : List Rl) : Prop where
  at_ : ∀ i (h : i < rs.length), ∃ b o A1 A2 c c2, A = some ⟨b, o, none⟩ ∧ b < B ∧ RlAt w B b (o + i * 6) rs[i] A1 A2 c c2
theorem RR6.up {w w' : World} {A : Option Addr} {rs : List Rl} (h : RR6 w w.heap.size A rs) (hb : Below w.heap.size w w') : RR6 w' w'.heap.size A rs :=
  ⟨fun i hi => by
    obtain ⟨b, o, A1, A2, c, c2, e, hl, k⟩ := h.at_ i hi
    exact ⟨b, o, A1, A2, c, c2, e, Nat.lt_of_lt_of_le hl hb.size, (k.below hb hl).le hb.size⟩⟩
/-- the slice at A reads as the strings l -/
structure RT1 (w : World) (B : Nat) (A : Option Addr) (l : List ByteArray) : Prop where
  at_ : ∀ i (h : i < l.length), ∃ b o, A = some ⟨b, o, none⟩ ∧ b < B ∧ w.cell? ⟨b, o + i, none⟩ = some (.string l[i])
theorem RT1.up {w w' : World} {A : Option Addr} {l : List ByteArray} (h : RT1 w w.heap.size A l) (hb : Below w.heap.size w w') : RT1 w' w'.heap.size A l :=
  ⟨fun i hi => by
    obtain ⟨b, o, e, hl, k⟩ := h.at_ i hi
    exact ⟨b, o, e, Nat.lt_of_lt_of_le hl hb.size, by rw [hb.cell (p := ⟨b, o + i, none⟩) hl]; exact k⟩⟩
theorem rt_nil (w : World) (B : Nat) (A : Option Addr) : RT1 w B A [] := ⟨fun i hi => by simp at hi⟩
theorem rt_of_own {w : World} {B : Nat} {v : Value} {l : List ByteArray} (h : w.ownsRow B 9 1 v l.length (l.map Value.string)) : ∃ A c, v = .slice A l.length c ∧ RT1 w w.heap.size A l ∧ Plain A c := by
  rcases own_cell h with ⟨h1, h2⟩ | ⟨g, c, rfl, h3, h4, _, _, hc⟩
  · have hl : l = [] := List.length_eq_zero_iff.1 h2
    subst hl
    exact ⟨none, 0, h1, rt_nil _ _ _, .inl ⟨rfl, rfl⟩⟩
  · refine ⟨_, c, rfl, ⟨fun i hi => ⟨g, 0, rfl, ?_, ?_⟩⟩, .inr ⟨_, _, rfl⟩⟩
    · exact h4
    · rw [Nat.zero_add]; exact hc i _ (by simp [hi])
/-- the text of the first release of a module -/
def lookT (rs : List Rl) (m : Md) : ByteArray := ((rs.find? fun r => decide (m = r.1)).map tx).getD ⟨#[]⟩
def lineM (rs : List Rl) (m : Md) : ByteArray := nmM m ++ (⟨#[32]⟩ : ByteArray) ++ lookT rs m
/-- what List returns -/
def listOut (rs : List Rl) : List ByteArray × Int :=
  match rs.find? (fun r => decide (er r ≠ 0)) with
  | some r => ([], er r)
  | none => if (rs.map (·.1)).Nodup then ((sortM (rs.map (·.1))).map (lineM rs), 0) else ([], 6)
theorem out_err {rs : List Rl} {k : Nat} (hk : k < rs.length) (h0 : ∀ r ∈ rs.take k, er r = 0) (he : er rs[k] ≠ 0) : listOut rs = ([], er rs[k]) := by
  have hf : rs.find? (fun r => decide (er r ≠ 0)) = some rs[k] := by
    have hx : rs.find? (fun r => decide (er r ≠ 0)) = (rs.take k ++ rs.drop k).find? (fun r => decide (er r ≠ 0)) := by rw [List.take_append_drop]
    rw [hx, List.find?_append]
    have h1 : (rs.take k).find? (fun r => decide (er r ≠ 0)) = none := by
      rw [List.find?_eq_none]; intro r hr; simp [h0 r hr]
    rw [h1, List.drop_eq_getElem_cons hk, List.find?_cons_of_pos (by simpa using he)]
    simp
  unfold listOut
  rw [hf]
theorem out_none {rs : List Rl} (h0 : ∀ r ∈ rs, er r = 0) : rs.find? (fun r => decide (er r ≠ 0)) = none := by
  rw [List.find?_eq_none]; intro r hr; simp [h0 r hr]
theorem out_dup {rs : List Rl} (h0 : ∀ r ∈ rs, er r = 0) (hd : ¬ (rs.map (·.1)).Nodup) : listOut rs = ([], 6) := by
  unfold listOut; rw [out_none h0]; simp only; rw [if_neg hd]
theorem out_ok {rs : List Rl} (h0 : ∀ r ∈ rs, er r = 0) (hd : (rs.map (·.1)).Nodup) : listOut rs = ((sortM (rs.map (·.1))).map (lineM rs), 0) := by
  unfold listOut; rw [out_none h0]; simp only; rw [if_pos hd]
/-- the map behind the first k releases -/
structure MapK (rs : List Rl) (k : Nat) (es : List En) : Prop where
  ok : ((rs.take k).map (·.1)).Nodup → es.map (fun e => (e.1, e.2.1)) = (rs.take k).map fun r => (r.1, tx r)
  no : ¬ ((rs.take k).map (·.1)).Nodup → es.length < k
  le : es.length ≤ k
theorem mapK_zero (rs : List Rl) : MapK rs 0 [] := ⟨fun _ => rfl, fun h => absurd (by simp) h, Nat.le_refl _⟩
theorem keys_of {rs : List Rl} {k : Nat} {es : List En} (h : es.map (fun e => (e.1, e.2.1)) = (rs.take k).map fun r => (r.1, tx r)) : es.map (·.1) = (rs.take k).map (·.1) := by
  have := congrArg (List.map Prod.fst) h
  simpa [List.map_map, Function.comp_def] using this
theorem mapK_next {rs : List Rl} {k : Nat} {es es' : List En} (hk : k < rs.length) (h : MapK rs k es)
    (h1 : rs[k].1 ∉ es.map (·.1) → ∃ c, es' = es ++ [(rs[k].1, tx rs[k], c)]) (h2 : rs[k].1 ∈ es.map (·.1) → es'.map (·.1) = es.map (·.1)) : MapK rs (k + 1) es' := by
  have ht : rs.take (k + 1) = rs.take k ++ [rs[k]] := (List.take_append_getElem hk).symm
  have hlen : es'.length ≤ es.length + 1 := by
    by_cases hx : rs[k].1 ∈ es.map (·.1)
    · have := congrArg List.length (h2 hx); simp at this; omega
    · obtain ⟨c, rfl⟩ := h1 hx; simp
  refine ⟨fun hn => ?_, fun hn => ?_, by have := h.le; omega⟩
  · rw [ht, List.map_append, List.nodup_append] at hn
    have hes := h.ok hn.1
    have hx : rs[k].1 ∉ es.map (·.1) := by
      rw [keys_of hes]; intro hx
      exact hn.2.2 _ hx _ (by simp) rfl
    obtain ⟨c, rfl⟩ := h1 hx
    rw [ht, List.map_append, List.map_append, hes]; rfl
  · by_cases hd : ((rs.take k).map (·.1)).Nodup
    · have hes := h.ok hd
      have hx : rs[k].1 ∈ es.map (·.1) := by
        rw [keys_of hes]
        refine Classical.byContradiction fun hx => hn ?_
        rw [ht, List.map_append, List.nodup_append]
        refine ⟨hd, by simp, fun a ha b hb => ?_⟩
        simp at hb; subst hb
        intro e; subst e; exact hx ha
      have := congrArg List.length (h2 hx); simp at this
      have hl := congrArg List.length hes
      simp at hl; omega
    · have := h.no hd; omega
theorem fnd_look (x : Md) : ∀ (es : List En) (rs : List Rl) (i : Nat), es.map (fun e => (e.1, e.2.1)) = rs.map (fun r => (r.1, tx r)) → x ∈ rs.map (·.1) → ∃ j, fnd x es i = some (j, .string (lookT rs x))
  | [], [], i, _, h => by simp at h
  | [], r :: t, i, h, _ => by simp at h
  | e :: t, [], i, h, _ => by simp at h
  | e :: es, r :: rs, i, h, hx => by
    simp only [List.map_cons, List.cons.injEq, Prod.mk.injEq] at h
    obtain ⟨⟨h1, h2⟩, h3⟩ := h
    unfold fnd lookT
    by_cases hxe : x = e.1
    · rw [if_pos hxe]
      refine ⟨i, ?_⟩
      rw [List.find?_cons_of_pos (by simp [hxe, h1])]
      simp [h2]
    · rw [if_neg hxe]
      have hxr : ¬ x = r.1 := by rw [← h1]; exact hxe
      rw [List.find?_cons_of_neg (by simpa using hxr)]
      exact fnd_look x es rs (i + 1) h3 (by
        rw [List.map_cons] at hx
        rcases List.mem_cons.1 hx with h | h
        · exact absurd h hxr
        · exact h)
end Go.Proofs.YthlcdimofagmfaaGreatDoor
