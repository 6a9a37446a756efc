/-
  Release of the specification: the mathematics of its insertion. No condition.
-/
import Derived.Test.YthlcdimofagmfaaGreatDoorRm
import Derived.Test.YthlcdimofagmfaaGreatDoorRe
namespace Go.Proofs.YthlcdimofagmfaaGreatDoor
open Go Go.RowKit
set_option linter.unusedSimpArgs false
set_option linter.unnecessarySimpa false
set_option linter.unusedVariables false
theorem insN_at {x : Src} : ∀ {S : List Src} {k : Nat}, (∀ y ∈ S.take k, ¬ cmpN x y < 0) → (∀ y ∈ S.drop k, cmpN x y < 0) → S.take k ++ x :: S.drop k = insN x S
  | [], k, _, _ => by simp [insN]
  | y :: t, 0, _, hd => by
    have h := hd y (by simp)
    unfold insN; rw [if_pos h]; rfl
  | y :: t, k + 1, ht, hd => by
    have h := ht y (by simp)
    unfold insN; rw [if_neg h]
    rw [List.take_succ_cons, List.drop_succ_cons, List.cons_append, insN_at (fun z hz => ht z (by simp [hz])) (fun z hz => hd z (by simpa using hz))]
theorem lowN {S : List Src} {x : Src} {k : Nat} (hs : S.Pairwise LeN) (hk : k < S.length) (h : ¬ cmpN x S[k] < 0) : ∀ y ∈ S.take (k + 1), ¬ cmpN x y < 0 := by
  intro y hy hlt
  have hkx : LeN S[k] x := by have := cmpB_ok.anti x.1 S[k].1; unfold cmpN at h; show cmpB S[k].1 x.1 ≤ 0; omega
  rw [← List.take_append_getElem hk, List.mem_append] at hy
  have hyx : LeN y x := by
    rcases hy with hy | hy
    · obtain ⟨i, hi, rfl⟩ := List.getElem_of_mem hy
      rw [List.length_take] at hi
      rw [List.getElem_take]
      have := List.pairwise_iff_getElem.1 hs i k (by omega) hk (by omega)
      exact leN_trans this hkx
    · simp only [List.mem_singleton] at hy
      subst hy; exact hkx
  have := cmpB_ok.anti x.1 y.1
  unfold cmpN at hlt
  have h2 : cmpB y.1 x.1 ≤ 0 := hyx
  omega
theorem highN {S : List Src} {x : Src} {k : Nat} (hk : k < S.length) (h : cmpN x S[k] < 0) (hd : ∀ y ∈ S.drop (k + 1), cmpN x y < 0) : ∀ y ∈ S.drop k, cmpN x y < 0 := by
  intro y hy
  rw [List.drop_eq_getElem_cons hk] at hy
  rcases List.mem_cons.1 hy with rfl | hy
  · exact h
  · exact hd y hy
theorem sortN_take {l : List Src} {k : Nat} (h : k < l.length) : sortN (l.take (k + 1)) = insN l[k] (sortN (l.take k)) := by
  rw [← List.take_append_getElem h]
  unfold sortN
  rw [List.foldl_append]; rfl
/-- a name that the place before does not bear is borne by none -/
theorem freshN {S : List Src} {x : Src} {n : Nat} (hs : S.Pairwise LeN) (hn : n ≤ S.length) (ht : ∀ y ∈ S.take n, ¬ cmpN x y < 0) (hd : ∀ y ∈ S.drop n, cmpN x y < 0)
    (hne : ∀ i (h : i < S.length), i + 1 = n → S[i].1 ≠ x.1) : ∀ y ∈ S, y.1 ≠ x.1 := by
  intro y hy e
  rw [← List.take_append_drop n S, List.mem_append] at hy
  rcases hy with hy | hy
  · obtain ⟨i, hi, rfl⟩ := List.getElem_of_mem hy
    rw [List.length_take] at hi
    rw [List.getElem_take] at e
    have hm : n - 1 < S.length := by omega
    have h1 : ¬ cmpN x S[n - 1] < 0 := ht _ (by
      rw [List.mem_take_iff_getElem]
      exact ⟨n - 1, by omega, rfl⟩)
    have h2 : cmpB S[i].1 S[n - 1].1 ≤ 0 := by
      by_cases h : i = n - 1
      · subst h; rw [cmpB_ok.self]; exact Int.le_refl _
      · exact List.pairwise_iff_getElem.1 hs i (n - 1) (by omega) hm (by omega)
    rw [e] at h2
    unfold cmpN at h1
    have h3 : cmpB x.1 S[n - 1].1 = 0 := by omega
    exact hne (n - 1) hm (by omega) (cmpB_ok.eq _ _ h3).symm
  · have := hd y hy
    unfold cmpN at this
    rw [e, cmpB_ok.self] at this
    omega
theorem nodup_next {l : List Src} {k : Nat} (h : k < l.length) (hn : ((l.take k).map (·.1)).Nodup) (hf : ∀ y ∈ sortN (l.take k), y.1 ≠ l[k].1) : ((l.take (k + 1)).map (·.1)).Nodup := by
  rw [← List.take_append_getElem h, List.map_append, List.nodup_append]
  refine ⟨hn, by simp, fun a ha b hb => ?_⟩
  obtain ⟨y, hy, rfl⟩ := List.mem_map.1 ha
  simp only [List.map_cons, List.map_nil, List.mem_singleton] at hb
  subst hb
  exact hf y ((sortN_perm _).mem_iff.2 hy)
theorem dup_next {l : List Src} {k : Nat} (h : k < l.length) {y : Src} (hy : y ∈ sortN (l.take k)) (e : y.1 = l[k].1) : dupN l = true := by
  have hy := (sortN_perm _).mem_iff.1 hy
  unfold dupN
  rw [Bool.not_eq_true', decide_eq_false_iff_not]
  intro hn
  rw [← List.take_append_drop (k + 1) l, List.map_append, List.nodup_append] at hn
  have h1 := hn.1
  rw [← List.take_append_getElem h, List.map_append, List.nodup_append] at h1
  exact h1.2.2 y.1 (List.mem_map.2 ⟨y, hy, rfl⟩) l[k].1 (by simp) e
end Go.Proofs.YthlcdimofagmfaaGreatDoor
namespace Go.Proofs.YthlcdimofagmfaaGreatDoor
open Go.RowKit Go.Sort Go.Lib Go.Shelf Go.Proofs
set_option linter.unusedSimpArgs false
set_option linter.unnecessarySimpa false
set_option linter.unusedVariables false
theorem own_emptyS (w : World) (g : Nat) (hg : g = w.heap.size) : (w.alloc (.cells #[] 56)).ownsRow g 56 2 (.slice (some ⟨g, 0, none⟩) 0 0) 0 [] :=
  ⟨rfl, .inr ⟨g, 0, _, rfl, Nat.le_refl _, by rw [hg]; exact heap_alloc_new w _, Nat.le_refl _, by unfold maxLen; omega, rfl, rfl⟩⟩
theorem own_litS (w : World) (base g : Nat) (x : Src) (hg : g = w.heap.size) (hb : base ≤ g) : (w.alloc (.cells #[.string x.1, .string x.2] 56)).ownsRow base 56 2 (.slice (some ⟨g, 0, none⟩) 1 1) 1 (sc x) :=
  ⟨rfl, .inr ⟨g, 1, _, rfl, hb, by rw [hg]; exact heap_alloc_new w _, Nat.le_refl _, by unfold maxLen; omega, rfl, rfl⟩⟩
theorem rn_one (w : World) (x : Src) : RN (w.alloc (.cells #[.string x.1, .string x.2] 56)) (w.alloc (.cells #[.string x.1, .string x.2] 56)).heap.size (some ⟨w.heap.size, 0, none⟩) [x] :=
  ⟨fun i hi => ⟨w.heap.size, 0, rfl, by simp, fun c v hv => by
    obtain rfl : i = 0 := by simpa using hi
    match c, hv with
    | 0, hv => simp [sc] at hv ⊢; exact hv
    | 1, hv => simp [sc] at hv ⊢; exact hv
    | c + 2, hv => simp [sc] at hv⟩⟩
theorem RN.take {w : World} {B : Nat} {A : Option Addr} {l : List Src} (h : RN w B A l) (n : Nat) : RN w B A (l.take n) :=
  ⟨fun i hi => by
    have hi' : i < l.length := by simp at hi; omega
    obtain ⟨b, o, e, hl, c⟩ := h.at_ i hi'
    exact ⟨b, o, e, hl, by rw [List.getElem_take]; exact c⟩⟩
theorem RN.drop {w : World} {B b o : Nat} {l : List Src} (h : RN w B (some ⟨b, o, none⟩) l) (n : Nat) : RN w B (some ⟨b, o + n * 2, none⟩) (l.drop n) :=
  ⟨fun i hi => by
    have hi' : n + i < l.length := by simp at hi; omega
    obtain ⟨b', o', e, hl, c⟩ := h.at_ (n + i) hi'
    simp only [Option.some.injEq, Addr.mk.injEq] at e
    obtain ⟨rfl, rfl, _⟩ := e
    refine ⟨b, o + n * 2, rfl, hl, fun c' u hu => ?_⟩
    rw [List.getElem_drop] at hu
    have := c c' u hu
    rwa [show o + (n + i) * 2 = o + n * 2 + i * 2 by omega] at this⟩
/-- append of a slice that reads as a list of sources, a nil one too, to a row of the call's own -/
theorem wpList_append_rn {w : World} {ops : Array Oper} {rest : List Oper} {o : Oper} {a : Act} {Q : Exit → Act → World → Prop} (hgd : o.guard = none) (s x : Operand)
    (ho : o.op = .call { callee := .builtin .append, args := #[s, x], argTypes := #[38, 38] })
    (base N : Nat) (v : Value) (n : Nat) (xs : List Value) (hs : a.eval s = v) (hown : w.ownsRow base 56 2 v n xs)
    (A : Option Addr) (c : Nat) (l : List Src) (hx : a.eval x = .slice A l.length c) (hR : RN w N A l) (hf : Plain A c)
    (hn : n + l.length ≤ 1000000) (hbase : base ≤ w.heap.size)
    (h : ∀ v' w', w'.ownsRow base 56 2 v' (n + l.length) (xs ++ flatS l) → w.grownBy w' v.ownBlock → wpList Tryz.prog ops Q rest (a.put o.dst v') w') : wpList Tryz.prog ops Q (o :: rest) a w := by
  obtain ⟨i0, hi, hz0, hz1, hz2⟩ := info_parts info56
  rcases hf with ⟨rfl, rfl⟩ | ⟨b, oo, rfl⟩
  · obtain rfl := rn_none hR
    refine wpList_append_own_none hgd s x 38 ho base 56 i0 2 Tryz.underlying38 hi v n xs hs hown hx ?_
    refine h v w (by simpa [flatS_nil] using hown) ?_
    exact ⟨rfl, rfl, rfl, Nat.le_refl _, fun _ _ _ => rfl⟩
  · refine wpList_append_own w hgd s x 38 ho base 56 i0 (.agg #[.string ⟨#[]⟩, .string ⟨#[]⟩]) 2 32 Tryz.underlying38 hi hz0 hz1 hz2 rfl (by decide) v n xs hs hown ⟨b, oo, none⟩ l.length c (flatS l) hx (flatS_len l) ?_ (flatS_one l) (by unfold maxLen; omega) (by omega) hbase (fun v' w' h1 h2 _ => h v' w' h1 h2)
    intro j u hj
    have hadd : (⟨b, oo, none⟩ : Addr).add j = ⟨b, oo + j, none⟩ := by unfold Addr.add; split <;> simp_all
    rw [hadd]
    exact rn_cells hR j u hj
end Go.Proofs.YthlcdimofagmfaaGreatDoor
namespace Go.Proofs.YthlcdimofagmfaaGreatDoor
open Go Go.RowKit
open Dg (txtH hsum txtL txtL_len hsum_lt)
set_option linter.unusedSimpArgs false
set_option linter.unnecessarySimpa false
set_option linter.unusedVariables false
def accR (T : ByteArray) (D : List Src) : ByteArray := ⟨((relPs T D).flatMap fun s => s.data.toList).toArray⟩
theorem accR_nil (T : ByteArray) : accR T [] = T := by
  unfold accR relPs; apply ByteArray.ext; apply Array.ext'; simp
theorem accR_snoc (T : ByteArray) (D : List Src) (y : Src) :
    accR T (D ++ [y]) = accR T D ++ ⟨(Qt.quoteL y.1.data.toList).toArray⟩ ++ ⟨#[32]⟩ ++ txtH (hsum st0 y.2.data.toList) ++ ⟨#[10]⟩ := by
  unfold accR; rw [relPs_snoc]
  apply ByteArray.ext; apply Array.ext'
  simp [relPc, List.append_assoc]
theorem accR_list (T : ByteArray) (D : List Src) : (accR T D).data.toList = (relPs T D).flatMap fun s => s.data.toList := by
  unfold accR; simp
theorem qsize {y : Src} (h : y.1.size ≤ 200) : (⟨(Qt.quoteL y.1.data.toList).toArray⟩ : ByteArray).size ≤ 802 := by
  show (Qt.quoteL y.1.data.toList).toArray.size ≤ _
  rw [List.size_toArray]
  have := Qt.body_len y.1.data.toList
  have h2 : y.1.data.toList.length = y.1.size := by simp
  unfold Qt.quoteL
  simp only [List.length_append, List.length_cons, List.length_nil]; omega
theorem tsize (n : Nat) : (txtH n).size = 18 := by
  show (txtL n 16).toArray.size = 18
  rw [List.size_toArray, txtL_len]
theorem accR_size {T : ByteArray} {D : List Src} (h : ∀ y ∈ D, y.1.size ≤ 200) : (accR T D).size ≤ T.size + D.length * 1000 := by
  have e : (accR T D).size = ((relPs T D).flatMap fun s => s.data.toList).length := by
    rw [← accR_list]; simp
  rw [e]
  unfold relPs
  rw [List.flatMap_cons, List.length_append]
  have e0 : T.data.toList.length = T.size := by simp
  have : ((D.flatMap relPc).flatMap fun s => s.data.toList).length ≤ D.length * 1000 := by
    clear e e0
    induction D with
    | nil => simp
    | cons y d ih =>
      rw [List.flatMap_cons, List.flatMap_append, List.length_append, List.length_cons]
      have h1 := ih (fun z hz => h z (by simp [hz]))
      have h2 : ((relPc y).flatMap fun s => s.data.toList).length ≤ 1000 := by
        have q := qsize (h y (by simp))
        have t := tsize (hsum st0 y.2.data.toList)
        unfold relPc
        rw [List.flatMap_cons, List.flatMap_cons, List.flatMap_cons, List.flatMap_cons, List.flatMap_nil, List.length_append, List.length_append, List.length_append, List.length_append, List.length_nil]
        have q' : (⟨(Qt.quoteL y.1.data.toList).toArray⟩ : ByteArray).data.toList.length = (⟨(Qt.quoteL y.1.data.toList).toArray⟩ : ByteArray).size := by
          show _ = (Qt.quoteL y.1.data.toList).toArray.size; simp
        have t' : (txtH (hsum st0 y.2.data.toList)).data.toList.length = (txtH (hsum st0 y.2.data.toList)).size := by simp
        have u1 : (⟨#[32]⟩ : ByteArray).data.toList.length = 1 := rfl
        have u2 : (⟨#[10]⟩ : ByteArray).data.toList.length = 1 := rfl
        omega
      omega
  omega
/-- no name is borne twice among the first k, and the row so far is sorted -/
theorem nodup_sortN {l : List Src} (h : (l.map (·.1)).Nodup) : ((sortN l).map (·.1)).Nodup := ((sortN_perm l).map _).nodup_iff.2 h
theorem lessN (x y : Src) : Op.bytesLess x.1.toList y.1.toList = decide (cmpN x y < 0) := by
  have h := lessB (a := x.1) (b := y.1)
  have hv : cmpN x y = -1 ∨ cmpN x y = 0 ∨ cmpN x y = 1 := cmpB_ok.rng _ _
  have e : cmpB x.1 y.1 = cmpN x y := rfl
  rw [e] at h
  rcases hv with hv | hv | hv
  · rw [h.2 hv, hv]; rfl
  · rw [hv]; rw [hv] at h
    cases hb : Op.bytesLess x.1.toList y.1.toList with
    | true => exact absurd (h.1 hb) (by decide)
    | false => rfl
  · rw [hv]; rw [hv] at h
    cases hb : Op.bytesLess x.1.toList y.1.toList with
    | true => exact absurd (h.1 hb) (by decide)
    | false => rfl
end Go.Proofs.YthlcdimofagmfaaGreatDoor
