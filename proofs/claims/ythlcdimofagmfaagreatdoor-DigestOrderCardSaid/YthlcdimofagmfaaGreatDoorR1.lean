/-
  How slices of strings and of modules read as lists; rows of the call's own. No condition.
-/
import Derived.Test.YthlcdimofagmfaaGreatDoorVA
import Derived.Laws.AppendOwn
import Derived.Sort.Grow
namespace Go.Proofs.YthlcdimofagmfaaGreatDoor
open Go.RowKit Go.Sort
set_option linter.unusedSimpArgs false
set_option linter.unnecessarySimpa false
set_option linter.unusedVariables false
theorem bal (w : World) (o : Obj) : Below w.heap.size w (w.alloc o) := (Below.refl _ _).alloc (Nat.le_refl _) o
/-- the slice at A reads as the strings L, in blocks below B -/
structure RS (w : World) (B : Nat) (A : Option Addr) (L : List ByteArray) : Prop where
  at_ : ∀ i (h : i < L.length), ∃ b o, A = some ⟨b, o, none⟩ ∧ b < B ∧ w.cell? ⟨b, o + i, none⟩ = some (.string L[i])
theorem RS.below {w w' : World} {B : Nat} {A : Option Addr} {L : List ByteArray} (h : RS w B A L) (hb : Below B w w') : RS w' B A L :=
  ⟨fun i hi => by
    obtain ⟨b, o, e, hl, c0⟩ := h.at_ i hi
    exact ⟨b, o, e, hl, by rw [hb.cell (p := ⟨b, o + i, none⟩) hl]; exact c0⟩⟩
theorem RS.up {w w' : World} {A : Option Addr} {L : List ByteArray} (h : RS w w.heap.size A L) (hb : Below w.heap.size w w') : RS w' w'.heap.size A L :=
  ⟨fun i hi => by
    obtain ⟨b, o, e, hl, c⟩ := (h.below hb).at_ i hi
    exact ⟨b, o, e, Nat.lt_of_lt_of_le hl hb.size, c⟩⟩
theorem RS.take {w : World} {B : Nat} {A : Option Addr} {L : List ByteArray} (h : RS w B A L) (n : Nat) : RS w B A (L.take n) :=
  ⟨fun i hi => by
    have hi' : i < L.length := by simp at hi; omega
    obtain ⟨b, o, e, hl, c⟩ := h.at_ i hi'
    exact ⟨b, o, e, hl, by rw [c]; simp⟩⟩
theorem rs_nil (w : World) (B : Nat) (A : Option Addr) : RS w B A [] := ⟨fun i hi => by simp at hi⟩
/-- the cells of a module -/
def mc (x : Md) : List Value := [.string x.1, .int .i64 x.2.1, .int .i64 x.2.2.1, .int .i64 x.2.2.2]
abbrev md (x : Md) : Value := .agg #[.string x.1, .int .i64 x.2.1, .int .i64 x.2.2.1, .int .i64 x.2.2.2]
def flatM (l : List Md) : List Value := l.flatMap mc
theorem flatM_nil : flatM [] = [] := rfl
theorem flatM_cons (x : Md) (l : List Md) : flatM (x :: l) = mc x ++ flatM l := rfl
theorem flatM_append (l m : List Md) : flatM (l ++ m) = flatM l ++ flatM m := by simp [flatM]
theorem flatM_len (l : List Md) : (flatM l).length = l.length * 4 := by
  induction l with
  | nil => rfl
  | cons s l ih => simp only [flatM_cons, List.length_append, List.length_cons, ih, mc, List.length_nil]; omega
theorem flatM_at (l : List Md) (i : Nat) (h : i < l.length) (c : Nat) (hc : c < 4) : (flatM l)[i * 4 + c]? = (mc l[i])[c]? := by
  induction l generalizing i with
  | nil => simp at h
  | cons s l ih =>
    rw [flatM_cons]
    have hm : (mc s).length = 4 := rfl
    cases i with
    | zero => rw [List.getElem?_append_left (by omega)]; simp
    | succ i =>
      rw [List.getElem?_append_right (by omega), hm, show (i + 1) * 4 + c - 4 = i * 4 + c by omega]
      simpa using ih i (by simpa using h)
theorem mc_one (x : Md) : ∀ v ∈ mc x, v.oneCell' = true := by
  intro v hv; simp [mc] at hv; rcases hv with rfl | rfl | rfl | rfl <;> rfl
theorem flatM_one (l : List Md) : ∀ v ∈ flatM l, v.oneCell' = true := by
  intro v hv
  simp only [flatM, List.mem_flatMap] at hv
  obtain ⟨s, _, hs⟩ := hv
  exact mc_one s v hs
/-- the slice at A reads as the modules l, in blocks below B -/
structure RM (w : World) (B : Nat) (A : Option Addr) (l : List Md) : Prop where
  at_ : ∀ i (h : i < l.length), ∃ b o, A = some ⟨b, o, none⟩ ∧ b < B ∧ ∀ c v, (mc l[i])[c]? = some v → w.cell? ⟨b, o + i * 4 + c, none⟩ = some v
theorem RM.below {w w' : World} {B : Nat} {A : Option Addr} {l : List Md} (h : RM w B A l) (hb : Below B w w') : RM w' B A l :=
  ⟨fun i hi => by
    obtain ⟨b, o, e, hl, c0⟩ := h.at_ i hi
    exact ⟨b, o, e, hl, fun c v hv => by rw [hb.cell (p := ⟨b, o + i * 4 + c, none⟩) hl]; exact c0 c v hv⟩⟩
theorem RM.up {w w' : World} {A : Option Addr} {l : List Md} (h : RM w w.heap.size A l) (hb : Below w.heap.size w w') : RM w' w'.heap.size A l :=
  ⟨fun i hi => by
    obtain ⟨b, o, e, hl, c⟩ := (h.below hb).at_ i hi
    exact ⟨b, o, e, Nat.lt_of_lt_of_le hl hb.size, c⟩⟩
theorem RM.le {w : World} {B B' : Nat} {A : Option Addr} {l : List Md} (h : RM w B A l) (hb : B ≤ B') : RM w B' A l :=
  ⟨fun i hi => by
    obtain ⟨b, o, e, hl, c⟩ := h.at_ i hi
    exact ⟨b, o, e, Nat.lt_of_lt_of_le hl hb, c⟩⟩
theorem rm_nil (w : World) (B : Nat) (A : Option Addr) : RM w B A [] := ⟨fun i hi => by simp at hi⟩
/-- the four cells of one module -/
theorem RM.four {w : World} {B : Nat} {A : Option Addr} {l : List Md} (h : RM w B A l) (i : Nat) (hi : i < l.length) : ∃ b o, A = some ⟨b, o, none⟩ ∧ b < B ∧
    w.cell? ⟨b, o + i * 4, none⟩ = some (.string l[i].1) ∧ w.cell? ⟨b, o + i * 4 + 1, none⟩ = some (.int .i64 l[i].2.1) ∧
    w.cell? ⟨b, o + i * 4 + 2, none⟩ = some (.int .i64 l[i].2.2.1) ∧ w.cell? ⟨b, o + i * 4 + 3, none⟩ = some (.int .i64 l[i].2.2.2) := by
  obtain ⟨b, o, e, hl, c⟩ := h.at_ i hi
  exact ⟨b, o, e, hl, by simpa using c 0 _ rfl, c 1 _ rfl, c 2 _ rfl, c 3 _ rfl⟩
/-- a slice's address is plain -/
def Plain (A : Option Addr) (c : Nat) : Prop := (A = none ∧ c = 0) ∨ ∃ b o, A = some ⟨b, o, none⟩
/-- a slice's address is plain, or it has no room -/
def Plane (A : Option Addr) (c : Nat) : Prop := Plain A c ∨ ∃ a, A = some a ∧ c = 0
/-- no block below N -/
def Hi (N : Nat) (A : Option Addr) : Prop := ∀ b o, A = some ⟨b, o, none⟩ → N ≤ b
/-- the block is one of modules -/
def Ty (w : World) (A : Option Addr) : Prop := ∀ b o, A = some ⟨b, o, none⟩ → ∃ cs fz, w.heap[b]? = some (.cells cs 34 fz)
theorem Ty.none (w : World) : Ty w none := fun b o e => by cases e
theorem Hi.le {N M : Nat} {A : Option Addr} (h : Hi N A) (hm : M ≤ N) : Hi M A := fun b o e => Nat.le_trans hm (h b o e)
theorem own_up {w w' : World} {B n sz : Nat} {E : TypeId} {v : Value} {xs : List Value} (h : w.ownsRow B E sz v n xs) (hb : Below w.heap.size w w') : w'.ownsRow B E sz v n xs := by
  refine ⟨h.1, ?_⟩
  rcases h.2 with hn | ⟨g, cap, cur, hv, hb1, hg, rest⟩
  · exact .inl hn
  · refine .inr ⟨g, cap, cur, hv, hb1, ?_, rest⟩
    rw [hb.block g (Array.getElem?_eq_some_iff.1 hg).1]; exact hg
theorem own_le {w : World} {B B' n sz : Nat} {E : TypeId} {v : Value} {xs : List Value} (h : w.ownsRow B' E sz v n xs) (hB : B ≤ B') : w.ownsRow B E sz v n xs := by
  refine ⟨h.1, ?_⟩
  rcases h.2 with hn | ⟨g, cap, cur, hv, hb1, rest⟩
  · exact .inl hn
  · exact .inr ⟨g, cap, cur, hv, Nat.le_trans hB hb1, rest⟩
theorem own_cell {w : World} {B n sz : Nat} {E : TypeId} {v : Value} {xs : List Value} (h : w.ownsRow B E sz v n xs) :
    (v = .slice none 0 0 ∧ n = 0) ∨ ∃ g c, v = .slice (some ⟨g, 0, none⟩) n c ∧ B ≤ g ∧ g < w.heap.size ∧ n ≤ c ∧ c ≤ maxLen ∧ ∀ j u, xs[j]? = some u → w.cell? ⟨g, j, none⟩ = some u := by
  rcases id h.2 with hn | ⟨g, cap, cur, hv, hb1, hg, h4, h5, h6, h7⟩
  · exact .inl hn
  · refine .inr ⟨g, cap, hv, hb1, (Array.getElem?_eq_some_iff.1 hg).1, h4, h5, fun j u hu => ?_⟩
    have := h.cells (g := g) (by rw [hv]; rfl) j u hu
    rw [show (⟨g, 0, none⟩ : Addr).add j = ⟨g, j, none⟩ by cases j <;> simp [Addr.add]] at this
    exact this
theorem own_ty {w : World} {B n : Nat} {v : Value} {xs : List Value} (h : w.ownsRow B 34 4 v n xs) : ∀ A m c, v = .slice A m c → Ty w A := by
  intro A m c hv b o hA
  subst hA
  rcases h.2 with ⟨h1, _⟩ | ⟨g, cap, cur, h1, _, hg, _⟩
  · rw [h1] at hv; cases hv
  · rw [h1] at hv; cases hv; exact ⟨_, _, hg⟩
theorem rs_of_own {w : World} {B : Nat} {v : Value} {L : List ByteArray} (h : w.ownsRow B 9 1 v L.length (L.map Value.string)) : ∃ A c, v = .slice A L.length c ∧ RS w w.heap.size A L ∧ Plain A c ∧ Hi B A := by
  rcases own_cell h with ⟨h1, h2⟩ | ⟨g, c, rfl, hB, hg, _, _, hc⟩
  · obtain rfl : L = [] := List.length_eq_zero_iff.1 h2
    exact ⟨none, 0, h1, rs_nil _ _ _, .inl ⟨rfl, rfl⟩, fun b o e => by cases e⟩
  · exact ⟨_, c, rfl, ⟨fun i hi => ⟨g, 0, rfl, hg, hc (0 + i) _ (by simp [hi])⟩⟩, .inr ⟨g, 0, rfl⟩, fun b o e => by cases e; exact hB⟩
theorem rm_of_own {w : World} {B : Nat} {v : Value} {l : List Md} (h : w.ownsRow B 34 4 v l.length (flatM l)) : ∃ A c, v = .slice A l.length c ∧ RM w w.heap.size A l ∧ Plain A c ∧ Hi B A ∧ Ty w A := by
  have hty := own_ty h
  rcases own_cell h with ⟨h1, h2⟩ | ⟨g, c, rfl, hB, hg, _, _, hc⟩
  · obtain rfl : l = [] := List.length_eq_zero_iff.1 h2
    exact ⟨none, 0, h1, rm_nil _ _ _, .inl ⟨rfl, rfl⟩, fun b o e => (by cases e), Ty.none _⟩
  · refine ⟨_, c, rfl, ⟨fun i hi => ⟨g, 0, rfl, hg, fun c v hv => ?_⟩⟩, .inr ⟨g, 0, rfl⟩, fun b o e => (by cases e; exact hB), hty _ _ _ rfl⟩
    have hlt : c < 4 := by have := (List.getElem?_eq_some_iff.1 hv).1; simpa [mc] using this
    refine hc (0 + i * 4 + c) v ?_
    rw [Nat.zero_add, flatM_at l i hi c hlt]; exact hv
/-- a call hands back a new list of strings, or of modules -/
def GivesS (L : List ByteArray) (w : World) (e : Ending) (w' : World) : Prop :=
  ∃ A c, e = .returned (.slice A L.length c) ∧ RS w' w'.heap.size A L ∧ (Plain A c ∧ Hi w.heap.size A) ∧ Below w.heap.size w w'
def GivesM (l : List Md) (w : World) (e : Ending) (w' : World) : Prop :=
  ∃ A c, e = .returned (.slice A l.length c) ∧ RM w' w'.heap.size A l ∧ (Plain A c ∧ Hi w.heap.size A ∧ Ty w' A) ∧ Below w.heap.size w w'
theorem new1 (W : World) (t : TypeId) (a : Value) : ∀ j u, [a][j]? = some u → (W.alloc (.cells #[a] t)).cell? ((⟨W.heap.size, 0, none⟩ : Addr).add j) = some u := by
  intro j u hj
  match j, hj with
  | 0, hj => simp at hj; subst hj; simp [Addr.add]
  | j + 1, hj => simp at hj
theorem one1 (s : ByteArray) : ∀ u ∈ [Value.string s], u.oneCell' = true := by
  intro u hu; simp at hu; subst hu; rfl
theorem new4 (W : World) (t : TypeId) (x : Md) : ∀ j u, (mc x)[j]? = some u → (W.alloc (.cells (mc x).toArray t)).cell? ((⟨W.heap.size, 0, none⟩ : Addr).add j) = some u := by
  intro j u hj
  match j, hj with
  | 0, hj => simp [mc] at hj ⊢; subst hj; simp [Addr.add]
  | 1, hj => simp [mc] at hj ⊢; subst hj; simp [Addr.add]
  | 2, hj => simp [mc] at hj ⊢; subst hj; simp [Addr.add]
  | 3, hj => simp [mc] at hj ⊢; subst hj; simp [Addr.add]
  | j + 4, hj => simp [mc] at hj
theorem info9 : (Tryz.prog.info? 9).map (fun i => (i.zero, i.size, i.bytes)) = some (some (.string ⟨#[]⟩), 1, 16) := by kernel_rfl
theorem info25 : (Tryz.prog.info? 34).map (fun i => (i.zero, i.size, i.bytes)) = some (some (.agg #[.string ⟨#[]⟩, .int .i64 0, .int .i64 0, .int .i64 0]), 4, 40) := by kernel_rfl
end Go.Proofs.YthlcdimofagmfaaGreatDoor
