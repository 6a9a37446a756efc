/-
  Concat of two lists of spans. No condition but the bounds on the lists.
-/
import Derived.Test.YteekccjfokoglaaL
import Derived.Test.YteekccjfokoglaaSoG
import Derived.Laws.AppendOwnNone
namespace Go.Proofs.Yteekccjfokoglaa
open Go.RowKit Go.Sort Go.Lib Go.Shelf Go.Proofs
set_option linter.unusedSimpArgs false
set_option linter.unnecessarySimpa false
set_option linter.unusedVariables false
/-- append of a slice that reads as a list, a nil one too, to a row of the call's own -/
theorem wpList_append_re {w : World} {ops : Array Oper} {rest : List Oper} {o : Oper} {a : Act} {Q : Exit → Act → World → Prop} (hgd : o.guard = none) (s x : Operand)
    (ho : o.op = .call { callee := .builtin .append, args := #[s, x], argTypes := #[22, 22] })
    (base N : Nat) (v : Value) (n : Nat) (xs : List Value) (hs : a.eval s = v) (hown : w.ownsRow base 46 2 v n xs)
    (A : Option Addr) (c : Nat) (l : List Sp) (hx : a.eval x = .slice A l.length c) (hR : Re w N A l) (hf : Plain A c)
    (hn : n + l.length ≤ 4000000) (hbase : base ≤ w.heap.size)
    (h : ∀ v' w', w'.ownsRow base 46 2 v' (n + l.length) (xs ++ flat l) → w.grownBy w' v.ownBlock → wpList Try.prog ops Q rest (a.put o.dst v') w') : wpList Try.prog ops Q (o :: rest) a w := by
  obtain ⟨i0, hi, hz0, hz1, hz2⟩ := info_parts info46
  rcases hf with ⟨rfl, rfl⟩ | ⟨b, oo, rfl⟩
  · have : l = [] := by
      cases l with
      | nil => rfl
      | cons s l => obtain ⟨_, _, h, _⟩ := hR.at_ 0 (by simp); simp at h
    subst this
    refine wpList_append_own_none hgd s x 22 ho base 46 i0 2 Try.underlying22 hi v n xs hs hown hx ?_
    refine h v w (by simpa [flat_nil] using hown) ?_
    exact ⟨rfl, rfl, rfl, Nat.le_refl _, fun _ _ _ => rfl⟩
  · refine wpList_append_own w hgd s x 22 ho base 46 i0 (.agg #[.int .i64 0, .int .i64 0]) 2 16 Try.underlying22 hi hz0 hz1 hz2 rfl (by decide) v n xs hs hown ⟨b, oo, none⟩ l.length c (flat l) hx (flat_len l) ?_ (flat_one l) (by unfold maxLen; omega) (by omega) hbase (fun v' w' h1 h2 _ => h v' w' h1 h2)
    intro j u hj
    have hjl : j < l.length * 2 := by have := (List.getElem?_eq_some_iff.1 hj).1; rwa [flat_len] at this
    obtain ⟨b', o', e, _, c0, c1⟩ := hR.at_ (j / 2) (by omega)
    simp only [Option.some.injEq, Addr.mk.injEq] at e
    obtain ⟨rfl, rfl, _⟩ := e
    have hfl := flat_at l (j / 2) (by omega)
    have hadd : (⟨b, oo, none⟩ : Addr).add j = ⟨b, oo + j, none⟩ := by unfold Addr.add; split <;> simp_all
    rw [hadd]
    rcases (show j = j / 2 * 2 ∨ j = j / 2 * 2 + 1 by omega) with hh | hh
    · rw [← hh] at hfl c0
      rw [c0, ← hfl.1, hj]
    · rw [← hh, hj] at hfl
      rw [show oo + j / 2 * 2 + 1 = oo + j by omega] at c1
      rw [c1, ← hfl.2]
/-- a slice of two slices -/
structure Two (w : World) (N g : Nat) (A1 : Option Addr) (n1 c1 : Nat) (A2 : Option Addr) (n2 c2 : Nat) : Prop where
  c0 : w.cell? ⟨g, 0, none⟩ = some (.slice A1 n1 c1)
  c1 : w.cell? ⟨g, 1, none⟩ = some (.slice A2 n2 c2)
  lt : g < N
theorem Two.below {w w' : World} {N g : Nat} {A1 : Option Addr} {n1 c1 : Nat} {A2 : Option Addr} {n2 c2 : Nat} (h : Two w N g A1 n1 c1 A2 n2 c2) (hb : Below N w w') : Two w' N g A1 n1 c1 A2 n2 c2 :=
  ⟨by rw [hb.cell (p := ⟨g, 0, none⟩) h.lt]; exact h.c0, by rw [hb.cell (p := ⟨g, 1, none⟩) h.lt]; exact h.c1, h.lt⟩
/-- a call hands back a row of its own -/
def Owns (B : Nat) (n : Nat) (xs : List Value) (w : World) (e : Ending) (w' : World) : Prop :=
  ∃ v, e = .returned v ∧ w'.ownsRow B 46 2 v n xs ∧ Below B w w'
theorem grow_none (n : Nat) (w : World) (h : n ≤ 2000000) : Calls Try.prog 84 #[.slice none 0 0, .int .i64 n] w (Owns w.heap.size 0 [] w) := by
  by_cases h0 : n = 0
  · subst h0
    exact (Any8.slices_Grow_room Try.growB none 0 0 0 w (by omega) (by omega) (by omega) (by omega)).mono fun e w' ⟨h1, h2⟩ => ⟨_, h1, by rw [h2]; exact World.ownsRow_nil _ _ _ _, by rw [h2]; exact Below.refl _ _⟩
  · obtain ⟨i0, hi, hz0, hz1, hz2⟩ := info_parts info46
    refine (Any8.slices_Grow_grow Try.growB i0 _ hi hz0 (by omega) none 0 0 n [] w (by omega) (by omega) (by rw [hz2]; omega) (by omega) (by simp) (fun _ => rfl) (fun a h => by cases h)).mono ?_
    rintro e w' ⟨rfl, rfl⟩
    have hg := grownCap_ge w (0 + n) 0 46
    have hm := grownCap_le_maxLen w (0 + n) 0 46 (by unfold maxLen; omega)
    refine ⟨_, rfl, ⟨rfl, .inr ⟨w.heap.size, _, _, rfl, Nat.le_refl _, World.alloc_heap_new _ _, Nat.zero_le _, hm, ?_, by simp⟩⟩, ((Below.refl _ _).drew).alloc (Nat.le_refl _) _⟩
    show _ = grownCap w (0 + n) 0 46 * 2
    simp [Builtin.zeroCells, Value.cells, show Try.growB_ren.t 25 = 46 from rfl]
    simp at hg
    omega
set_option maxRecDepth 100000 in
set_option maxHeartbeats 4000000 in
theorem concat_any (g : Nat) (A1 A2 : Option Addr) (c1 c2 : Nat) (l m : List Sp) (w : World) (h2 : Two w w.heap.size g A1 l.length c1 A2 m.length c2) (hl : l.length ≤ 1000000) (hm : m.length ≤ 1000000)
    (hR1 : Re w w.heap.size A1 l) (hR2 : Re w w.heap.size A2 m) (hf1 : Plain A1 c1) (hf2 : Plain A2 c2) :
    Calls Try.prog 62 #[.slice (some ⟨g, 0, none⟩) 2 2] w (Gives (l ++ m) w) := by
  have HT := Lib.hid h2
  have HR1 := Lib.hid hR1
  have HR2 := Lib.hid hR2
  have HF1 := Lib.hid hf1
  have HF2 := Lib.hid hf2
  have t0 := h2.c0
  have t1 := h2.c1
  have HG := Lib.hid (fun W => grow_none (l.length + m.length) W (by omega))
  clear h2 hR1 hR2 hf1 hf2
  have s0 : ((0 : Int) + (l.length : Int)) = (l.length : Int) := by omega
  go_enter Try.func62, Try.ntmps62
  go_wp2_with fail
  refine wp_loop_rounds 3 ?_
  rw [rounds_succ]
  go_wp2_with fail
  rw [rounds_succ]
  go_wp2_with fail
  rw [rounds_succ]
  go_wp2_with fail
  have hG := HG.out w
  rw [show ((l.length + m.length : Nat) : Int) = (l.length : Int) + (m.length : Int) by omega] at hG
  refine hG.mono ?_
  rintro e w1 ⟨v, rfl, hown, hb⟩
  have t0 : w1.cell? ⟨g, 0, none⟩ = some (.slice A1 l.length c1) := (HT.out.below hb).c0
  have t1 : w1.cell? ⟨g, 1, none⟩ = some (.slice A2 m.length c2) := (HT.out.below hb).c1
  have HR1 := Lib.hid (HR1.out.below hb)
  have HR2 := Lib.hid (HR2.out.below hb)
  have HO := Lib.hid hown
  have HB := Lib.hid hb
  clear hG hown hb
  go_wp2_with fail
  refine wp_loop_rounds 3 ?_
  rw [rounds_succ]
  have hbz := HB.out.size
  go_wp2_with (at_builtin; refine wpList_append_re rfl _ _ rfl w.heap.size w.heap.size _ 0 [] rfl HO.out A1 c1 l rfl HR1.out HF1.out (by omega) hbz ?_; intro v2 w2 hown2 hgrow2)
  have hrow2 := fun j hj => (HO.out.lt j hj).1
  have HB2 := Lib.hid (HB.out.grown hgrow2 hbz (fun j hj => hrow2 j hj))
  have hb12 : Below w.heap.size w1 w2 := (Below.refl _ _).grown hgrow2 hbz (fun j hj => hrow2 j hj)
  have t1 : w2.cell? ⟨g, 1, none⟩ = some (.slice A2 m.length c2) := by rw [hb12.cell (p := ⟨g, 1, none⟩) HT.out.lt]; exact t1
  have HR2 := Lib.hid (HR2.out.below hb12)
  have HO2 := Lib.hid (show w2.ownsRow w.heap.size 46 2 v2 l.length (flat l) by simpa using hown2)
  have hbz2 := HB2.out.size
  clear hown2 hgrow2 hrow2 hb12 t0 HO HB hbz
  rw [rounds_succ]
  go_wp2_with (at_builtin; refine wpList_append_re rfl _ _ rfl w.heap.size w.heap.size _ _ (flat l) rfl HO2.out A2 c2 m rfl HR2.out HF2.out (by omega) hbz2 ?_; intro v3 w3 hown3 hgrow3)
  have hrow3 := fun j hj => (HO2.out.lt j hj).1
  have HB3 := Lib.hid (HB2.out.grown hgrow3 hbz2 (fun j hj => hrow3 j hj))
  have HO3 := Lib.hid (show w3.ownsRow w.heap.size 46 2 v3 (l ++ m).length (flat (l ++ m)) by rw [flat_append, List.length_append]; exact hown3)
  clear hown3 hgrow3 hrow3 HB2 HO2
  rw [rounds_succ]
  go_wp2_with fail
  go_ret
  obtain ⟨A', c', rfl, h3, h4⟩ := re_of_own HO3.out
  exact ⟨A', c', rfl, h3, h4, HB3.out⟩
end Go.Proofs.Yteekccjfokoglaa
