/-
  Quote returns the literal of its string, for every string of at most 2^40 bytes. No other condition.
-/
import Derived.Test.YthlcdimofagmfaaGreatDoorQC
namespace Go.Proofs.YthlcdimofagmfaaGreatDoor.Qt
open Go.RowKit Go.Shelf
set_option linter.unusedSimpArgs false
set_option linter.unusedVariables false
attribute [local go_sem] Oper.semAt_some

/-- the bytes of a literal, between its quotes -/
def body (l : List UInt8) : List UInt8 := l.flatMap wrB
def quoteL (l : List UInt8) : List UInt8 := [34] ++ body l ++ [34]
theorem wrB_len (c : UInt8) : (wrB c).length ≤ 4 := by unfold wrB; (repeat' split) <;> simp
theorem body_len (l : List UInt8) : (body l).length ≤ 4 * l.length := by
  induction l with
  | nil => simp [body]
  | cons c t ih => have := wrB_len c; simp [body] at ih ⊢; omega
theorem body_snoc (l : List UInt8) (c : UInt8) : body (l ++ [c]) = body l ++ wrB c := by simp [body]
theorem strCells_of (l : List UInt8) : Lib.strCells ⟨l.toArray⟩ = Lib.byteCells l := by simp [Lib.strCells, Lib.byteCells]
theorem byteCells_app (a b : List UInt8) : Lib.byteCells (a ++ b) = Lib.byteCells a ++ Lib.byteCells b := by simp [Lib.byteCells]
/-- a builder, in the blocks of a call -/
def Bld (B b : Nat) (l : List UInt8) (w : World) : Prop := Lib.IsBuilderF 84 5 B b (Lib.byteCells l) w
theorem bld_own (B b : Nat) (f : List UInt8 → List UInt8) : Own (fun (pre : List UInt8) W => Bld B b (f pre) W) := by
  intro s A C row hs hg hr
  have key : ∀ p, Lib.BuilderAtF 84 5 B b p (Lib.byteCells (f s)) A → Lib.BuilderAtF 84 5 B b p (Lib.byteCells (f s)) C := by
    rintro p ⟨hB, v, hbk, hown, hne⟩
    have hcells : ∀ (k : Nat) (o : Obj), A.heap[k]? = some o → o.isCells = true → C.heap[k]? = some o := by
      intro k o hk ho
      rw [hg.block k (Array.getElem?_eq_some_iff.1 hk).1]
      · exact hk
      · intro e
        obtain ⟨o', ho', hc⟩ := hr k e.symm
        rw [hk] at ho'; cases ho'; rw [ho] at hc; cases hc
    refine ⟨hB, v, hcells b _ hbk rfl, ?_, hne⟩
    refine ⟨hown.1, ?_⟩
    rcases hown.2 with h | ⟨g, cap, cur, fz, hv, hbg, hgk, r⟩
    · exact .inl h
    · exact .inr ⟨g, cap, cur, fz, hv, hbg, hcells g _ hgk rfl, r⟩
  rcases hs with h | h
  · exact .inl (key _ h)
  · exact .inr (key _ h)
theorem keeps_of {B b : Nat} {l : List UInt8} {w w' : World} (h : Lib.OthersKept 5 (some b) w w') (hb : Bld B b l w) (hsz : w.heap.size ≤ w'.heap.size) : KeepsOthers w w' := by
  refine ⟨hsz, fun k o hk ho => h k o hk ?_ ?_⟩
  · intro e
    cases e
    rcases hb with h | h <;> (obtain ⟨_, v, hbk, _⟩ := h; rw [hk] at hbk; cases hbk; cases ho)
  · intro c fz e; subst e; cases ho
theorem kpS_of {pc b : Nat} {s : ByteArray} {w w' : World} (h : Lib.OthersKept 5 (some b) w w') (hne : pc ≠ b) : KpS pc s w w' := by
  intro hx
  refine h pc _ hx (fun e => hne (by injection e)) ?_
  intro c fz e
  cases e
theorem grow_at (n : Nat) (hn : n ≤ 1099511627776) (w : World) (hbk : w.heap[w.heap.size - 1]? = some (.cells #[.pointer none, .slice none 0 0] 84 (0, 0))) (B : Nat) (hB : B = w.heap.size - 1) :
    Calls Tryz.prog 59 #[.pointer (some ⟨B, 0, none⟩), .int .i64 ((n : Int) + 2)] w fun e w' => e = .returned (.tuple #[]) ∧ Bld B B [] w' ∧ Below B w w' := by
  subst hB
  have := Tryz.Builder_Grow_fresh (w.heap.size - 1) (w.heap.size - 1) (n + 2) w (Nat.le_refl _) hbk (by omega) (by omega)
  rw [show ((n + 2 : Nat) : Int) = (n : Int) + 2 by omega] at this
  refine this.mono ?_
  rintro e w' ⟨rfl, h1, h2⟩
  exact ⟨rfl, Lib.IsBuilderF.of (.inr h1), h2⟩
theorem wbyte_at {B b : Nat} {l : List UInt8} (c : UInt8) (w : World) (h : Bld B b l w) (hlen : l.length ≤ 70368744177664) (hBw : B ≤ w.heap.size) :
    Calls Tryz.prog 60 #[.pointer (some ⟨b, 0, none⟩), .int .u8 (c.toNat : Int)] w fun e w' => e = .returned .nilIface ∧ Bld B b (l ++ [c]) w' ∧ Below B w w' ∧ Lib.OthersKept 5 (some b) w w' := by
  refine (Tryz.writeByte B b (Lib.byteCells l) c.toNat w h (by simp [Lib.byteCells]; omega) hBw).mono ?_
  rintro e w' ⟨rfl, h1, h2, h3⟩
  refine ⟨rfl, .inr ?_, h2, h3⟩
  rw [byteCells_app]; exact h1
theorem wstr_at {B b : Nat} {l : List UInt8} (x : List UInt8) (w : World) (h : Bld B b l w) (hlen : l.length ≤ 70368744177664) (hx : x.length ≤ 1048576) (hBw : B ≤ w.heap.size) :
    Calls Tryz.prog 52 #[.pointer (some ⟨b, 0, none⟩), .string ⟨x.toArray⟩] w fun e w' => (∃ n, e = .returned (.tuple #[.int .i64 n, .nilIface])) ∧ Bld B b (l ++ x) w' ∧ Below B w w' ∧ Lib.OthersKept 5 (some b) w w' := by
  refine (Tryz.writeString B b (Lib.byteCells l) ⟨x.toArray⟩ w h (by simp [Lib.byteCells, ByteArray.size]; omega) hBw).mono ?_
  rintro e w' ⟨rfl, h1, h2, h3⟩
  refine ⟨⟨_, rfl⟩, .inr ?_, h2, h3⟩
  rw [byteCells_app, ← strCells_of x]; exact h1
theorem bstring_at {B b : Nat} {l : List UInt8} (w : World) (h : Bld B b l w) (hBw : B ≤ w.heap.size) :
    Calls Tryz.prog 55 #[.pointer (some ⟨b, 0, none⟩)] w fun e w' => e = .returned (.string ⟨l.toArray⟩) ∧ Bld B b l w' ∧ Below B w w' ∧ Lib.OthersKept 5 (some b) w w' := by
  refine (Tryz.builderString B b l w h hBw).mono ?_
  rintro e w' ⟨rfl, h1, h2, h3⟩
  exact ⟨rfl, h1, h2, h3⟩
theorem Bld.lt {B b : Nat} {l : List UInt8} {w : World} (h : Bld B b l w) : b < w.heap.size := by
  rcases h with h | h <;> (obtain ⟨_, v, hbk, _⟩ := h; exact (Array.getElem?_eq_some_iff.1 hbk).1)

set_option maxRecDepth 100000 in
set_option maxHeartbeats 2000000 in
theorem quote_any (s : ByteArray) (hs : s.size ≤ 1099511627776) (w : World) :
    Calls Tryz.prog 36 #[.string s] w fun e w' => e = .returned (.string ⟨(quoteL s.data.toList).toArray⟩) ∧ Below w.heap.size w w' := by
  refine (callsIn_wide (n := 8)).1 ?_
  refine callsIn_of_wp_marks Tryz.func36 rfl trivial ?_ rfl
  simp only [Tryz.ntmps36, List.size_toArray, List.length_cons, List.length_nil, Nat.reduceAdd, Nat.reduceSub, Array.replicate_succ, Array.replicate_zero, List.push_toArray, List.append_toArray, List.nil_append, List.cons_append]
  gi_wp2_with fail
  refine ⟨trivial, ?_⟩
  refine (callsIn_wide.2 (grow_at s.size hs _ (by rw [World.size_alloc, Nat.add_sub_cancel]; exact World.alloc_heap_new _ _) _ (by rw [World.size_alloc, Nat.add_sub_cancel]))).mono ?_
  rintro e w1 ⟨rfl, b1, hb1⟩
  have B1 : Below w.heap.size w w1 := ((Below.refl w.heap.size w).alloc (Nat.le_refl _) _).trans hb1
  clear hb1
  gi_wp2_with fail
  refine ⟨trivial, ?_⟩
  refine (callsIn_wide.2 (wbyte_at 34 w1 b1 (by simp) B1.size)).mono ?_
  rintro e w2 ⟨rfl, b2, hb2, _⟩
  have B2 : Below w.heap.size w w2 := B1.trans hb2
  have l2 := b2.lt
  clear hb2 b1 B1
  gi_wp2_with fail
  refine ⟨trivial, ?_⟩
  refine (escapes_in Fence.wide _ trivial rfl s w2).mono ?_
  rintro e w3 ⟨rfl, rfl⟩
  gi_wp2_with fail
  have hbl := body_len s.data.toList
  have hln : s.data.toList.length = s.size := by simp
  have hW3 : Below w.heap.size w (w2.alloc (.cells #[.string s] 9)) := B2.alloc B2.size _
  have b3 : Bld w.heap.size w.heap.size [34] (w2.alloc (.cells #[.string s] 9)) := by
    refine bld_own w.heap.size w.heap.size (fun _ => [34]) [] w2 _ none b2 (World.grownBy_alloc _ _ _) (fun r e => by cases e)
  have hpc : (w2.alloc (.cells #[.string s] 9)).heap[w2.heap.size]? = some (.cells #[.string s] 9 (0, 0)) := World.alloc_heap_new _ _
  refine wpIn_rangeFunc_ownF rfl (by omega) (gf := 97) (lb := #[.pointer (some ⟨w2.heap.size, 0, none⟩)]) rfl trivial (enters_of Tryz.func97 (by kernel_rfl) rfl)
    (esc_stops 7 (by omega) w2.heap.size s (by omega) _ hpc) kpS_t kpS_b (Below.refl _ _) (fun _ => rfl)
    (fun pre W => Bld w.heap.size w.heap.size ([34] ++ body pre) W ∧ Below w.heap.size w W)
    (fun _ _ _ => False)
    (OwnFrom.and (Own.from (bld_own w.heap.size w.heap.size (fun pre => [34] ++ body pre)) _) (ownFrom_below (Nat.le_refl _) (by have := B2.size; simp; omega)))
    (fun _ _ _ _ _ hs _ _ => hs)
    ⟨b3, hW3⟩
    (fun x => { tmps := #[.string s, undef, .string ⟨#[]⟩, .pointer (some ⟨w.heap.size, 0, none⟩), .string ⟨(wrB x).toArray⟩, .string s, .int .i64 s.size, .int .i64 ((s.size : Int) + 2), .tuple #[], .nilIface, .string s, .func (.func 97) #[] #[.pointer (some ⟨w2.heap.size, 0, none⟩)], .string ⟨(wrB x).toArray⟩, undef, undef, undef, undef], defers := [] }) ?assign ?body ?done ?stop
  case assign =>
    intro l x W K hK
    gi_wp2
    exact hK
  case body =>
    rintro l pre x W ⟨hb, hB⟩ hlen
    have h4 := body_len pre
    gi_wp2_with fail
    refine ⟨trivial, ?_⟩
    refine (CallsIn.inRound l (callsIn_wide.2 (wstr_at (wrB x) W hb (by simp; omega) (by have := wrB_len x; omega) hB.size))).mono ?_
    rintro e W1 ⟨⟨nn, rfl⟩, hb1, hB1, hk1⟩
    gi_wp2_with fail
    exact ⟨keeps_of hk1 hb hB1.size, kpS_of hk1 (by omega), by rw [body_snoc, ← List.append_assoc]; exact hb1, hB.trans hB1⟩
  case done =>
    rintro D xs W hD rfl ⟨hb, hB⟩ hK
    gi_wp2_with fail
    refine ⟨trivial, ?_⟩
    refine (callsIn_wide.2 (wbyte_at 34 W hb (by simp; omega) hB.size)).mono ?_
    rintro e W1 ⟨rfl, hb1, hB1, hk1⟩
    have hK1 := (keeps_of hk1 hb hB1.size).same D _ hK rfl
    have hBB := hB.trans hB1
    gi_wp2_with fail
    refine ⟨trivial, ?_⟩
    refine (callsIn_wide.2 (bstring_at W1 hb1 hBB.size)).mono ?_
    rintro e W2 ⟨rfl, hb2', hB2, hk2⟩
    have hK2 := (keeps_of hk2 hb1 hB2.size).same D _ hK1 rfl
    have hBC := hBB.trans hB2
    have hDw : w.heap.size ≤ D := by have := B2.size; simp at hD; omega
    gi_wp2_with fail
    refine ⟨by simp, .inl ⟨_, _, rfl, run_takeDeferred hK2, ?_⟩⟩
    exact ⟨_, results_tmp rfl _ _ _, rfl, hBC.trans (belowK_b (w := w) (Nat.le_refl _) W2 D _ _ hDw hK2 rfl rfl)⟩
  case stop =>
    rintro D c pre W _ _ h _
    exact h.elim
end Go.Proofs.YthlcdimofagmfaaGreatDoor.Qt
