/-
  Reach of the program, with the row that it gives. Conditions: the slices read as a graph of at most 900 nodes with at most 1000 successors each, and as at most 1000 numbers.
-/
import Derived.Test.YthgfomjmkmkhkaaVB
namespace Go.Proofs.Ythgfomjmkmkhkaa
open Go.RowKit
set_option linter.unusedSimpArgs false
set_option linter.unusedVariables false
/-- a row of Booleans that the call has made -/
def GivesR (F : Nat → Bool) (n : Nat) (w : World) : Ending → World → Prop := fun e w' => ∃ r, e = .returned (.slice (some ⟨r, 0, none⟩) n n) ∧ w.heap.size ≤ r ∧ r < w'.heap.size ∧ BF w' r n F ∧ Below w.heap.size w w'
theorem reach_mut {g : Gr} {a b : Nat} (ha : a < g.length) (hb : b < g.length) : (rchB g [(a : Int)] b && rchB g [(b : Int)] a) = true ↔ Mut g a b := by
  have k : ∀ x y : Nat, x < g.length → (Rch g [(x : Int)] y ↔ x = y ∨ Con g x y) := fun x y hx => by
    rw [rch_iff]
    constructor
    · rintro ⟨z, hz, _, h⟩
      have hz2 : (z : Int) = (x : Int) := by simpa using hz
      obtain rfl : z = x := by omega
      exact h
    · intro h; exact ⟨x, by simp, hx, h⟩
  rw [Bool.and_eq_true, rchB_iff, rchB_iff, k a b ha, k b a hb]
  constructor
  · rintro ⟨rfl | h1, h2⟩
    · exact Or.inl rfl
    · rcases h2 with h2 | h2
      · exact Or.inl h2.symm
      · exact Or.inr ⟨h1, h2⟩
  · rintro (rfl | ⟨h1, h2⟩)
    · exact ⟨Or.inl rfl, Or.inl rfl⟩
    · exact ⟨Or.inr h1, Or.inr h2⟩
/-- rows of Booleans, in a row of rows that grows by append -/
structure MT (w : World) (B n i : Nat) (vo : Value) (T : Nat → Nat → Bool) : Prop where
  row : ∃ V : List Value, w.ownsRow B 27 1 vo i V ∧ ∀ j, j < i → ∃ r, V[j]? = some (.slice (some ⟨r, 0, none⟩) n n) ∧ r < w.heap.size ∧ BF w r n (T j) ∧ vo.ownBlock ≠ some r
theorem MT.keep {w w' : World} {B n i : Nat} {vo : Value} {T : Nat → Nat → Bool} (M : MT w B n i vo T) (hb : Below w.heap.size w w') : MT w' B n i vo T := by
  obtain ⟨V, h1, h2⟩ := M.row
  exact ⟨V, own_below h1 hb, fun j hj => by
    obtain ⟨r, e1, e2, e3, e4⟩ := h2 j hj
    exact ⟨r, e1, Nat.lt_of_lt_of_le e2 hb.size, e3.keep hb, e4⟩⟩
theorem MT.push {w w1 w2 : World} {B n i r : Nat} {vo v2 : Value} {T : Nat → Nat → Bool} {V : List Value} (h1 : w.ownsRow B 27 1 vo i V) (h2 : ∀ j, j < i → ∃ r, V[j]? = some (.slice (some ⟨r, 0, none⟩) n n) ∧ r < w.heap.size ∧ BF w r n (T j) ∧ vo.ownBlock ≠ some r)
    (hb : Below w.heap.size w w1) (hr : w.heap.size ≤ r) (hr2 : r < w1.heap.size) (hF : BF w1 r n (T i)) (hown : w2.ownsRow B 27 1 v2 (i + 1) (V ++ [.slice (some ⟨r, 0, none⟩) n n])) (hg : w1.grownBy w2 vo.ownBlock)
    (hd : v2.ownBlock = vo.ownBlock ∨ v2.ownBlock = some w1.heap.size) : MT w2 B n (i + 1) v2 T := by
  have hl : V.length = i := by simpa using h1.1
  have keep : ∀ s F, s < w1.heap.size → vo.ownBlock ≠ some s → BF w1 s n F → BF w2 s n F := by
    rintro s F hs hne ⟨ys, y1, y2⟩
    exact ⟨ys, row_block y1 (hg.block s hs (fun e => hne e.symm)), y2⟩
  have key : ∀ s, s < w1.heap.size → vo.ownBlock ≠ some s → v2.ownBlock ≠ some s := by
    intro s hs hne e
    rcases hd with hd | hd
    · exact hne (hd.symm.trans e)
    · rw [e] at hd; have := Option.some.inj hd; omega
  refine ⟨_, hown, fun j hj => ?_⟩
  rcases Nat.lt_or_ge j i with h | h
  · obtain ⟨s, e1, e2, e3, e4⟩ := h2 j h
    have hs1 : s < w1.heap.size := Nat.lt_of_lt_of_le e2 hb.size
    exact ⟨s, by rw [List.getElem?_append_left (by omega)]; exact e1, Nat.lt_of_lt_of_le hs1 hg.size, keep s _ hs1 e4 (e3.keep hb), key s hs1 e4⟩
  · obtain rfl : j = i := by omega
    have hne : vo.ownBlock ≠ some r := fun e => by have := (World.ownsRow.lt h1 r e).2; omega
    exact ⟨r, by rw [List.getElem?_append_right (by omega)]; simp [hl], Nat.lt_of_lt_of_le hr2 hg.size, keep r _ hr2 hne hF, key r hr2 hne⟩
theorem MT.at_ {w : World} {B n i j : Nat} {A : Option Addr} {c : Nat} {T : Nat → Nat → Bool} (M : MT w B n i (.slice A i c) T) (hj : j < i) :
    ∃ b r, A = some ⟨b, 0, none⟩ ∧ w.cell? ⟨b, j, none⟩ = some (.slice (some ⟨r, 0, none⟩) n n) ∧ ∀ k, k < n → w.cell? ⟨r, k, none⟩ = some (.bool (T j k)) := by
  obtain ⟨V, h1, h2⟩ := M.row
  obtain ⟨r, e1, e2, e3, e4⟩ := h2 j hj
  have hl : V.length = i := by simpa using h1.1
  rcases h1.2 with ⟨hv, h9⟩ | ⟨b, cap, cur, hv, _⟩
  · omega
  · injection hv with q1 q2 q3
    subst q1
    refine ⟨b, r, rfl, ?_, fun k hk => (e3.cell hk).2.1⟩
    rw [World.ownsRow.cellAt h1 j (by omega)]
    exact e1
theorem wpList_append_row {w : World} {ops : Array Oper} {rest : List Oper} {o : Oper} {a : Act} {Q : Exit → Act → World → Prop} (hgd : o.guard = none) (s x : Operand)
    (ho : o.op = .call { callee := .builtin .append, args := #[s, x], argTypes := #[38, 38] })
    (base : Nat) (v : Value) (i : Nat) (V : List Value) (u : Value) (hu : u.oneCell' = true) (hs : a.eval s = v) (hown : w.ownsRow base 27 1 v i V)
    (g : Nat) (hx : a.eval x = .slice (some ⟨g, 0, none⟩) 1 1) (hb : w.heap[g]? = some (.cells #[u] 27 (0, 0))) (hn : i ≤ 1000) (hbase : base ≤ w.heap.size)
    (h : ∀ v' w', Hid (w'.ownsRow base 27 1 v' (i + 1) (V ++ [u])) → w.grownBy w' v.ownBlock → (v'.ownBlock = v.ownBlock ∨ v'.ownBlock = some w.heap.size) → wpList Try.prog ops Q rest (a.put o.dst v') w') : wpList Try.prog ops Q (o :: rest) a w := by
  obtain ⟨i0, hi, hz0, hz1, hz2⟩ := info_parts Try.info27
  refine wpList_append_own_at w hgd s x 38 ho base 27 i0 (.slice none 0 0) 1 24 Try.underlying38 hi hz0 hz1 hz2 rfl (by decide) v i V hs hown ⟨g, 0, none⟩ 1 1 [u] hx rfl ?_ (by intro u' hu'; simp at hu'; subst hu'; exact hu) (by unfold maxLen; omega) (by omega) hbase (fun v' w' h1 h2 _ h3 => h v' w' h1 h2 h3)
  intro j u' hj
  rw [show (⟨g, 0, none⟩ : Addr).add j = ⟨g, j, none⟩ by simp [Addr.add]; exact fun e => e.symm, Lib.cell_of_heap hb, ← Array.getElem?_toList]
  exact hj
set_option maxRecDepth 100000 in
set_option maxHeartbeats 8000000 in
theorem reach_row (A A1 : Option Addr) (c c1 : Nat) (gs : Gr) (xs : List Int) (w : World) (h : RG w w.heap.size A gs) (hi : RI w w.heap.size A1 xs) (hl : gs.length ≤ 900) (hl2 : ∀ l ∈ gs, l.length ≤ 1000) (hl3 : xs.length ≤ 1000) :
    Calls Try.prog 15 #[.slice A gs.length c, .slice A1 xs.length c1] w (GivesR (rchB gs xs) gs.length w) := by
  have HI := Lib.hid hi
  have HVIS := Lib.hid (see_any A c gs w h gs.length rfl hl hl2 (Rch gs xs) (fun a b ha e => ha.step e))
  have HM1 := Try.make27 gs.length (by omega) (w.alloc (.cells #[.slice A gs.length c] 22))
  obtain ⟨n, hn⟩ : ∃ n, gs.length = n := ⟨_, rfl⟩
  have HN := Lib.hid hn
  rw [hn] at hl HVIS HM1 ⊢
  clear h hl2 hn hi
  obtain ⟨hc5, hf5, hv5⟩ := rv_start w A c n (by omega) _ rfl
  have HV5 := Lib.hid hv5
  clear hv5
  go_enter Try.func15, Try.ntmps15
  go_wp2_with fail
  rw [run_store _ _ _ _ _ rfl, hc5]
  simp only [hf5, Bool.false_eq_true, if_false]
  rw [← visV]
  go_wp2_with fail
  generalize ((((((w.alloc (Obj.cells #[Value.slice A n c] 22)).alloc (Obj.cells (madeCells #[Value.bool false] n) 4)).alloc (Obj.cells #[Value.slice (some { block := w.heap.size + 1, off := 0 }) n n] 27)).alloc (Obj.cells #[Value.slice none 0 0] 23))).alloc (Obj.cells #[visV w] 40)) = w5 at *
  clear hc5 hf5 HM1
  go_loopw [9, 17] (fun _ s17 wr => ∃ (i : Nat) (G : Nat → Bool), s17 = .int .i64 (i : Int) ∧ i ≤ xs.length ∧ Hid (VS w wr A c n G) ∧ Hid (Vis gs (Rch gs xs) (fun _ => false) G) ∧ Hid (∀ i' (m : Nat), i' < i → xs[i']? = some (m : Int) → m < n → G m = true)) (fun _ s17 _ => (xs.length - intOf s17).toNat)
  case atStart => exact ⟨0, _, rfl, by omega, HV5, Lib.hid (Vis.refl _ _ _), Lib.hid (fun i' m hi => by omega)⟩
  case round =>
    clear HV5
    obtain ⟨i, G, rfl, hi, HVG, HVI, HJ⟩ := hrel
    have g4 := HVG.out.g4
    by_cases hlt : i < xs.length
    · have hii : (i : Int) < (xs.length : Int) := by omega
      have hi0 : (0 : Int) ≤ (i : Int) := by omega
      have HIK := Lib.hid (show i + 1 ≤ xs.length by omega)
      obtain ⟨ax, hAx, _, cx⟩ := (HI.out.below HVG.out.below).at_ i hlt
      subst hAx
      have HXI : Hid (xs[i]? = some xs[i]) := Lib.hid (List.getElem?_eq_getElem hlt)
      generalize xs[i] = x at *
      have CE := Lib.hid (HVIS.out (n - cnt G n) G x 0 wr rfl (Nat.zero_le _) HVG.out (fun m hm hmn => ⟨m, by rw [← hm]; exact List.mem_of_getElem? HXI.out, 0, Walk.nil m (by rw [HN.out]; exact hmn)⟩))
      unfold visV at g4
      clear hlt
      go_wp2_with fail
      refine CE.out.mono ?_
      rintro e w6 ⟨rfl, G5, hv5, hi5, hm5⟩
      have HV5 := Lib.hid hv5
      have HI5 := Lib.hid (HVI.out.trans hi5)
      have HJ5 : Hid (∀ i' (m : Nat), i' < i + 1 → xs[i']? = some (m : Int) → m < n → G5 m = true) := Lib.hid (fun i' m hi hm hmn => by
        rcases Nat.lt_or_ge i' i with h | h
        · exact hi5.stay m (by rw [HN.out]; exact hmn) (HJ.out i' m h hm hmn)
        · obtain rfl : i' = i := by omega
          rw [HXI.out] at hm
          exact hm5 m (Option.some.inj hm) hmn)
      clear hv5 hi5 hm5 CE HVG HVI HJ g4 cx
      go_wp2_with fail
      go_roundw
      case rel => exact ⟨i + 1, G5, by go_num, HIK.out, HV5, HI5, HJ5⟩
      case measure => have := HIK.out; first | (simp [intOf]; done) | (simp [intOf]; omega)
    · obtain rfl : i = xs.length := by omega
      have hki : ¬ (xs.length : Int) < (xs.length : Int) := by omega
      have HZ : Hid (∀ b, b < n → G b = rchB gs xs b) := Lib.hid (fun b hb => vis_all HVI.out (fun m hm hmn => by
        obtain ⟨i, hi, he⟩ := List.getElem_of_mem hm
        exact HJ.out i m hi (by rw [List.getElem?_eq_getElem hi, he]) (by rw [← HN.out]; exact hmn)) b (by rw [HN.out]; exact hb))
      clear hlt g4 HJ HVI
      go_wp2_with fail
      obtain ⟨wr9, rfl⟩ : ∃ x, x = wr := ⟨_, rfl⟩
      go_loopw [10] (fun _ wr => wr = wr9) (fun _ _ => 0)
      case atStart => rfl
      case round =>
        obtain rfl := hrel
        have g3 := HVG.out.g3
        have g2 := HVG.out.g2
        go_wp2_with fail
        go_ret
        exact ⟨w.heap.size + 1, rfl, by omega, by have := HVG.out.size; omega, HVG.out.bf.congr HZ.out, HVG.out.below⟩
end Go.Proofs.Ythgfomjmkmkhkaa
