/-
  Invert of the program and of the specification. Conditions: the slice reads as a list of at most 20 edits with texts of at most 60 bytes; the text has at most 100000 bytes.
-/
import Derived.Test.YtlanjfjmffcgdaaI
namespace Go.Proofs.Ytlanjfjmffcgdaa
open Go.RowKit
set_option linter.unusedSimpArgs false
set_option linter.unusedVariables false
/-- edits as cells -/
def flat3 (xs : List Ed) : List Value := xs.flatMap fun x => [.int .i64 x.1, .int .i64 x.2.1, .string x.2.2]
theorem flat3_snoc (xs : List Ed) (x : Ed) : flat3 (xs ++ [x]) = flat3 xs ++ [.int .i64 x.1, .int .i64 x.2.1, .string x.2.2] := by simp [flat3]
theorem flat3_len (xs : List Ed) : (flat3 xs).length = xs.length * 3 := by
  induction xs with
  | nil => rfl
  | cons x t ih => unfold flat3 at *; rw [List.flatMap_cons, List.length_append, ih]; simp; omega
theorem flat3_at : ∀ (xs : List Ed) (k : Nat) (h : k < xs.length), (flat3 xs)[k * 3]? = some (.int .i64 xs[k].1) ∧ (flat3 xs)[k * 3 + 1]? = some (.int .i64 xs[k].2.1) ∧ (flat3 xs)[k * 3 + 2]? = some (.string xs[k].2.2)
  | [], k, h => by simp at h
  | x :: xs, 0, _ => ⟨rfl, rfl, rfl⟩
  | x :: xs, k + 1, h => by
    have := flat3_at xs k (by simpa using h)
    have e : flat3 (x :: xs) = .int .i64 x.1 :: .int .i64 x.2.1 :: .string x.2.2 :: flat3 xs := rfl
    rw [e, show (k + 1) * 3 = k * 3 + 3 by omega]
    exact this
theorem Try.info35 : (Try.prog.info? 35).map (fun i => (i.zero, i.size, i.bytes)) = some (some (.agg #[.int .i64 0, .int .i64 0, .string ⟨#[]⟩]), 3, 32) := by kernel_rfl
theorem re_cells {W : World} {B : Nat} {ad : Addr} {xs : List Ed} (hB : ad.block < B) (hc : ∀ j u, (flat3 xs)[j]? = some u → W.cell? (ad.add j) = some u) : Re W B (some ad) xs :=
  ⟨fun k hk => by
    obtain ⟨f0, f1, f2⟩ := flat3_at xs k hk
    refine ⟨ad, rfl, hB, hc _ _ f0, ?_, ?_⟩
    · have := hc _ _ f1
      rw [← add_of_add] at this
      have e : (ad.add (k * 3)).add 1 = ⟨(ad.add (k * 3)).block, (ad.add (k * 3)).off + 1, none⟩ := by simp [Addr.add]
      rw [e] at this
      exact this
    · have := hc _ _ f2
      rw [← add_of_add] at this
      have e : (ad.add (k * 3)).add 2 = ⟨(ad.add (k * 3)).block, (ad.add (k * 3)).off + 2, none⟩ := by simp [Addr.add]
      rw [e] at this
      exact this⟩
/-- a row of the call's own reads as its list -/
theorem re_own {W : World} {B : Nat} {v : Value} {xs : List Ed} (h : W.ownsRow B 35 3 v xs.length (flat3 xs)) : ∃ A c, v = .slice A xs.length c ∧ xs.length ≤ c ∧ Re W W.heap.size A xs := by
  rcases id h.2 with ⟨hv, hn⟩ | ⟨g, cap, cur, hv, hbg, hg, hle, r⟩
  · have : xs = [] := List.eq_nil_of_length_eq_zero hn
    subst this
    exact ⟨none, 0, hv, Nat.le_refl _, re_nil _ _ _⟩
  · subst hv
    exact ⟨some ⟨g, 0, none⟩, cap, rfl, hle, re_cells (Array.getElem?_eq_some_iff.1 hg).1 (h.cells rfl)⟩
theorem step_append_ed {ops : Array Oper} {o : Oper} {a : Act} {w : World} {K : Act → World → Prop} {Q : Exit → Act → World → Prop} {E : Prop} (hgd : o.guard = none) (s x : Operand)
    (ho : o.op = .call { callee := .builtin .append, args := #[s, x], argTypes := #[22, 22] }) (base : Nat) (v : Value) (acc : List Ed) (y : Ed) (hs : a.eval s = v)
    (hown : w.ownsRow base 35 3 v acc.length (flat3 acc)) (b : Nat) (hx : a.eval x = .slice (some ⟨b, 0, none⟩) 1 1)
    (hb : w.heap[b]? = some (.cells #[.int .i64 y.1, .int .i64 y.2.1, .string y.2.2] 35 (0, 0))) (hlen : acc.length ≤ 1000) (hbase : base ≤ w.heap.size)
    (h : ∀ v' w', Hid (w'.ownsRow base 35 3 v' (acc ++ [y]).length (flat3 (acc ++ [y]))) → w.grownBy w' v.ownBlock → K (a.put o.dst v') w') :
    if Region.wanted o (yielded ops a.tmps) = true then Oper.wp Try.prog o a w K Q else E := by
  have hw : Region.wanted o (yielded ops a.tmps) = true := by simp [Region.wanted, hgd]
  rw [if_pos hw]
  obtain ⟨i0, hi, hz0, hz1, hz2⟩ := info_parts Try.info35
  refine wp_append_own w s x 22 ho base 35 i0 (.agg #[.int .i64 0, .int .i64 0, .string ⟨#[]⟩]) 3 32 Try.underlying22 hi hz0 hz1 hz2 rfl (by decide) v acc.length (flat3 acc) hs hown ⟨b, 0, none⟩ 1 1 [.int .i64 y.1, .int .i64 y.2.1, .string y.2.2] hx rfl ?_ ?_ ?_ ?_ hbase ?_
  · intro j u hj
    rw [show (⟨b, 0, none⟩ : Addr).add j = ⟨b, j, none⟩ by simp [Addr.add]; exact fun e => e.symm, Lib.cell_of_heap hb, ← Array.getElem?_toList]
    exact hj
  · intro u hu; simp at hu; rcases hu with rfl | rfl | rfl <;> rfl
  · unfold maxLen; omega
  · omega
  · intro v' w' h1 h2 _
    exact h v' w' (show w'.ownsRow base 35 3 v' (acc ++ [y]).length (flat3 (acc ++ [y])) by rw [flat3_snoc, List.length_append]; exact h1) h2
/-- the edits that change a text back -/
def invF (s : ByteArray) : Int → List Ed → List Ed
  | _, [] => []
  | b, x :: t => (x.1 + b, x.1 + b + (x.2.2.size : Int), s.extract x.1.toNat x.2.1.toNat) :: invF s (b + grw x) t
def invV (s : ByteArray) (xs : List Ed) : List Ed := if appE s xs ≠ 0 then [] else invF s 0 xs
theorem invF_at {s : ByteArray} {b : Int} {xs : List Ed} {k : Nat} (h : k < xs.length) : invF s b (xs.drop k) = (xs[k].1 + b, xs[k].1 + b + (xs[k].2.2.size : Int), s.extract xs[k].1.toNat xs[k].2.1.toNat) :: invF s (b + grw xs[k]) (xs.drop (k + 1)) := by
  rw [List.drop_eq_getElem_cons h]; rfl
theorem invF_end {s : ByteArray} {b : Int} {xs : List Ed} {k : Nat} (h : xs.length ≤ k) : invF s b (xs.drop k) = [] := by
  rw [List.drop_eq_nil_of_le h]; rfl
/-- what Invert returns -/
def InvP (w : World) (E : Int) (R : List Ed) (e : Ending) (w' : World) : Prop := ∃ v, e = .returned (.tuple #[v, .int .i64 E]) ∧ w'.ownsRow w.heap.size 35 3 v R.length (flat3 R) ∧ Below w.heap.size w w'
set_option maxRecDepth 100000 in
set_option maxHeartbeats 8000000 in
theorem invert_any (s : ByteArray) (A : Option Addr) (c : Nat) (xs : List Ed) (hs : s.size ≤ 100000) (hx : xs.length ≤ 20) (ht : ∀ x ∈ xs, x.2.2.size ≤ 60) (w : World) (h : Re w w.heap.size A xs) :
    Calls Try.prog 19 #[.string s, .slice A xs.length c] w (InvP w (appE s xs) (invV s xs)) := by
  have C0 := Lib.hid (apply_any s A c xs hs hx (fun x hx => by have := ht x hx; omega) w h)
  have H := Lib.hid h
  clear h
  by_cases hz : appE s xs = 0
  · have HI : Hid (∀ k (hk : k < xs.length), 0 ≤ xs[k].1 ∧ xs[k].1 ≤ xs[k].2.1 ∧ xs[k].2.1 ≤ (s.size : Int) ∧ xs[k].2.2.size ≤ 60) := Lib.hid fun k hk => by
      have hc : chkL (s.size : Int) xs = 0 := by
        by_cases hc : chkL (s.size : Int) xs = 0
        · exact hc
        · have := (appE_1 hc).1; omega
      obtain ⟨e0, e1, e2⟩ := insA_mem (chk_zero hc).1 hk
      exact ⟨e0, e1, e2, ht _ (List.getElem_mem hk)⟩
    have HR : Hid (([] : List Ed) ++ invF s 0 (xs.drop 0) = invV s xs) := Lib.hid (by unfold invV; rw [if_neg (by omega)]; simp)
    rw [hz] at C0 ⊢
    generalize appS s xs = RS at *
    generalize invV s xs = R at *
    clear hz ht
    go_enter Try.func19, Try.ntmps19
    go_wp2_with fail
    refine C0.out.mono ?_
    rintro e w1 ⟨rfl, hb1⟩
    have HB1 := Lib.hid hb1
    clear hb1 C0
    go_wp2_with fail
    go_loopw [8, 9, 24] (fun v g i wr => ∃ (k : Nat) (b : Int) (acc : List Ed), i = .int .i64 (k : Int) ∧ g = .int .i64 b ∧ k ≤ xs.length ∧ -((k : Int) * 100000) ≤ b ∧ b ≤ (k : Int) * 60 ∧ Hid (acc.length = k) ∧ Hid (acc ++ invF s b (xs.drop k) = R) ∧ Hid (wr.ownsRow w.heap.size 35 3 v acc.length (flat3 acc)) ∧ Hid (Below w.heap.size w wr)) (fun _ _ i _ => xs.length - (intOf i).toNat)
    case atStart => exact ⟨0, 0, [], rfl, rfl, by omega, by omega, by omega, Lib.hid rfl, HR, Lib.hid (World.ownsRow_nil _ _ _ _), HB1⟩
    case round =>
      obtain ⟨k, b, acc, rfl, rfl, hk, hb0, hb1, HL, HS, HO, HB⟩ := hrel
      by_cases hlt : k < xs.length
      · obtain ⟨ad, rfl, hl, c0, c1, c2⟩ := (H.out.below HB.out).at_ k hlt
        obtain ⟨i0, i1, i2, i3⟩ := HI.out k hlt
        rw [invF_at hlt] at HS
        generalize xs[k] = x at *
        obtain ⟨f, t, u⟩ := x
        simp only at i0 i1 i2 i3 c0 c1 c2
        obtain ⟨f, rfl⟩ := Int.eq_ofNat_of_zero_le i0
        obtain ⟨t, rfl⟩ := Int.eq_ofNat_of_zero_le (show 0 ≤ t by omega)
        simp only [Int.toNat_natCast] at HS
        have q8 : (k : Int) < (xs.length : Int) := by omega
        have HB2 := Lib.hid (HB.out.alloc HB.out.size (.cells #[.int .i64 (f : Int), .int .i64 (t : Int), .string u] 35))
        have HBX := Lib.hid (box_new wr f t u)
        have HO2 := Lib.hid (HO.out.alloc (.cells #[.int .i64 (f : Int), .int .i64 (t : Int), .string u] 35))
        have CG : Hid (∀ W, Calls Try.prog 27 #[.agg #[.int .i64 (f : Int), .int .i64 (t : Int), .string u]] W fun e w' => e = .returned (.int .i64 ((u.size : Int) - ((t : Int) - (f : Int)))) ∧ Below W.heap.size W w') := Lib.hid fun W => growth_any f t u W i0 i1 (by omega) (by omega)
        obtain ⟨gr, hgr⟩ : ∃ gr, gr = (u.size : Int) - ((t : Int) - (f : Int)) := ⟨_, rfl⟩
        have g1 : -100000 ≤ gr := by omega
        have g2 : gr ≤ 60 := by omega
        have HS2 : Hid ((acc ++ [((f : Int) + b, (f : Int) + b + (u.size : Int), s.extract f t)]) ++ invF s (b + gr) (xs.drop (k + 1)) = R) := Lib.hid (by rw [← HS.out, hgr]; simp [grw])
        rw [← hgr] at CG
        have w1' : IntKind.i64.wrap ((f : Int) + b + (u.size : Int)) = (f : Int) + b + (u.size : Int) := IntWalk.i64_in _ (by omega)
        have w2' : IntKind.i64.wrap ((f : Int) + b) = (f : Int) + b := IntWalk.i64_in _ (by omega)
        have Hrw : Hid (∀ j, u8.ownBlock = some j → w.heap.size ≤ j ∧ j < wr.heap.size) := Lib.hid fun j hj => HO.out.lt j hj
        clear hgr HS HB HO
        go_wp2_with fail
        obtain ⟨b5, hb5⟩ : ∃ b5 : Nat, wr.heap.size = b5 := ⟨_, rfl⟩
        rw [hb5] at HBX Hrw ⊢
        generalize wr.alloc (.cells #[.int .i64 (f : Int), .int .i64 (t : Int), .string u] 35) = w4 at *
        clear hb5 c0 c1 c2
        obtain ⟨z0, x0, x1, x2⟩ := HBX.out.facts
        have q5 : (f : Int) ≤ (t : Int) := i1
        have q6 : (t : Int) ≤ (s.size : Int) := i2
        have HB3 : Hid (w.heap.size ≤ w4.heap.size) := Lib.hid HB2.out.size
        go_region_law (first | (refine step_append_ed rfl (.tmp 32) (.tmp 46) rfl w.heap.size u8 acc ((f : Int) + b, (f : Int) + b + (u.size : Int), s.extract f t) rfl (HO2.out.alloc _) w4.heap.size rfl ((MapKept.heap_alloc _ _).1) (by have := HL.out; omega) (by simp; have := HB3.out; omega) ?_; intro v5 w5 HO5 hg5))
        all_goals
          have HB5 : Hid (Below w.heap.size w w5) := Lib.hid (((HB2.out.drew).alloc (by simp; exact HB3.out) _).grown hg5 (by simp; have := HB3.out; omega) (fun j hj => (Hrw.out j hj).1))
          have HX5 : Hid (BX w5 b5 f t u) := Lib.hid ((hg5.block _ (by simp; omega) (fun e => Nat.lt_irrefl _ (Hrw.out _ e.symm).2)).trans ((Below.heap_alloc _ _ _ (by simpa using z0)).trans HBX.out))
          have HL5 : Hid ((acc ++ [((f : Int) + b, (f : Int) + b + (u.size : Int), s.extract f t)]).length = k + 1) := Lib.hid (by rw [List.length_append, HL.out]; rfl)
          clear hg5 HO2 HB2 HBX x0 x1 x2 z0 w1' w2' Hrw HL HB3
          generalize acc ++ [((f : Int) + b, (f : Int) + b + (u.size : Int), s.extract f t)] = acc2 at *
          obtain ⟨z0, x0, x1, x2⟩ := HX5.out.facts
          go_wp2_with fail
          refine (CG.out _).mono ?_
          rintro e w6 ⟨rfl, hb6⟩
          have HB6 := Lib.hid (HB5.out.trans (hb6.mono HB5.out.size))
          have HO6 := Lib.hid (own_bel HO5.out hb6)
          clear hb6 CG
          go_wp2_with fail
          go_roundw
          case rel => exact ⟨k + 1, b + gr, acc2, by go_num, rfl, by omega, by omega, by omega, HL5, HS2, HO6, HB6⟩
          case measure => simp [intOf]; omega
      · obtain rfl : k = xs.length := by omega
        have HX : Hid (acc = R) := Lib.hid (by have := HS.out; rw [invF_end (Nat.le_refl _)] at this; simpa using this)
        rw [HX.out] at HO
        clear HS HL
        go_wp2_with fail
        go_ret2
        exact ⟨u8, rfl, HO.out, HB.out⟩
  · have HV : Hid (invV s xs = []) := Lib.hid (by unfold invV; rw [if_pos hz])
    rw [HV.out]
    have q1 : (appE s xs != 0) = true := by simp [hz]
    generalize appE s xs = E at *
    generalize appS s xs = RS at *
    clear hz ht HV
    go_enter Try.func19, Try.ntmps19
    go_wp2_with fail
    refine C0.out.mono ?_
    rintro e w1 ⟨rfl, hb1⟩
    have HB1 := Lib.hid hb1
    clear hb1 C0
    go_wp2_with fail
    go_ret2
    exact ⟨.slice none 0 0, rfl, World.ownsRow_nil _ _ _ _, HB1.out⟩
