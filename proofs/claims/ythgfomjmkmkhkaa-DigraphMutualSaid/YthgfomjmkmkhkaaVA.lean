/-
  Reach of the program: its boxes, and its closure visit, which calls itself. Conditions: the slice reads as a graph of at most 900 nodes with at most 1000 successors each.
-/
import Derived.Test.YthgfomjmkmkhkaaSR
import Derived.Test.YthgfomjmkmkhkaaI
namespace Go.Proofs.Ythgfomjmkmkhkaa
open Go.RowKit
set_option linter.unusedSimpArgs false
set_option linter.unusedVariables false
/-- how many have been seen -/
def cnt (F : Nat → Bool) : Nat → Nat
  | 0 => 0
  | n + 1 => cnt F n + (if F n = true then 1 else 0)
theorem cnt_le (F : Nat → Bool) : ∀ n, cnt F n ≤ n
  | 0 => Nat.le_refl _
  | n + 1 => by have := cnt_le F n; unfold cnt; split <;> omega
theorem cnt_mono {F G : Nat → Bool} : ∀ n, (∀ b, b < n → F b = true → G b = true) → cnt F n ≤ cnt G n
  | 0, _ => Nat.le_refl _
  | n + 1, h => by
    have := cnt_mono n (fun b hb => h b (by omega))
    have h2 := h n (by omega)
    unfold cnt
    by_cases e : F n = true
    · rw [if_pos e, if_pos (h2 e)]; omega
    · rw [if_neg e]; omega
theorem cnt_more {F G : Nat → Bool} {m : Nat} : ∀ n, (∀ b, b < n → F b = true → G b = true) → m < n → F m = false → G m = true → cnt F n + 1 ≤ cnt G n
  | 0, _, h, _, _ => by omega
  | n + 1, h, hm, h1, h2 => by
    have h3 := h n (by omega)
    unfold cnt
    rcases Nat.lt_or_ge m n with hl | hl
    · have := cnt_more n (fun b hb => h b (by omega)) hl h1 h2
      by_cases e : F n = true
      · rw [if_pos e, if_pos (h3 e)]; omega
      · rw [if_neg e]; omega
    · obtain rfl : m = n := by omega
      have := cnt_mono m (fun b hb => h b (by omega))
      rw [if_neg (by rw [h1]; simp), if_pos h2]; omega
/-- the closure that the box of visit holds -/
def visV (w : World) : Value := .func (.func 30) #[] #[.pointer (some ⟨w.heap.size, 0, none⟩), .pointer (some ⟨w.heap.size + 1 + 1, 0, none⟩), .pointer (some ⟨w.heap.size + 1 + 1 + 1, 0, none⟩), .pointer (some ⟨w.heap.size + 1 + 1 + 1 + 1, 0, none⟩)]
/-- what stands in the boxes of Reach: the graph, what has been seen, nothing put off, and the closure -/
structure VS (w wr : World) (A : Option Addr) (c n : Nat) (F : Nat → Bool) : Prop where
  below : Below w.heap.size w wr
  size : w.heap.size + 5 ≤ wr.heap.size
  g0 : wr.cell? ⟨w.heap.size, 0, none⟩ = some (.slice A n c)
  g2 : wr.cell? ⟨w.heap.size + 1 + 1, 0, none⟩ = some (.slice (some ⟨w.heap.size + 1, 0, none⟩) n n)
  g3 : wr.cell? ⟨w.heap.size + 1 + 1 + 1, 0, none⟩ = some (.slice none 0 0)
  g4 : wr.cell? ⟨w.heap.size + 1 + 1 + 1 + 1, 0, none⟩ = some (visV w)
  bf : BF wr (w.heap.size + 1) n F
theorem VS.keep {w wr w' : World} {A : Option Addr} {c n : Nat} {F : Nat → Bool} (V : VS w wr A c n F) (hb : Below wr.heap.size wr w') : VS w w' A c n F := by
  have hs := V.size
  exact ⟨V.below.trans (hb.mono V.below.size), Nat.le_trans hs hb.size, by rw [hb.cell (show w.heap.size < wr.heap.size by omega)]; exact V.g0, by rw [hb.cell (show w.heap.size + 1 + 1 < wr.heap.size by omega)]; exact V.g2, by rw [hb.cell (show w.heap.size + 1 + 1 + 1 < wr.heap.size by omega)]; exact V.g3, by rw [hb.cell (show w.heap.size + 1 + 1 + 1 + 1 < wr.heap.size by omega)]; exact V.g4, V.bf.keep hb⟩
theorem VS.see {w wr : World} {A : Option Addr} {c n : Nat} {F : Nat → Bool} (V : VS w wr A c n F) (x : Nat) : VS w (wr.setCell ⟨w.heap.size + 1, x, none⟩ (.bool true)) A c n (fun y => if y = x then true else F y) := by
  have hs := V.size
  have hk : ∀ k, k ≠ w.heap.size + 1 → (wr.setCell ⟨w.heap.size + 1, x, none⟩ (.bool true)).heap[k]? = wr.heap[k]? := fun k hk => Below.heap_setCell _ _ _ _ hk
  exact ⟨V.below.setCell (by show w.heap.size ≤ w.heap.size + 1; omega) _, by simp [World.setCell]; exact hs, by rw [World.cell?_of_block (w := wr) (hk w.heap.size (by omega))]; exact V.g0, by rw [World.cell?_of_block (w := wr) (hk (w.heap.size + 1 + 1) (by omega))]; exact V.g2, by rw [World.cell?_of_block (w := wr) (hk (w.heap.size + 1 + 1 + 1) (by omega))]; exact V.g3, by rw [World.cell?_of_block (w := wr) (hk (w.heap.size + 1 + 1 + 1 + 1) (by omega))]; exact V.g4, V.bf.set x true⟩
/-- what a visit may do: what was seen stays seen; what is newly seen has the property, and its successors are seen -/
structure Vis (gs : Gr) (P : Nat → Prop) (F G : Nat → Bool) : Prop where
  stay : ∀ b, b < gs.length → F b = true → G b = true
  new : ∀ a, a < gs.length → G a = true → F a = false → P a ∧ ∀ b, Edge gs a b → G b = true
theorem Vis.refl (gs : Gr) (P : Nat → Prop) (F : Nat → Bool) : Vis gs P F F := ⟨fun _ _ h => h, fun a _ h h' => by rw [h] at h'; cases h'⟩
theorem Vis.trans {gs : Gr} {P : Nat → Prop} {F G H : Nat → Bool} (h1 : Vis gs P F G) (h2 : Vis gs P G H) : Vis gs P F H :=
  ⟨fun b hb h => h2.stay b hb (h1.stay b hb h), fun a ha h h' => by
    rcases hg : G a with _ | _
    · exact h2.new a ha h hg
    · obtain ⟨q1, q2⟩ := h1.new a ha hg h'
      exact ⟨q1, fun b e => h2.stay b e.2.1 (q2 b e)⟩⟩
/-- a node is seen, and then its successors are visited -/
theorem Vis.node {gs : Gr} {P : Nat → Prop} {F G : Nat → Bool} {m : Nat} (hm : P m) (h : Vis gs P (fun y => if y = m then true else F y) G) (hs : ∀ b, Edge gs m b → G b = true) : Vis gs P F G :=
  ⟨fun b hb hF => h.stay b hb (by by_cases e : b = m; simp [e]; simp [e, hF]), fun a ha hG hF => by
    by_cases e : a = m
    · subst e; exact ⟨hm, hs⟩
    · exact h.new a ha hG (by simp [e, hF])⟩
def VisOut (w : World) (A : Option Addr) (c n : Nat) (gs : Gr) (P : Nat → Prop) (F : Nat → Bool) (x : Int) (e : Ending) (w' : World) : Prop := e = .returned (.tuple #[]) ∧ ∃ G, VS w w' A c n G ∧ Vis gs P F G ∧ ∀ m : Nat, x = (m : Int) → m < n → G m = true
set_option maxRecDepth 100000 in
set_option maxHeartbeats 8000000 in
theorem see_any (A : Option Addr) (c : Nat) (gs : Gr) (w : World) (h : RG w w.heap.size A gs) (n : Nat) (hn : gs.length = n) (hl : n ≤ 900) (hl2 : ∀ l ∈ gs, l.length ≤ 1000) (P : Nat → Prop) (hP : ∀ a b, P a → Edge gs a b → P b) :
    ∀ (k : Nat) (F : Nat → Bool) (x : Int) (d : Nat) (wr : World), n - cnt F n = k → d ≤ cnt F n → VS w wr A c n F → (∀ m : Nat, x = (m : Int) → m < n → P m) →
    Calls Try.prog 30 #[.int .i64 x, .int .i64 (d : Int), .pointer (some ⟨w.heap.size, 0, none⟩), .pointer (some ⟨w.heap.size + 1 + 1, 0, none⟩), .pointer (some ⟨w.heap.size + 1 + 1 + 1, 0, none⟩), .pointer (some ⟨w.heap.size + 1 + 1 + 1 + 1, 0, none⟩)] wr (VisOut w A c n gs P F x) := by
  intro k
  induction k using Nat.strongRecOn with
  | ind k ih =>
    intro F x d wr hk hd V hx
    have HIH := Lib.hid ih
    have HK := Lib.hid hk
    have HD := Lib.hid hd
    have HXP := Lib.hid hx
    have HV := Lib.hid V
    have HG := Lib.hid h
    have HNG := Lib.hid hn
    have HL2 := Lib.hid hl2
    have HP := Lib.hid hP
    have hdb : d ≤ 900 := by have := cnt_le F n; omega
    have g0 := V.g0
    have HN := Lib.hid (fun (W : World) => by have := isnode_any A c (List.replicate n []) x W (by simp; omega); rw [List.length_replicate] at this; exact this)
    clear V hk hd hx ih h hl2 hP hn
    go_enter Try.func30, Try.ntmps30
    go_wp2_with fail
    refine (HN.out wr).mono ?_
    rintro e w1 ⟨rfl, hb1⟩
    have HV1 := Lib.hid (HV.out.keep hb1)
    clear hb1 HV HN g0
    have g0 := HV1.out.g0
    have g2 := HV1.out.g2
    by_cases hx0 : 0 ≤ x
    · by_cases hx1 : x < (n : Int)
      · obtain ⟨m, rfl⟩ : ∃ m : Nat, x = (m : Int) := ⟨x.toNat, by omega⟩
        have hm : m < n := by omega
        rw [decide_eq_true hx0, decide_eq_true hx1]
        obtain ⟨hgl, hc, hf⟩ := HV1.out.bf.cell hm
        have HM := Lib.hid hm
        obtain ⟨u, hu⟩ : ∃ u, F m = u := ⟨_, rfl⟩
        rw [hu] at hc
        have HU := Lib.hid hu
        clear hu
        cases u with
        | true =>
          clear hgl hm
          go_wp2_with fail
          go_end0
          exact ⟨rfl, F, HV1.out, Vis.refl _ _ _, fun m' e _ => by obtain rfl : m' = m := by omega
                                                                   exact HU.out⟩
        | false =>
          have k1 : ((d : Int) == 1000) = false := beq_eq_false_iff_ne.2 (by omega)
          obtain ⟨ad, A1, c1, hA, hbk, hga0, HRI⟩ := HG.out.suc_at (k := m) (by rw [HNG.out]; exact hm)
          subst hA
          have HV2 := Lib.hid (HV1.out.see m)
          have hga : (w1.setCell ⟨w.heap.size + 1, m, none⟩ (.bool true)).cell? (ad.add m) = some (.slice A1 (suc gs m).length c1) := by rw [HV2.out.below.cell (by rw [block_of_add]; exact hbk)]; exact hga0
          have hga1 : w1.cell? (ad.add m) = some (.slice A1 (suc gs m).length c1) := by rw [HV1.out.below.cell (by rw [block_of_add]; exact hbk)]; exact hga0
          have hg0' := HV2.out.g0
          have hgl9 : (suc gs m).length ≤ 1000 := suc_len HL2.out
          obtain ⟨ys, hys⟩ : ∃ ys, suc gs m = ys := ⟨_, rfl⟩
          rw [hys] at hgl9 HRI hga hga1
          have HYS := Lib.hid hys
          have HRI2 := Lib.hid HRI
          have HPM := Lib.hid (HXP.out m rfl hm)
          obtain ⟨F2, hF2⟩ : ∃ F2 : Nat → Bool, (fun y => if y = m then true else F y) = F2 := ⟨_, rfl⟩
          rw [hF2] at HV2
          have HF2 := Lib.hid hF2
          have HC2 : Hid (cnt F n + 1 ≤ cnt F2 n) := Lib.hid (cnt_more n (fun b hb hb' => by rw [← HF2.out]; by_cases e : b = m; simp [e]; simp [e, hb']) hm HU.out (by rw [← HF2.out]; simp))
          have HM2 : Hid (F2 m = true) := Lib.hid (by rw [← HF2.out]; simp)
          clear hgl hm hys HRI hF2 hga0 hbk
          go_wp2_with fail
          generalize w1.setCell ⟨w.heap.size + 1, m, none⟩ (.bool true) = w2 at *
          clear hga hga1 hg0' g0 g2 hc hf k1 hx0 hx1
          go_loopw [9, 34] (fun _ s34 wr => ∃ (j : Nat) (G : Nat → Bool), s34 = .int .i64 (j : Int) ∧ j ≤ ys.length ∧ Hid (VS w wr (some ad) c n G) ∧ Hid (Vis gs P F2 G) ∧ Hid (∀ i (b : Nat), i < j → ys[i]? = some (b : Int) → b < n → G b = true)) (fun _ s34 _ => (ys.length - intOf s34).toNat)
          case atStart => exact ⟨0, F2, rfl, by omega, HV2, Lib.hid (Vis.refl _ _ _), Lib.hid (fun i b hi => by omega)⟩
          case round =>
            clear HV2
            obtain ⟨j, G, rfl, hj, HVG, HVI, HJ⟩ := hrel
            by_cases hlt : j < ys.length
            · have hji : (j : Int) < (ys.length : Int) := by omega
              have hj0 : (0 : Int) ≤ (j : Int) := by omega
              have HJK := Lib.hid (show j + 1 ≤ ys.length by omega)
              obtain ⟨ax, hAx, _, cx⟩ := (HRI2.out.below HVG.out.below).at_ j hlt
              subst hAx
              have HXJ : Hid (ys[j]? = some ys[j]) := Lib.hid (List.getElem?_eq_getElem hlt)
              generalize ys[j] = x at *
              have g4 := HVG.out.g4
              have HCM := Lib.hid (cnt_mono n (fun b hb => HVI.out.stay b (by rw [HNG.out]; exact hb)))
              have CE := Lib.hid (HIH.out (n - cnt G n) (by have := cnt_le G n; have := HC2.out; have := HCM.out; have := HK.out; omega) G x (d + 1) wr rfl (by have := HC2.out; have := HCM.out; have := HD.out; omega) HVG.out (fun b hb hbn => HP.out m b HPM.out ⟨by rw [HNG.out]; exact HM.out, by rw [HNG.out]; exact hbn, by rw [HYS.out, ← hb]; exact List.mem_of_getElem? HXJ.out⟩))
              have hcd : ((d + 1 : Nat) : Int) = (d : Int) + 1 := by omega
              rw [hcd] at CE
              unfold visV at g4
              clear hlt hcd
              go_wp2_with fail
              refine CE.out.mono ?_
              rintro e w5 ⟨rfl, G5, hv5, hi5, hm5⟩
              have HV5 := Lib.hid hv5
              have HI5 := Lib.hid (HVI.out.trans hi5)
              have HJ5 : Hid (∀ i (b : Nat), i < j + 1 → ys[i]? = some (b : Int) → b < n → G5 b = true) := Lib.hid (fun i b hi hb hbn => by
                rcases Nat.lt_or_ge i j with h | h
                · exact hi5.stay b (by rw [HNG.out]; exact hbn) (HJ.out i b h hb hbn)
                · obtain rfl : i = j := by omega
                  rw [HXJ.out] at hb
                  exact hm5 b (Option.some.inj hb) hbn)
              clear hv5 hi5 hm5 CE HVG HVI HJ g4 cx
              go_wp2_with fail
              go_roundw
              case rel => exact ⟨j + 1, G5, by go_num, HJK.out, HV5, HI5, HJ5⟩
              case measure => have := HJK.out; first | (simp [intOf]; done) | (simp [intOf]; omega)
            · obtain rfl : j = ys.length := by omega
              have hki : ¬ (ys.length : Int) < (ys.length : Int) := by omega
              clear hlt
              go_wp2_with fail
              go_end0
              refine ⟨rfl, G, HVG.out, Vis.node HPM.out (by rw [HF2.out]; exact HVI.out) (fun b e => ?_), fun m' e _ => ?_⟩
              · have hb := e.2.2
                rw [HYS.out] at hb
                obtain ⟨i, hi, he⟩ := List.getElem_of_mem hb
                exact HJ.out i b hi (by rw [List.getElem?_eq_getElem hi, he]) (by rw [← HNG.out]; exact e.2.1)
              · obtain rfl : m' = m := by omega
                exact HVI.out.stay m' (by rw [HNG.out]; exact HM.out) HM2.out
      · rw [decide_eq_true hx0, decide_eq_false hx1]
        go_wp2_with fail
        go_end0
        exact ⟨rfl, F, HV1.out, Vis.refl _ _ _, fun m e hm => by omega⟩
    · rw [decide_eq_false hx0]
      go_wp2_with fail
      go_end0
      exact ⟨rfl, F, HV1.out, Vis.refl _ _ _, fun m e hm => by omega⟩
end Go.Proofs.Ythgfomjmkmkhkaa
