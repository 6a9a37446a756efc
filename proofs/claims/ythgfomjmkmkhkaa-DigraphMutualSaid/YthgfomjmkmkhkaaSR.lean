/-
  Reach of the specification. Conditions: the slices read as a graph of at most 1000 nodes with at most 1000 successors each, and as at most 1000 numbers.
-/
import Derived.Test.YthgfomjmkmkhkaaRQ
import Derived.Test.YthgfomjmkmkhkaaBb
namespace Go.Proofs.Ythgfomjmkmkhkaa
open Go.RowKit
set_option linter.unusedSimpArgs false
set_option linter.unusedVariables false
noncomputable def rchB (g : Gr) (S : List Int) (b : Nat) : Bool := open Classical in decide (Rch g S b)
theorem rchB_iff {g : Gr} {S : List Int} {b : Nat} : rchB g S b = true ↔ Rch g S b := by simp [rchB]
noncomputable def rchs (g : Gr) (S : List Int) : List Bool := (List.range g.length).map (rchB g S)
theorem rchs_len (g : Gr) (S : List Int) : (rchs g S).length = g.length := by simp [rchs]
theorem rchB_nil (g : Gr) (b : Nat) : rchB g [] b = false := by
  rw [← Bool.not_eq_true, rchB_iff]; rintro ⟨a, ha, _⟩; simp at ha
theorem take_mem {xs : List Int} {i : Nat} {x y : Int} (h : xs[i]? = some x) : y ∈ xs.take (i + 1) ↔ y ∈ xs.take i ∨ y = x := by
  rw [List.take_add_one, h]; simp
theorem rchB_out {g : Gr} {xs : List Int} {i : Nat} {x : Int} (h : xs[i]? = some x) (hx : ∀ m : Nat, x = (m : Int) → ¬ m < g.length) (b : Nat) : rchB g (xs.take (i + 1)) b = rchB g (xs.take i) b := by
  rw [Bool.eq_iff_iff, rchB_iff, rchB_iff, rch_iff, rch_iff]
  constructor
  · rintro ⟨a, ha, hl, hc⟩
    rcases (take_mem h).1 ha with ha | ha
    · exact ⟨a, ha, hl, hc⟩
    · exact absurd hl (hx a ha.symm)
  · rintro ⟨a, ha, hl, hc⟩
    exact ⟨a, (take_mem h).2 (Or.inl ha), hl, hc⟩
theorem rchB_in {g : Gr} {xs : List Int} {i m : Nat} (h : xs[i]? = some (m : Int)) (hm : m < g.length) {b : Nat} {t : Bool} (ht : t = true ↔ Con g m b) : rchB g (xs.take (i + 1)) b = ((decide (b = m) || rchB g (xs.take i) b) || t) := by
  rw [Bool.eq_iff_iff, Bool.or_eq_true, Bool.or_eq_true, rchB_iff, rchB_iff, rch_iff, rch_iff, ht, decide_eq_true_iff]
  constructor
  · rintro ⟨a, ha, hl, hc⟩
    rcases (take_mem h).1 ha with ha | ha
    · exact Or.inl (Or.inr ⟨a, ha, hl, hc⟩)
    · obtain rfl : a = m := by omega
      rcases hc with rfl | hc
      · exact Or.inl (Or.inl rfl)
      · exact Or.inr hc
  · rintro ((rfl | ⟨a, ha, hl, hc⟩) | hc)
    · exact ⟨b, (take_mem h).2 (Or.inr rfl), hm, Or.inl rfl⟩
    · exact ⟨a, (take_mem h).2 (Or.inl ha), hl, hc⟩
    · exact ⟨m, (take_mem h).2 (Or.inr rfl), hm, Or.inr hc⟩
/-- a row of Booleans, by a function -/
def BF (w : World) (g n : Nat) (F : Nat → Bool) : Prop := ∃ xs, BRow w g n xs ∧ ∀ b, b < n → xs[b]? = some (F b)
theorem BF.keep {w w' : World} {g n : Nat} {F : Nat → Bool} (h : BF w g n F) (hb : Below w.heap.size w w') : BF w' g n F := by
  obtain ⟨xs, h1, h2⟩ := h; exact ⟨xs, br_below h1 hb, h2⟩
theorem BF.congr {w : World} {g n : Nat} {F F' : Nat → Bool} (h : BF w g n F) (e : ∀ b, b < n → F b = F' b) : BF w g n F' := by
  obtain ⟨xs, h1, h2⟩ := h; exact ⟨xs, h1, fun b hb => by rw [← e b hb]; exact h2 b hb⟩
theorem BF.cell {w : World} {g n : Nat} {F : Nat → Bool} (h : BF w g n F) {b : Nat} (hb : b < n) : g < w.heap.size ∧ w.cell? ⟨g, b, none⟩ = some (.bool (F b)) ∧ w.frozen? ⟨g, b, none⟩ = false := by
  obtain ⟨xs, h1, h2⟩ := h; exact br_at h1 b hb _ (h2 b hb)
theorem BF.set {w : World} {g n : Nat} {F : Nat → Bool} (h : BF w g n F) (b : Nat) (v : Bool) : BF (w.setCell ⟨g, b, none⟩ (.bool v)) g n (fun x => if x = b then v else F x) := by
  obtain ⟨xs, h1, h2⟩ := h
  refine ⟨_, br_set h1 b v, fun x hx => ?_⟩
  by_cases e : x = b
  · subst e; rw [List.getElem?_set_self (by rw [br_len h1]; exact hx)]; simp
  · rw [List.getElem?_set_ne (fun e' => e e'.symm)]; simp only [if_neg e]; exact h2 x hx
theorem BF.rb {w : World} {g n : Nat} {F : Nat → Bool} (h : BF w g n F) : RB w w.heap.size (some ⟨g, 0, none⟩) ((List.range n).map F) := ⟨fun k hk => by
  have hk' : k < n := by simpa using hk
  obtain ⟨h1, h2, _⟩ := h.cell hk'
  refine ⟨_, rfl, h1, ?_⟩
  rw [List.getElem_map, List.getElem_range]
  rw [show (⟨g, 0, none⟩ : Addr).add k = ⟨g, k, none⟩ by simp [Addr.add]; exact fun e => e.symm]
  exact h2⟩
theorem bf_new (w : World) (n : Nat) (hn : n ≤ 100000) (F : Nat → Bool) (hF : ∀ b, b < n → F b = false) : BF (w.alloc (.cells (madeCells #[.bool false] n) 4)) w.heap.size n F :=
  ⟨_, br_new w n hn, fun b hb => by rw [List.getElem?_replicate, if_pos hb, hF b hb]⟩
def GivesB (xs : List Bool) (w : World) : Ending → World → Prop := fun e w' => ∃ A c, e = .returned (.slice A xs.length c) ∧ RB w' w'.heap.size A xs ∧ Below w.heap.size w w'
set_option maxRecDepth 100000 in
set_option maxHeartbeats 8000000 in
theorem rreach_any (A A1 : Option Addr) (c c1 : Nat) (gs : Gr) (xs : List Int) (w : World) (h : RG w w.heap.size A gs) (hi : RI w w.heap.size A1 xs) (hl : gs.length ≤ 1000) (hl2 : ∀ l ∈ gs, l.length ≤ 1000) (hl3 : xs.length ≤ 1000) :
    Calls Try.prog 16 #[.slice A gs.length c, .slice A1 xs.length c1] w (GivesB (rchs gs xs) w) := by
  have CP := Lib.hid (paths_any A c gs w h (by omega) hl2)
  have HI := Lib.hid hi
  have HMK : Hid (∀ W : World, (Instr.makeSlice 27 (.int .i64 (gs.length : Int)) (.int .i64 (gs.length : Int))).run Try.prog W = .ok (.slice (some ⟨W.heap.size, 0, none⟩) gs.length gs.length) (W.alloc (.cells (madeCells #[.bool false] gs.length) 4))) := Lib.hid (fun W => Try.make27 gs.length (by omega) W)
  have HRL := Lib.hid (rchs_len gs xs)
  obtain ⟨n, hn⟩ : ∃ n, gs.length = n := ⟨_, rfl⟩
  have HN := Lib.hid hn
  have HRS : Hid (rchs gs xs = (List.range n).map (rchB gs xs)) := Lib.hid (by unfold rchs; rw [hn])
  rw [hn] at hl CP HMK HRL ⊢
  clear h hl2 hn hi
  go_enter Try.func16, Try.ntmps16
  go_wp2_with fail
  refine CP.out.mono ?_
  rintro e w1 ⟨Ap, cp, T, rfl, hp1, hb1, hT⟩
  have HP1 := Lib.hid hp1
  have HB1 := Lib.hid hb1
  have HT := Lib.hid hT
  have HMK1 := HMK.out w1
  have HF0 := Lib.hid (bf_new w1 n (by omega) (fun b => rchB gs (xs.take 0) b) (fun b hb => by rw [List.take_zero]; exact rchB_nil gs b))
  have HBa := Lib.hid ((Below.refl w1.heap.size w1).alloc (Nat.le_refl _) (.cells (madeCells #[.bool false] n) 4))
  have HSa : Hid (w1.heap.size < (w1.alloc (.cells (madeCells #[.bool false] n) 4)).heap.size) := Lib.hid (by simp)
  clear hp1 hb1 hT CP HMK
  go_wp2_with fail
  generalize w1.alloc (.cells (madeCells #[.bool false] n) 4) = w2 at *
  clear HMK1
  go_loopw [7, 8, 9] (fun s7 _ _ wr => ∃ (i : Nat), s7 = .int .i64 (i : Int) ∧ i ≤ xs.length ∧ Hid (BF wr w1.heap.size n (fun b => rchB gs (xs.take i) b)) ∧ Hid (Below w1.heap.size w1 wr)) (fun s7 _ _ _ => (xs.length - intOf s7).toNat)
  case atStart => exact ⟨0, rfl, by omega, HF0, HBa⟩
  case round =>
    clear HF0 HBa
    obtain ⟨i, rfl, hi, HF, HB⟩ := hrel
    by_cases hlt : i < xs.length
    · have hii : (i : Int) < (xs.length : Int) := by omega
      have hi0 : (0 : Int) ≤ (i : Int) := by omega
      have HIK := Lib.hid (show i + 1 ≤ xs.length by omega)
      have HBW := Lib.hid (HB1.out.trans (HB.out.mono HB1.out.size))
      obtain ⟨ax, hAx, _, cx⟩ := (HI.out.below HBW.out).at_ i hlt
      subst hAx
      have HXI : Hid (xs[i]? = some xs[i]) := Lib.hid (List.getElem?_eq_getElem hlt)
      generalize xs[i] = x at *
      clear hlt
      by_cases hx0 : x < 0
      · have k1 : decide (x < 0) = true := decide_eq_true hx0
        have HF2 := Lib.hid (HF.out.congr (F' := fun b => rchB gs (xs.take (i + 1)) b) (fun b hb => (rchB_out HXI.out (fun m e hm => by omega) b).symm))
        clear HF
        go_wp2_with fail
        go_roundw
        case rel => exact ⟨i + 1, by go_num, HIK.out, HF2, HB⟩
        case measure => have := HIK.out; first | (simp [intOf]; done) | (simp [intOf]; omega)
      · have k1 : decide (x < 0) = false := decide_eq_false hx0
        by_cases hxn : (n : Int) ≤ x
        · have k2 : decide ((n : Int) ≤ x) = true := decide_eq_true hxn
          have HF2 := Lib.hid (HF.out.congr (F' := fun b => rchB gs (xs.take (i + 1)) b) (fun b hb => (rchB_out HXI.out (fun m e hm => by have := HN.out; omega) b).symm))
          clear HF
          go_wp2_with fail
          go_roundw
          case rel => exact ⟨i + 1, by go_num, HIK.out, HF2, HB⟩
          case measure => have := HIK.out; first | (simp [intOf]; done) | (simp [intOf]; omega)
        · obtain ⟨m, rfl⟩ : ∃ m : Nat, x = (m : Int) := ⟨x.toNat, by omega⟩
          have hmn : m < n := by omega
          have hm1 : (m : Int) < (n : Int) := by omega
          have hm0 : (0 : Int) ≤ (m : Int) := by omega
          have k2 : decide ((n : Int) ≤ (m : Int)) = false := decide_eq_false hxn
          have k3 : decide (n ≤ m) = false := decide_eq_false (by omega)
          obtain ⟨hgl, hcm, hfm⟩ := HF.out.cell hmn
          have HMN := Lib.hid hmn
          have HR1 : Hid (∀ b, b < n → rchB gs (xs.take (i + 1)) b = ((decide (b = m) || rchB gs (xs.take i) b) || T m b)) := Lib.hid (fun b hb => rchB_in HXI.out (by rw [HN.out]; exact hmn) (HT.out m b hmn hb))
          generalize rchB gs (xs.take i) = R0 at *
          generalize hR1 : rchB gs (xs.take (i + 1)) = R1 at HR1
          have HE1 := Lib.hid hR1
          have HF2 := Lib.hid ((HF.out.set m true).congr (F' := fun y => if y < 0 then R1 y else (decide (y = m) || R0 y)) (fun y hy => by
            by_cases e : y = m
            · rw [if_pos e, if_neg (by omega), decide_eq_true e]; rfl
            · rw [if_neg e, if_neg (by omega), decide_eq_false e]; rfl))
          have HB2 : Hid (Below w1.heap.size w1 (wr.setCell ⟨w1.heap.size, m, none⟩ (.bool true))) := Lib.hid (HB.out.setCell (by show w1.heap.size ≤ w1.heap.size; omega) _)
          clear hmn HF HB hx0 hxn hR1
          go_wp2_with fail
          generalize wr.setCell ⟨w1.heap.size, m, none⟩ (.bool true) = w3 at *
          clear hcm hfm hgl cx HBW
          go_loopw [9] (fun s9 wr => ∃ (b : Nat), s9 = .int .i64 (b : Int) ∧ b ≤ n ∧ Hid (BF wr w1.heap.size n (fun y => if y < b then R1 y else (decide (y = m) || R0 y))) ∧ Hid (Below w1.heap.size w1 wr)) (fun s9 _ => (n - intOf s9).toNat)
          case atStart => exact ⟨0, rfl, by omega, HF2, HB2⟩
          case round =>
            clear HF2 HB2
            obtain ⟨b, rfl, hb, HF, HB⟩ := hrel
            obtain ⟨wr9, rfl⟩ : ∃ x, x = wr := ⟨_, rfl⟩
            by_cases hlt : b < n
            · have hbi : (b : Int) < (n : Int) := by omega
              have hb0 : (0 : Int) ≤ (b : Int) := by omega
              have HBK := Lib.hid (show b + 1 ≤ n by omega)
              obtain ⟨ad, a1, c2, hA, _, hr1, _, hb9⟩ := (HP1.out.below HB.out).at_ m HMN.out
              subst hA
              have hr2 := hb9 b hlt
              obtain ⟨hgl, hcb, hfb⟩ := HF.out.cell hlt
              have hRb := HR1.out b hlt
              rw [if_neg (Nat.lt_irrefl b)] at hcb
              have HF3 := Lib.hid ((HF.out.set b (R1 b)).congr (F' := fun y => if y < b + 1 then R1 y else (decide (y = m) || R0 y)) (fun y hy => by
                by_cases e : y = b
                · rw [if_pos e, if_pos (by omega), e]
                · rw [if_neg e]
                  by_cases h : y < b
                  · rw [if_pos h, if_pos (by omega)]
                  · rw [if_neg h, if_neg (by omega)]))
              have HB3 : Hid (Below w1.heap.size w1 (wr9.setCell ⟨w1.heap.size, b, none⟩ (.bool (R1 b)))) := Lib.hid (HB.out.setCell (by show w1.heap.size ≤ w1.heap.size; omega) _)
              have HRb := Lib.hid hRb
              clear hlt hb9 HF HB hRb hgl
              generalize R1 b = v at *
              generalize (decide (b = m) || R0 b) = u at *
              generalize T m b = t at *
              cases u with
              | true =>
                obtain rfl : v = true := by rw [HRb.out]; rfl
                go_wp2_with fail
                go_roundw
                case rel => exact ⟨b + 1, by go_num, HBK.out, HF3, HB3⟩
                case measure => have := HBK.out; first | (simp [intOf]; done) | (simp [intOf]; omega)
              | false =>
                obtain rfl : v = t := by rw [HRb.out]; rfl
                go_wp2_with fail
                go_roundw
                case rel => exact ⟨b + 1, by go_num, HBK.out, HF3, HB3⟩
                case measure => have := HBK.out; first | (simp [intOf]; done) | (simp [intOf]; omega)
            · obtain rfl : b = n := by omega
              have hki : ¬ (b : Int) < (b : Int) := by omega
              have HF3 := Lib.hid (HF.out.congr (F' := fun y => rchB gs (xs.take (i + 1)) y) (fun y hy => by rw [if_pos hy, HE1.out]))
              clear hlt HF
              go_wp2_with fail
              go_roundw
              case rel => exact ⟨i + 1, by go_num, HIK.out, HF3, HB⟩
              case measure => have := HIK.out; first | (simp [intOf]; done) | (simp [intOf]; omega)
    · obtain rfl : i = xs.length := by omega
      have hki : ¬ (xs.length : Int) < (xs.length : Int) := by omega
      have HZ := Lib.hid (HF.out.congr (F' := rchB gs xs) (fun b hb => by rw [List.take_length]))
      clear hlt HF
      go_wp2_with fail
      go_ret
      exact ⟨some ⟨w1.heap.size, 0, none⟩, n, by rw [HRL.out]; rfl, by rw [HRS.out]; exact HZ.out.rb, HB1.out.trans (HB.out.mono HB1.out.size)⟩
end Go.Proofs.Ythgfomjmkmkhkaa
