/-
  Distances of the specification. Conditions: the slice reads as a graph of at most 1000 nodes with at most 1000 successors each.
-/
import Derived.Test.YthgfomjmkmkhkaaR
import Derived.StillTailTactics
namespace Go.Proofs.Ythgfomjmkmkhkaa
open Go.RowKit
set_option linter.unusedSimpArgs false
set_option linter.unusedVariables false
/-- what Distances gives -/
noncomputable def distsI (g : Gr) (f : Int) : List Int := if 0 ≤ f ∧ f < g.length then dists g f.toNat else List.replicate g.length (-1)
theorem distsI_len (g : Gr) (f : Int) : (distsI g f).length = g.length := by unfold distsI; split <;> simp [dists]
/-- a slice of numbers that a call gives -/
def GivesI (xs : List Int) (w : World) : Ending → World → Prop := fun e w' => ∃ A c, e = .returned (.slice A xs.length c) ∧ RI w' w'.heap.size A xs ∧ Below w.heap.size w w'
theorem gives_ir {w wr : World} {g n : Nat} {xs : List Int} (h : IRow wr g n xs) (hb : Below w.heap.size w wr) : GivesI xs w (.returned (.slice (some ⟨g, 0, none⟩) n n)) wr :=
  ⟨_, _, by rw [ir_len h], ir_ri h, hb⟩
set_option maxRecDepth 100000 in
set_option maxHeartbeats 4000000 in
theorem rdist_any (A : Option Addr) (c : Nat) (gs : Gr) (f : Int) (w : World) (h : RG w w.heap.size A gs) (hl : gs.length ≤ 1000) (hl2 : ∀ l ∈ gs, l.length ≤ 1000) :
    Calls Try.prog 22 #[.slice A gs.length c, .int .i64 f] w (GivesI (distsI gs f) w) := by
  have HX := Lib.hid h
  have HL := Lib.hid hl2
  clear h hl2
  have HE : Hid (∀ (a : Nat) (b : Int) (W : World), a < gs.length → Below w.heap.size w W → Calls Try.prog 35 #[.slice A gs.length c, .int .i64 (a : Int), .int .i64 b] W fun e w' => e = .returned (.bool ((suc gs a).contains b)) ∧ Below W.heap.size W w') := Lib.hid fun a b W ha hb => by
    have := edge_any A c gs a b W (HX.out.up hb) ha hl (HL.out _ (List.getElem_mem ha))
    unfold suc
    rw [List.getElem?_eq_getElem ha]
    exact this
  clear HX HL
  have HMK := Try.make23 gs.length (by omega) w
  have HI0 := Lib.hid (ir_new w gs.length (by omega))
  have HB0 := Lib.hid ((Below.refl w.heap.size w).alloc (Nat.le_refl _) (.cells (madeCells #[.int .i64 0] gs.length) 3))
  generalize hn : gs.length = n at *
  have HN := Lib.hid hn
  clear hn
  go_enter Try.func22, Try.ntmps22
  go_wp2_with fail
  generalize w.alloc (.cells (madeCells #[.int .i64 0] n) 3) = w0 at *
  go_loopw [6] (fun s6 wr => ∃ (k : Nat) (xs : List Int), s6 = .int .i64 (k : Int) ∧ k ≤ n ∧ Hid (IRow wr w.heap.size n xs) ∧ Hid (∀ j, j < k → xs[j]? = some (-1)) ∧ Hid (Below w.heap.size w wr)) (fun s6 _ => (n - intOf s6).toNat)
  case atStart => exact ⟨0, _, rfl, by omega, HI0, Lib.hid (fun j hj => by omega), HB0⟩
  case round =>
    obtain ⟨k, xs, rfl, hk, HI, HS, HB⟩ := hrel
    by_cases hlt : k < n
    · have hki : (k : Int) < (n : Int) := by omega
      have hk0 : (0 : Int) ≤ (k : Int) := by omega
      have HK := Lib.hid (show k + 1 ≤ n by omega)
      obtain ⟨y, hy⟩ : ∃ y, xs[k]? = some y := ⟨_, List.getElem?_eq_getElem (by rw [ir_len HI.out]; exact hlt)⟩
      obtain ⟨hg, hc, hf⟩ := ir_at HI.out k hlt y hy
      have HI2 := Lib.hid (ir_set HI.out k (-1))
      have HS2 := Lib.hid (show ∀ j, j < k + 1 → (xs.set k (-1))[j]? = some (-1) from fun j hj => by
        by_cases hjk : k = j
        · subst hjk; rw [List.getElem?_set_self (by rw [ir_len HI.out]; exact hlt)]
        · rw [List.getElem?_set_ne hjk]; exact HS.out j (by omega))
      have HB2 := Lib.hid (HB.out.setCell (p := ⟨w.heap.size, k, none⟩) (Nat.le_refl _) (.int .i64 (-1)))
      clear hlt HI HS HB hy
      go_wp2_with fail
      go_roundw
      case rel => exact ⟨k + 1, _, by go_num, HK.out, HI2, HS2, HB2⟩
      case measure => have := HK.out; first | (simp [intOf]; done) | (simp [intOf]; omega)
    · obtain rfl : k = n := by omega
      have hki : ¬ (k : Int) < (k : Int) := by omega
      clear hlt
      have HXS : Hid (xs = List.replicate k (-1)) := Lib.hid (by
        refine List.ext_getElem? fun j => ?_
        rcases Nat.lt_or_ge j k with hj | hj
        · rw [HS.out j hj]; simp [hj]
        · rw [List.getElem?_eq_none (by rw [ir_len HI.out]; exact hj), List.getElem?_eq_none (by simpa using hj)])
      by_cases hf0 : f < 0
      · have HO : Hid (distsI gs f = xs) := Lib.hid (by unfold distsI; rw [if_neg (by omega), HXS.out, HN.out])
        clear HE
        go_wp2_with fail
        go_ret
        rw [HO.out]
        exact gives_ir HI.out HB.out
      · by_cases hf1 : f < (k : Int)
        · obtain ⟨a, rfl⟩ : ∃ a : Nat, f = (a : Int) := ⟨f.toNat, by omega⟩
          have hf2 : ¬ (k : Int) ≤ (a : Int) := by omega
          have ha : a < k := by omega
          have ha0 : (0 : Int) ≤ (a : Int) := by omega
          have HO : Hid (distsI gs (a : Int) = dists gs a) := Lib.hid (by unfold distsI; rw [if_pos ⟨by omega, by rw [HN.out]; exact hf1⟩]; rfl)
          obtain ⟨hg, hc, hf⟩ := ir_at HI.out a ha (-1) (HS.out a ha)
          have HI2 := Lib.hid (ir_set HI.out a 0)
          have HB2 := Lib.hid (HB.out.setCell (p := ⟨w.heap.size, a, none⟩) (Nat.le_refl _) (.int .i64 0))
          have HL0 : Hid (Lay gs a 0 (xs.set a 0) (fun _ _ => False)) := Lib.hid (by rw [HXS.out]; have := lay_start (g := gs) (a := a) (by rw [HN.out]; exact ha); rw [HN.out] at this; exact this)
          generalize xs.set a 0 = ys at *
          clear HI HB HS HXS
          go_wp2_with fail
          generalize wr.setCell ⟨w.heap.size, a, none⟩ (.int .i64 0) = w1 at *
          clear hc hf hg
          go_loopw [7, 8, 9] (fun s7 _ _ wr => ∃ (d : Nat) (zs : List Int), s7 = .int .i64 (d : Int) ∧ d ≤ k ∧ Hid (IRow wr w.heap.size k zs) ∧ Hid (Lay gs a d zs (fun _ _ => False)) ∧ Hid (Below w.heap.size w wr)) (fun s7 _ _ _ => (k - intOf s7).toNat)
          case atStart => exact ⟨0, _, rfl, by omega, HI2, HL0, HB2⟩
          case round =>
            obtain ⟨d, zs, rfl, hd, HI, HL, HB⟩ := hrel
            by_cases hdk : d < k
            · have hki : (d : Int) < (k : Int) := by omega
              have hd0 : (0 : Int) ≤ (d : Int) := by omega
              have HK := Lib.hid (show d + 1 ≤ k by omega)
              clear hdk
              go_wp2_with fail
              go_loopw [8, 9] (fun s8 _ wr => ∃ (y : Nat) (zs : List Int), s8 = .int .i64 (y : Int) ∧ y ≤ k ∧ Hid (IRow wr w.heap.size k zs) ∧ Hid (Lay gs a d zs (fun p _ => p < y)) ∧ Hid (Below w.heap.size w wr)) (fun s8 _ _ => (k - intOf s8).toNat)
              case atStart => exact ⟨0, _, rfl, by omega, HI, Lib.hid (lay_skip HL.out _ (fun y z h => by omega)), HB⟩
              case round =>
                obtain ⟨y, zs, rfl, hy, HI, HL, HB⟩ := hrel
                by_cases hyk : y < k
                · have hki : (y : Int) < (k : Int) := by omega
                  have hy0 : (0 : Int) ≤ (y : Int) := by omega
                  have HY := Lib.hid (show y + 1 ≤ k by omega)
                  have HYK := Lib.hid hyk
                  clear hyk
                  go_wp2_with fail
                  go_loopw [9] (fun s9 wr => ∃ (z : Nat) (zs : List Int), s9 = .int .i64 (z : Int) ∧ z ≤ k ∧ Hid (IRow wr w.heap.size k zs) ∧ Hid (Lay gs a d zs (fun p q => p < y ∨ (p = y ∧ q < z))) ∧ Hid (Below w.heap.size w wr)) (fun s9 _ => (k - intOf s9).toNat)
                  case atStart => exact ⟨0, _, rfl, by omega, HI, Lib.hid (lay_skip HL.out _ (fun p q h => by omega)), HB⟩
                  case round =>
                    obtain ⟨z, zs, rfl, hz, HI, HL, HB⟩ := hrel
                    by_cases hzk : z < k
                    · have hki : (z : Int) < (k : Int) := by omega
                      have hz0 : (0 : Int) ≤ (z : Int) := by omega
                      have HZ := Lib.hid (show z + 1 ≤ k by omega)
                      obtain ⟨v, hv⟩ : ∃ v, zs[y]? = some v := ⟨_, List.getElem?_eq_getElem (by rw [ir_len HI.out]; exact HYK.out)⟩
                      obtain ⟨hg, hc, hf⟩ := ir_at HI.out y HYK.out v hv
                      have HAt := Lib.hid (HL.out.at hv)
                      by_cases hvd : v = (d : Int)
                      · have hq := HAt.out.1 hvd
                        subst hvd
                        have HQ := Lib.hid hq
                        obtain ⟨u, hu⟩ : ∃ u, zs[z]? = some u := ⟨_, List.getElem?_eq_getElem (by rw [ir_len HI.out]; exact hzk)⟩
                        have HU := Lib.hid hu
                        have HZK := Lib.hid hzk
                        have CE := Lib.hid (HE.out y (z : Int) wr HYK.out HB.out)
                        have HEd : Hid ((suc gs y).contains (z : Int) = true ↔ Edge gs y z) := Lib.hid (by
                          rw [List.contains_iff_mem]; unfold Edge
                          have h1 := HYK.out; have h2 := HZK.out
                          rw [HN.out]
                          exact ⟨fun h => ⟨h1, h2, h⟩, fun h => h.2.2⟩)
                        clear hq hu hv hzk HAt
                        generalize (suc gs y).contains (z : Int) = E at *
                        by_cases hE : E = true
                        · have HEe := Lib.hid (HEd.out.1 hE)
                          subst hE
                          by_cases hu0 : u < 0
                          · go_wp2_with fail
                            refine CE.out.mono ?_
                            rintro e w3 ⟨rfl, hb3⟩
                            have HI3 := Lib.hid (ir_below HI.out hb3)
                            have HB3 := Lib.hid (HB.out.trans (hb3.mono HB.out.size))
                            obtain ⟨hg, hc, hf⟩ := ir_at HI3.out z HZK.out u HU.out
                            have HI4 := Lib.hid (ir_set HI3.out z ((d : Int) + 1))
                            have HB4 := Lib.hid (HB3.out.setCell (p := ⟨w.heap.size, z, none⟩) (Nat.le_refl _) (.int .i64 ((d : Int) + 1)))
                            have HL4 : Hid (Lay gs a d (zs.set z ((d : Int) + 1)) (fun p q => p < y ∨ (p = y ∧ q < z + 1))) := Lib.hid (lay_skip (lay_set HL.out HEe.out HQ.out HU.out hu0) _ (fun p q h => by left; omega))
                            clear hb3 CE HI3 HB3 HL HI HB HEd
                            go_wp2_with fail
                            go_roundw
                            case rel => exact ⟨z + 1, _, by go_num, HZ.out, HI4, HL4, HB4⟩
                            case measure => have := HZ.out; first | (simp [intOf]; done) | (simp [intOf]; omega)
                          · go_wp2_with fail
                            refine CE.out.mono ?_
                            rintro e w3 ⟨rfl, hb3⟩
                            have HI3 := Lib.hid (ir_below HI.out hb3)
                            have HB3 := Lib.hid (HB.out.trans (hb3.mono HB.out.size))
                            obtain ⟨hg, hc, hf⟩ := ir_at HI3.out z HZK.out u HU.out
                            have HL4 : Hid (Lay gs a d zs (fun p q => p < y ∨ (p = y ∧ q < z + 1))) := Lib.hid (lay_skip HL.out _ (fun p q h => by
                              by_cases hpq : p = y ∧ q = z
                              · obtain ⟨rfl, rfl⟩ := hpq
                                right; right; right
                                rw [HU.out]; intro e; injection e with e; omega
                              · left; omega))
                            clear hb3 CE HL HI HB HEd
                            go_wp2_with fail
                            go_roundw
                            case rel => exact ⟨z + 1, _, by go_num, HZ.out, HI3, HL4, HB3⟩
                            case measure => have := HZ.out; first | (simp [intOf]; done) | (simp [intOf]; omega)
                        · have HEe := Lib.hid (fun h => hE (HEd.out.2 h))
                          obtain rfl : E = false := by simpa using hE
                          clear hE
                          go_wp2_with fail
                          refine CE.out.mono ?_
                          rintro e w3 ⟨rfl, hb3⟩
                          have HI3 := Lib.hid (ir_below HI.out hb3)
                          have HB3 := Lib.hid (HB.out.trans (hb3.mono HB.out.size))
                          have HL4 : Hid (Lay gs a d zs (fun p q => p < y ∨ (p = y ∧ q < z + 1))) := Lib.hid (lay_skip HL.out _ (fun p q h => by
                            by_cases hpq : p = y ∧ q = z
                            · obtain ⟨rfl, rfl⟩ := hpq
                              right; left; exact HEe.out
                            · left; omega))
                          clear hb3 CE HL HI HB HEd
                          go_wp2_with fail
                          go_roundw
                          case rel => exact ⟨z + 1, _, by go_num, HZ.out, HI3, HL4, HB3⟩
                          case measure => have := HZ.out; first | (simp [intOf]; done) | (simp [intOf]; omega)
                      · have hq := Lib.hid (fun h => hvd (HAt.out.2 h))
                        have q1 : (v == (d : Int)) = false := beq_eq_false_iff_ne.2 hvd
                        have HL4 : Hid (Lay gs a d zs (fun p _ => p < y + 1)) := Lib.hid (lay_skip HL.out _ (fun p q h => by
                          by_cases hpq : p = y
                          · subst hpq
                            right; right; left; exact hq.out
                          · left; omega))
                        clear HL HAt hv
                        go_wp2_with fail
                        go_roundw
                        case rel => exact ⟨y + 1, _, by go_num, HY.out, HI, HL4, HB⟩
                        case measure => have := HY.out; first | (simp [intOf]; done) | (simp [intOf]; omega)
                    · obtain rfl : z = k := by omega
                      have hki : ¬ (z : Int) < (z : Int) := by omega
                      have HL4 : Hid (Lay gs a d zs (fun p _ => p < y + 1)) := Lib.hid (lay_skip HL.out _ (fun p q h => by
                        by_cases hq : q < z
                        · left; omega
                        · by_cases hpq : p = y
                          · right; left; intro e; have := e.2.1; rw [HN.out] at this; omega
                          · left; omega))
                      clear HL hzk
                      go_wp2_with fail
                      go_roundw
                      case rel => exact ⟨y + 1, _, by go_num, HY.out, HI, HL4, HB⟩
                      case measure => have := HY.out; first | (simp [intOf]; done) | (simp [intOf]; omega)
                · obtain rfl : y = k := by omega
                  have hki : ¬ (y : Int) < (y : Int) := by omega
                  have HL4 : Hid (Lay gs a (d + 1) zs (fun _ _ => False)) := Lib.hid (lay_next HL.out (fun p q hp _ => by rw [HN.out] at hp; exact hp))
                  clear HL hyk
                  go_wp2_with fail
                  go_roundw
                  case rel => exact ⟨d + 1, _, by go_num, HK.out, HI, HL4, HB⟩
                  case measure => have := HK.out; first | (simp [intOf]; done) | (simp [intOf]; omega)
            · obtain rfl : d = k := by omega
              have hki : ¬ (d : Int) < (d : Int) := by omega
              have HZ : Hid (zs = dists gs a) := Lib.hid (lay_end HL.out (by rw [HN.out]; exact Nat.le_refl _))
              clear HL hdk
              go_wp2_with fail
              go_ret
              rw [HO.out, ← HZ.out]
              exact gives_ir HI.out HB.out
        · have hf2 : (k : Int) ≤ f := by omega
          have HO : Hid (distsI gs f = xs) := Lib.hid (by unfold distsI; rw [if_neg (by rw [HN.out]; omega), HXS.out, HN.out])
          clear HE
          go_wp2_with fail
          go_ret
          rw [HO.out]
          exact gives_ir HI.out HB.out
end Go.Proofs.Ythgfomjmkmkhkaa
