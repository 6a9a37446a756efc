/-
  free and Topo of the specification. Conditions: the slice reads as a graph of at most 1000 nodes with at most 1000 successors each.
-/
import Derived.Test.YthgfomjmkmkhkaaX
namespace Go.Proofs.Ythgfomjmkmkhkaa
open Go.RowKit
set_option linter.unusedSimpArgs false
set_option linter.unusedVariables false
theorem ints_contains (F : List Nat) (a : Nat) : (ints F).contains (a : Int) = F.contains a := by
  rw [Bool.eq_iff_iff, List.contains_iff_mem, List.contains_iff_mem]
  unfold ints
  rw [List.mem_map]
  constructor
  · rintro ⟨x, hx, e⟩; obtain rfl : x = a := by omega
    exact hx
  · intro h; exact ⟨a, h, rfl⟩
/-- all that lead to b stand in done -/
def freeP (g : Gr) (done : List Nat) (b : Nat) (k : Nat) : Bool := ((List.range g.length).drop k).all (fun a => !(suc g a).contains (b : Int) || done.contains a)
theorem freeP_at {g : Gr} {done : List Nat} {b k : Nat} (h : k < g.length) : freeP g done b k = ((!(suc g k).contains (b : Int) || done.contains k) && freeP g done b (k + 1)) := by
  unfold freeP
  rw [List.drop_eq_getElem_cons (by simpa using h), List.all_cons, List.getElem_range]
theorem freeP_end {g : Gr} {done : List Nat} {b k : Nat} (h : g.length ≤ k) : freeP g done b k = true := by
  unfold freeP; rw [List.drop_eq_nil_of_le (by simpa using h)]; rfl
set_option maxRecDepth 100000 in
set_option maxHeartbeats 4000000 in
theorem free_any (A B : Option Addr) (c d : Nat) (gs : Gr) (done : List Nat) (b : Nat) (w : World) (h : RG w w.heap.size A gs) (h2 : RI w w.heap.size B (ints done)) (hl : gs.length ≤ 1000) (hl2 : ∀ l ∈ gs, l.length ≤ 1000) (hl3 : done.length ≤ 1000) :
    Calls Try.prog 46 #[.slice A gs.length c, .slice B done.length d, .int .i64 (b : Int)] w fun e w' => e = .returned (.bool (freeP gs done b 0)) ∧ Below w.heap.size w w' := by
  have HX := Lib.hid h
  have HY := Lib.hid h2
  have HL := Lib.hid hl2
  clear h h2 hl2
  have HE : Hid (∀ (a : Nat) (W : World), a < gs.length → Below w.heap.size w W → Calls Try.prog 35 #[.slice A gs.length c, .int .i64 (a : Int), .int .i64 (b : Int)] W fun e w' => e = .returned (.bool ((suc gs a).contains (b : Int))) ∧ Below W.heap.size W w') := Lib.hid fun a W ha hb => by
    have := edge_any A c gs a (b : Int) W (HX.out.up hb) ha hl (HL.out _ (List.getElem_mem ha))
    unfold suc
    rw [List.getElem?_eq_getElem ha]
    exact this
  have HH : Hid (∀ (a : Nat) (W : World), Below w.heap.size w W → Calls Try.prog 45 #[.slice B done.length d, .int .i64 (a : Int)] W fun e w' => e = .returned (.bool (done.contains a)) ∧ Below W.heap.size W w') := Lib.hid fun a W hb => by
    have := has_any B d (ints done) (a : Int) W (HY.out.up hb) (by rw [ints_len]; exact hl3)
    rw [ints_len, ints_contains] at this
    exact this
  clear HX HY HL
  obtain ⟨R, hR⟩ : ∃ R, freeP gs done b 0 = R := ⟨_, rfl⟩
  rw [hR]
  have HR := Lib.hid hR
  clear hR
  obtain ⟨n, hn⟩ : ∃ n, gs.length = n := ⟨_, rfl⟩
  rw [hn] at HE hl ⊢
  have HN := Lib.hid hn
  clear hn
  go_enter Try.func46, Try.ntmps46
  go_wp2_with fail
  go_loopw [7] (fun s7 wr => ∃ k : Nat, s7 = .int .i64 (k : Int) ∧ k ≤ n ∧ Hid (freeP gs done b k = R) ∧ Hid (Below w.heap.size w wr)) (fun s7 _ => (n - intOf s7).toNat)
  case atStart => exact ⟨0, rfl, by omega, HR, Lib.hid (Below.refl _ _)⟩
  case round =>
    obtain ⟨k, rfl, hk, HS, HB⟩ := hrel
    by_cases hlt : k < n
    · have hki : (k : Int) < (n : Int) := by omega
      have hk0 : (0 : Int) ≤ (k : Int) := by omega
      have HK := Lib.hid (show k + 1 ≤ n by omega)
      have CE := Lib.hid (HE.out k wr hlt HB.out)
      have HS2 : Hid (((!(suc gs k).contains (b : Int) || done.contains k) && freeP gs done b (k + 1)) = R) := Lib.hid ((freeP_at (by rw [HN.out]; exact hlt)).symm.trans HS.out)
      clear hlt HS
      generalize (suc gs k).contains (b : Int) = E at *
      cases E with
      | false =>
        have HS3 : Hid (freeP gs done b (k + 1) = R) := Lib.hid (by rw [← HS2.out]; simp)
        clear HS2
        go_wp2_with fail
        refine CE.out.mono ?_
        rintro e w3 ⟨rfl, hb3⟩
        have HB3 := Lib.hid (HB.out.trans (hb3.mono HB.out.size))
        clear hb3 CE HB
        go_wp2_with fail
        go_roundw
        case rel => exact ⟨k + 1, by go_num, HK.out, HS3, HB3⟩
        case measure => have := HK.out; first | (simp [intOf]; done) | (simp [intOf]; omega)
      | true =>
        go_wp2_with fail
        refine CE.out.mono ?_
        rintro e w3 ⟨rfl, hb3⟩
        have HB3 := Lib.hid (HB.out.trans (hb3.mono HB.out.size))
        have CH := Lib.hid (HH.out k w3 HB3.out)
        clear hb3 CE HB
        generalize done.contains k = G at *
        cases G with
        | true =>
          have HS3 : Hid (freeP gs done b (k + 1) = R) := Lib.hid (by rw [← HS2.out]; simp)
          clear HS2
          go_wp2_with fail
          refine CH.out.mono ?_
          rintro e w4 ⟨rfl, hb4⟩
          have HB4 := Lib.hid (HB3.out.trans (hb4.mono HB3.out.size))
          clear hb4 CH HB3
          go_wp2_with fail
          go_roundw
          case rel => exact ⟨k + 1, by go_num, HK.out, HS3, HB4⟩
          case measure => have := HK.out; first | (simp [intOf]; done) | (simp [intOf]; omega)
        | false =>
          have HS3 : Hid (false = R) := Lib.hid (by rw [← HS2.out]; simp)
          clear HS2
          go_wp2_with fail
          refine CH.out.mono ?_
          rintro e w4 ⟨rfl, hb4⟩
          have HB4 := Lib.hid (HB3.out.trans (hb4.mono HB3.out.size))
          clear hb4 CH HB3
          go_wp2_with fail
          go_ret
          exact ⟨ret_bool HS3.out, HB4.out⟩
    · obtain rfl : k = n := by omega
      have hki : ¬ (k : Int) < (k : Int) := by omega
      have HS3 : Hid (true = R) := Lib.hid (by rw [← HS.out, freeP_end (by rw [HN.out]; exact Nat.le_refl _)])
      clear HS hlt
      go_wp2_with fail
      go_ret
      exact ⟨ret_bool HS3.out, HB.out⟩
end Go.Proofs.Ythgfomjmkmkhkaa
