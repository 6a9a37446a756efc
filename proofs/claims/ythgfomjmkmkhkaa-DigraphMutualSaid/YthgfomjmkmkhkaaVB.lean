/-
  Reach of the program. Conditions: the slices read as a graph of at most 900 nodes with at most 1000 successors each, and as at most 1000 numbers.
-/
import Derived.Test.YthgfomjmkmkhkaaVA
namespace Go.Proofs.Ythgfomjmkmkhkaa
open Go.RowKit
set_option linter.unusedSimpArgs false
set_option linter.unusedVariables false
theorem rv_start (w : World) (A : Option Addr) (c n : Nat) (hn : n ≤ 1000) (W : World) (hW : ((((w.alloc (Obj.cells #[Value.slice A n c] 22)).alloc (Obj.cells (madeCells #[Value.bool false] n) 4)).alloc (Obj.cells #[Value.slice (some { block := w.heap.size + 1, off := 0 }) n n] 27)).alloc (Obj.cells #[Value.slice none 0 0] 23)) = W) :
    (W.alloc (Obj.cells #[Value.nilFunc] 40)).cell? ⟨w.heap.size + 1 + 1 + 1 + 1, 0, none⟩ = some .nilFunc ∧ (W.alloc (Obj.cells #[Value.nilFunc] 40)).frozen? ⟨w.heap.size + 1 + 1 + 1 + 1, 0, none⟩ = false ∧ VS w (W.alloc (Obj.cells #[visV w] 40)) A c n (fun _ => false) := by
  obtain ⟨w1, e1⟩ : ∃ w1, w.alloc (.cells #[.slice A n c] 22) = w1 := ⟨_, rfl⟩
  have s1 : w1.heap.size = w.heap.size + 1 := by rw [← e1]; simp
  have c1 : w1.cell? ⟨w.heap.size, 0, none⟩ = some (.slice A n c) := by
    rw [← e1, Lib.cell_of_heap (MapKept.heap_alloc w (.cells #[.slice A n c] 22)).1]; rfl
  have b1 : Below w.heap.size w w1 := by rw [← e1]; exact (Below.refl _ _).alloc (Nat.le_refl _) _
  rw [e1] at hW
  have sn1 := bf_new w1 n (by omega) (fun _ => false) (fun _ _ => rfl)
  obtain ⟨w2, e2⟩ : ∃ w2, w1.alloc (.cells (madeCells #[.bool false] n) 4) = w2 := ⟨_, rfl⟩
  have s2 : w2.heap.size = w.heap.size + 1 + 1 := by rw [← e2]; simp [s1]
  have b2 : Below w1.heap.size w1 w2 := by rw [← e2]; exact (Below.refl _ _).alloc (Nat.le_refl _) _
  rw [e2] at sn1 hW
  rw [s1] at sn1
  obtain ⟨w3, e3⟩ : ∃ w3, w2.alloc (.cells #[.slice (some ⟨w.heap.size + 1, 0, none⟩) n n] 27) = w3 := ⟨_, rfl⟩
  have s3 : w3.heap.size = w.heap.size + 1 + 1 + 1 := by rw [← e3]; simp [s2]
  have b3 : Below w2.heap.size w2 w3 := by rw [← e3]; exact (Below.refl _ _).alloc (Nat.le_refl _) _
  have c3 : w3.cell? ⟨w.heap.size + 1 + 1, 0, none⟩ = some (.slice (some ⟨w.heap.size + 1, 0, none⟩) n n) := by
    have h := (MapKept.heap_alloc w2 (.cells #[.slice (some ⟨w.heap.size + 1, 0, none⟩) n n] 27)).1
    rw [s2, e3] at h
    rw [Lib.cell_of_heap h]; rfl
  rw [e3] at hW
  obtain ⟨w4, e4⟩ : ∃ w4, w3.alloc (.cells #[.slice none 0 0] 23) = w4 := ⟨_, rfl⟩
  have s4 : w4.heap.size = w.heap.size + 1 + 1 + 1 + 1 := by rw [← e4]; simp [s3]
  have b4 : Below w3.heap.size w3 w4 := by rw [← e4]; exact (Below.refl _ _).alloc (Nat.le_refl _) _
  have c4 : w4.cell? ⟨w.heap.size + 1 + 1 + 1, 0, none⟩ = some (.slice none 0 0) := by
    have h := (MapKept.heap_alloc w3 (.cells #[.slice none 0 0] 23)).1
    rw [s3, e4] at h
    rw [Lib.cell_of_heap h]; rfl
  rw [e4] at hW
  subst hW
  have h5 := (MapKept.heap_alloc w4 (.cells #[.nilFunc] 40)).1
  rw [s4] at h5
  have h6 := (MapKept.heap_alloc w4 (.cells #[visV w] 40)).1
  rw [s4] at h6
  have c5 : (w4.alloc (Obj.cells #[Value.nilFunc] 40)).cell? ⟨w.heap.size + 1 + 1 + 1 + 1, 0, none⟩ = some .nilFunc := by rw [Lib.cell_of_heap h5]; rfl
  have f5 : (w4.alloc (Obj.cells #[Value.nilFunc] 40)).frozen? ⟨w.heap.size + 1 + 1 + 1 + 1, 0, none⟩ = false := by simp [World.frozen?, h5]
  refine ⟨c5, f5, ?_⟩
  have b5 : Below w4.heap.size w4 (w4.alloc (.cells #[visV w] 40)) := (Below.refl _ _).alloc (Nat.le_refl _) _
  have s5 : (w4.alloc (.cells #[visV w] 40)).heap.size = w.heap.size + 1 + 1 + 1 + 1 + 1 := by simp [s4]
  have c6 : (w4.alloc (Obj.cells #[visV w] 40)).cell? ⟨w.heap.size + 1 + 1 + 1 + 1, 0, none⟩ = some (visV w) := by rw [Lib.cell_of_heap h6]; rfl
  generalize w4.alloc (.cells #[visV w] 40) = W at *
  have b35 : Below w3.heap.size w3 W := b4.trans (b5.mono b4.size)
  have b25 : Below w2.heap.size w2 W := b3.trans (b35.mono b3.size)
  have b15 : Below w1.heap.size w1 W := b2.trans (b25.mono b2.size)
  refine ⟨b1.trans (b15.mono b1.size), by omega, ?_, ?_, ?_, c6, sn1.keep b25⟩
  · rw [b15.cell (show w.heap.size < w1.heap.size by omega)]; exact c1
  · rw [b35.cell (show w.heap.size + 1 + 1 < w3.heap.size by omega)]; exact c3
  · rw [b5.cell (show w.heap.size + 1 + 1 + 1 < w4.heap.size by omega)]; exact c4
theorem vis_all {gs : Gr} {xs : List Int} {G : Nat → Bool} (h : Vis gs (Rch gs xs) (fun _ => false) G) (hs : ∀ m : Nat, (m : Int) ∈ xs → m < gs.length → G m = true) (b : Nat) (hb : b < gs.length) : G b = rchB gs xs b := by
  have := rch_set (g := gs) (S := xs) (fun b => b < gs.length ∧ G b = true) (fun a ha hl => ⟨hl, hs a ha hl⟩) (fun a b ha e => ⟨e.2.1, (h.new a ha.1 ha.2 rfl).2 b e⟩) (fun b hb => (h.new b hb.1 hb.2 rfl).1) b
  rw [Bool.eq_iff_iff, rchB_iff, ← this]
  exact ⟨fun h => ⟨hb, h⟩, fun h => h.2⟩
set_option maxRecDepth 100000 in
set_option maxHeartbeats 8000000 in
theorem reach_any (A A1 : Option Addr) (c c1 : Nat) (gs : Gr) (xs : List Int) (w : World) (h : RG w w.heap.size A gs) (hi : RI w w.heap.size A1 xs) (hl : gs.length ≤ 900) (hl2 : ∀ l ∈ gs, l.length ≤ 1000) (hl3 : xs.length ≤ 1000) :
    Calls Try.prog 15 #[.slice A gs.length c, .slice A1 xs.length c1] w (GivesB (rchs gs xs) w) := by
  have HI := Lib.hid hi
  have HRL := Lib.hid (rchs_len gs xs)
  have HVIS := Lib.hid (see_any A c gs w h gs.length rfl hl hl2 (Rch gs xs) (fun a b ha e => ha.step e))
  have HM1 := Try.make27 gs.length (by omega) (w.alloc (.cells #[.slice A gs.length c] 22))
  obtain ⟨n, hn⟩ : ∃ n, gs.length = n := ⟨_, rfl⟩
  have HN := Lib.hid hn
  have HRS : Hid (rchs gs xs = (List.range n).map (rchB gs xs)) := Lib.hid (by unfold rchs; rw [hn])
  rw [hn] at hl HRL HVIS HM1 ⊢
  clear h hl2 hn hi
  obtain ⟨hc5, hf5, hv5⟩ := rv_start w A c n (by omega) _ rfl
  have HV5 := Lib.hid hv5
  clear hv5
  go_enter Try.func15, Try.ntmps15
  go_wp2_with fail
  rw [run_store _ _ _ _ _ rfl, hc5]
  simp only [hf5, Bool.false_eq_true, if_false]
  rw [← visV]
  go_wp2_with fail
  generalize ((((((w.alloc (Obj.cells #[Value.slice A n c] 22)).alloc (Obj.cells (madeCells #[Value.bool false] n) 4)).alloc (Obj.cells #[Value.slice (some { block := w.heap.size + 1, off := 0 }) n n] 27)).alloc (Obj.cells #[Value.slice none 0 0] 23))).alloc (Obj.cells #[visV w] 40)) = w5 at *
  clear hc5 hf5 HM1
  go_loopw [9, 17] (fun _ s17 wr => ∃ (i : Nat) (G : Nat → Bool), s17 = .int .i64 (i : Int) ∧ i ≤ xs.length ∧ Hid (VS w wr A c n G) ∧ Hid (Vis gs (Rch gs xs) (fun _ => false) G) ∧ Hid (∀ i' (m : Nat), i' < i → xs[i']? = some (m : Int) → m < n → G m = true)) (fun _ s17 _ => (xs.length - intOf s17).toNat)
  case atStart => exact ⟨0, _, rfl, by omega, HV5, Lib.hid (Vis.refl _ _ _), Lib.hid (fun i' m hi => by omega)⟩
  case round =>
    clear HV5
    obtain ⟨i, G, rfl, hi, HVG, HVI, HJ⟩ := hrel
    have g4 := HVG.out.g4
    by_cases hlt : i < xs.length
    · have hii : (i : Int) < (xs.length : Int) := by omega
      have hi0 : (0 : Int) ≤ (i : Int) := by omega
      have HIK := Lib.hid (show i + 1 ≤ xs.length by omega)
      obtain ⟨ax, hAx, _, cx⟩ := (HI.out.below HVG.out.below).at_ i hlt
      subst hAx
      have HXI : Hid (xs[i]? = some xs[i]) := Lib.hid (List.getElem?_eq_getElem hlt)
      generalize xs[i] = x at *
      have CE := Lib.hid (HVIS.out (n - cnt G n) G x 0 wr rfl (Nat.zero_le _) HVG.out (fun m hm hmn => ⟨m, by rw [← hm]; exact List.mem_of_getElem? HXI.out, 0, Walk.nil m (by rw [HN.out]; exact hmn)⟩))
      unfold visV at g4
      clear hlt
      go_wp2_with fail
      refine CE.out.mono ?_
      rintro e w6 ⟨rfl, G5, hv5, hi5, hm5⟩
      have HV5 := Lib.hid hv5
      have HI5 := Lib.hid (HVI.out.trans hi5)
      have HJ5 : Hid (∀ i' (m : Nat), i' < i + 1 → xs[i']? = some (m : Int) → m < n → G5 m = true) := Lib.hid (fun i' m hi hm hmn => by
        rcases Nat.lt_or_ge i' i with h | h
        · exact hi5.stay m (by rw [HN.out]; exact hmn) (HJ.out i' m h hm hmn)
        · obtain rfl : i' = i := by omega
          rw [HXI.out] at hm
          exact hm5 m (Option.some.inj hm) hmn)
      clear hv5 hi5 hm5 CE HVG HVI HJ g4 cx
      go_wp2_with fail
      go_roundw
      case rel => exact ⟨i + 1, G5, by go_num, HIK.out, HV5, HI5, HJ5⟩
      case measure => have := HIK.out; first | (simp [intOf]; done) | (simp [intOf]; omega)
    · obtain rfl : i = xs.length := by omega
      have hki : ¬ (xs.length : Int) < (xs.length : Int) := by omega
      have HZ : Hid (∀ b, b < n → G b = rchB gs xs b) := Lib.hid (fun b hb => vis_all HVI.out (fun m hm hmn => by
        obtain ⟨i, hi, he⟩ := List.getElem_of_mem hm
        exact HJ.out i m hi (by rw [List.getElem?_eq_getElem hi, he]) (by rw [← HN.out]; exact hmn)) b (by rw [HN.out]; exact hb))
      clear hlt g4 HJ HVI
      go_wp2_with fail
      obtain ⟨wr9, rfl⟩ : ∃ x, x = wr := ⟨_, rfl⟩
      go_loopw [10] (fun _ wr => wr = wr9) (fun _ _ => 0)
      case atStart => rfl
      case round =>
        obtain rfl := hrel
        have g3 := HVG.out.g3
        have g2 := HVG.out.g2
        go_wp2_with fail
        go_ret
        exact ⟨some ⟨w.heap.size + 1, 0, none⟩, n, by rw [HRL.out]; rfl, by rw [HRS.out]; exact (HVG.out.bf.congr HZ.out).rb, HVG.out.below⟩
end Go.Proofs.Ythgfomjmkmkhkaa
