/-
  Distances of the program gives the distances. Conditions: the slice reads as a graph of at most 1000 nodes with at most 1000 successors each.
-/
import Derived.Test.YthgfomjmkmkhkaaX
namespace Go.Proofs.Ythgfomjmkmkhkaa
open Go.RowKit
set_option linter.unusedSimpArgs false
set_option linter.unusedVariables false
/-- the boxes before the queue is made -/
structure DS0 (w wr : World) (A : Option Addr) (c n : Nat) (D : List Int) : Prop where
  below : Below w.heap.size w wr
  size : wr.heap.size = w.heap.size + 1 + 1 + 1
  g0 : wr.cell? ⟨w.heap.size, 0, none⟩ = some (.slice A n c)
  g2 : wr.cell? ⟨w.heap.size + 1 + 1, 0, none⟩ = some (.slice (some ⟨w.heap.size + 1, 0, none⟩) n n)
  row : IRow wr (w.heap.size + 1) n D
theorem DS0.set {w wr : World} {A : Option Addr} {c n : Nat} {D : List Int} (S : DS0 w wr A c n D) (x : Nat) (d : Int) : DS0 w (wr.setCell ⟨w.heap.size + 1, x, none⟩ (.int .i64 d)) A c n (D.set x d) := by
  have hk : ∀ k, k ≠ w.heap.size + 1 → (wr.setCell ⟨w.heap.size + 1, x, none⟩ (.int .i64 d)).heap[k]? = wr.heap[k]? := fun k hk => Below.heap_setCell _ _ _ _ hk
  exact ⟨S.below.setCell (by show w.heap.size ≤ w.heap.size + 1; omega) _, by simp [World.setCell]; exact S.size, by rw [World.cell?_of_block (w := wr) (hk w.heap.size (by omega))]; exact S.g0, by rw [World.cell?_of_block (w := wr) (hk (w.heap.size + 1 + 1) (by omega))]; exact S.g2, ir_set S.row x d⟩
theorem ds0_start (w : World) (A : Option Addr) (c n : Nat) (hn : n ≤ 1000) : DS0 w (((w.alloc (.cells #[.slice A n c] 22)).alloc (.cells (madeCells #[.int .i64 0] n) 3)).alloc (.cells #[.slice (some ⟨w.heap.size + 1, 0, none⟩) n n] 23)) A c n (List.replicate n 0) := by
  have h1 := ir_new (w.alloc (.cells #[.slice A n c] 22)) n (by omega)
  have s1 : (w.alloc (.cells #[.slice A n c] 22)).heap.size = w.heap.size + 1 := by simp
  rw [s1] at h1
  have hb := (Below.refl (w.heap.size + 1 + 1) ((w.alloc (.cells #[.slice A n c] 22)).alloc (.cells (madeCells #[.int .i64 0] n) 3))).alloc (by simp) (.cells #[.slice (some ⟨w.heap.size + 1, 0, none⟩) n n] 23)
  refine ⟨(((Below.refl _ _).alloc (Nat.le_refl _) _).alloc (by simp) _).alloc (by simp; omega) _, by simp, ?_, ?_, ?_⟩
  · rw [hb.cell (show w.heap.size < w.heap.size + 1 + 1 by omega)]
    rw [((Below.refl (w.heap.size + 1) (w.alloc (.cells #[.slice A n c] 22))).alloc (by simp) (.cells (madeCells #[.int .i64 0] n) 3)).cell (show w.heap.size < w.heap.size + 1 by omega)]
    rw [Lib.cell_of_heap (MapKept.heap_alloc w (.cells #[.slice A n c] 22)).1]; rfl
  · have := (MapKept.heap_alloc ((w.alloc (.cells #[.slice A n c] 22)).alloc (.cells (madeCells #[.int .i64 0] n) 3)) (.cells #[.slice (some ⟨w.heap.size + 1, 0, none⟩) n n] 23)).1
    have s2 : ((w.alloc (.cells #[.slice A n c] 22)).alloc (.cells (madeCells #[.int .i64 0] n) 3)).heap.size = w.heap.size + 1 + 1 := by simp
    rw [s2] at this
    rw [Lib.cell_of_heap this]; rfl
  · have s2 : ((w.alloc (.cells #[.slice A n c] 22)).alloc (.cells (madeCells #[.int .i64 0] n) 3)).heap.size = w.heap.size + 1 + 1 := by simp
    exact ir_below h1 ((Below.refl _ _).alloc (Nat.le_refl _) _)
theorem DS0.found {w wr : World} {A : Option Addr} {c n : Nat} {D : List Int} (S : DS0 w wr A c n D) : DS w (wr.alloc (.cells #[.slice none 0 0] 23)) A c n D [] := by
  have hb : Below wr.heap.size wr (wr.alloc (.cells #[.slice none 0 0] 23)) := (Below.refl _ _).alloc (Nat.le_refl _) _
  have hs := S.size
  have hn := (MapKept.heap_alloc wr (.cells #[.slice none 0 0] 23)).1
  rw [hs] at hn
  refine ⟨S.below.trans (hb.mono S.below.size), by simp; omega, by rw [hb.cell (show w.heap.size < wr.heap.size by omega)]; exact S.g0, by rw [hb.cell (show w.heap.size + 1 + 1 < wr.heap.size by omega)]; exact S.g2, ir_below S.row hb, ⟨none, 0, by rw [Lib.cell_of_heap hn]; rfl, World.ownsRow_nil _ _ _ _⟩, ?_⟩
  simp [World.frozen?, hn]
theorem bfs_after {gs : Gr} {a : Nat} {D : List Int} {F : List Nat} {i m j k : Nat} {ys : List Int} {x dm : Int} {S : List Int → List Nat → Prop} (HQ : Bfs gs a D F i) (HM : F[i]? = some m) (hk : gs.length = k) (hys : suc gs m = ys) (hx : ys[j]? = some x) (hdd : dist gs a m = dm)
    (HJ : ∀ j', j' < j → ∀ cc : Nat, ys[j']? = some (cc : Int) → cc < gs.length → cc ∈ F)
    (hc : (∃ mm : Nat, x = (mm : Int) ∧ mm < k ∧ (∃ u, D[mm]? = some u ∧ u < 0) ∧ S (D.set mm (dm + 1)) (F ++ [mm])) ∨ ((∀ mm : Nat, x = (mm : Int) → mm < k → ∃ u, D[mm]? = some u ∧ 0 ≤ u) ∧ S D F)) :
    ∃ D' F', S D' F' ∧ Bfs gs a D' F' i ∧ F'[i]? = some m ∧ ∀ j', j' < j + 1 → ∀ cc : Nat, ys[j']? = some (cc : Int) → cc < gs.length → cc ∈ F' := by
  subst hk hys hdd
  have hil : i < F.length := by
    rcases Nat.lt_or_ge i F.length with h | h
    · exact h
    · rw [List.getElem?_eq_none h] at HM; cases HM
  rcases hc with ⟨mm, rfl, hmk, ⟨u, hu, hu0⟩, hS⟩ | ⟨hno, hS⟩
  · have he : Edge gs m mm := ⟨(HQ.mem m (List.mem_of_getElem? HM)).1, hmk, List.mem_of_getElem? hx⟩
    refine ⟨_, _, hS, bfs_visit HQ HM he ((HQ.neg hu).1 hu0), by rw [List.getElem?_append_left hil]; exact HM, fun j' hj' cc hcc hcl => ?_⟩
    by_cases hjj : j' = j
    · subst hjj
      rw [hx] at hcc
      have := Option.some.inj hcc
      obtain rfl : mm = cc := by omega
      simp
    · exact List.mem_append_left _ (HJ j' (by omega) cc hcc hcl)
  · refine ⟨_, _, hS, HQ, HM, fun j' hj' cc hcc hcl => ?_⟩
    by_cases hjj : j' = j
    · subst hjj
      rw [hx] at hcc
      obtain ⟨u, hu, hu0⟩ := hno cc (Option.some.inj hcc) hcl
      exact Classical.byContradiction fun hn => absurd ((HQ.neg hu).2 hn) (by omega)
    · exact HJ j' (by omega) cc hcc hcl
theorem DS.at_ {w wr : World} {A : Option Addr} {c n : Nat} {D : List Int} {F : List Nat} (S : DS w wr A c n D F) {i m : Nat} (hi : F[i]? = some m) :
    ∃ g c1, wr.cell? ⟨w.heap.size + 1 + 1 + 1, 0, none⟩ = some (.slice (some ⟨g, 0, none⟩) F.length c1) ∧ wr.cell? ⟨g, i, none⟩ = some (.int .i64 (m : Int)) := by
  obtain ⟨A1, c1, h1, h2⟩ := S.fnd
  have hl : i < F.length := by
    rcases Nat.lt_or_ge i F.length with h | h
    · exact h
    · rw [List.getElem?_eq_none h] at hi; cases hi
  rcases h2.2 with ⟨_, h0⟩ | ⟨g, cap, cur, hv, _⟩
  · exact absurd (show F.length = 0 by first | exact h0 | simpa [icells, ints] using h0) (by omega)
  · injection hv with e1 e2 e3
    subst e1
    refine ⟨g, c1, h1, ?_⟩
    rw [World.ownsRow.cellAt h2 i (by simp [icells, ints]; exact hl)]
    simp [icells, ints, List.getD_eq_getElem?_getD, hi]
set_option maxRecDepth 100000 in
set_option maxHeartbeats 4000000 in
theorem pdist_any (A : Option Addr) (c : Nat) (gs : Gr) (f : Int) (w : World) (h : RG w w.heap.size A gs) (hl : gs.length ≤ 1000) (hl2 : ∀ l ∈ gs, l.length ≤ 1000) :
    Calls Try.prog 21 #[.slice A gs.length c, .int .i64 f] w (GivesI (distsI gs f) w) := by
  have HX := Lib.hid h
  have HL := Lib.hid hl2
  clear h hl2
  have HV := Lib.hid (fun (D : List Int) (F : List Nat) (x d : Int) (wr : World) (S : DS w wr A c gs.length D F) (hF : F.length ≤ 1000) => visit_any A c gs D F x d w wr S hl hF)
  have HMK := Try.make23 gs.length (by omega) (w.alloc (.cells #[.slice A gs.length c] 22))
  have HS0 := Lib.hid (ds0_start w A c gs.length hl)
  generalize hn : gs.length = n at *
  have HN := Lib.hid hn
  clear hn
  go_enter Try.func21, Try.ntmps21
  go_wp2_with fail
  generalize (((w.alloc (.cells #[.slice A n c] 22)).alloc (.cells (madeCells #[.int .i64 0] n) 3)).alloc (.cells #[.slice (some ⟨w.heap.size + 1, 0, none⟩) n n] 23)) = w0 at *
  go_loopw [6, 18] (fun s6 s18 wr => ∃ (k : Nat) (xs : List Int), s18 = .int .i64 (k : Int) ∧ k ≤ n ∧ Hid (DS0 w wr A c n xs) ∧ Hid (∀ j, j < k → xs[j]? = some (-1))) (fun _ s18 _ => (n - intOf s18).toNat)
  case atStart => exact ⟨0, _, rfl, by omega, HS0, Lib.hid (fun j hj => by omega)⟩
  case round =>
    obtain ⟨k, xs, rfl, hk, HD, HS⟩ := hrel
    by_cases hlt : k < n
    · have hki : (k : Int) < (n : Int) := by omega
      have hk0 : (0 : Int) ≤ (k : Int) := by omega
      have HK := Lib.hid (show k + 1 ≤ n by omega)
      obtain ⟨y, hy⟩ : ∃ y, xs[k]? = some y := ⟨_, List.getElem?_eq_getElem (by rw [ir_len HD.out.row]; exact hlt)⟩
      obtain ⟨hg, hc, hf⟩ := ir_at HD.out.row k hlt y hy
      have g2 := HD.out.g2
      have HD2 := Lib.hid (HD.out.set k (-1))
      have HS2 := Lib.hid (show ∀ j, j < k + 1 → (xs.set k (-1))[j]? = some (-1) from fun j hj => by
        by_cases hjk : k = j
        · subst hjk; rw [List.getElem?_set_self (by rw [ir_len HD.out.row]; exact hlt)]
        · rw [List.getElem?_set_ne hjk]; exact HS.out j (by omega))
      clear hlt HD HS hy
      go_wp2_with fail
      go_roundw
      case rel => exact ⟨k + 1, _, by go_num, HK.out, HD2, HS2⟩
      case measure => have := HK.out; first | (simp [intOf]; done) | (simp [intOf]; omega)
    · obtain rfl : k = n := by omega
      have hki : ¬ (k : Int) < (k : Int) := by omega
      clear hlt
      have HXS : Hid (xs = List.replicate k (-1)) := Lib.hid (by
        refine List.ext_getElem? fun j => ?_
        rcases Nat.lt_or_ge j k with hj | hj
        · rw [HS.out j hj]; simp [hj]
        · rw [List.getElem?_eq_none (by rw [ir_len HD.out.row]; exact hj), List.getElem?_eq_none (by simpa using hj)])
      have HS1 := Lib.hid HD.out.found
      have HSZ := HD.out.size
      by_cases hfn : 0 ≤ f ∧ f < (k : Int)
      · obtain ⟨a, rfl⟩ : ∃ a : Nat, f = (a : Int) := ⟨f.toNat, by omega⟩
        have ha : a < k := by omega
        have HO : Hid (distsI gs (a : Int) = dists gs a) := Lib.hid (by unfold distsI; rw [if_pos ⟨by omega, by rw [HN.out]; exact hfn.2⟩]; rfl)
        have HBf : Hid (Bfs gs a (xs.set a 0) [a] 0) := Lib.hid (by rw [HXS.out]; have := bfs_start (g := gs) (a := a) (by rw [HN.out]; exact ha); rw [HN.out] at this; exact this)
        have HXA : Hid (xs[a]? = some (-1)) := Lib.hid (HS.out a ha)
        clear HXS hfn HS
        go_wp2_with fail
        refine (HV.out xs [] (a : Int) 0 _ HS1.out (by simp)).mono ?_
        rintro e w2 ⟨rfl, ⟨m, hm, hmk, _, HS2⟩ | ⟨hno, _⟩⟩
        · obtain rfl : a = m := by omega
          have HS2 := Lib.hid HS2
          generalize xs.set a 0 = D at *
          generalize wr.alloc (.cells #[.slice none 0 0] 23) = wz at *
          clear HS1 HSZ HXA hm hmk
          go_wp2_with fail
          go_loopw [9, 10, 12] (fun s9 _ _ wr => ∃ (i : Nat) (D : List Int) (F : List Nat), s9 = .int .i64 (i : Int) ∧ i ≤ F.length ∧ Hid (DS w wr A c k D F) ∧ Hid (Bfs gs a D F i)) (fun s9 _ _ _ => (k + 1 - intOf s9).toNat)
          case atStart => exact ⟨0, _, _, rfl, by omega, HS2, HBf⟩
          case round =>
            obtain ⟨i, D, F, rfl, hi, HD, HQ⟩ := hrel
            have hFk : F.length ≤ k := by have := pig gs.length F HQ.out.nod (fun x hx => (HQ.out.mem x hx).1); rw [HN.out] at this; exact this
            by_cases hif : i < F.length
            · have hki : (i : Int) < (F.length : Int) := by omega
              have hk0 : (0 : Int) ≤ (i : Int) := by omega
              obtain ⟨m, hm⟩ : ∃ m, F[i]? = some m := ⟨_, List.getElem?_eq_getElem hif⟩
              obtain ⟨g, c1, hfc, hfi⟩ := HD.out.at_ hm
              have g0 := HD.out.g0
              have g2 := HD.out.g2
              have hmk : m < gs.length := (HQ.out.mem m (List.mem_of_getElem? hm)).1
              obtain ⟨ad, A2, c2, hA, hbk, hga0, HRI⟩ := HX.out.at_ m hmk
              have hga : wr.cell? (ad.add m) = some (.slice A2 gs[m].length c2) := by rw [HD.out.below.cell (by rw [block_of_add]; exact hbk)]; exact hga0
              subst hA
              have hm0 : (0 : Int) ≤ (m : Int) := by omega
              have hm1 : (m : Int) < (k : Int) := by have := HN.out; omega
              have HM := Lib.hid hm
              have HMK := Lib.hid hmk
              have HIF := Lib.hid (show i + 1 ≤ k by omega)
              have hsu : suc gs m = gs[m] := by unfold suc; rw [List.getElem?_eq_getElem hmk]; rfl
              have hgl : (suc gs m).length ≤ 1000 := by rw [hsu]; exact HL.out _ (List.getElem_mem _)
              have HRI2 : Hid (RI w w.heap.size A2 (suc gs m)) := Lib.hid (by rw [hsu]; exact HRI)
              have hga2 : wr.cell? (ad.add m) = some (.slice A2 (suc gs m).length c2) := by rw [hsu]; exact hga
              clear hga hga0 HRI
              obtain ⟨ys, hys⟩ : ∃ ys, suc gs m = ys := ⟨_, rfl⟩
              rw [hys] at hgl HRI2 hga2
              have HYS := Lib.hid hys
              clear hys
              clear hm hmk hif hsu
              have HD0 := HD
              have HQ0 := HQ
              go_wp2_with fail
              clear g0 g2 hfc hfi hga2 hki hk0 HD HQ
              go_loopw [12, 44] (fun _ s44 wr => ∃ (j : Nat) (D : List Int) (F : List Nat), s44 = .int .i64 (j : Int) ∧ j ≤ ys.length ∧ Hid (DS w wr (some ad) c k D F) ∧ Hid (Bfs gs a D F i) ∧ Hid (F[i]? = some m) ∧ Hid (∀ j', j' < j → ∀ cc : Nat, ys[j']? = some (cc : Int) → cc < gs.length → cc ∈ F)) (fun _ s44 _ => (ys.length - intOf s44).toNat)
              case atStart => exact ⟨0, _, _, rfl, by omega, HD0, HQ0, HM, Lib.hid (fun j' hj => by omega)⟩
              case round =>
                clear HD0 HQ0 HM hi hFk
                obtain ⟨j, D, F, rfl, hj, HD, HQ, HM, HJ⟩ := hrel
                by_cases hjl : j < ys.length
                · have hki : (j : Int) < (ys.length : Int) := by omega
                  have hk0 : (0 : Int) ≤ (j : Int) := by omega
                  have HJ1 := Lib.hid (show j + 1 ≤ ys.length by omega)
                  obtain ⟨a1, hA1, hl1, c0⟩ := (HRI2.out.below HD.out.below).at_ j hjl
                  subst hA1
                  have hmF := List.mem_of_getElem? HM.out
                  have hdm := (HQ.out.mem m hmF).2
                  obtain ⟨hgr, hcr, hfr⟩ := ir_at HD.out.row m (by omega) _ hdm.1
                  have g2 := HD.out.g2
                  have hd0 := hdm.2
                  have hd1 : dist gs a m < 1000 := by have := dist_lt gs a m; have := HN.out; omega
                  have hFk : F.length ≤ 1000 := by have := pig gs.length F HQ.out.nod (fun x hx => (HQ.out.mem x hx).1); have := HN.out; omega
                  have HX9 : Hid (ys[j]? = some ys[j]) := Lib.hid (List.getElem?_eq_getElem hjl)
                  generalize ys[j] = x at *
                  obtain ⟨dm, hdd⟩ : ∃ dm, dist gs a m = dm := ⟨_, rfl⟩
                  rw [hdd] at hcr hd0 hd1
                  have HDD := Lib.hid hdd
                  have HVV := Lib.hid (HV.out D F x (dm + 1) wr HD.out hFk)
                  clear hdm hmF hdd hjl hgr hfr
                  go_wp2_with fail
                  refine HVV.out.mono ?_
                  rintro e w3 ⟨rfl, hcase⟩
                  obtain ⟨D3, F3, hS3, hQ3, hM3, hJ3⟩ := bfs_after (S := fun D F => DS w w3 (some ad) c k D F) HQ.out HM.out HN.out HYS.out HX9.out HDD.out HJ.out hcase
                  have HS3 := Lib.hid hS3
                  have HQ3 := Lib.hid hQ3
                  have HM3 := Lib.hid hM3
                  have HJ3 := Lib.hid hJ3
                  clear hcase hS3 hQ3 hM3 hJ3 HVV c0 hcr g2
                  go_wp2_with fail
                  go_roundw
                  case rel => exact ⟨j + 1, D3, F3, by go_num, HJ1.out, HS3, HQ3, HM3, HJ3⟩
                  case measure => have := HJ1.out; first | (simp [intOf]; done) | (simp [intOf]; omega)
                · obtain rfl : j = ys.length := by omega
                  have hki : ¬ (ys.length : Int) < (ys.length : Int) := by omega
                  have HQ4 : Hid (Bfs gs a D F (i + 1)) := Lib.hid (bfs_next HQ.out HM.out (fun cc he => by
                    obtain ⟨j', hj', e⟩ := List.mem_iff_getElem.1 he.2.2
                    have h1 : (suc gs m)[j']? = some (cc : Int) := by rw [List.getElem?_eq_getElem hj', e]
                    rw [HYS.out] at h1 hj'
                    exact HJ.out j' hj' cc h1 he.2.1))
                  have HI4 := Lib.hid (show i + 1 ≤ F.length by
                    rcases Nat.lt_or_ge i F.length with h | h
                    · omega
                    · have := HM.out; rw [List.getElem?_eq_none h] at this; cases this)
                  have HFK := Lib.hid (show F.length ≤ k by have := pig gs.length F HQ.out.nod (fun x hx => (HQ.out.mem x hx).1); rw [HN.out] at this; exact this)
                  have hi9 : i < 1000 := by have := HI4.out; have := HFK.out; omega
                  clear HQ hjl
                  go_wp2_with fail
                  go_roundw
                  case rel => exact ⟨i + 1, D, F, by go_num, HI4.out, HD, HQ4⟩
                  case measure => have := HI4.out; have := HFK.out; first | (simp [intOf]; done) | (simp [intOf]; omega)
            · have hki : ¬ (i : Int) < (F.length : Int) := by omega
              obtain ⟨A1, c1, hfc, _⟩ := HD.out.fnd
              have g2 := HD.out.g2
              have HZ : Hid (D = dists gs a) := Lib.hid (bfs_end HQ.out (by omega))
              clear hif
              go_wp2_with fail
              go_ret
              rw [HO.out, ← HZ.out]
              exact gives_ir HD.out.row HD.out.below
        · exfalso
          obtain ⟨u, hu, hu0⟩ := hno a rfl ha
          rw [HXA.out] at hu
          have := Option.some.inj hu
          omega
      · have HO : Hid (distsI gs f = xs) := Lib.hid (by unfold distsI; rw [if_neg (by rw [HN.out]; exact hfn), HXS.out, HN.out])
        go_wp2_with fail
        refine (HV.out xs [] f 0 _ HS1.out (by simp)).mono ?_
        rintro e w2 ⟨rfl, ⟨m, hm, hmk, _, HS2⟩ | ⟨_, HS2⟩⟩
        · exact absurd ⟨by omega, by omega⟩ hfn
        · have HS2 := Lib.hid HS2
          generalize wr.alloc (.cells #[.slice none 0 0] 23) = wz at *
          obtain ⟨A1, c1, hfc, _⟩ := HS2.out.fnd
          have g2 := HS2.out.g2
          clear HS1 HSZ HXS HS hfn
          go_wp2_with fail
          go_loopw [9, 10, 12] (fun s9 _ _ wr => s9 = .int .i64 0 ∧ wr = w2) (fun s9 _ _ _ => (1 - intOf s9).toNat)
          case atStart => exact ⟨rfl, rfl⟩
          case round =>
            obtain ⟨rfl, rfl⟩ := hrel
            go_wp2_with fail
            go_ret
            rw [HO.out]
            exact gives_ir HS2.out.row HS2.out.below
end Go.Proofs.Ythgfomjmkmkhkaa
