/-
  Cycle of the program. Conditions: the slice reads as a graph of at most 900 nodes with at most 1000 successors each.
-/
import Derived.Test.YthgfomjmkmkhkaaM9
namespace Go.Proofs.Ythgfomjmkmkhkaa
open Go.RowKit
set_option linter.unusedSimpArgs false
set_option linter.unusedVariables false
theorem rev_rows (gs : Gr) : ∀ l ∈ rev gs, l.length ≤ gs.length := by
  intro l hl
  obtain ⟨m, hm, e⟩ := List.mem_iff_getElem.1 hl
  have := rev_suc_len gs m
  unfold suc at this
  rw [List.getElem?_eq_getElem hm, e] at this
  exact this
set_option maxRecDepth 100000 in
set_option maxHeartbeats 4000000 in
theorem pcycle_any (A : Option Addr) (c : Nat) (gs : Gr) (w : World) (h : RG w w.heap.size A gs) (hl : gs.length ≤ 900) (hl2 : ∀ l ∈ gs, l.length ≤ 1000) :
    Calls Try.prog 27 #[.slice A gs.length c] w (GivesI (ints (cycS gs)) w) := by
  have HX := Lib.hid h
  have CC := Lib.hid (cyclic_any A c gs w h hl hl2)
  have CRV := Lib.hid (fun W (hb : Below w.heap.size w W) => preverse_any A c gs W (HX.out.up hb) hl hl2)
  have CDI := Lib.hid (fun Ab cb (f : Nat) W (hB : RG W W.heap.size Ab (rev gs)) => pdist_any Ab cb (rev gs) (f : Int) W hB (by rw [rev_len]; omega) (fun l hl' => by have := rev_rows gs l hl'; omega))
  have CNE := Lib.hid (fun Al dl a ls W (hb : Below w.heap.size w W) (hL : RI W W.heap.size Al ls) (ha : a < gs.length) (hn : ls.length = gs.length) => nearest_any A Al c dl gs a ls W (HX.out.up hb) hL ha hn (by omega) hl2)
  have HLR := Lib.hid (rev_len gs)
  obtain ⟨k, hk⟩ : ∃ k, gs.length = k := ⟨_, rfl⟩
  have HK := Lib.hid hk
  rw [hk] at hl CC CRV HLR CNE ⊢
  rw [HLR.out] at CDI
  clear h hl2 hk HX
  rcases hcy : cycAt gs with _ | s
  · have HCI : Hid (cycI gs = -1) := Lib.hid (by unfold cycI; rw [hcy])
    have HCS : Hid (cycS gs = []) := Lib.hid (by unfold cycS; rw [hcy])
    rw [HCI.out] at CC
    rw [HCS.out]
    clear hcy CRV CDI CNE
    go_enter Try.func27, Try.ntmps27
    go_wp2_with fail
    refine CC.out.mono ?_
    rintro e w2 ⟨rfl, hb2⟩
    have HB2 := Lib.hid hb2
    clear hb2 CC
    go_wp2_with fail
    go_ret
    exact ⟨none, 0, rfl, ⟨fun k hk => by simp [ints] at hk⟩, HB2.out⟩
  · obtain ⟨hs1, hs2, _⟩ := cycAt_is hcy
    have HCI : Hid (cycI gs = (s : Int)) := Lib.hid (by unfold cycI; rw [hcy])
    rw [HCI.out] at CC
    obtain ⟨n1, n2, n3, _⟩ := nxS_is hs2
    obtain ⟨d1, hd1, _⟩ := dist_nonneg n3
    have HT : Hid (cycS gs = s :: cyP gs s d1 (nxS gs s s)) := Lib.hid (by unfold cycS; rw [hcy]; simp only [hd1]; simp)
    have HN1 := Lib.hid n1
    have HN2 := Lib.hid n2.2.1
    have HD1 := Lib.hid hd1
    have HDL : Hid (d1 < k) := Lib.hid (by have := dist_lt gs (nxS gs s s) s; have := HK.out; omega)
    have HS1 := Lib.hid hs1
    obtain ⟨T, hT⟩ : ∃ T, cycS gs = T := ⟨_, rfl⟩
    rw [hT] at HT ⊢
    have hs0 : (0 : Int) ≤ (s : Int) := by omega
    have hs9 : (s : Int) < (k : Int) := by have := HK.out; omega
    clear hcy hs1 hs2 n1 n2 n3 hd1 hT
    go_enter Try.func27, Try.ntmps27
    go_wp2_with fail
    refine CC.out.mono ?_
    rintro e w2 ⟨rfl, hb2⟩
    have HB2 := Lib.hid hb2
    have CR := Lib.hid (CRV.out w2 hb2)
    clear hb2 CC CRV
    go_wp2_with fail
    refine CR.out.mono ?_
    rintro e w3 ⟨Ab, cb, rfl, hR3, hb3⟩
    rw [HLR.out]
    have CD := Lib.hid (CDI.out Ab cb s w3 hR3.rg)
    have HB3 := Lib.hid (HB2.out.trans (hb3.mono HB2.out.size))
    clear hR3 hb3 CR CDI
    go_wp2_with fail
    refine CD.out.mono ?_
    rintro e w4 ⟨Al, cl, rfl, hL4, hb4⟩
    have HE : distsI (rev gs) (s : Int) = dists (rev gs) s := by unfold distsI; rw [if_pos ⟨by omega, by have := HS1.out; rw [rev_len]; omega⟩]; rfl
    rw [HE] at hL4 ⊢
    have HLL : Hid ((dists (rev gs) s).length = k) := Lib.hid (by rw [dists_len, HLR.out])
    obtain ⟨ls, hls⟩ : ∃ ls, dists (rev gs) s = ls := ⟨_, rfl⟩
    have HLS := Lib.hid hls
    rw [hls] at hL4 HLL ⊢
    have HN1' := Lib.hid (show near ls k (suc gs s) = (nxS gs s s : Int) by have h := HN1.out; rw [hls, HK.out] at h; exact h)
    rw [HLL.out]
    have HL4 := Lib.hid hL4
    have HB4 := Lib.hid (HB3.out.trans (hb4.mono HB3.out.size))
    have HBL := Lib.hid ((Below.refl w4.heap.size w4).alloc (Nat.le_refl _) (.cells #[.int .i64 (s : Int)] 3))
    have HC0 : Hid ((w4.alloc (.cells #[.int .i64 (s : Int)] 3)).ownsRow w4.heap.size 3 1 (.slice (some ⟨w4.heap.size, 0, none⟩) 1 1) [s].length (icells (ints [s]))) := Lib.hid (World.ownsRow_lit (base := w4.heap.size) (e := 3) (size := 1) w4 #[.int .i64 (s : Int)] 1 (Nat.le_refl _) (by unfold maxLen; omega) rfl)
    have CN := Lib.hid (CNE.out Al cl s ls _ (HB4.out.trans (HBL.out.mono HB4.out.size)) (hL4.up HBL.out) (by have := HS1.out; have := HK.out; omega) (by rw [HLL.out]))
    clear hL4 hb4 CD HE hls HN1
    go_wp2_with fail
    refine CN.out.mono ?_
    rintro e w5 ⟨rfl, hb5⟩
    rw [HN1'.out]
    have HBL5 := Lib.hid (HBL.out.trans (hb5.mono HBL.out.size))
    have HC5 := Lib.hid (own_below HC0.out hb5)
    clear hb5 CN HC0 HBL
    go_wp2_with fail
    go_loopw [5, 6] (fun s5 s6 wr => ∃ (at_ d : Nat) (C : List Nat) (vm : Value), s6 = .int .i64 (at_ : Int) ∧ vm = s5 ∧ at_ < k ∧ Hid (dist gs at_ s = (d : Int)) ∧ Hid (C ++ cyP gs s d at_ = T) ∧ Hid (wr.ownsRow w4.heap.size 3 1 vm C.length (icells (ints C))) ∧ Hid (Below w4.heap.size w4 wr)) (fun _ s6 _ => (dist gs (intOf s6).toNat s).toNat)
    case atStart => exact ⟨nxS gs s s, d1, [s], _, rfl, rfl, by have := HN2.out; have := HK.out; omega, HD1, Lib.hid (by rw [HT.out]; rfl), HC5, HBL5⟩
    case round =>
      clear HC5 HBL5
      obtain ⟨at_, d, C, vm, rfl, rfl, hak, HD, HC, HO, HB⟩ := hrel
      obtain ⟨wr9, rfl⟩ : ∃ x, x = wr := ⟨_, rfl⟩
      by_cases has : at_ = s
      · subst has
        have hd0 : d = 0 := by
          have := HD.out
          rw [dist_self HS1.out] at this
          omega
        subst hd0
        have HZ : Hid (C = T) := Lib.hid (by have := HC.out; simpa [cyP] using this)
        have q1 : ((at_ : Int) != (at_ : Int)) = false := by simp
        obtain ⟨A9, c9, hvm⟩ := own_vis HO.out
        subst hvm
        clear HC
        go_wp2_with fail
        go_ret
        refine ⟨A9, c9, by rw [← HZ.out, ints_len]; rfl, ?_, HB4.out.trans (HB.out.mono HB4.out.size)⟩
        rw [← HZ.out]
        exact ri_own (by rw [ints_len]; exact HO.out)
      · have q1 : ((at_ : Int) != (s : Int)) = true := bne_iff_ne.2 (by omega)
        have q2 : ¬ (at_ : Int) = (s : Int) := by omega
        obtain ⟨d', rfl⟩ : ∃ d', d = d' + 1 := by
          rcases Nat.eq_zero_or_pos d with h | h
          · subst h
            exact absurd (dist_eq_zero (g := gs) (a := at_) (c := s) (by have := HD.out; simpa using this)).symm has
          · exact ⟨d - 1, by omega⟩
        have hnd := nxS_dist (g := gs) (s := s) (a := at_) (d := d') HD.out
        obtain ⟨m1, m2, _, _⟩ := nxS_is (g := gs) (s := s) (a := at_) ⟨d', (far_dist HD.out).1⟩
        have HM1 := Lib.hid (show near ls k (suc gs at_) = (nxS gs s at_ : Int) by have h := m1; rw [HLS.out, HK.out] at h; exact h)
        have HM2 := Lib.hid m2.2.1
        have HND := Lib.hid hnd
        have HCL : Hid (C.length ≤ 1000) := Lib.hid (by
          have h1 := congrArg List.length HC.out
          rw [HT.out] at h1
          simp [cyP_len] at h1
          have := HDL.out
          omega)
        have HC2 : Hid ((C ++ [at_]) ++ cyP gs s d' (nxS gs s at_) = T) := Lib.hid (by rw [← HC.out]; simp [cyP])
        have HO2 := Lib.hid (own_below HO.out ((Below.refl _ _).alloc (Nat.le_refl _) (.cells #[.int .i64 (at_ : Int)] 3)))
        have HSZ := Lib.hid HB.out.size
        have HAL := Lib.hid ((Below.refl wr9.heap.size wr9).alloc (Nat.le_refl _) (.cells #[.int .i64 (at_ : Int)] 3))
        clear has m1 m2 hnd
        go_wp2_with (at_builtin; refine wpList_append_int_at rfl (.tmp 24) (.tmp 26) rfl w4.heap.size vm C at_ rfl HO2.out _ rfl ((MapKept.heap_alloc _ _).1) HCL.out (by have := HSZ.out; simp; omega) ?_)
        intro v5 w6 HO6 hg6 hd6
        have hB6 : Below w4.heap.size w4 w6 := (HB.out.trans (HAL.out.mono HSZ.out)).grown hg6 (by have := HSZ.out; simp; omega) (fun j hj => (World.ownsRow.lt HO.out j hj).1)
        have HO6' := Lib.hid (show w6.ownsRow w4.heap.size 3 1 v5 (C ++ [at_]).length (icells (ints (C ++ [at_]))) by rw [List.length_append]; exact HO6.out)
        have HB6 := Lib.hid hB6
        have CN := Lib.hid (CNE.out Al cl at_ ls w6 (HB4.out.trans (hB6.mono HB4.out.size)) (HL4.out.up hB6) (by have := HK.out; omega) (by rw [HLL.out]))
        clear HO6 hg6 hd6 hB6 HO2 HO HB HC HAL
        go_wp2_with fail
        refine CN.out.mono ?_
        rintro e w7 ⟨rfl, hb7⟩
        rw [HM1.out]
        have HO7 := Lib.hid (own_below HO6'.out hb7)
        have HB7 := Lib.hid (HB6.out.trans (hb7.mono HB6.out.size))
        clear hb7 CN
        go_wp2_with fail
        go_roundw
        case rel => exact ⟨nxS gs s at_, d', C ++ [at_], _, rfl, rfl, by have := HM2.out; have := HK.out; omega, HND, HC2, HO7, HB7⟩
        case measure =>
          have h1 := HD.out
          have h2 := HND.out
          simp only [intOf]
          simp
          rw [h1, h2]
          simp
          omega
end Go.Proofs.Ythgfomjmkmkhkaa
