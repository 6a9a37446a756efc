/-
  Cycle of the specification. Conditions: the slice reads as a graph of at most 900 nodes with at most 1000 successors each.
-/
import Derived.Test.YthgfomjmkmkhkaaRQ
import Derived.Test.YthgfomjmkmkhkaaP
namespace Go.Proofs.Ythgfomjmkmkhkaa
open Go.RowKit
set_option linter.unusedSimpArgs false
set_option linter.unusedVariables false
/-- the least distance among the successors passed -/
def LeftOk (g : Gr) (s a m : Nat) (z : Int) : Prop := (z = -1 ∧ ∀ q, q < m → Edge g a q → dist g q s < 0) ∨ ∃ q, q < m ∧ Edge g a q ∧ z = dist g q s ∧ 0 ≤ z ∧ ∀ r, r < m → Edge g a r → 0 ≤ dist g r s → z ≤ dist g r s
theorem left_skip {g : Gr} {s a m : Nat} {z : Int} (h : LeftOk g s a m z) (hn : ¬ Edge g a m ∨ dist g m s < 0 ∨ (0 ≤ z ∧ z ≤ dist g m s)) : LeftOk g s a (m + 1) z := by
  rcases h with ⟨h1, h2⟩ | ⟨q, h1, h2, h3, h4, h5⟩
  · refine Or.inl ⟨h1, fun r hr e => ?_⟩
    rcases Nat.lt_or_ge r m with h | h
    · exact h2 r h e
    · obtain rfl : r = m := by omega
      rcases hn with h | h | h
      · exact absurd e h
      · exact h
      · omega
  · refine Or.inr ⟨q, by omega, h2, h3, h4, fun r hr e h0 => ?_⟩
    rcases Nat.lt_or_ge r m with h | h
    · exact h5 r h e h0
    · obtain rfl : r = m := by omega
      rcases hn with h | h | h
      · exact absurd e h
      · omega
      · exact h.2
theorem left_take {g : Gr} {s a m : Nat} {z : Int} (h : LeftOk g s a m z) (e : Edge g a m) (h0 : 0 ≤ dist g m s) (hz : z < 0 ∨ dist g m s < z) : LeftOk g s a (m + 1) (dist g m s) := by
  refine Or.inr ⟨m, by omega, e, rfl, h0, fun r hr er h1 => ?_⟩
  rcases Nat.lt_or_ge r m with h' | h'
  · rcases h with ⟨k1, k2⟩ | ⟨q, k1, k2, k3, k4, k5⟩
    · have := k2 r h' er; omega
    · have := k5 r h' er h1; omega
  · obtain rfl : r = m := by omega
    exact Int.le_refl _
theorem left_end {g : Gr} {s a : Nat} {z : Int} (h : LeftOk g s a g.length z) (hc : Con g a s) : z = dist g (nxS g s a) s := by
  obtain ⟨_, e, h0, hm⟩ := nxS_is hc
  rcases h with ⟨h1, h2⟩ | ⟨q, h1, h2, h3, h4, h5⟩
  · have := h2 _ e.2.1 e; omega
  · have k1 := h5 _ e.2.1 e h0
    have k2 := hm q h2 (by omega)
    omega
/-- the least node from m on that has a property, or -1 -/
def NextOk (n : Nat) (P : Nat → Prop) (m : Nat) (z : Int) : Prop := (z = -1 ∧ ∀ q, m ≤ q → q < n → ¬ P q) ∨ ∃ q : Nat, z = (q : Int) ∧ m ≤ q ∧ q < n ∧ P q ∧ ∀ r, m ≤ r → r < q → ¬ P r
theorem next_skip {n : Nat} {P : Nat → Prop} {m : Nat} {z : Int} (h : NextOk n P (m + 1) z) (hp : ¬ P m) : NextOk n P m z := by
  rcases h with ⟨h1, h2⟩ | ⟨q, h1, h2, h3, h4, h5⟩
  · refine Or.inl ⟨h1, fun q hq hn => ?_⟩
    rcases Nat.lt_or_ge m q with h | h
    · exact h2 q h hn
    · obtain rfl : q = m := by omega
      exact hp
  · refine Or.inr ⟨q, h1, by omega, h3, h4, fun r hr hrq => ?_⟩
    rcases Nat.lt_or_ge m r with h | h
    · exact h5 r h hrq
    · obtain rfl : r = m := by omega
      exact hp
theorem next_take {n : Nat} {P : Nat → Prop} {m : Nat} {z : Int} (hm : m < n) (hp : P m) : NextOk n P m (m : Int) := Or.inr ⟨m, rfl, Nat.le_refl _, hm, hp, fun r h1 h2 => by omega⟩
theorem next_end {g : Gr} {s a d : Nat} {z : Int} (hd : dist g (nxS g s a) s = (d : Int)) (hc : Con g a s) (h : NextOk g.length (fun b => Edge g a b ∧ dist g b s = (d : Int)) 0 z) : z = (nxS g s a : Int) := by
  obtain ⟨_, e, h0, hm⟩ := nxS_is hc
  rcases h with ⟨h1, h2⟩ | ⟨q, h1, _, h3, h4, h5⟩
  · exact absurd ⟨e, hd⟩ (h2 _ (Nat.zero_le _) e.2.1)
  · rcases Nat.lt_trichotomy q (nxS g s a) with h | h | h
    · have := hm q h4.1 (by rw [h4.2]; omega)
      rw [hd, h4.2] at this
      omega
    · rw [h1, h]
    · exact absurd ⟨e, hd⟩ (h5 _ (Nat.zero_le _) h)
theorem cycS_len (g : Gr) : (cycS g).length ≤ g.length + 1 := by
  unfold cycS
  rcases hc : cycAt g with _ | s
  · simp
  · obtain ⟨_, hs2, _⟩ := cycAt_is hc
    obtain ⟨_, _, h0, _⟩ := nxS_is hs2
    have := dist_lt g (nxS g s s) s
    simp only [List.length_cons, cyP_len]
    omega
set_option maxRecDepth 100000 in
set_option maxHeartbeats 8000000 in
theorem through_any (A : Option Addr) (c : Nat) (gs : Gr) (s : Nat) (w : World) (h : RG w w.heap.size A gs) (hl : gs.length ≤ 900) (hl2 : ∀ l ∈ gs, l.length ≤ 1000) (hcy : cycAt gs = some s) :
    Calls Try.prog 49 #[.slice A gs.length c, .int .i64 (s : Int)] w (GivesI (ints (cycS gs)) w) := by
  have HX := Lib.hid h
  obtain ⟨hs1, hs2, _⟩ := cycAt_is hcy
  have CRV := Lib.hid (rreverse_any A c gs w h hl hl2)
  have CDI := Lib.hid (fun Ab cb W (hB : RG W W.heap.size Ab (rev gs)) => rdist_any Ab cb (rev gs) (s : Int) W hB (by rw [rev_len]; omega) (fun l hl' => by have := rev_rows gs l hl'; omega))
  have HE0 : Hid (∀ (a b : Nat) (W : World), a < gs.length → Below w.heap.size w W → Calls Try.prog 35 #[.slice A gs.length c, .int .i64 (a : Int), .int .i64 (b : Int)] W fun e w' => e = .returned (.bool ((suc gs a).contains (b : Int))) ∧ w' = W) := Lib.hid fun a b W ha hb => by
    have := edge_same A c gs a (b : Int) W (HX.out.up hb) ha (by omega) (hl2 _ (List.getElem_mem ha))
    unfold suc
    rw [List.getElem?_eq_getElem ha]
    exact this
  obtain ⟨E, hE⟩ : ∃ E : Nat → Nat → Bool, E = fun a b : Nat => (suc gs a).contains ((b : Nat) : Int) := ⟨_, rfl⟩
  have HED : Hid (∀ a b, a < gs.length → b < gs.length → (E a b = true ↔ Edge gs a b)) := Lib.hid (fun a b ha hb => by
    rw [hE]; simp only [List.contains_eq_mem, decide_eq_true_eq]
    exact ⟨fun h => ⟨ha, hb, h⟩, fun h => h.2.2⟩)
  have HE : Hid (∀ (a b : Nat) (W : World), a < gs.length → Below w.heap.size w W → Calls Try.prog 35 #[.slice A gs.length c, .int .i64 (a : Int), .int .i64 (b : Int)] W fun e w' => e = .returned (.bool (E a b)) ∧ w' = W) := Lib.hid (fun a b W ha hb => by rw [hE]; exact HE0.out a b W ha hb)
  have HLR := Lib.hid (rev_len gs)
  have HDX : Hid (distsI (rev gs) (s : Int) = dists (rev gs) s) := Lib.hid (by unfold distsI; rw [if_pos ⟨by omega, by rw [rev_len]; omega⟩]; rfl)
  have HV : Hid (∀ b, b < gs.length → (dists (rev gs) s)[b]? = some (dist gs b s)) := Lib.hid (fun b hb => by rw [dists_get (by rw [rev_len]; exact hb), dist_rev])
  have HLL : Hid ((dists (rev gs) s).length = gs.length) := Lib.hid (by rw [dists_len, rev_len])
  obtain ⟨_, n2, n3, _⟩ := nxS_is hs2
  obtain ⟨d1, hd1, _⟩ := dist_nonneg n3
  have HT : Hid (cycS gs = s :: cyP gs s d1 (nxS gs s s)) := Lib.hid (by unfold cycS; rw [hcy]; simp only [hd1]; simp)
  have HTL := Lib.hid (cycS_len gs)
  have HD1 := Lib.hid hd1
  have HS1 := Lib.hid hs1
  have HS2 := Lib.hid hs2
  obtain ⟨T, hT⟩ : ∃ T, cycS gs = T := ⟨_, rfl⟩
  rw [hT] at HT HTL ⊢
  obtain ⟨n, hn⟩ : ∃ n, gs.length = n := ⟨_, rfl⟩
  have HN := Lib.hid hn
  rw [hn] at hl CRV HE HED HLR HLL HV HTL ⊢
  rw [HLR.out] at CDI
  have hs0 : (0 : Int) ≤ (s : Int) := by omega
  have hs9 : (s : Int) < (n : Int) := by omega
  generalize dists (rev gs) s = ls at *
  clear h hl2 hE HE0 hn HX hcy hs1 hs2 n2 n3 hd1 hT
  go_enter Try.func49, Try.ntmps49
  go_wp2_with fail
  refine CRV.out.mono ?_
  rintro e w1 ⟨Ab, cb, rfl, hR1, hb1⟩
  rw [HLR.out]
  have CD := Lib.hid (CDI.out Ab cb w1 hR1.rg)
  have HB1 := Lib.hid hb1
  clear hR1 hb1 CRV CDI
  go_wp2_with fail
  refine CD.out.mono ?_
  rintro e w2 ⟨Al, cl, rfl, hL2, hb2⟩
  rw [HDX.out] at hL2 ⊢
  rw [HLL.out]
  have HL2 := Lib.hid hL2
  have HB2 := Lib.hid (HB1.out.trans (hb2.mono HB1.out.size))
  clear hL2 hb2 CD HB1
  go_wp2_with fail
  go_loopw [6, 7] (fun s6 s7 wr => ∃ (m : Nat) (z : Int), s7 = .int .i64 (m : Int) ∧ s6 = .int .i64 z ∧ m ≤ n ∧ Hid (LeftOk gs s s m z) ∧ wr = w2) (fun _ s7 _ => (n - intOf s7).toNat)
  case atStart => exact ⟨0, -1, rfl, rfl, by omega, Lib.hid (Or.inl ⟨rfl, fun q h => by omega⟩), rfl⟩
  case round =>
    obtain ⟨m, z, rfl, rfl, hm, HLf, rfl⟩ := hrel
    by_cases hlt : m < n
    · have hmi : (m : Int) < (n : Int) := by omega
      have hm0 : (0 : Int) ≤ (m : Int) := by omega
      have HMK := Lib.hid (show m + 1 ≤ n by omega)
      have CE := Lib.hid (HE.out s m wr (by omega) HB2.out)
      have HEd := Lib.hid (HED.out s m (by omega) hlt)
      obtain ⟨al, hAl, _, cv⟩ := HL2.out.at_ m (by rw [HLL.out]; exact hlt)
      have cv2 : wr.cell? (al.add m) = some (.int .i64 (dist gs m s)) := by
        rw [cv]; have h := HV.out m hlt; rw [List.getElem?_eq_getElem (by rw [HLL.out]; exact hlt)] at h; rw [Option.some.inj h]
      subst hAl
      clear cv hlt
      generalize E s m = ev at *
      obtain ⟨dm, hdm⟩ : ∃ dm, dist gs m s = dm := ⟨_, rfl⟩
      rw [hdm] at cv2
      have HDM := Lib.hid hdm
      clear hdm
      cases ev with
      | false =>
        have HL3 := Lib.hid (left_skip HLf.out (Or.inl (fun e => by have := HEd.out.2 e; cases this)))
        go_wp2_with fail
        refine CE.out.mono ?_
        rintro e w3 ⟨rfl, rfl⟩
        go_wp2_with fail
        go_roundw
        case rel => exact ⟨m + 1, z, by go_num, rfl, HMK.out, HL3, trivial⟩
        case measure => have := HMK.out; first | (simp [intOf]; done) | (simp [intOf]; omega)
      | true =>
        have HEe := Lib.hid (HEd.out.1 rfl)
        by_cases hd0 : 0 ≤ dm
        · have k1 : decide (0 ≤ dm) = true := decide_eq_true hd0
          by_cases hz0 : z < 0
          · have k2 : decide (z < 0) = true := decide_eq_true hz0
            have HL3 : Hid (LeftOk gs s s (m + 1) dm) := Lib.hid (by rw [← HDM.out]; exact left_take HLf.out HEe.out (by rw [HDM.out]; exact hd0) (Or.inl hz0))
            go_wp2_with fail
            refine CE.out.mono ?_
            rintro e w3 ⟨rfl, rfl⟩
            go_wp2_with fail
            go_roundw
            case rel => exact ⟨m + 1, dm, by go_num, rfl, HMK.out, HL3, trivial⟩
            case measure => have := HMK.out; first | (simp [intOf]; done) | (simp [intOf]; omega)
          · have k2 : decide (z < 0) = false := decide_eq_false hz0
            by_cases hdz : dm < z
            · have k3 : decide (dm < z) = true := decide_eq_true hdz
              have HL3 : Hid (LeftOk gs s s (m + 1) dm) := Lib.hid (by rw [← HDM.out]; exact left_take HLf.out HEe.out (by rw [HDM.out]; exact hd0) (Or.inr (by rw [HDM.out]; exact hdz)))
              go_wp2_with fail
              refine CE.out.mono ?_
              rintro e w3 ⟨rfl, rfl⟩
              go_wp2_with fail
              go_roundw
              case rel => exact ⟨m + 1, dm, by go_num, rfl, HMK.out, HL3, trivial⟩
              case measure => have := HMK.out; first | (simp [intOf]; done) | (simp [intOf]; omega)
            · have k3 : decide (dm < z) = false := decide_eq_false hdz
              have HL3 := Lib.hid (left_skip HLf.out (Or.inr (Or.inr ⟨by omega, by rw [HDM.out]; omega⟩)))
              go_wp2_with fail
              refine CE.out.mono ?_
              rintro e w3 ⟨rfl, rfl⟩
              go_wp2_with fail
              go_roundw
              case rel => exact ⟨m + 1, z, by go_num, rfl, HMK.out, HL3, trivial⟩
              case measure => have := HMK.out; first | (simp [intOf]; done) | (simp [intOf]; omega)
        · have k1 : decide (0 ≤ dm) = false := decide_eq_false hd0
          have HL3 := Lib.hid (left_skip HLf.out (Or.inr (Or.inl (by rw [HDM.out]; omega))))
          go_wp2_with fail
          refine CE.out.mono ?_
          rintro e w3 ⟨rfl, rfl⟩
          go_wp2_with fail
          go_roundw
          case rel => exact ⟨m + 1, z, by go_num, rfl, HMK.out, HL3, trivial⟩
          case measure => have := HMK.out; first | (simp [intOf]; done) | (simp [intOf]; omega)
    · obtain rfl : m = n := by omega
      have hki : ¬ (m : Int) < (m : Int) := by omega
      have hz := left_end (g := gs) (s := s) (a := s) (z := z) (by rw [HN.out]; exact HLf.out) HS2.out
      rw [HD1.out] at hz
      subst hz
      obtain ⟨wq, rfl⟩ : ∃ x, x = wr := ⟨_, rfl⟩
      have HBL := Lib.hid ((Below.refl wq.heap.size wq).alloc (Nat.le_refl _) (.cells #[.int .i64 (s : Int)] 3))
      have HC0 : Hid ((wq.alloc (.cells #[.int .i64 (s : Int)] 3)).ownsRow wq.heap.size 3 1 (.slice (some ⟨wq.heap.size, 0, none⟩) 1 1) [s].length (icells (ints [s]))) := Lib.hid (World.ownsRow_lit (base := wq.heap.size) (e := 3) (size := 1) wq #[.int .i64 (s : Int)] 1 (Nat.le_refl _) (by unfold maxLen; omega) rfl)
      clear hlt HLf
      go_wp2_with fail
      go_loopw [6, 8, 9, 10, 11] (fun s6 s8 s9 _ _ wr => ∃ (d at_ : Nat) (C : List Nat) (vm : Value), s6 = .int .i64 (d : Int) ∧ s9 = .int .i64 (at_ : Int) ∧ vm = s8 ∧ at_ < m ∧ Hid (Con gs at_ s) ∧ Hid (dist gs (nxS gs s at_) s = (d : Int)) ∧ Hid (C ++ cyP gs s d (nxS gs s at_) = T) ∧ Hid (wr.ownsRow wq.heap.size 3 1 vm C.length (icells (ints C))) ∧ Hid (Below wq.heap.size wq wr)) (fun s6 _ _ _ _ _ => (intOf s6).toNat)
      case atStart => exact ⟨d1, s, [s], _, rfl, rfl, rfl, by have := HS1.out; have := HN.out; omega, HS2, HD1, Lib.hid (by rw [HT.out]; rfl), HC0, HBL⟩
      case round =>
        clear HC0 HBL
        obtain ⟨d, at_, C, vm, rfl, rfl, rfl, hat, HCo, HDd, HCC, HO, HB⟩ := hrel
        obtain ⟨wr9, rfl⟩ : ∃ x, x = wr := ⟨_, rfl⟩
        have HBW := Lib.hid (HB2.out.trans (HB.out.mono HB2.out.size))
        have HL9 := Lib.hid (HL2.out.up HB.out)
        have hat0 : (0 : Int) ≤ (at_ : Int) := by omega
        have hat1 : (at_ : Int) < (m : Int) := by omega
        rcases Nat.eq_zero_or_pos d with hd0 | hd0
        · subst hd0
          have HZ : Hid (C = T) := Lib.hid (by have h := HCC.out; simpa [cyP] using h)
          obtain ⟨A9, c9, hvm⟩ := own_vis HO.out
          subst hvm
          clear HCC
          go_wp2_with fail
          go_ret
          refine ⟨A9, c9, by rw [← HZ.out, ints_len]; rfl, ?_, HBW.out⟩
          rw [← HZ.out]
          exact ri_own (by rw [ints_len]; exact HO.out)
        · obtain ⟨d', rfl⟩ : ∃ d', d = d' + 1 := ⟨d - 1, by omega⟩
          have hgt : (0 : Int) < ((d' + 1 : Nat) : Int) := by omega
          have HDB : Hid (d' + 1 ≤ 1000) := Lib.hid (by have := dist_lt gs (nxS gs s at_) s; have := HDd.out; have := HN.out; omega)
          obtain ⟨dd, hdd⟩ : ∃ dd, d' + 1 = dd := ⟨_, rfl⟩
          rw [hdd] at HDd HCC hgt ⊢
          have HDE := Lib.hid hdd
          have hmw : IntKind.i64.wrap ((m : Int) - 1) = (m : Int) - 1 := IntWalk.i64_in _ (by omega)
          have hddb : dd ≤ 1000 := by have := HDB.out; omega
          have hgd : decide ((0 : Int) < (dd : Int)) = true := decide_eq_true (by omega)
          have hgd2 : decide (0 < dd) = true := decide_eq_true (by omega)
          clear hdd hd0
          go_wp2_with fail
          go_loopw [10, 11] (fun s10 s11 wr => ∃ (y : Nat) (z u : Int), s11 = .int .i64 u ∧ s10 = .int .i64 z ∧ u = (y : Int) - 1 ∧ y ≤ m ∧ Hid (NextOk m (fun b => Edge gs at_ b ∧ dist gs b s = (dd : Int)) y z) ∧ wr = wr9) (fun _ s11 _ => (intOf s11 + 1).toNat)
          case atStart => exact ⟨m, -1, _, rfl, rfl, rfl, by omega, Lib.hid (Or.inl ⟨rfl, fun q h1 h2 => by omega⟩), rfl⟩
          case round =>
            obtain ⟨y, z, u, rfl, rfl, hu, hym, HNx, rfl⟩ := hrel
            rcases Nat.eq_zero_or_pos y with hy0 | hy0
            · subst hy0
              have hng : decide ((0 : Int) ≤ u) = false := decide_eq_false (by omega)
              clear hu
              have hz := next_end HDd.out HCo.out (by rw [HN.out]; exact HNx.out)
              subst hz
              obtain ⟨_, e2, _, _⟩ := nxS_is HCo.out
              have HNXL := Lib.hid e2.2.1
              have HDN : Hid (dist gs (nxS gs s (nxS gs s at_)) s = (d' : Int)) := Lib.hid (nxS_dist (by rw [HDd.out, ← HDE.out]))
              have HCN : Hid (Con gs (nxS gs s at_) s) := Lib.hid ⟨d', (far_dist (by rw [HDd.out, ← HDE.out])).1⟩
              have HC2 : Hid ((C ++ [nxS gs s at_]) ++ cyP gs s d' (nxS gs s (nxS gs s at_)) = T) := Lib.hid (by rw [← HCC.out, ← HDE.out]; simp [cyP])
              have hCl : C.length ≤ 1000 := by
                have h1 := congrArg List.length HCC.out
                rw [List.length_append] at h1
                have := HTL.out
                omega
              have HO2 := Lib.hid (own_below HO.out ((Below.refl _ _).alloc (Nat.le_refl _) (.cells #[.int .i64 (nxS gs s at_ : Int)] 3)))
              have HAL := Lib.hid ((Below.refl wr.heap.size wr).alloc (Nat.le_refl _) (.cells #[.int .i64 (nxS gs s at_ : Int)] 3))
              have HSZ := Lib.hid HB.out.size
              have hdw : ((dd : Int) - 1) = (d' : Int) := by have := HDE.out; omega
              have HDW1 := Lib.hid hdw
              have HDW2 : Hid (IntKind.i64.wrap ((dd : Int) - 1) = (d' : Int)) := Lib.hid (by rw [IntWalk.i64_in _ (by omega), hdw])
              clear hdw hmw
              have hdb9 : d' ≤ 1000 := by have := HDB.out; omega
              clear e2 HNx
              generalize nxS gs s at_ = nx at *
              go_wp2_with (at_builtin; refine wpList_append_int_at rfl (.tmp 76) (.tmp 78) rfl wq.heap.size vm C nx rfl HO2.out _ rfl ((MapKept.heap_alloc _ _).1) hCl (by have := HSZ.out; simp; omega) ?_)
              intro v5 w6 HO6 hg6 hd6
              have HB6 := Lib.hid ((HB.out.trans (HAL.out.mono HSZ.out)).grown hg6 (by have := HSZ.out; simp; omega) (fun j hj => (World.ownsRow.lt HO.out j hj).1))
              have HO6' := Lib.hid (show w6.ownsRow wq.heap.size 3 1 v5 (C ++ [nx]).length (icells (ints (C ++ [nx]))) by rw [List.length_append]; exact HO6.out)
              have hdw := HDW1.out
              have hdw2 := HDW2.out
              clear HO6 hg6 hd6 HO2 HO HCC HAL
              go_wp2_with fail
              go_roundw
              case rel => exact ⟨d', nx, C ++ [nx], _, rfl, rfl, rfl, by have := HNXL.out; have := HN.out; omega, HCN, HDN, HC2, HO6', HB6⟩
              case measure => have := HDE.out; first | (simp [intOf]; done) | (simp [intOf]; omega)
            · obtain ⟨y', rfl⟩ : ∃ y', y = y' + 1 := ⟨y - 1, by omega⟩
              have hu9 : u = (y' : Int) := by omega
              subst hu9
              have hyn : y' < m := by omega
              have hyn0 : (0 : Int) ≤ (y' : Int) := by omega
              have hyn1 : (y' : Int) < (m : Int) := by omega
              have HYM := Lib.hid hyn
              have CE := Lib.hid (HE.out at_ y' wr (by have := HN.out; omega) HBW.out)
              have HEd := Lib.hid (HED.out at_ y' hat hyn)
              obtain ⟨al, hAl, _, cv⟩ := HL9.out.at_ y' (by rw [HLL.out]; exact hyn)
              have cv2 : wr.cell? (al.add y') = some (.int .i64 (dist gs y' s)) := by
                rw [cv]; have h := HV.out y' hyn; rw [List.getElem?_eq_getElem (by rw [HLL.out]; exact hyn)] at h; rw [Option.some.inj h]
              subst hAl
              have hyb : y' ≤ 1000 := by omega
              clear cv hyn hu hy0
              generalize E at_ y' = ev at *
              obtain ⟨dm, hdm⟩ : ∃ dm, dist gs y' s = dm := ⟨_, rfl⟩
              rw [hdm] at cv2
              have HDM := Lib.hid hdm
              clear hdm
              cases ev with
              | false =>
                have HN3 := Lib.hid (next_skip HNx.out (fun e => by have := HEd.out.2 e.1; cases this))
                clear HNx
                go_wp2_with fail
                refine CE.out.mono ?_
                rintro e w3 ⟨rfl, rfl⟩
                go_wp2_with fail
                go_roundw
                case rel => exact ⟨y', z, _, rfl, rfl, by first | rfl | omega, by have := HYM.out; omega, HN3, trivial⟩
                case measure => first | (simp [intOf]; done) | (simp [intOf]; omega)
              | true =>
                have HEe := Lib.hid (HEd.out.1 rfl)
                by_cases hde : dm = (dd : Int)
                · have k1 : (dm == (dd : Int)) = true := by rw [hde]; simp
                  have HN3 := Lib.hid (next_take (n := m) (P := fun b => Edge gs at_ b ∧ dist gs b s = (dd : Int)) (z := z) HYM.out ⟨HEe.out, by rw [HDM.out]; exact hde⟩)
                  clear HNx
                  go_wp2_with fail
                  refine CE.out.mono ?_
                  rintro e w3 ⟨rfl, rfl⟩
                  go_wp2_with fail
                  go_roundw
                  case rel => exact ⟨y', (y' : Int), _, rfl, rfl, by first | rfl | omega, by have := HYM.out; omega, HN3, trivial⟩
                  case measure => first | (simp [intOf]; done) | (simp [intOf]; omega)
                · have k1 : (dm == (dd : Int)) = false := beq_eq_false_iff_ne.2 hde
                  have HN3 := Lib.hid (next_skip HNx.out (fun e => hde (by rw [← HDM.out]; exact e.2)))
                  clear HNx hde
                  go_wp2_with fail
                  refine CE.out.mono ?_
                  rintro e w3 ⟨rfl, rfl⟩
                  go_wp2_with fail
                  go_roundw
                  case rel => exact ⟨y', z, _, rfl, rfl, by first | rfl | omega, by have := HYM.out; omega, HN3, trivial⟩
                  case measure => first | (simp [intOf]; done) | (simp [intOf]; omega)
end Go.Proofs.Ythgfomjmkmkhkaa
