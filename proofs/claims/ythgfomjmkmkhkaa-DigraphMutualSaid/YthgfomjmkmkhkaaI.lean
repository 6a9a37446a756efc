/-
  finished: the nodes in the order in which a depth-first search leaves them. Conditions: the slice reads as a graph of at most 900 nodes with at most 1000 successors each.
-/
import Derived.Test.YthgfomjmkmkhkaaH
import Derived.WalkMore
namespace Go.Proofs.Ythgfomjmkmkhkaa
open Go.RowKit
set_option linter.unusedSimpArgs false
set_option linter.unusedVariables false
theorem own_take {w : World} {B : Nat} {A : Option Addr} {c : Nat} {p : List Nat} {n : Nat} (h : w.ownsRow B 3 1 (.slice A (p ++ [n]).length c) (p ++ [n]).length (icells (ints (p ++ [n])))) : w.ownsRow B 3 1 (.slice A p.length c) p.length (icells (ints p)) ∧ p.length ≤ c := by
  rcases h.2 with ⟨hv, h1⟩ | ⟨g, cap, cur, hv, hb, hg, hn, hm, hs, ht⟩
  · simp at h1
  · injection hv with e1 e2 e3
    subst e1 e3
    have hpl : p.length ≤ c := by simp at hn; omega
    refine ⟨⟨by simp [icells, ints], .inr ⟨g, c, cur, rfl, hb, hg, hpl, hm, hs, ?_⟩⟩, hpl⟩
    have e : icells (ints (p ++ [n])) = icells (ints p) ++ [.int .i64 (n : Int)] := by simp [icells, ints]
    rw [e] at ht
    have h2 := congrArg (List.take (p.length * 1)) ht
    rw [List.take_take, List.take_append_of_le_length (by simp [icells, ints]), List.take_of_length_le (l := icells (ints p)) (by simp [icells, ints])] at h2
    rw [show min (p.length * 1) ((p ++ [n]).length * 1) = p.length * 1 by simp] at h2
    exact h2
def plen (w : World) (b : Nat) : Nat := match w.cell? ⟨b, 0, none⟩ with | some (.slice _ l _) => l | _ => 0
def icell (w : World) (b k : Nat) : Nat := match w.cell? ⟨b, k, none⟩ with | some (.int _ l) => l.toNat | _ => 0
def slen (v : Value) : Nat := match v with | .slice _ l _ => l | _ => 0
/-- before the path is made -/
structure FS0 (w wr : World) (A : Option Addr) (c n : Nat) : Prop where
  below : Below w.heap.size w wr
  size : w.heap.size + 4 = wr.heap.size
  g0 : wr.cell? ⟨w.heap.size, 0, none⟩ = some (.slice A n c)
  g2 : wr.cell? ⟨w.heap.size + 1 + 1, 0, none⟩ = some (.slice (some ⟨w.heap.size + 1, 0, none⟩) n n)
  sn : BRow wr (w.heap.size + 1) n (List.replicate n false)
  nx : IRow wr (w.heap.size + 1 + 1 + 1) n (List.replicate n 0)
theorem fs0_start (w : World) (A : Option Addr) (c n : Nat) (hn : n ≤ 1000) : FS0 w ((((w.alloc (.cells #[.slice A n c] 22)).alloc (.cells (madeCells #[.bool false] n) 4)).alloc (.cells #[.slice (some ⟨w.heap.size + 1, 0, none⟩) n n] 27)).alloc (.cells (madeCells #[.int .i64 0] n) 3)) A c n := by
  obtain ⟨w1, e1⟩ : ∃ w1, w.alloc (.cells #[.slice A n c] 22) = w1 := ⟨_, rfl⟩
  have s1 : w1.heap.size = w.heap.size + 1 := by rw [← e1]; simp
  have c1 : w1.cell? ⟨w.heap.size, 0, none⟩ = some (.slice A n c) := by
    rw [← e1, Lib.cell_of_heap (MapKept.heap_alloc w (.cells #[.slice A n c] 22)).1]; rfl
  have b1 : Below w.heap.size w w1 := by rw [← e1]; exact (Below.refl _ _).alloc (Nat.le_refl _) _
  rw [e1]
  have sn1 := br_new w1 n (by omega)
  obtain ⟨w2, e2⟩ : ∃ w2, w1.alloc (.cells (madeCells #[.bool false] n) 4) = w2 := ⟨_, rfl⟩
  have s2 : w2.heap.size = w.heap.size + 1 + 1 := by rw [← e2]; simp [s1]
  have b2 : Below w1.heap.size w1 w2 := by rw [← e2]; exact (Below.refl _ _).alloc (Nat.le_refl _) _
  rw [e2] at sn1 ⊢
  rw [s1] at sn1
  obtain ⟨w3, e3⟩ : ∃ w3, w2.alloc (.cells #[.slice (some ⟨w.heap.size + 1, 0, none⟩) n n] 27) = w3 := ⟨_, rfl⟩
  have s3 : w3.heap.size = w.heap.size + 1 + 1 + 1 := by rw [← e3]; simp [s2]
  have b3 : Below w2.heap.size w2 w3 := by rw [← e3]; exact (Below.refl _ _).alloc (Nat.le_refl _) _
  have c3 : w3.cell? ⟨w.heap.size + 1 + 1, 0, none⟩ = some (.slice (some ⟨w.heap.size + 1, 0, none⟩) n n) := by
    have h := (MapKept.heap_alloc w2 (.cells #[.slice (some ⟨w.heap.size + 1, 0, none⟩) n n] 27)).1
    rw [s2, e3] at h
    rw [Lib.cell_of_heap h]; rfl
  rw [e3]
  have nx3 := ir_new w3 n (by omega)
  obtain ⟨w4, e4⟩ : ∃ w4, w3.alloc (.cells (madeCells #[.int .i64 0] n) 3) = w4 := ⟨_, rfl⟩
  have s4 : w4.heap.size = w.heap.size + 1 + 1 + 1 + 1 := by rw [← e4]; simp [s3]
  have b4 : Below w3.heap.size w3 w4 := by rw [← e4]; exact (Below.refl _ _).alloc (Nat.le_refl _) _
  rw [e4] at nx3 ⊢
  rw [s3] at nx3
  have b34 : Below w2.heap.size w2 w4 := b3.trans (b4.mono b3.size)
  exact ⟨b1.trans ((b2.trans (b34.mono b2.size)).mono b1.size), by omega, by rw [(b2.trans (b34.mono b2.size)).cell (show w.heap.size < w1.heap.size by omega)]; exact c1, by rw [b4.cell (show w.heap.size + 1 + 1 < w3.heap.size by omega)]; exact c3, br_below sn1 b34, nx3⟩
theorem FS0.path {w wr : World} {A : Option Addr} {c n : Nat} (F : FS0 w wr A c n) : FS w (wr.alloc (.cells #[.slice none 0 0] 23)) A c n (List.replicate n false) (List.replicate n 0) [] [] (.slice none 0 0) := by
  have hb : Below wr.heap.size wr (wr.alloc (.cells #[.slice none 0 0] 23)) := (Below.refl _ _).alloc (Nat.le_refl _) _
  have hs := F.size
  have hn := (MapKept.heap_alloc wr (.cells #[.slice none 0 0] 23)).1
  rw [← hs] at hn
  refine ⟨F.below.trans (hb.mono F.below.size), by simp; omega, by rw [hb.cell (show w.heap.size < wr.heap.size by omega)]; exact F.g0, by rw [hb.cell (show w.heap.size + 1 + 1 < wr.heap.size by omega)]; exact F.g2, br_below F.sn hb, ir_below F.nx hb, ⟨none, 0, by rw [Lib.cell_of_heap hn]; rfl, World.ownsRow_nil _ _ _ _, by intro j hj; simp [Value.ownBlock] at hj⟩, ?_, World.ownsRow_nil _ _ _ _⟩
  simp [World.frozen?, hn]
/-- a list of nodes that a call gives, in a row of its own -/
def GivesL (P : List Nat → Prop) (w : World) : Ending → World → Prop := fun e w' => ∃ A c O, P O ∧ e = .returned (.slice A O.length c) ∧ w'.ownsRow w.heap.size 3 1 (.slice A O.length c) O.length (icells (ints O)) ∧ Below w.heap.size w w'
theorem own_le {w : World} {B B' : Nat} {e : TypeId} {k : Nat} {v : Value} {n : Nat} {xs : List Value} (h : w.ownsRow B' e k v n xs) (hB : B ≤ B') : w.ownsRow B e k v n xs := by
  refine ⟨h.1, ?_⟩
  rcases h.2 with h' | ⟨g, cap, cur, hv, hb, r⟩
  · exact .inl h'
  · exact .inr ⟨g, cap, cur, hv, by omega, r⟩
theorem FS.plen {w wr : World} {A : Option Addr} {c n : Nat} {S : List Bool} {N : List Int} {p O : List Nat} {vo : Value} (F : FS w wr A c n S N p O vo) : plen wr (w.heap.size + 1 + 1 + 1 + 1) = p.length := by
  obtain ⟨A1, c1, h1, _, _⟩ := F.pth
  unfold Ythgfomjmkmkhkaa.plen; rw [h1]
theorem FS.slen {w wr : World} {A : Option Addr} {c n : Nat} {S : List Bool} {N : List Int} {p O : List Nat} {vo : Value} (F : FS w wr A c n S N p O vo) : slen vo = O.length := by
  obtain ⟨A1, c1, h1⟩ := own_vis F.ord
  unfold Ythgfomjmkmkhkaa.slen; rw [h1]
theorem FS.icell {w wr : World} {A : Option Addr} {c n : Nat} {S : List Bool} {N : List Int} {p O : List Nat} {vo : Value} (F : FS w wr A c n S N p O vo) {m j : Nat} (h : N[m]? = some (j : Int)) : icell wr (w.heap.size + 1 + 1 + 1) m = j := by
  have hm : m < n := by
    rw [← ir_len F.nx]
    rcases Nat.lt_or_ge m N.length with h' | h'
    · exact h'
    · rw [List.getElem?_eq_none h'] at h; cases h
  unfold Ythgfomjmkmkhkaa.icell; rw [(ir_at F.nx m hm _ h).2.1]; simp
theorem World.grownBy.rfl' (w : World) (r : Option Nat) : w.grownBy w r := ⟨rfl, rfl, rfl, Nat.le_refl _, fun _ _ _ => rfl⟩
theorem root_case {w w' : World} {A : Option Addr} {c k r : Nat} {gs : Gr} {S : List Bool} {N : List Int} {O : List Nat} {vo : Value} {e : Ending} (hk : gs.length = k) (hrk : r < k) (D : DF gs S N O []) (HO : ∀ x, x < r → x ∈ O)
    (h : (∃ m : Nat, (r : Int) = (m : Int) ∧ m < k ∧ S[m]? = some false ∧ e = .returned (.bool true) ∧ FS w w' A c k (S.set m true) N ([] ++ [m]) O vo) ∨ ((∀ m : Nat, (r : Int) = (m : Int) → m < k → S[m]? = some true) ∧ e = .returned (.bool false) ∧ FS w w' A c k S N [] O vo)) :
    ∃ (b : Bool) (S' : List Bool) (p' : List Nat), e = .returned (.bool b) ∧ FS w w' A c k S' N p' O vo ∧ DF gs S' N O p' ∧ ∀ x, x < r + 1 → x ∈ O ∨ x ∈ p' := by
  rcases h with ⟨m, e1, h1, h2, h3, h4⟩ | ⟨h1, h3, h4⟩
  · obtain rfl : r = m := by omega
    refine ⟨true, _, _, h3, h4, df_enter D h2 (by intro y hy; simp at hy), fun x hx => ?_⟩
    rcases Nat.lt_or_ge x r with h | h
    · exact Or.inl (HO x h)
    · right; obtain rfl : x = r := by omega
      simp
  · refine ⟨false, _, _, h3, h4, D, fun x hx => ?_⟩
    rcases Nat.lt_or_ge x r with h | h
    · exact Or.inl (HO x h)
    · obtain rfl : x = r := by omega
      exact (D.seen x (by omega)).1 (h1 x rfl hrk)
set_option maxRecDepth 100000 in
set_option maxHeartbeats 8000000 in
theorem finished_any (A : Option Addr) (c : Nat) (gs : Gr) (w : World) (h : RG w w.heap.size A gs) (hl : gs.length ≤ 900) (hl2 : ∀ l ∈ gs, l.length ≤ 1000) :
    Calls Try.prog 37 #[.slice A gs.length c] w (GivesL (fun O => Fin gs O ∧ ∀ x, x < gs.length → x ∈ O) w) := by
  have HX := Lib.hid h
  have HL := Lib.hid hl2
  clear h hl2
  have HF0 := Lib.hid (fs0_start w A c gs.length (by omega))
  have HD0 := Lib.hid (df_start gs)
  have HM1 := Try.make27 gs.length (by omega) (w.alloc (.cells #[.slice A gs.length c] 22))
  have HM2 := Try.make23 gs.length (by omega) (((w.alloc (.cells #[.slice A gs.length c] 22)).alloc (.cells (madeCells #[.bool false] gs.length) 4)).alloc (.cells #[.slice (some ⟨w.heap.size + 1, 0, none⟩) gs.length gs.length] 27))
  obtain ⟨k, hk⟩ : ∃ k, gs.length = k := ⟨_, rfl⟩
  have HEN := Lib.hid (fun S N p O vo x wr (F : FS w wr A c gs.length S N p O vo) (hp : p.length ≤ 1000) => enter_any A c gs.length S N p O vo x w wr F (by omega) hp)
  rw [hk] at hl HF0 HD0 HM1 HM2 HEN ⊢
  have HK := Lib.hid hk
  clear hk
  go_enter Try.func37, Try.ntmps37
  go_wp2_with fail
  generalize ((((w.alloc (.cells #[.slice A k c] 22)).alloc (.cells (madeCells #[.bool false] k) 4)).alloc (.cells #[.slice (some ⟨w.heap.size + 1, 0, none⟩) k k] 27)).alloc (.cells (madeCells #[.int .i64 0] k) 3)) = w0 at *
  have HS0 := Lib.hid HF0.out.path
  generalize w0.alloc (.cells #[.slice none 0 0] 23) = w1 at *
  clear HM1 HM2 HF0
  go_loopw [5, 20] (fun s5 s20 wr => ∃ (r : Nat) (S : List Bool) (N : List Int) (O : List Nat) (vo : Value), s20 = .int .i64 (r : Int) ∧ vo = s5 ∧ r ≤ k ∧ Hid (FS w wr A c k S N [] O vo) ∧ Hid (DF gs S N O []) ∧ Hid (∀ x, x < r → x ∈ O)) (fun _ s20 _ => (k - intOf s20).toNat)
  case atStart => exact ⟨0, _, _, _, _, rfl, rfl, by omega, HS0, HD0, Lib.hid (fun x hx => by omega)⟩
  case round =>
    obtain ⟨r, S, N, O, vo, rfl, rfl, hr, HF, HD, HO⟩ := hrel
    by_cases hlt : r < k
    · have hki : (r : Int) < (k : Int) := by omega
      have hk0 : (0 : Int) ≤ (r : Int) := by omega
      have HRK := Lib.hid (show r + 1 ≤ k by omega)
      have CE := Lib.hid (HEN.out S N [] O vo (r : Int) wr HF.out (by simp))
      have HLT := Lib.hid hlt
      clear hlt HS0 HD0
      go_wp2_with fail
      go_step3
      go_wp2_with fail
      refine CE.out.mono ?_
      intro e w2 hcase
      obtain ⟨b, S2, p2, rfl, hF2, hD2, hO2⟩ := root_case HK.out HLT.out HD.out HO.out hcase
      have HF2 := Lib.hid hF2
      have HD2 := Lib.hid hD2
      have HO2 := Lib.hid hO2
      clear hcase hF2 hD2 hO2 CE HF HD HO hk0 hki
      go_wp2_with fail
      go_step3
      go_wp2_with fail
      have HM5 : Hid (S2.length = k) := Lib.hid (br_len HF2.out.sn)
      go_loopw [5] (fun s5 wr => ∃ (S : List Bool) (N : List Int) (p O : List Nat) (vo : Value), vo = s5 ∧ Hid (FS w wr A c k S N p O vo) ∧ Hid (DF gs S N O p) ∧ Hid (∀ x, x < r + 1 → x ∈ O ∨ x ∈ p)) (fun s5 wr => 2 * k - 2 * slen s5 - plen wr (w.heap.size + 1 + 1 + 1 + 1))
      case atStart => exact ⟨_, _, _, _, _, rfl, HF2, HD2, HO2⟩
      case round =>
        clear HF2 HD2 HO2 HM5
        obtain ⟨S, N, p, O, vo, rfl, HF, HD, HO⟩ := hrel
        have HPL := Lib.hid HF.out.plen
        have HSL := Lib.hid HF.out.slen
        have HRM := Lib.hid (show O.length + p.length ≤ k by have := HD.out.room; have := HK.out; omega)
        obtain ⟨A1, c1, hp1, hp2, hp3⟩ := HF.out.pth
        have HP2 := Lib.hid hp2
        have g0 := HF.out.g0
        have g2 := HF.out.g2
        rcases List.eq_nil_or_concat p with rfl | ⟨q, m, hqm⟩
        · have HO3 : Hid (∀ x, x < r + 1 → x ∈ O) := Lib.hid (fun x hx => by rcases HO.out x hx with h | h; exact h; simp at h)
          clear hp2 hp3 HP2
          go_wp2_with fail
          rw [Exit.noGoto_normal]
          go_wp2_with fail
          go_roundw
          case rel => exact ⟨r + 1, _, _, _, _, by go_num, rfl, HRK.out, HF, HD, HO3⟩
          case measure => have := HRK.out; first | (simp [intOf]; done) | (simp [intOf]; omega)
        · have HQM := Lib.hid hqm
          have h0 : 0 < p.length := by rw [hqm]; simp
          obtain ⟨b9, x9, rfl, hx9, hcx⟩ := row_last hp2 h0
          have hx9' : x9 = m := by rw [hqm] at hx9; simpa using hx9.symm
          subst hx9'
          obtain ⟨l, hl9⟩ : ∃ l, p.length = l := ⟨_, rfl⟩
          rw [hl9] at hp1 hcx h0
          have HL9 := Lib.hid hl9
          have hl1 : l ≤ 1000 := by have := HRM.out; omega
          have hw : IntKind.i64.wrap ((l : Int) - 1) = ((l - 1 : Nat) : Int) := by rw [IntWalk.i64_in _ (by omega)]; omega
          have hw2 : ((l : Int) - 1) = ((l - 1 : Nat) : Int) := by omega
          have hlast : (l - 1 : Nat) < l := by omega
          have hlz : (0 : Int) < (l : Int) := by omega
          clear hp2 hp3 hx9 hqm hl9
          go_wp2_with fail
          have hx9n : x9 ∉ O := HD.out.dis x9 (by rw [HQM.out]; simp)
          have hx9k : x9 < gs.length := HD.out.plt x9 (by rw [HQM.out]; simp)
          obtain ⟨j0, hj0, _, _⟩ := HD.out.nx x9 hx9n hx9k
          have HX9 := Lib.hid hx9k
          obtain ⟨ad, A2, c2, hA, hbk, hga0, HRI⟩ := HX.out.suc_at hx9k
          subst hA
          have HGA := Lib.hid hga0
          have HBK := Lib.hid hbk
          have HRI2 := Lib.hid HRI
          have hgl : (suc gs x9).length ≤ 1000 := suc_len HL.out
          obtain ⟨ys, hys⟩ : ∃ ys, suc gs x9 = ys := ⟨_, rfl⟩
          rw [hys] at hgl HRI2 HGA
          have HYS := Lib.hid hys
          have hm0 : (0 : Int) ≤ (x9 : Int) := by omega
          have hm1 : (x9 : Int) < (k : Int) := by have := HK.out; omega
          have HJ0 : Hid (∃ j : Nat, N[x9]? = some (j : Int) ∧ j ≤ ys.length) := Lib.hid ⟨j0, hj0, by rw [← hys]; assumption⟩
          clear hys hga0 hbk HRI hj0 hx9n hx9k g0 g2 hcx hp1 hw hw2 hlast hlz h0
          go_loopw [10] (fun _ wr => ∃ (N : List Int), Hid (FS w wr (some ad) c k S N p O vo) ∧ Hid (DF gs S N O p) ∧ Hid (∃ j : Nat, N[x9]? = some (j : Int) ∧ j ≤ ys.length)) (fun _ wr => ys.length - icell wr (w.heap.size + 1 + 1 + 1) x9)
          case atStart => exact ⟨_, HF, HD, HJ0⟩
          case round =>
            clear HF HD HJ0
            obtain ⟨N, HF, HD, HJ⟩ := hrel
            obtain ⟨j, hj, hjl⟩ := HJ.out
            have g0 := HF.out.g0
            have g2 := HF.out.g2
            obtain ⟨hgn, hcn, hfn⟩ := ir_at HF.out.nx x9 (by have := HX9.out; have := HK.out; omega) _ hj
            have hga : wr.cell? (ad.add x9) = some (.slice A2 ys.length c2) := by rw [HF.out.below.cell (by rw [block_of_add]; exact HBK.out)]; exact HGA.out
            have HJE := Lib.hid hj
            clear hj HJ
            by_cases hjlt : j < ys.length
            · have hji : (j : Int) < (ys.length : Int) := by omega
              have hj00 : (0 : Int) ≤ (j : Int) := by omega
              obtain ⟨a1, hA1, hl1x, c0⟩ := (HRI2.out.below HF.out.below).at_ j hjlt
              subst hA1
              have HXJ : Hid (ys[j]? = some ys[j]) := Lib.hid (List.getElem?_eq_getElem hjlt)
              generalize ys[j] = x at *
              have HJLT := Lib.hid hjlt
              clear hjlt
              go_wp2_with fail
              go_region
              go_wp2_with fail
              go_region
              have hj9 : j < 100000 := by omega
              go_wp2_with fail
              have HF2 := Lib.hid (((HF.out.nxt x9 ((j : Int) + 1)).keep (drewB _)).keep (drewB _))
              have CE2 := Lib.hid (HEN.out S _ p O vo x _ HF2.out (by have := HRM.out; omega))
              have HXS : Hid ((suc gs x9)[j]? = some x) := Lib.hid (by rw [HYS.out]; exact HXJ.out)
              have HLT9 : Hid (p.getLast? = some x9) := Lib.hid (by rw [HQM.out]; simp)
              have HIC := Lib.hid (HF.out.icell HJE.out)
              generalize (wr.setCell ⟨w.heap.size + 1 + 1 + 1, x9, none⟩ (.int .i64 ((j : Int) + 1))).drew.drew = w4 at *
              clear c0 hga hgn hcn hfn g0 g2 hj00 hji
              refine CE2.out.mono ?_
              rintro e w5 (⟨m, rfl, hmk, hSm, rfl, hF5⟩ | ⟨hno, rfl, hF5⟩)
              · have HF5 := Lib.hid hF5
                have HD5 := Lib.hid (df_go HD.out HLT9.out HJE.out HXS.out hSm)
                have HO5 : Hid (∀ x, x < r + 1 → x ∈ O ∨ x ∈ p ++ [m]) := Lib.hid (fun x hx => (HO.out x hx).imp id (fun h => List.mem_append_left _ h))
                have HRM5 := Lib.hid HD5.out.room
                clear hF5 CE2 HF2 hSm hmk
                go_wp2_with fail
                go_roundw
                case rel => exact ⟨_, _, _, _, _, rfl, HF5, HD5, HO5⟩
                case measure =>
                  have h1 := HF5.out.plen
                  have h2 := HF5.out.slen
                  have h3 := HPL.out
                  have h4 := HSL.out
                  have h5 := HRM5.out
                  have h6 := HK.out
                  rw [List.length_append] at h1 h5
                  simp at h1 h5
                  rw [h1, h2, h3]
                  omega
              · have HF5 := Lib.hid hF5
                have HD5 := Lib.hid (df_skip HD.out HX9.out HJE.out HXS.out (fun cc e hcc => hno cc e (by have := HK.out; omega)))
                have HJ5 : Hid (∃ i : Nat, (N.set x9 ((j : Int) + 1))[x9]? = some (i : Int) ∧ i ≤ ys.length) := Lib.hid ⟨j + 1, by rw [List.getElem?_set_self (by rw [ir_len HF.out.nx]; have := HX9.out; have := HK.out; omega)]; rfl, by have := HJLT.out; omega⟩
                have HIC5 := Lib.hid (HF5.out.icell (m := x9) (j := j + 1) (by rw [List.getElem?_set_self (by rw [ir_len HF.out.nx]; have := HX9.out; have := HK.out; omega)]; rfl))
                clear hF5 CE2 HF2 hno HF HD
                go_wp2_with fail
                go_roundw
                case rel => exact ⟨_, HF5, HD5, HJ5⟩
                case measure => rw [HIC.out, HIC5.out]; have := HJLT.out; omega
            · have hji : ¬ (j : Int) < (ys.length : Int) := by omega
              have HJGE := Lib.hid (show (suc gs x9).length ≤ j by rw [HYS.out]; omega)
              obtain ⟨A3, c3, hp1, hp2, hp3⟩ := HF.out.pth
              obtain ⟨b8, x8, rfl, _, _⟩ := row_last hp2 (by rw [HQM.out]; simp)
              have hq1 : (l - 1 : Nat) = q.length := by have := HL9.out; rw [HQM.out] at this; simp at this; omega
              obtain ⟨hq2, hq3⟩ := own_take (p := q) (n := x9) (by rw [← List.concat_eq_append, ← HQM.out]; exact hp2)
              have HPP := Lib.hid hp1
              have HQ1 := Lib.hid hq1
              have HQ2 := Lib.hid hq2
              rw [HL9.out] at hp1
              have hlq : l = q.length + 1 := by have := HL9.out; rw [HQM.out] at this; simp at this; omega
              have hw2 : ((l : Int) - 1) = ((l - 1 : Nat) : Int) := by omega
              have hw : IntKind.i64.wrap ((l : Int) - 1) = ((l - 1 : Nat) : Int) := by rw [IntWalk.i64_in _ (by omega), hw2]
              have hc3 : (l - 1 : Nat) ≤ c3 := by omega
              have hfz := HF.out.frz
              have HFp := Lib.hid (HF.out.put (q := q) (v2 := .slice (some ⟨b8, 0, none⟩) (l - 1) c3) HPP.out (World.grownBy.rfl' wr _) (Or.inl rfl) (by rw [HQ1.out]; exact HQ2.out))
              have HFa := Lib.hid ((HFp.out.keep ((Below.refl _ _).alloc (Nat.le_refl _) (.cells #[.int .i64 (x9 : Int)] 3))).keep (drewB _))
              have HD5 := Lib.hid (df_leave (p := q) (n := x9) (by have h := HD.out; rw [HQM.out, List.concat_eq_append] at h; exact h) HJE.out HJGE.out)
              have HO5 : Hid (∀ x, x < r + 1 → x ∈ O ++ [x9] ∨ x ∈ q) := Lib.hid (fun x hx => by
                rcases HO.out x hx with h | h
                · exact Or.inl (List.mem_append_left _ h)
                · rw [HQM.out, List.concat_eq_append] at h
                  rcases List.mem_append.1 h with h | h
                  · exact Or.inr h
                  · exact Or.inl (List.mem_append_right _ h))
              have HOL : Hid (O.length ≤ 1000) := Lib.hid (by have := HRM.out; omega)
              have HSZ := Lib.hid HFa.out.size
              have HMS := Lib.hid (show p.length = q.length + 1 by rw [HQM.out, List.concat_eq_append]; simp)
              clear hjlt hp2 hp3 hq1 hq2 hq3 hlq HPP HQ2
              go_wp2_with fail
              go_region
              go_wp2_with (at_builtin; refine wpList_append_int_at rfl (.tmp 69) (.tmp 71) rfl (w.heap.size + 5) vo O x9 rfl HFa.out.ord _ rfl ?c1 HOL.out (by have := HSZ.out; omega) ?_)
              case c1 => have := (MapKept.heap_alloc (wr.setCell ⟨w.heap.size + 1 + 1 + 1 + 1, 0, none⟩ (.slice (some ⟨b8, 0, none⟩) (l - 1) c3)) (.cells #[.int .i64 (x9 : Int)] 3)).1; rw [show (wr.setCell ⟨w.heap.size + 1 + 1 + 1 + 1, 0, none⟩ (.slice (some ⟨b8, 0, none⟩) (l - 1) c3)).heap.size = wr.heap.size by simp] at this; exact this
              intro v5 w5 HO9 hg5 hd5
              have HFz := Lib.hid (HFa.out.ordPut (O' := O ++ [x9]) hg5 (hd5.imp id (fun h => h.trans (by simp))) (by rw [List.length_append]; exact HO9.out))
              have HRM5 := Lib.hid HD5.out.room
              clear HO9 hg5 hd5 HFa HFp HF HD HO hfz hp1 hw hw2 hc3 hji hcn hgn hfn hga g0 g2
              go_wp2_with fail
              go_roundw
              case rel => exact ⟨_, _, _, _, _, rfl, HFz, HD5, HO5⟩
              case measure =>
                have h1 := HFz.out.plen
                have h2 := HFz.out.slen
                have h3 := HPL.out
                have h4 := HSL.out
                have h5 := HRM5.out
                have h6 := HK.out
                have h7 := HMS.out
                rw [List.length_append] at h2 h5
                simp at h2 h5
                rw [h1, h2, h3, h4]
                omega
    · obtain rfl : r = k := by omega
      have hki : ¬ (r : Int) < (r : Int) := by omega
      have hord := HF.out.ord
      obtain ⟨Ao, co, rfl⟩ := own_vis hord
      have HOR := Lib.hid hord
      clear hlt hord
      go_wp2_with fail
      go_ret
      refine ⟨Ao, co, O, ⟨HD.out.fin, fun x hx => HO.out x (by have := HK.out; omega)⟩, rfl, own_le HOR.out (by omega), HF.out.below⟩
end Go.Proofs.Ythgfomjmkmkhkaa
