/-
  The law of Loose. Conditions: the table of powers of ten, internal/bytealg.MaxLen holds some number, the two error variables of strconv hold interface values.
-/
import Derived.Test.YtaeideimlagheaaGreatDoorLF
import Derived.Test.YtaeideimlagheaaGreatDoorRL
namespace Go.Proofs.YtaeideimlagheaaGreatDoor
open Go.RowKit Go.Sort Go.Lib Go.Shelf Go.Proofs
set_option linter.unusedSimpArgs false
set_option linter.unnecessarySimpa false
set_option linter.unusedVariables false
theorem cat_start (x : Md) (S : List Md) (note : ByteArray) (v : Nat) : (⟨#[47, 47]⟩ : ByteArray) ++ note ++ (⟨#[10, 10]⟩ : ByteArray) ++ bA (lnF kwM x note.data.toList v) ++ (⟨#[10]⟩ : ByteArray) = bA (catL (lnsL x S note.data.toList v 0)) := by
  apply ByteArray.ext; apply Array.ext'
  simp [bA, catL, lnsL, ByteArray.data_append]
theorem cat_step (x : Md) (S : List Md) (note : List UInt8) (v j : Nat) : bA (catL (lnsL x S note v j)) ++ (⟨#[32, 32, 10]⟩ : ByteArray) ++ bA (lnF kwR (S.getD (S.length - j - 1) x) note (vN v (S.length - j))) ++ (⟨#[10]⟩ : ByteArray) = bA (catL (lnsL x S note v (j + 1))) := by
  apply ByteArray.ext; apply Array.ext'
  rw [lnsL, catL_app]
  simp [bA, catL, ByteArray.data_append]
theorem lineF_len {k : List UInt8} {x : Md} (hk : k.length ≤ 7) (hp : x.1.size ≤ 60) (hx : okM x) : (lineF k x false false none).length ≤ 200 := by
  have h2 : (verT x).length ≤ 15 := by
    have := (txt_sizes hx.2).2
    have e : (verT x).length = (txtS x.2.1 x.2.2.1 x.2.2.2).size := by simp [verT]
    omega
  have h1 : x.1.data.toList.length = x.1.size := by simp
  simp [lineF]; simp at h1 h2; omega
/-- the lines of a good text -/
structure LnI (x : Md) (S : List Md) (L : List ByteArray) : Prop where
  len : L.length = S.length + 1
  first : ∀ h : 0 < L.length, L[0] = bA (lineF kwM x false false none)
  more : ∀ i (h : i + 1 < L.length) (h' : i < S.length), L[i + 1] = bA (lineF kwR S[i] false false none)
theorem lines_good {x : Md} {S : List Md} {L : List ByteArray} (hx : okM x) (hS : ∀ y ∈ S, okM y) (h : L.map (·.data.toList) = linesL (textL x S)) : LnI x S L := by
  rw [text_form hx hS, lines_catL (fun z hz => by
    rcases List.mem_cons.1 hz with rfl | hz
    · exact lineF_no10 kwM_ok hx _ _ _ (fun _ h => by cases h)
    · obtain ⟨y, hy, rfl⟩ := List.mem_map.1 hz
      exact lineF_no10 kwR_ok (hS y hy) _ _ _ (fun _ h => by cases h))] at h
  have hl : L.length = S.length + 1 := by
    have := congrArg List.length h
    simpa using this
  refine ⟨hl, fun h0 => ?_, fun i h1 h2 => ?_⟩
  · have e := congrArg (fun l => l[0]?) h
    simp only [List.getElem?_map, List.getElem?_cons_zero, List.getElem?_eq_getElem h0, Option.map_some, Option.some.injEq] at e
    rw [← e, bA_of]
  · have e := congrArg (fun l => l[i + 1]?) h
    simp only [List.getElem?_map, List.getElem?_cons_succ, List.getElem?_eq_getElem h1, List.getElem?_eq_getElem h2, Option.map_some, Option.some.injEq] at e
    rw [← e, bA_of]
theorem lns_ne (x : Md) (S : List Md) (note : List UInt8) (v : Nat) : ∀ j, 3 ≤ (lnsL x S note v j).length
  | 0 => by simp [lnsL]
  | j + 1 => by have := lns_ne x S note v j; rw [lnsL, List.length_append]; omega
theorem cat_pos (x : Md) (S : List Md) (note : List UInt8) (v j : Nat) : 1 ≤ (bA (catL (lnsL x S note v j))).size := by
  rw [bA_size]
  have h := lns_ne x S note v j
  cases hc : lnsL x S note v j with
  | nil => rw [hc] at h; simp at h
  | cons a t => simp [catL]; omega
theorem cut_last (l : List UInt8) : (bA l).extract 0 ((bA l).size - 1) = bA l.dropLast := by
  apply ByteArray.ext; apply Array.ext'
  rw [ex_sl, bA_size, bA_list]
  unfold sl
  rw [List.drop_zero, Nat.sub_zero, List.dropLast_eq_take]
  simp [bA]
def noNL (s : ByteArray) (k : Nat) : Prop := ∀ j (h : j < s.size), j < k → s[j] ≠ 10
theorem noNL_all {s : ByteArray} (h : noNL s s.size) : (10 : UInt8) ∉ s.data.toList := by
  intro hm
  obtain ⟨i, hi, e⟩ := List.getElem_of_mem hm
  have hi' : i < s.size := by simpa using hi
  exact h i hi' hi' e
set_option maxRecDepth 100000 in
set_option maxHeartbeats 4000000 in
theorem loose_no (x : Md) (A : Option Addr) (c : Nat) (l : List Md) (note : ByteArray) (v : Nat) (w : World) (hC : Cond w) (hn : 20 < l.length ∨ 100 < note.size) :
    Calls Tryz.prog 7 #[mf x A l.length c, .string note, .int .u8 (v : Int)] w fun e w' => e = .returned (.bool true) ∧ Below w.heap.size w w' := by
  have HB0 := Lib.hid (bal w (mblk x A l.length c 28))
  have KA := Lib.hid (alive_any _ (hC.keep HB0.out))
  unfold mf at *
  unfold mblk at *
  by_cases h1 : 20 < l.length
  · have i1 : (20 : Int) < (l.length : Int) := by omega
    clear hn hC
    go_enter Tryz.func7, Tryz.ntmps7
    go_wp2_with fail
    refine KA.out.mono ?_
    rintro e w2 ⟨rfl, hb2⟩
    have HE := Lib.hid (HB0.out.trans (hb2.mono HB0.out.size))
    clear hb2
    go_wp2_with fail
    go_ret
    exact ⟨rfl, HE.out⟩
  · have h2 : 100 < note.size := by omega
    have i1 : ¬ (20 : Int) < (l.length : Int) := by omega
    have i2 : (100 : Int) < (note.size : Int) := by omega
    clear hn hC
    go_enter Tryz.func7, Tryz.ntmps7
    go_wp2_with fail
    refine KA.out.mono ?_
    rintro e w2 ⟨rfl, hb2⟩
    have HE := Lib.hid (HB0.out.trans (hb2.mono HB0.out.size))
    clear hb2
    go_wp2_with fail
    go_ret
    exact ⟨rfl, HE.out⟩
set_option maxRecDepth 100000 in
set_option maxHeartbeats 4000000 in
theorem loose_yes (x : Md) (A : Option Addr) (c : Nat) (l : List Md) (note : ByteArray) (v : Nat) (w : World) (hC : Cond w) (hR : RM w w.heap.size A l) (hf : Plain A c) (h20 : l.length ≤ 20) (h100 : note.size ≤ 100) (hv : v ≤ 255) :
    Calls Tryz.prog 7 #[mf x A l.length c, .string note, .int .u8 (v : Int)] w fun e w' => e = .returned (.bool true) ∧ Below w.heap.size w w' := by
  obtain ⟨W0, hW0⟩ : ∃ W0, W0 = w.alloc (mblk x A l.length c 28) := ⟨_, rfl⟩
  have hb0 : Below w.heap.size w W0 := by rw [hW0]; exact bal w _
  have hS0 : S28 W0 w.heap.size x A l.length c W0 := by rw [hW0]; exact S28.new w x A l.length c
  have HS0 := Lib.hid hS0
  have HB0 := Lib.hid hb0
  have HC := Lib.hid (hC.keep hb0)
  have HW := Lib.hid hW0
  have KA := Lib.hid (fun W (hb : Below W0.heap.size W0 W) => alive_any W (HC.out.keep hb))
  have hRR := hR.up hb0
  have K18 := Lib.hid (fun W (hb : Below W0.heap.size W0 W) => text_any x A c l W (HC.out.keep hb).max (HC.out.keep hb).tab (hRR.up hb) hf (by omega))
  have i1 : ¬ (20 : Int) < (l.length : Int) := by omega
  have i2 : ¬ (100 : Int) < (note.size : Int) := by omega
  have H20 := Lib.hid h20
  have H100 := Lib.hid h100
  have HV := Lib.hid hv
  have hrow : w.heap.size < W0.heap.size := by rw [hW0]; simp
  have y4 : W0.cell? ⟨w.heap.size, 4, none⟩ = some (.slice A l.length c) := by rw [hW0]; simp
  clear hR hC hb0 hW0 hRR h20 h100 hf hS0
  unfold mf at *
  go_enter Tryz.func7, Tryz.ntmps7
  go_wp2_with fail
  rw [← HW.out]
  clear y4
  go_loopw [7] (fun s7 wr => ∃ k : Nat, s7 = .int .i64 (k : Int) ∧ k ≤ note.size ∧ Hid (noNL note k) ∧ wr = W0) (fun s7 _ => (note.size - intOf s7).toNat)
  case atStart => exact ⟨0, rfl, by omega, Lib.hid (fun j _ h => absurd h (Nat.not_lt_zero _)), rfl⟩
  case round =>
    obtain ⟨k, rfl, hk, HNL, rfl⟩ := hrel
    by_cases hlt : k < note.size
    · have hkl : (k : Int) < (note.size : Int) := by omega
      by_cases hb : note[k] = 10
      · have q1 : (((note[k]).toNat : Int) == 10) = true := by rw [hb]; rfl
        have q1p : ((note[k]).toNat : Int) = 10 := by rw [hb]; rfl
        clear hb
        go_wp2_with fail
        refine (KA.out _ (Below.refl _ _)).mono ?_
        rintro e w2 ⟨rfl, hb2⟩
        have HE := Lib.hid (HB0.out.trans (hb2.mono HB0.out.size))
        clear hb2
        go_wp2_with fail
        go_ret
        exact ⟨rfl, HE.out⟩
      · have q1p : ¬ ((note[k]).toNat : Int) = 10 := by
          intro h; exact hb (UInt8.toNat_inj.1 (by simpa using (by omega : (note[k]).toNat = 10)))
        have q1 : (((note[k]).toNat : Int) == 10) = false := by rw [beq_eq_false_iff_ne]; exact q1p
        have HN2 := Lib.hid (show noNL note (k + 1) from fun j h1 h2 => by
          rcases Nat.lt_succ_iff_lt_or_eq.1 h2 with h | h
          · exact HNL.out j h1 h
          · subst h; exact hb)
        have hk1 : k + 1 ≤ note.size := by omega
        have hk2 : k ≤ 100 := by have := H100.out; omega
        have HK1 := Lib.hid hk1
        clear hk1
        go_wp2_with fail
        go_roundw
        case rel => exact ⟨k + 1, by go_num, HK1.out, HN2, trivial⟩
        case measure => have := HK1.out; first | (simp [intOf]; done) | (simp [intOf]; omega)
    · have hkl : ¬ (k : Int) < (note.size : Int) := by omega
      obtain rfl : k = note.size := by omega
      have HNN := Lib.hid (noNL_all HNL.out)
      obtain ⟨hbb, s0, s1, s2, s3, s4⟩ := HS0.out
      clear hlt hk HNL
      by_cases hch : chkM x l = 0
      · obtain ⟨hx, hl⟩ := chk_good hch
        have hS : ∀ y ∈ sortM l, okM y := fun y hy => hl y ((sortM_perm l).mem_iff.1 hy)
        have hp60 := chk_path hch
        have K2 := Lib.hid (K18.out _ (Below.refl _ _))
        have htb : textB x l = ⟨(textL x (sortM l)).toArray⟩ := by unfold textB; rw [if_pos hch]
        have HPO := Lib.hid (show outP (textB x l).data.toList = ((x, sortM l), 0, 0) by rw [htb]; exact outP_inr (parse_text hch))
        have HLI := Lib.hid (show ∀ L : List ByteArray, L.map (·.data.toList) = linesL (textB x l).data.toList → LnI x (sortM l) L from fun L h => lines_good hx hS (by rw [h, htb]))
        have HLOO := Lib.hid (fun s hs => outP_inr (parse_loose hch note.data.toList HNN.out (by simpa using H100.out) v s hs))
        have HSZ := Lib.hid (show (textB x l).size ≤ 65536 by
          have h := text_len (hp60 x (by simp)) (S := sortM l) (fun y hy => hp60 y (by simp [(sortM_perm l).mem_iff.1 hy]))
          rw [sortM_length] at h
          rw [htb]; show (textL x (sortM l)).toArray.size ≤ 65536
          rw [List.size_toArray]; have := H20.out; omega)
        have HFX := Lib.hid (show looseA (bA (lineF kwM x false false none)) note v = bA (lnF kwM x note.data.toList v) ∧ (bA (lineF kwM x false false none)).size ≤ 1000 ∧ (bA (lnF kwM x note.data.toList v)).size ≤ 200 by
          refine ⟨?_, ?_, ?_⟩
          · unfold looseA; rw [bA_list, loose_line kwM_ok hx]; rfl
          · rw [bA_size]; have := lineF_len (k := kwM) (by decide) (hp60 x (by simp)) hx; omega
          · rw [bA_size]; exact lnF_len (by decide) (hp60 x (by simp)) hx (by simpa using H100.out))
        have HFR := Lib.hid (show ∀ y ∈ sortM l, ∀ u, u ≤ 255 → looseA (bA (lineF kwR y false false none)) note u = bA (lnF kwR y note.data.toList u) ∧ (bA (lineF kwR y false false none)).size ≤ 1000 ∧ (bA (lnF kwR y note.data.toList u)).size ≤ 200 from fun y hy u _ => by
          have hyp : y.1.size ≤ 60 := hp60 y (by simp [(sortM_perm l).mem_iff.1 hy])
          refine ⟨?_, ?_, ?_⟩
          · unfold looseA; rw [bA_list, loose_line kwR_ok (hS y hy)]; rfl
          · rw [bA_size]; have := lineF_len (k := kwR) (by decide) hyp (hS y hy); omega
          · rw [bA_size]; exact lnF_len (by decide) hyp (hS y hy) (by simpa using H100.out))
        have HTL := Lib.hid (show ∀ j, (bA (catL (lnsL x (sortM l) note.data.toList v j))).size ≤ 400 + j * 300 from fun j => by
          rw [bA_size]; exact lns_len hx hS (hp60 x (by simp)) (fun y hy => hp60 y (by simp [(sortM_perm l).mem_iff.1 hy])) (by simpa using H100.out) v j)
        have hsl := sortM_length l
        rw [hch] at K2
        have HSL := Lib.hid (show (sortM l).length = l.length from hsl)
        have HS20 := Lib.hid (show (sortM l).length ≤ 20 by rw [hsl]; exact H20.out)
        generalize textB x l = q at *
        generalize sortM l = S at *
        clear hx hl hS hp60 htb hsl hch
        go_wp2_with fail
        refine K2.out.mono ?_
        rintro e w2 ⟨rfl, hb2⟩
        have hS2 := S28.keep HS0.out hb2
        clear hb2 hbb s0 s1 s2 s3 s4 K2 K18
        go_wp2_with fail
        refine (parse_any q w2 (HC.out.keep hS2.1)).mono ?_
        intro e w3 he
        obtain ⟨A1, c1, rfl, hre, hpl, hb3⟩ := parse_out he HPO.out
        obtain ⟨h5, h2, hn⟩ := two_new w3 x A1 S.length c1 0 0
        have hS4 := S28.keep (S28.keep hS2 hb3) hn
        have HR4 := Lib.hid (hre.up hn)
        have H5 := Lib.hid h5
        have H2 := Lib.hid h2
        clear he hre hpl hb3 hn hS2 h5 h2
        go_wp2_with fail
        generalize w3.heap.size = b3 at *
        generalize ((w3.alloc (mblk x A1 S.length c1 28)).alloc (.cells #[.int .i64 0, .int .i64 0] 38)) = w4 at *
        refine (rlines_any q (by have := HSZ.out; omega) w4).mono ?_
        rintro e w5 ⟨L, hL, hlen, A2, c2, rfl, hR5, _, hb5⟩
        obtain ⟨hll, hl0, hli⟩ := HLI.out L hL
        have hS5 := S28.keep hS4 hb5
        have HR5 := Lib.hid (HR4.out.up hb5)
        have H55 := Lib.hid (H5.out.keep hb5)
        obtain ⟨z0, z1⟩ := H2.out.keep hb5
        obtain ⟨hbb, s0, s1, s2, s3, s4⟩ := id hS5
        have H5S := Lib.hid hS5
        have H25 := Lib.hid (H2.out.keep hb5)
        obtain ⟨g, o, rfl, hgl, c0⟩ := hR5.at_ 0 (by omega)
        rw [hl0 (by omega), Nat.add_zero] at c0
        have HRL := Lib.hid hR5
        have HLI2 := Lib.hid hli
        have hll2 : L.length = l.length + 1 := by rw [hll, HSL.out]
        have HLL := Lib.hid hll
        have t1 : IntKind.i64.wrap ((l.length : Int) + 1) = (l.length : Int) + 1 := IntWalk.i64_in _ (by have := H20.out; omega)
        have t2 : ((L.length : Int) != (l.length : Int) + 1) = false := by rw [hll2]; simp
        have t3 : (0 : Int) < (L.length : Int) := by omega
        have t4 : IntKind.i64.wrap ((L.length : Int) - 1) = (S.length : Int) := by rw [hll, show ((S.length + 1 : Nat) : Int) - 1 = (S.length : Int) by omega]; exact IntWalk.i64_in _ (by have := HS20.out; omega)
        have KL0 := Lib.hid (fun w => loose_any (bA (lineF kwM x false false none)) note v HFX.out.2.1 (by have := H100.out; omega) HV.out w)
        rw [HFX.out.1] at KL0
        have hfz := HFX.out.2.2
        have HT0 := Lib.hid (cat_start x S note v)
        have h100 := H100.out
        clear hL hlen hb5 hS4 HR4 H5 H2 hR5 hl0 hli HLI hll hll2 hS5
        generalize bA (lineF kwM x false false none) = L0 at *
        generalize bA (lnF kwM x note.data.toList v) = F0 at *
        have f1 : ¬ 9223372036854775807 < 2 + note.size := by omega
        have f2 : ¬ 9223372036854775807 < 2 + note.size + 2 := by omega
        have f3 : ¬ 9223372036854775807 < 2 + note.size + 2 + F0.size := by omega
        have f4 : ¬ 9223372036854775807 < 2 + note.size + 2 + F0.size + 1 := by omega
        go_wp2_with fail
        refine (KL0.out _).mono ?_
        rintro e w6 ⟨rfl, rfl⟩
        clear KL0
        go_wp2_with fail
        rw [HT0.out]
        clear f1 f2 f3 f4 HT0 c0 s0 s1 s2 s3 s4 z0 z1 hfz t2
        go_loopw [13, 14] (fun s13 s14 wr => ∃ j : Nat, s14 = .int .i64 ((S.length - j : Nat) : Int) ∧ s13 = .string (bA (catL (lnsL x S note.data.toList v j))) ∧ j ≤ S.length ∧ wr = w6) (fun _ s14 _ => (intOf s14).toNat)
        case atStart => exact ⟨0, by rw [Nat.sub_zero], rfl, by omega, rfl⟩
        case round =>
          obtain ⟨j, rfl, rfl, hj, rfl⟩ := hrel
          have hs20 := HS20.out
          have hsz := HTL.out j
          by_cases hlt : j < S.length
          · obtain ⟨i, hi⟩ : ∃ i, S.length - j = i + 1 := ⟨S.length - j - 1, by omega⟩
            have hiS : i < S.length := by omega
            obtain ⟨g', o', hA, _, c1'⟩ := HRL.out.at_ (i + 1) (by have := HLL.out; omega)
            simp only [Option.some.injEq, Addr.mk.injEq] at hA
            obtain ⟨rfl, rfl, _⟩ := hA
            rw [HLI2.out i (by have := HLL.out; omega) hiS] at c1'
            have hgd : S.getD (S.length - j - 1) x = S[i] := by
              rw [show S.length - j - 1 = i by omega]; simp [List.getD, hiS]
            have HST := Lib.hid (cat_step x S note.data.toList v j)
            rw [hgd, hi] at HST
            have hvn : vN v (i + 1) ≤ 255 := by unfold vN; omega
            obtain ⟨fr1, fr2, fr3⟩ := HFR.out S[i] (List.getElem_mem hiS) (vN v (i + 1)) hvn
            have KLi := Lib.hid (fun w => loose_any (bA (lineF kwR S[i] false false none)) note (vN v (i + 1)) fr2 (by have := H100.out; omega) hvn w)
            rw [fr1] at KLi
            have w1 : IntKind.u8.wrap ((i + 1 : Nat) : Int) = ((i + 1 : Nat) : Int) := IntWalk.u8_in _ (by omega)
            have w1' : IntKind.u8.wrap ((i : Int) + 1) = (i : Int) + 1 := IntWalk.u8_in _ (by omega)
            have w2 : IntKind.u8.wrap ((v : Int) + ((i : Int) + 1)) = ((vN v (i + 1) : Nat) : Int) := by
              rw [IntKind.wrap_u8]; unfold vN; omega
            have HJ := Lib.hid (And.intro hi hlt)
            have hil : (i : Int) + 1 < (L.length : Int) := by have := HLL.out; omega
            have w3 : IntKind.i64.wrap ((i : Int) + 1 - 1) = (i : Int) := by rw [show (i : Int) + 1 - 1 = (i : Int) by omega]; exact IntWalk.i64_in _ (by omega)
            have p1 : (0 : Int) < (i : Int) + 1 := by omega
            have HRES := Lib.hid (show S.length - (j + 1) = i by omega)
            rw [hi]
            generalize bA (lineF kwR S[i] false false none) = Li at *
            generalize bA (lnF kwR S[i] note.data.toList (vN v (i + 1))) = Fi at *
            generalize vN v (i + 1) = vi at *
            generalize bA (catL (lnsL x S note.data.toList v j)) = T at *
            have f1 : ¬ 9223372036854775807 < T.size + 3 := by omega
            have f2 : ¬ 9223372036854775807 < T.size + 3 + Fi.size := by omega
            have f3 : ¬ 9223372036854775807 < T.size + 3 + Fi.size + 1 := by omega
            have hi20 : i ≤ 20 := by omega
            clear hgd fr1 fr2 hi hlt hiS
            go_wp2_with fail
            refine (KLi.out _).mono ?_
            rintro e w7 ⟨rfl, rfl⟩
            clear KLi
            go_wp2_with fail
            rw [HST.out]
            go_roundw
            case rel => exact ⟨j + 1, by first | (rw [HRES.out]; done) | (rw [HRES.out]; go_num), rfl, by have := HJ.out.2; omega, trivial⟩
            case measure => first | (simp [intOf]; done) | (simp [intOf]; omega)
          · obtain rfl : j = S.length := by omega
            rw [Nat.sub_self]
            have HT := Lib.hid (fun s hs => HLOO.out s hs)
            have hpos := cat_pos x S note.data.toList v S.length
            have HCUT := Lib.hid (cut_last (catL (lnsL x S note.data.toList v S.length)))
            have HO1 := Lib.hid (HLOO.out (catL (lnsL x S note.data.toList v S.length)) (.inl rfl))
            have HO2 := Lib.hid (HLOO.out (catL (lnsL x S note.data.toList v S.length)).dropLast (.inr rfl))
            have HBL := Lib.hid (bA_list (catL (lnsL x S note.data.toList v S.length)))
            have HBD := Lib.hid (bA_list (catL (lnsL x S note.data.toList v S.length)).dropLast)
            rw [← HBL.out] at HO1
            rw [← HBD.out, ← HCUT.out] at HO2
            clear HT HBL HBD HCUT HLOO HTL
            generalize bA (catL (lnsL x S note.data.toList v S.length)) = T at *
            have e3 : (v : Int).tmod 3 = ((v % 3 : Nat) : Int) := by rw [Int.tmod_eq_emod_of_nonneg (by omega)]; omega
            obtain ⟨v3, hv3⟩ : ∃ v3, v3 = v % 3 := ⟨_, rfl⟩
            rw [← hv3] at e3
            have l3 : v3 ≤ 2 := by omega
            clear hv3 hj hlt
            by_cases h3 : v3 = 0
            · have hT1 : 1 ≤ T.size := hpos
              have u1 : IntKind.i64.wrap ((T.size : Int) - 1) = ((T.size - 1 : Nat) : Int) := by rw [show (T.size : Int) - 1 = ((T.size - 1 : Nat) : Int) by omega]; exact IntWalk.i64_in _ (by omega)
              have u2 : ((T.size - 1 : Nat) : Int) ≤ (T.size : Int) := by omega
              have HRT := Lib.hid HO2.out
              subst h3
              clear HO1 HO2
              generalize hm : T.size - 1 = m at *
              have hmm : m ≤ T.size := by omega
              clear hm
              have HPX := HRT
              go_wp2_with fail
              refine (parse_any (T.extract 0 m) wr (HC.out.keep H5S.out.1)).mono ?_
              intro e w8 he
              obtain ⟨A8, c8, rfl, hre8, _, hb8⟩ := parse_out he HPX.out
              obtain ⟨h58, h28, hn8⟩ := two_new w8 x A8 S.length c8 0 0
              have HB8 := Lib.hid ((H5S.out.1.trans (hb8.mono H5S.out.1.size)).trans (hn8.mono (H5S.out.1.trans (hb8.mono H5S.out.1.size)).size))
              have HR8 := Lib.hid (hre8.up hn8)
              have HRW := Lib.hid ((HR5.out.up hb8).up hn8)
              obtain ⟨x0, x1, x2, x3, x4⟩ := (H55.out.keep hb8).keep hn8
              obtain ⟨y0, y1, y2, y3, y4⟩ := h58
              obtain ⟨z0, z1⟩ := h28
              clear he hre8 hb8 hn8
              go_wp2_with fail
              generalize ((w8.alloc (mblk x A8 S.length c8 28)).alloc (.cells #[.int .i64 0, .int .i64 0] 38)) = w9 at *
              have KS := Lib.hid (same_any x x A8 A1 c8 c1 S S w9 HR8.out HRW.out (by have := HS20.out; omega) (by have := HS20.out; omega))
              rw [show decide (x = x ∧ S = S) = true from by simp] at KS
              refine KS.out.mono ?_
              rintro e w10 ⟨rfl, hb10⟩
              have HB10 := Lib.hid (HB8.out.trans (hb10.mono HB8.out.size))
              clear hb10
              go_wp2_with fail
              refine (KA.out _ HB10.out).mono ?_
              rintro e w11 ⟨rfl, hb11⟩
              have HE := Lib.hid (HB0.out.trans ((HB10.out.trans (hb11.mono HB10.out.size)).mono HB0.out.size))
              clear hb11
              go_wp2_with fail
              go_ret
              exact ⟨rfl, HE.out⟩
            · have h3i : ¬ ((v3 : Int) = 0) := by omega
              have h3b : ((v3 : Int) == 0) = false := by rw [beq_eq_false_iff_ne]; exact h3i
              clear HO2
              have HPX := HO1
              go_wp2_with fail
              refine (parse_any T wr (HC.out.keep H5S.out.1)).mono ?_
              intro e w8 he
              obtain ⟨A8, c8, rfl, hre8, _, hb8⟩ := parse_out he HPX.out
              obtain ⟨h58, h28, hn8⟩ := two_new w8 x A8 S.length c8 0 0
              have HB8 := Lib.hid ((H5S.out.1.trans (hb8.mono H5S.out.1.size)).trans (hn8.mono (H5S.out.1.trans (hb8.mono H5S.out.1.size)).size))
              have HR8 := Lib.hid (hre8.up hn8)
              have HRW := Lib.hid ((HR5.out.up hb8).up hn8)
              obtain ⟨x0, x1, x2, x3, x4⟩ := (H55.out.keep hb8).keep hn8
              obtain ⟨y0, y1, y2, y3, y4⟩ := h58
              obtain ⟨z0, z1⟩ := h28
              clear he hre8 hb8 hn8
              go_wp2_with fail
              generalize ((w8.alloc (mblk x A8 S.length c8 28)).alloc (.cells #[.int .i64 0, .int .i64 0] 38)) = w9 at *
              have KS := Lib.hid (same_any x x A8 A1 c8 c1 S S w9 HR8.out HRW.out (by have := HS20.out; omega) (by have := HS20.out; omega))
              rw [show decide (x = x ∧ S = S) = true from by simp] at KS
              refine KS.out.mono ?_
              rintro e w10 ⟨rfl, hb10⟩
              have HB10 := Lib.hid (HB8.out.trans (hb10.mono HB8.out.size))
              clear hb10
              go_wp2_with fail
              refine (KA.out _ HB10.out).mono ?_
              rintro e w11 ⟨rfl, hb11⟩
              have HE := Lib.hid (HB0.out.trans ((HB10.out.trans (hb11.mono HB10.out.size)).mono HB0.out.size))
              clear hb11
              go_wp2_with fail
              go_ret
              exact ⟨rfl, HE.out⟩
      · have K2 := Lib.hid (K18.out _ (Below.refl _ _))
        have q1 : (chkM x l != 0) = true := by simp [hch]
        generalize chkM x l = n at *
        clear hch
        go_wp2_with fail
        refine K2.out.mono ?_
        rintro e w2 ⟨rfl, hb2⟩
        have HB2 := Lib.hid hb2
        clear hb2 K2 hbb s0 s1 s2 s3 s4
        go_wp2_with fail
        refine (KA.out _ HB2.out).mono ?_
        rintro e w3 ⟨rfl, hb3⟩
        have HE := Lib.hid (HB0.out.trans ((HB2.out.trans (hb3.mono HB2.out.size)).mono HB0.out.size))
        clear hb3
        go_wp2_with fail
        go_ret
        exact ⟨rfl, HE.out⟩
theorem law_loose (x : Md) (A : Option Addr) (c : Nat) (l : List Md) (note : ByteArray) (v : Nat) (w : World) (hC : Cond w) (hR : RM w w.heap.size A l) (hf : Plain A c) (hv : v ≤ 255) :
    Calls Tryz.prog 7 #[mf x A l.length c, .string note, .int .u8 (v : Int)] w fun e w' => e = .returned (.bool true) ∧ Below w.heap.size w w' := by
  by_cases h1 : 20 < l.length
  · exact loose_no x A c l note v w hC (.inl h1)
  · by_cases h2 : 100 < note.size
    · exact loose_no x A c l note v w hC (.inr h2)
    · exact loose_yes x A c l note v w hC hR hf (by omega) (by omega) hv
end Go.Proofs.YtaeideimlagheaaGreatDoor
