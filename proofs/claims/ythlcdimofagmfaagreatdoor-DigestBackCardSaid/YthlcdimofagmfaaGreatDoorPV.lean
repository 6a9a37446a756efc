/-
  The program's Parse of every text: its walk. No condition.
-/
import Derived.Test.YthlcdimofagmfaaGreatDoorPW
import Derived.Lib.TrimU
namespace Go.Proofs.YthlcdimofagmfaaGreatDoor.Dg
open Go.RowKit Go.Proofs
set_option linter.unusedSimpArgs false
set_option linter.unnecessarySimpa false
set_option linter.unusedVariables false
theorem num_no {L : List UInt8} (h : okP L = false) : numP L = 0 ∧ errP L = 8 := by
  unfold numP errP; rw [if_neg (by simp [h]), if_neg (by simp [h])]; exact ⟨rfl, rfl⟩
theorem num_yes {L : List UInt8} (h : okP L = true) : numP L = valF 0 (L.drop 2) ∧ errP L = 0 := by
  unfold numP errP; rw [if_pos h, if_pos h]; exact ⟨rfl, rfl⟩
theorem pre_false {L : List UInt8} (h : Lib.hasPrefix L [104, 58] = false) : okP L = false := by
  rw [Bool.eq_false_iff]
  intro hk
  obtain ⟨l, rfl, _⟩ := okP_iff.1 hk
  simp [Lib.hasPrefix] at h
theorem pre_true {L : List UInt8} (h : Lib.hasPrefix L [104, 58] = true) : ∃ l, L = 104 :: 58 :: l := by
  unfold Lib.hasPrefix at h
  obtain ⟨t, ht⟩ := List.isPrefixOf_iff_prefix.1 h
  exact ⟨t, ht.symm⟩
theorem valF_snoc (l : List UInt8) (c : UInt8) : valF 0 (l ++ [c]) = 16 * valF 0 l + (hexI c).toNat := by
  unfold valF; rw [List.foldl_append]; rfl
theorem or16 (x d : Nat) (hx : 16 * x < 18446744073709551616) (hd : d < 16) : bits .or .u64 (IntKind.u64.wrap ((x : Int) * 16)) (d : Int) = ((16 * x + d : Nat) : Int) := by
  have e0 : IntKind.u64.wrap ((x : Int) * 16) = ((16 * x : Nat) : Int) := by
    simp [IntKind.wrap, IntKind.bits, IntKind.signed]; omega
  rw [e0]
  have hw : bits .or .u64 ((16 * x : Nat) : Int) (d : Int) = IntKind.u64.wrap ((BitVec.ofInt 64 ((16 * x : Nat) : Int) ||| BitVec.ofInt 64 (d : Int)).toNat : Int) := rfl
  rw [hw]
  have e1 : BitVec.ofInt 64 ((16 * x : Nat) : Int) = BitVec.ofNat 64 (16 * x) := by
    generalize 16 * x = y
    simp
  have e2 : BitVec.ofInt 64 (d : Int) = BitVec.ofNat 64 d := by simp
  rw [e1, e2, BitVec.toNat_or, BitVec.toNat_ofNat, BitVec.toNat_ofNat, Nat.mod_eq_of_lt (by omega), Nat.mod_eq_of_lt (by omega)]
  have h := Nat.two_pow_add_eq_or_of_lt (i := 4) (b := d) (by omega) x
  have h' : 16 * x ||| d = 16 * x + d := h.symm
  rw [h']
  simp [IntKind.wrap, IntKind.bits, IntKind.signed]
  omega
set_option maxRecDepth 100000 in
set_option maxHeartbeats 4000000 in
theorem parse_go (s : ByteArray) (l : List UInt8) (hs : s.data.toList = 104 :: 58 :: l) (hl : l.length = 16) (w : World) :
    Calls Tryz.prog 16 #[.string s] w fun e w' => e = .returned (.tuple #[.int .u64 (numP s.data.toList : Nat), .int .i64 (errP s.data.toList)]) ∧ Below w.heap.size w w' := by
  have h1 : Lib.hasPrefix s.data.toList [104, 58] = true := by rw [hs]; rfl
  have h2 : Lib.trimPrefix s.data.toList [104, 58] = l := by rw [hs]; rfl
  have C := Lib.hid (fun w => Tryz.strings_CutPrefix s ⟨#[104, 58]⟩ w)
  have e0 : (⟨#[104, 58]⟩ : ByteArray).data.toList = [104, 58] := rfl
  rw [e0, h1, h2] at C
  obtain ⟨R, hR⟩ : ∃ R : ByteArray, R = ⟨l.toArray⟩ := ⟨_, rfl⟩
  have hRs : R.size = 16 := by rw [hR]; show l.toArray.size = 16; simpa using hl
  have hRg : ∀ k (h : k < R.size), R[k] = l[k]'(by omega) := by subst hR; intro k h; rfl
  rw [← hR] at C
  have HN := Lib.hid (show (∀ c ∈ l, isHex c = true) → numP s.data.toList = valF 0 l ∧ errP s.data.toList = 0 from fun h => by
    have := num_yes (okP_iff.2 ⟨l, hs, hl, h⟩)
    rw [hs] at this ⊢
    exact this)
  have HF := Lib.hid (show (∃ c ∈ l, isHex c = false) → numP s.data.toList = 0 ∧ errP s.data.toList = 8 from fun ⟨c, hc, h⟩ => num_no (by
    rw [Bool.eq_false_iff]
    intro hk
    obtain ⟨l', hl', _, h3⟩ := okP_iff.1 hk
    rw [hs] at hl'
    simp only [List.cons.injEq, true_and] at hl'
    subst hl'
    rw [h3 c hc] at h; cases h))
  have hsz : (R.size : Int) = 16 := by rw [hRs]; rfl
  have HR := Lib.hid hRg
  have HL := Lib.hid hl
  generalize numP s.data.toList = z at *
  generalize errP s.data.toList = q at *
  clear hR h1 h2 e0 hs hRg
  go_enter Tryz.func16, Tryz.ntmps16
  go_wp2_with fail
  refine (C.out _).mono ?_
  rintro e w1 ⟨rfl, rfl⟩
  go_wp2_with fail
  go_loopw [6, 8, 9] (fun s6 _ _ wr => ∃ k : Nat, wr = w1.iter R k ∧ k ≤ 16 ∧ s6 = .int .u64 ((valF 0 (l.take k) : Nat) : Int) ∧ Hid (∀ c ∈ l.take k, isHex c = true)) (fun _ _ _ wr => 16 - wr.iterPos w1.heap.size)
  case atStart => exact ⟨0, rfl, by omega, rfl, Lib.hid (by simp)⟩
  case round =>
    obtain ⟨k, rfl, hk, rfl, HH⟩ := hrel
    by_cases hlt : k < 16
    · have hkR : k < R.size := by omega
      have hkl : k < l.length := by have := HL.out; omega
      have hnx := fun ty => run_next_any (P := Tryz.prog) w1 R k ty hkR
      have hc := HR.out k hkR
      obtain ⟨c, hcd⟩ : ∃ c, c = l[k] := ⟨_, rfl⟩
      have HM := Lib.hid (show c ∈ l by rw [hcd]; exact List.getElem_mem hkl)
      have HT := Lib.hid (show l.take (k + 1) = l.take k ++ [c] by rw [hcd]; exact (List.take_append_getElem hkl).symm)
      rw [← hcd] at hc
      clear hcd
      by_cases hlow : c.toNat < 128
      · rw [decode_ascii R k hkR (by rw [hc]; exact hlow), hc] at hnx
        simp only at hnx
        have KI := Lib.hid (fun w => ixr_low c hlow w)
        by_cases hx : isHex c = true
        · obtain ⟨g1, g2, g3, _⟩ := isHex_lt hx
          obtain ⟨d, hd⟩ : ∃ d : Nat, hexI c = (d : Int) := ⟨(hexI c).toNat, by omega⟩
          rw [hd] at KI
          have hd16 : d < 16 := by omega
          have HV := Lib.hid (show valF 0 (l.take (k + 1)) = 16 * valF 0 (l.take k) + d by rw [HT.out, valF_snoc, hd]; rfl)
          have HH2 := Lib.hid (show ∀ c ∈ l.take (k + 1), isHex c = true by
            rw [HT.out]; intro b hb
            rcases List.mem_append.1 hb with hb | hb
            · exact HH.out b hb
            · simp at hb; subst hb; exact hx)
          have hv16 : valF 0 (l.take k) < 16 ^ k := by
            have := (valF_eq (l.take k) 0 HH.out).2
            rw [List.length_take, Nat.min_eq_left (by omega)] at this
            exact this
          clear g1 g2 g3 hd hx hc hkR hkl
          go_wp2_with fail
          refine (KI.out _).mono ?_
          rintro e w3 ⟨rfl, rfl⟩
          go_wp2_with fail
          go_roundw
          case rel =>
            refine ⟨k + 1, rfl, by omega, ?_, HH2⟩
            rw [HV.out, or16 _ _ ?_ hd16]
            have : 16 ^ (k + 1) ≤ 16 ^ 16 := Nat.pow_le_pow_right (by omega) (by omega)
            rw [Nat.pow_succ] at this
            omega
          case measure => simp; omega
        · have hI : hexI c = -1 := by
            rcases hexI_cases c with e | ⟨e, _⟩
            · exact e
            · exact absurd (by unfold isHex; exact decide_eq_true e) hx
          obtain ⟨rfl, rfl⟩ := HF.out ⟨c, HM.out, by simpa using hx⟩
          rw [hI] at KI
          clear hI hx hc hkR hkl HF HN
          go_wp2_with fail
          refine (KI.out _).mono ?_
          rintro e w3 ⟨rfl, rfl⟩
          go_wp2_with fail
          refine bodyPost_ret (v := .tuple #[.int .u64 0, .int .i64 8]) (by simp [results, Tryz.results16, go_sem]) rfl ⟨rfl, below_iter _ _ _⟩
      · obtain ⟨f1, f2⟩ := decode_high R k hkR (by rw [hc]; omega)
        have f3 := Lib.rune_le R k
        generalize Utf8.decode R k = D at *
        obtain ⟨D1, D2⟩ := D
        simp only at f1 f2 f3 hnx
        have KI := Lib.hid (fun w => ixr_high (D1 : Int) (by omega) (by omega) w)
        have hxf : isHex c = false := by
          have := hexI_high c (by omega)
          unfold isHex; rw [this]; rfl
        obtain ⟨rfl, rfl⟩ := HF.out ⟨c, HM.out, hxf⟩
        clear hxf hc hkR hkl HF HN hlow f1 f2 f3
        go_wp2_with fail
        refine (KI.out _).mono ?_
        rintro e w3 ⟨rfl, hb⟩
        have HB := Lib.hid ((below_iter w1 R (k + D2)).trans (hb.mono (below_iter w1 R (k + D2)).size))
        clear hb
        go_wp2_with fail
        refine bodyPost_ret (v := .tuple #[.int .u64 0, .int .i64 8]) (by simp [results, Tryz.results16, go_sem]) rfl ⟨rfl, HB.out⟩
    · obtain rfl : k = 16 := by omega
      have hnx := fun ty => run_next_end (P := Tryz.prog) w1 R 16 ty (show ¬ 16 < R.size by omega)
      have hlt16 : l.take 16 = l := List.take_of_length_le (by omega)
      rw [hlt16] at HH ⊢
      obtain ⟨rfl, rfl⟩ := HN.out HH.out
      clear hlt16 HF HN
      go_wp2_with fail
      refine bodyPost_ret (v := .tuple #[.int .u64 ((valF 0 l : Nat) : Int), .int .i64 0]) (by simp [results, Tryz.results16, go_sem]) rfl ⟨rfl, below_iter _ _ _⟩
set_option maxRecDepth 100000 in
set_option maxHeartbeats 4000000 in
theorem parse_any (s : ByteArray) (w : World) :
    Calls Tryz.prog 16 #[.string s] w fun e w' => e = .returned (.tuple #[.int .u64 (numP s.data.toList : Nat), .int .i64 (errP s.data.toList)]) ∧ Below w.heap.size w w' := by
  have C := Lib.hid (fun w => Tryz.strings_CutPrefix s ⟨#[104, 58]⟩ w)
  have e0 : (⟨#[104, 58]⟩ : ByteArray).data.toList = [104, 58] := rfl
  rw [e0] at C
  cases hp : Lib.hasPrefix s.data.toList [104, 58] with
  | false =>
    obtain ⟨h1, h2⟩ := num_no (pre_false hp)
    rw [h1, h2]
    rw [hp] at C
    generalize (⟨(Lib.trimPrefix s.data.toList [104, 58]).toArray⟩ : ByteArray) = R at *
    clear e0 h1 h2 hp
    go_enter Tryz.func16, Tryz.ntmps16
    go_wp2_with fail
    refine (C.out _).mono ?_
    rintro e w1 ⟨rfl, rfl⟩
    go_wp2_with fail
    refine bodyPost_ret (v := .tuple #[.int .u64 0, .int .i64 8]) (by simp [results, Tryz.results16, go_sem]) rfl ⟨rfl, Below.refl _ _⟩
  | true =>
    obtain ⟨l, hl⟩ := pre_true hp
    by_cases h16 : l.length = 16
    · exact parse_go s l hl h16 w
    · obtain ⟨h1, h2⟩ := num_no (L := s.data.toList) (by
        rw [Bool.eq_false_iff]
        intro hk
        obtain ⟨l', hl', h3, _⟩ := okP_iff.1 hk
        rw [hl] at hl'
        simp only [List.cons.injEq, true_and] at hl'
        subst hl'
        exact h16 h3)
      have h2t : Lib.trimPrefix s.data.toList [104, 58] = l := by rw [hl]; rfl
      rw [h1, h2]
      rw [hp, h2t] at C
      have hsz : (((⟨l.toArray⟩ : ByteArray).size : Int) != 16) = true := by
        have e : (⟨l.toArray⟩ : ByteArray).size = l.length := by show l.toArray.size = _; simp
        rw [e]; simp; omega
      generalize (⟨l.toArray⟩ : ByteArray) = R at *
      clear e0 h1 h2 hp h2t hl h16
      go_enter Tryz.func16, Tryz.ntmps16
      go_wp2_with fail
      refine (C.out _).mono ?_
      rintro e w1 ⟨rfl, rfl⟩
      go_wp2_with fail
      refine bodyPost_ret (v := .tuple #[.int .u64 0, .int .i64 8]) (by simp [results, Tryz.results16, go_sem]) rfl ⟨rfl, Below.refl _ _⟩
end Go.Proofs.YthlcdimofagmfaaGreatDoor.Dg
