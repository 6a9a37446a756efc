/-
  The specification's decimal numerals, and its text of a list. Conditions: the slice reads as a list of at most 1000 steps with labels of at most 1000 bytes.
-/
import Derived.Test.YtaocgibfabofhaaDoorT2
import Derived.Test.YtaocgibfabofhaaDoorRF
import Derived.Lib.ItoaNum
import Derived.Laws.IdiomStrings
namespace Go.Proofs.YtaocgibfabofhaaDoor
open Go.RowKit
set_option linter.unusedSimpArgs false
set_option linter.unusedVariables false
def noText : Value → Nat
  | .string s => if s.size = 0 then 1 else 0
  | _ => 0
def DInv (n m : Nat) (t : List UInt8) : Prop := (t = [] ∧ m = n) ∨ (t ≠ [] ∧ 0 < m ∧ Lib.decDigits m ++ t = Lib.decDigits n) ∨ (t ≠ [] ∧ m = 0 ∧ t = Lib.decDigits n)
theorem dec_more {m : Nat} (h : ¬ m < 10) : Lib.decDigits m = Lib.decDigits (m / 10) ++ [UInt8.ofNat (48 + m % 10)] := by
  rw [Lib.decDigits, dif_neg h]
theorem dinv_step {n m : Nat} {t : List UInt8} (h : DInv n m t) (hgo : 0 < m ∨ t = []) : DInv n (m / 10) ([UInt8.ofNat (48 + m % 10)] ++ t) := by
  rcases h with ⟨rfl, rfl⟩ | ⟨h1, h2, h3⟩ | ⟨h1, rfl, h3⟩
  · by_cases hm : m < 10
    · right; right
      exact ⟨by simp, by omega, by rw [Lib.decDigits_one hm, Nat.mod_eq_of_lt hm]; rfl⟩
    · right; left
      exact ⟨by simp, by omega, by rw [dec_more hm]; simp⟩
  · by_cases hm : m < 10
    · right; right
      refine ⟨by simp, by omega, ?_⟩
      rw [← h3, Lib.decDigits_one hm, Nat.mod_eq_of_lt hm]
    · right; left
      refine ⟨by simp, by omega, ?_⟩
      rw [← h3, dec_more hm]; simp
  · rcases hgo with h | h
    · omega
    · exact absurd h h1
theorem dinv_end {n m : Nat} {t : List UInt8} (h : DInv n m t) (h1 : ¬ 0 < m) (h2 : t ≠ []) : t = Lib.decDigits n := by
  rcases h with ⟨e, _⟩ | ⟨_, e, _⟩ | ⟨_, _, e⟩
  · exact absurd e h2
  · exact absurd e h1
  · exact e
theorem app_ba (a b : List UInt8) : (⟨a.toArray⟩ : ByteArray) ++ ⟨b.toArray⟩ = ⟨(a ++ b).toArray⟩ := by
  apply ByteArray.ext
  simp
set_option maxRecDepth 100000 in
set_option maxHeartbeats 2000000 in
theorem rdig_any (n : Nat) (hn : n ≤ 1000000) (w : World) :
    Calls Tryd.prog 29 #[.int .i64 (n : Int), .int .i64 1] w fun e w' => e = .returned (.string ⟨(Lib.decDigits n).toArray⟩) ∧ Below w.heap.size w w' := by
  obtain ⟨R, hR⟩ : ∃ R, R = (⟨(Lib.decDigits n).toArray⟩ : ByteArray) := ⟨_, rfl⟩
  rw [← hR]
  have HR := Lib.hid hR
  clear hR
  go_enter Tryd.func29, Tryd.ntmps29
  go_wp2_with fail
  go_loopw [0, 5] (fun i v wr => ∃ (m : Nat) (t : List UInt8), i = .int .i64 (m : Int) ∧ v = .string ⟨t.toArray⟩ ∧ m ≤ n ∧ t.length + m ≤ n + 1 ∧ Hid (DInv n m t) ∧ Below w.heap.size w wr) (fun i v _ => (intOf i).toNat + noText v)
  case atStart => exact ⟨n, [], rfl, rfl, Nat.le_refl _, by simp, Lib.hid (.inl ⟨rfl, rfl⟩), Below.refl _ _⟩
  case round =>
    obtain ⟨m, t, rfl, rfl, hm, hl, HI, hB⟩ := hrel
    have ts : (⟨t.toArray⟩ : ByteArray).size = t.length := rfl
    by_cases hgo : 0 < m ∨ t = []
    · obtain ⟨d, hd⟩ : ∃ d, d = m % 10 := ⟨_, rfl⟩
      obtain ⟨q, hq⟩ : ∃ q, q = m / 10 := ⟨_, rfl⟩
      obtain ⟨c, hcd⟩ : ∃ c, c = UInt8.ofNat (48 + d) := ⟨_, rfl⟩
      have hd9 : d < 10 := by omega
      have hc : (c.toNat : Int) = 48 + (d : Int) := by rw [hcd]; simp; omega
      have r1 : Int.tmod (m : Int) 10 = (d : Int) := by rw [hd]; rfl
      have r2 : (m : Int) % 10 = (d : Int) := by rw [hd]; rfl
      have r3 : Int.tdiv (m : Int) 10 = (q : Int) := by rw [hq]; rfl
      have r4 : (m : Int) / 10 = (q : Int) := by rw [hq]; rfl
      have r5 : IntKind.i64.wrap (48 + (d : Int)) = 48 + (d : Int) := by simp [IntKind.wrap, IntKind.bits, IntKind.signed]; omega
      have r6 : IntKind.u8.wrap (48 + (d : Int)) = 48 + (d : Int) := by simp [IntKind.wrap, IntKind.bits, IntKind.signed]; omega
      have r7 : (48 + (d : Int)) % 256 = 48 + (d : Int) := by omega
      have r8 : IntKind.i64.wrap (q : Int) = (q : Int) := by simp [IntKind.wrap, IntKind.bits, IntKind.signed]; omega
      have r9 : IntKind.i64.wrap (d : Int) = (d : Int) := by simp [IntKind.wrap, IntKind.bits, IntKind.signed]; omega
      have hbk := fun (w : World) (a : Addr) (hx : w.cell? a = some (.int .u8 (48 + (d : Int)))) => Go.run_convert_bytes_back (P := Tryd.prog) w 33 9 5 a 1 [c] Tryd.underlying33 Tryd.underlying5 Tryd.underlying9 (fun j hj => by
        obtain rfl : j = 0 := by simpa using hj
        rw [show a.add 0 = a by simp [Addr.add], hx, ← hc]; rfl)
      have hcv : ∀ w : World, (convert 33 9 (.slice (some ⟨w.heap.size, 0, none⟩) 1 1)).run Tryd.prog (w.alloc (.cells #[.int .u8 (48 + (d : Int))] 5)) = .ok (.string ⟨#[c]⟩) (w.alloc (.cells #[.int .u8 (48 + (d : Int))] 5)) := fun w => hbk _ _ (by rw [World.cell?_alloc_new]; rfl)
      have HS := Lib.hid (dinv_step HI.out hgo)
      rw [← hd, ← hq, ← hcd] at HS
      have hap : (⟨#[c]⟩ : ByteArray) ++ ⟨t.toArray⟩ = ⟨([c] ++ t).toArray⟩ := app_ba [_] t
      have HA := Lib.hid hap
      have HM := Lib.hid (show q + noText (.string ⟨([c] ++ t).toArray⟩) < m + noText (.string ⟨t.toArray⟩) by
        have e1 : noText (.string ⟨([c] ++ t).toArray⟩) = 0 := by
          show (if ([c] ++ t).toArray.size = 0 then 1 else 0) = 0
          simp
        rw [e1]
        rcases hgo with h | h
        · omega
        · subst h
          have e2 : noText (.string ⟨([] : List UInt8).toArray⟩) = 1 := rfl
          rw [e2]; omega)
      have hql : t.length + 1 + q ≤ n + 1 := by
        rcases hgo with h | h
        · omega
        · subst h; simp; omega
      have hqn : q ≤ n := by omega
      have zs : ¬ 9223372036854775807 < 1 + t.length := by omega
      clear hbk hap hc hd hq hcd
      by_cases hm0 : 0 < m
      · have HB := Lib.hid (hB.alloc hB.size (.cells #[.int .u8 (48 + (d : Int))] 5))
        clear hgo hB
        go_wp2_with fail
        go_roundw
        case rel => exact ⟨q, _, rfl, by rw [HA.out], hqn, by simp; omega, HS, HB.out⟩
        case measure => have := HM.out; rw [HA.out]; simp [intOf] at this ⊢; omega
      · have HB := Lib.hid (hB.alloc hB.size (.cells #[.int .u8 (48 + (d : Int))] 5))
        have ht : t = [] := by
          rcases hgo with h | h
          · exact absurd h hm0
          · exact h
        subst ht
        have hz1 : decide ((0 : Int) < (m : Int)) = false := by simp; omega
        have hz2 : ¬ (0 : Int) < (m : Int) := by omega
        clear hgo hB
        go_wp2_with fail
        go_roundw
        case rel => exact ⟨q, _, rfl, by rw [HA.out], hqn, by simp; omega, HS, HB.out⟩
        case measure => have := HM.out; rw [HA.out]; simp [intOf] at this ⊢; omega
    · have h1 : ¬ 0 < m := fun h => hgo (.inl h)
      have h2 : t ≠ [] := fun h => hgo (.inr h)
      have HE := Lib.hid (dinv_end HI.out h1 h2)
      obtain rfl : m = 0 := by omega
      have hl1 : 1 ≤ t.length := List.length_pos_iff.2 h2
      have hl2 : (1 : Int) ≤ ((⟨t.toArray⟩ : ByteArray).size : Int) := by rw [ts]; omega
      clear hgo h1 h2 HI
      generalize hU : (⟨t.toArray⟩ : ByteArray) = U at *
      have HU := Lib.hid hU
      clear hU
      go_wp2_with fail
      go_ret
      exact ⟨by rw [HR.out, ← HE.out, HU.out]; rfl, hB⟩
theorem istr_dec (m : Nat) : istr (m : Int) = ⟨(Lib.decDigits m).toArray⟩ := by
  unfold istr Lib.itoa
  rw [if_neg (by omega)]; rfl
theorem rdigits_at (i : Int) (h0 : 0 ≤ i) (h1 : i ≤ 1000000) (w : World) :
    Calls Tryd.prog 29 #[.int .i64 i, .int .i64 1] w fun e w' => e = .returned (.string (istr i)) ∧ Below w.heap.size w w' := by
  obtain ⟨m, rfl⟩ := Int.eq_ofNat_of_zero_le h0
  rw [istr_dec]
  exact rdig_any m (by omega) w
theorem dt_app (a b : ByteArray) : (a ++ b).data.toList = a.data.toList ++ b.data.toList := by simp
set_option maxRecDepth 100000 in
set_option maxHeartbeats 8000000 in
theorem rtext_any (A : Option Addr) (c : Nat) (xs : List St) (hx : xs.length ≤ 1000) (hl : ∀ x ∈ xs, x.1.size ≤ 1000) (w : World) (h : Rd w w.heap.size A xs) :
    Calls Tryd.prog 16 #[.slice A xs.length c] w fun e w' => e = .returned (.string ⟨(textS xs).toArray⟩) ∧ Below w.heap.size w w' := by
  cases hv : allV xs with
  | false =>
    have HV : Hid (textS xs = [63]) := by show textS xs = _; unfold textS; rw [if_pos hv]
    have C := Lib.hid (rvalid_any A c xs (by omega) w h)
    rw [hv] at C
    clear hv h hl
    go_enter Tryd.func16, Tryd.ntmps16
    go_wp2_with fail
    refine C.out.mono ?_
    rintro e w1 ⟨rfl, hb1⟩
    go_wp2_with fail
    go_ret
    exact ⟨by rw [HV.out]; rfl, hb1⟩
  | true =>
    have C := Lib.hid (rvalid_any A c xs (by omega) w h)
    rw [hv] at C
    cases hn : xs with
    | nil =>
      subst hn
      have HV : Hid (textS [] = [46]) := Lib.hid rfl
      clear hv h hl
      go_enter Tryd.func16, Tryd.ntmps16
      go_wp2_with fail
      refine C.out.mono ?_
      rintro e w1 ⟨rfl, hb1⟩
      go_wp2_with fail
      go_ret
      exact ⟨by rw [HV.out]; rfl, hb1⟩
    | cons y ys =>
      rw [← hn]
      have hpos : 0 < xs.length := by rw [hn]; simp
      have HV : Hid (textS xs = restT 0 xs) := by show textS xs = _; unfold textS; rw [if_neg (by rw [hv]; simp), if_neg (by rw [hn]; simp)]
      have q0 : ((xs.length : Int) == 0) = false := beq_eq_false_iff_ne.2 (by omega)
      have HVL : Hid (∀ k (h : k < xs.length), vldX xs[k] = true) := Lib.hid fun k h => by
        have := List.all_eq_true.1 hv xs[k] (List.getElem_mem h); exact this
      have HL : Hid (∀ k (h : k < xs.length), xs[k].1.size ≤ 1000) := Lib.hid fun k h => hl xs[k] (List.getElem_mem h)
      have H := Lib.hid h
      rw [HV.out]
      have HE := Lib.hid (restT_end (xs := xs))
      clear hv hn h hl
      go_enter Tryd.func16, Tryd.ntmps16
      go_wp2_with fail
      refine C.out.mono ?_
      rintro e w1 ⟨rfl, hb1⟩
      have BB := Lib.hid hb1
      clear hb1 C
      go_wp2_with fail
      go_loopw [3, 4] (fun v i wr => ∃ (k : Nat) (S : ByteArray), i = .int .i64 (k : Int) ∧ v = .string S ∧ k ≤ xs.length ∧ S.size ≤ k * 5000 ∧ Hid (S.data.toList ++ restT k xs = restT 0 xs) ∧ Hid (Below w.heap.size w wr)) (fun _ i _ => xs.length - (intOf i).toNat)
      case atStart => exact ⟨0, ⟨#[]⟩, rfl, rfl, by omega, by simp [ByteArray.size], Lib.hid rfl, BB⟩
      case round =>
        clear BB
        obtain ⟨k, S, rfl, rfl, hk, hacc, HS, HB⟩ := hrel
        by_cases hlt : k < xs.length
        · obtain ⟨ad, rfl, hlad, c0, c1⟩ := (H.out.below HB.out).at_ k hlt
          have hvk := HVL.out k hlt
          have hlk0 := HL.out k hlt
          rw [restT_at hlt] at HS
          generalize xs[k] = x at *
          obtain ⟨a, i⟩ := x
          have hlk : a.size ≤ 1000 := hlk0
          clear hlk0
          by_cases ha : a.size = 0
          · obtain ⟨a1, a2⟩ := empty_facts a ha
            have hi : 0 ≤ i ∧ i ≤ 1000000 := by
              rcases Decidable.em (0 ≤ i ∧ i ≤ 1000000) with h | h
              · exact h
              · rw [vld_4 (x := (a, i)) ha h] at hvk; cases hvk
            have HS2 : Hid (S.data.toList ++ ((⟨#[91]⟩ ++ istr i ++ ⟨#[93]⟩ : ByteArray).data.toList ++ restT (k + 1) xs) = restT 0 xs) := by
              have := HS.out; rw [stT_1 (x := (a, i)) ha] at this; exact Lib.hid this
            have hsi := istr_size i hi.1 hi.2
            have CI := Lib.hid (rdigits_at i hi.1 hi.2)
            clear HS hvk ha hi
            generalize istr i = I at *
            have g0 : ¬ (9223372036854775807 < S.size + 1) := by omega
            have g1 : ¬ (9223372036854775807 < S.size + 1 + I.size) := by omega
            have g2 : ¬ (9223372036854775807 < S.size + 1 + I.size + 1) := by omega
            go_wp2_with fail
            refine (CI.out _).mono ?_
            rintro e w3 ⟨rfl, hb3⟩
            have HB2 := Lib.hid (HB.out.trans (hb3.mono HB.out.size))
            clear hb3 HB
            go_wp2_with fail
            go_roundw
            case rel => exact ⟨k + 1, _, by go_num, rfl, by omega, by rw [cat_size, cat_size, cat_size]; show S.size + 1 + I.size + 1 ≤ _; omega, Lib.hid (by rw [← HS2.out]; simp only [dt_app, List.append_assoc]), HB2⟩
            case measure => simp [intOf]; omega
          · obtain ⟨a1, a2⟩ := str_ne a ha
            have CL := Lib.hid (rlabel_any a (by omega))
            have hls := labelV_size a
            by_cases hk0 : k = 0
            · have q5 : decide ((0 : Int) < (k : Int)) = false := decide_eq_false (by omega)
              have q6 : decide (0 < k) = false := decide_eq_false (by omega)
              have HS2 : Hid (S.data.toList ++ ((labelV a).data.toList ++ restT (k + 1) xs) = restT 0 xs) := by
                have := HS.out; rw [show (k == 0) = true by simpa using hk0, stT_2 (x := (a, i)) ha] at this; exact Lib.hid this
              clear HS hvk ha hk0
              generalize labelV a = I at *
              have g1 : ¬ (9223372036854775807 < S.size + I.size) := by omega
              go_wp2_with fail
              refine (CL.out _).mono ?_
              rintro e w3 ⟨rfl, hb3⟩
              have HB2 := Lib.hid (HB.out.trans (hb3.mono HB.out.size))
              clear hb3 HB
              go_wp2_with fail
              go_roundw
              case rel => exact ⟨k + 1, _, by go_num, rfl, by omega, by rw [cat_size]; omega, Lib.hid (by rw [← HS2.out]; simp only [dt_app, List.append_assoc]), HB2⟩
              case measure => simp [intOf]; omega
            · have q5 : decide ((0 : Int) < (k : Int)) = true := decide_eq_true (by omega)
              have q6 : decide (0 < k) = true := decide_eq_true (by omega)
              have HS2 : Hid (S.data.toList ++ ((⟨#[46]⟩ ++ labelV a : ByteArray).data.toList ++ restT (k + 1) xs) = restT 0 xs) := by
                have := HS.out; rw [show (k == 0) = false by simpa using hk0, stT_3 (x := (a, i)) ha] at this; exact Lib.hid this
              clear HS hvk ha hk0
              generalize labelV a = I at *
              have g0 : ¬ (9223372036854775807 < S.size + 1) := by omega
              have g1 : ¬ (9223372036854775807 < S.size + 1 + I.size) := by omega
              go_wp2_with fail
              refine (CL.out _).mono ?_
              rintro e w3 ⟨rfl, hb3⟩
              have HB2 := Lib.hid (HB.out.trans (hb3.mono HB.out.size))
              clear hb3 HB
              go_wp2_with fail
              go_roundw
              case rel => exact ⟨k + 1, _, by go_num, rfl, by omega, by rw [cat_size, cat_size]; show S.size + 1 + I.size ≤ _; omega, Lib.hid (by rw [← HS2.out]; simp only [dt_app, List.append_assoc]), HB2⟩
              case measure => simp [intOf]; omega
        · obtain rfl : k = xs.length := by omega
          have HS2 : Hid (S.data.toList = restT 0 xs) := by have := HS.out; rw [HE.out, List.append_nil] at this; exact Lib.hid this
          clear HS
          go_wp2_with fail
          go_ret
          exact ⟨by rw [← HS2.out]; rfl, HB.out⟩
end Go.Proofs.YtaocgibfabofhaaDoor
