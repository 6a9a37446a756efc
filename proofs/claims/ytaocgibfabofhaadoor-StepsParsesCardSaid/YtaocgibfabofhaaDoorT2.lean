/-
  Text returns what 'textS' says of its list. Conditions: the slice reads as a list of at most 1000 steps with labels of at most 1000 bytes, and the table of powers of ten holds what it holds.
-/
import Derived.Test.YtaocgibfabofhaaDoorT1
import Derived.Lib.ItoaLen
namespace Go.Proofs.YtaocgibfabofhaaDoor
open Go.RowKit
set_option linter.unusedSimpArgs false
set_option linter.unusedVariables false
def P10 (w : World) : Prop := Lib.TabIs Tryd.prog w "internal/strconv.uint64pow10" .u64 Lib.pow10Tab
theorem P10.below {w w' : World} (h : P10 w) (hb : Below w.heap.size w w') : P10 w' := by
  unfold P10 Lib.TabIs World.var? at h ⊢
  cases hg : Tryd.prog.globalNamed "internal/strconv.uint64pow10" with
  | none => rw [hg] at h; cases h
  | some g =>
    rw [hg] at h
    simp only [Option.bind_some] at h ⊢
    have hlt : g < w.heap.size := by
      rcases Nat.lt_or_ge g w.heap.size with h' | h'
      · exact h'
      · rw [Array.getElem?_eq_none h'] at h; cases h
    rw [hb.block g hlt]
    exact h
theorem below_grow (w : World) (k : Nat) (os : Array Obj) : Below w.heap.size w (Go.Sort.grow (w.drewN k) os) := by
  have h0 : Below w.heap.size w (w.drewN k) := by constructor <;> first | rfl | (intros; rfl) | (intros; assumption) | exact Nat.le_refl _
  constructor <;> first
    | rfl
    | (intros; rfl)
    | (intro b hb; show (w.heap ++ os)[b]? = w.heap[b]?; rw [Array.getElem?_append_left hb])
    | (show w.heap.size ≤ (w.heap ++ os).size; simp)
def istr (n : Int) : ByteArray := ⟨(Lib.itoa n).toArray⟩
theorem istr_size (n : Int) (h0 : 0 ≤ n) (h1 : n ≤ 1000000) : (istr n).size ≤ 21 := Lib.itoa_length_le n (by omega) (by omega)
theorem itoa_tab (n : Int) (h0 : 0 ≤ n) (h1 : n ≤ 1000000) (w : World) (hT : P10 w) :
    Calls Tryd.prog 26 #[.int .i64 n] w fun e w' => e = .returned (.string (istr n)) ∧ Below w.heap.size w w' :=
  (Tryd.strconv_Itoa n (by omega) (by omega) w hT).mono fun e w' ⟨he, k, os, hw⟩ => ⟨he, by rw [hw]; exact below_grow w k os⟩
/-- the text of one step; first: whether it is the first one -/
def stT (first : Bool) (x : St) : ByteArray :=
  if x.1.size = 0 then ⟨#[91]⟩ ++ istr x.2 ++ ⟨#[93]⟩ else if first = true then labelV x.1 else ⟨#[46]⟩ ++ labelV x.1
theorem stT_1 {f : Bool} {x : St} (h : x.1.size = 0) : stT f x = ⟨#[91]⟩ ++ istr x.2 ++ ⟨#[93]⟩ := by unfold stT; rw [if_pos h]
theorem stT_2 {x : St} (h : x.1.size ≠ 0) : stT true x = labelV x.1 := by unfold stT; rw [if_neg h, if_pos rfl]
theorem stT_3 {x : St} (h : x.1.size ≠ 0) : stT false x = ⟨#[46]⟩ ++ labelV x.1 := by unfold stT; rw [if_neg h, if_neg (by simp)]
def tailT (l : List St) : List UInt8 := l.flatMap fun x => (stT false x).data.toList
def restT (k : Nat) (xs : List St) : List UInt8 :=
  if k = 0 then (match xs with | [] => [] | x :: t => (stT true x).data.toList ++ tailT t) else tailT (xs.drop k)
theorem restT_at {xs : List St} {k : Nat} (h : k < xs.length) : restT k xs = (stT (k == 0) xs[k]).data.toList ++ restT (k + 1) xs := by
  unfold restT
  by_cases hk : k = 0
  · subst hk
    rw [if_pos rfl, if_neg (by omega)]
    cases xs with
    | nil => simp at h
    | cons x t => simp
  · rw [if_neg hk, if_neg (by omega), show (k == 0) = false by simpa using hk]
    have e : xs.drop k = xs[k] :: xs.drop (k + 1) := List.drop_eq_getElem_cons h
    unfold tailT
    rw [e, List.flatMap_cons]
theorem restT_end {xs : List St} : restT xs.length xs = [] := by
  unfold restT
  cases xs with
  | nil => rfl
  | cons x t => rw [if_neg (by simp), List.drop_eq_nil_of_le (Nat.le_refl _)]; rfl
/-- the text of a list -/
def textS (xs : List St) : List UInt8 := if allV xs = false then [63] else if xs = [] then [46] else restT 0 xs
theorem labelV_size (s : ByteArray) : (labelV s).size ≤ 4 * s.size + 2 := by
  unfold labelV
  split
  · omega
  · show (quoteL s.data.toList).toArray.size ≤ _
    have := body_len s.data.toList
    simp only [quoteL, List.size_toArray, List.length_append, List.length_cons, List.length_nil]
    have e : s.data.toList.length = s.size := by simp
    omega
theorem wstrB {B b : Nat} {l : List UInt8} (t : ByteArray) (w : World) (h : Bld B b l w) (hlen : l.length ≤ 70368744177664) (hx : t.size ≤ 1048576) (hBw : B ≤ w.heap.size) :
    Calls Tryd.prog 25 #[.pointer (some ⟨b, 0, none⟩), .string t] w fun e w' => ∃ n, e = .returned (.tuple #[.int .i64 n, .nilIface]) ∧ Bld B b (l ++ t.data.toList) w' ∧ Below B w w' := by
  have := wstr_at t.data.toList w h hlen (by simpa using hx) hBw
  rw [show (⟨t.data.toList.toArray⟩ : ByteArray) = t from rfl] at this
  refine this.mono ?_
  rintro e w' ⟨⟨n, rfl⟩, h1, h2, _⟩
  exact ⟨n, rfl, h1, h2⟩
theorem bld_keep {B b : Nat} {l : List UInt8} {w w' : World} (h : Bld B b l w) (hb : Below w.heap.size w w') : Bld B b l w' :=
  bld_own B b (fun _ => l) [] w w' none h ⟨hb.os, hb.tape, hb.output, hb.size, fun i hi _ => hb.block i hi⟩ (fun r e => by cases e)
theorem app_len (acc : List UInt8) (t : ByteArray) : (acc ++ t.data.toList).length = acc.length + t.size := by simp
theorem cat_size (a b : ByteArray) : (a ++ b).size = a.size + b.size := by simp
set_option maxRecDepth 100000 in
set_option maxHeartbeats 2000000 in
theorem text_any (A : Option Addr) (c : Nat) (xs : List St) (hx : xs.length ≤ 1000) (hl : ∀ x ∈ xs, x.1.size ≤ 1000) (w : World) (h : Rd w w.heap.size A xs) (hT : P10 w) :
    Calls Tryd.prog 15 #[.slice A xs.length c] w fun e w' => e = .returned (.string ⟨(textS xs).toArray⟩) ∧ Below w.heap.size w w' := by
  cases hv : allV xs with
  | false =>
    have HV : Hid (textS xs = [63]) := by show textS xs = _; unfold textS; rw [if_pos hv]
    have C := Lib.hid (valid_any A c xs (by omega) w h)
    rw [hv] at C
    clear hv h hT hl
    go_enter Tryd.func15, Tryd.ntmps15
    go_wp2_with fail
    refine C.out.mono ?_
    rintro e w1 ⟨rfl, hb1⟩
    go_wp2_with fail
    go_ret
    exact ⟨by rw [HV.out]; rfl, hb1⟩
  | true =>
    have C := Lib.hid (valid_any A c xs (by omega) w h)
    rw [hv] at C
    cases hn : xs with
    | nil =>
      subst hn
      have HV : Hid (textS [] = [46]) := Lib.hid rfl
      clear hv h hT hl
      go_enter Tryd.func15, Tryd.ntmps15
      go_wp2_with fail
      refine C.out.mono ?_
      rintro e w1 ⟨rfl, hb1⟩
      go_wp2_with fail
      go_ret
      exact ⟨by rw [HV.out]; rfl, hb1⟩
    | cons y ys =>
      rw [← hn]
      have hpos : 0 < xs.length := by rw [hn]; simp
      have HV : Hid (textS xs = restT 0 xs) := by show textS xs = _; unfold textS; rw [if_neg (by rw [hv]; simp), if_neg (by rw [hn]; simp)]
      have q0 : ((xs.length : Int) == 0) = false := beq_eq_false_iff_ne.2 (by omega)
      have HVL : Hid (∀ k (h : k < xs.length), vldX xs[k] = true) := Lib.hid fun k h => by
        have := List.all_eq_true.1 hv xs[k] (List.getElem_mem h); exact this
      have HL : Hid (∀ k (h : k < xs.length), xs[k].1.size ≤ 1000) := Lib.hid fun k h => hl xs[k] (List.getElem_mem h)
      have H := Lib.hid h
      have HT := Lib.hid hT
      rw [HV.out]
      have HE := Lib.hid (restT_end (xs := xs))
      clear hv hn h hT hl
      go_enter Tryd.func15, Tryd.ntmps15
      go_wp2_with fail
      refine C.out.mono ?_
      rintro e w1 ⟨rfl, hb1⟩
      have BB := Lib.hid hb1
      have H1 := Lib.hid (H.out.below hb1)
      have T1 := Lib.hid (HT.out.below hb1)
      have L0 := Lib.hid (bld_new w1)
      have hsz : w.heap.size ≤ w1.heap.size := hb1.size
      clear hb1 C H HT
      go_wp2_with fail
      go_loopw [14] (fun i wr => ∃ (k : Nat) (acc : List UInt8), i = .int .i64 (k : Int) ∧ k ≤ xs.length ∧ acc.length ≤ k * 5000 ∧ Hid (Bld w1.heap.size w1.heap.size acc wr) ∧ Hid (acc ++ restT k xs = restT 0 xs) ∧ Hid (Below w1.heap.size w1 wr)) (fun i _ => xs.length - (intOf i).toNat)
      case atStart => exact ⟨0, [], rfl, by omega, by simp, L0, Lib.hid (by simp), Lib.hid ((Below.refl _ _).alloc (Nat.le_refl _) _)⟩
      case round =>
        clear L0
        obtain ⟨k, acc, rfl, hk, hacc, BL, HS, HB⟩ := hrel
        by_cases hlt : k < xs.length
        · obtain ⟨ad, rfl, hlad, c0, c1⟩ := (H1.out.below (HB.out.mono hsz)).at_ k hlt
          have hvk := HVL.out k hlt
          have hlk0 := HL.out k hlt
          have HT2 := Lib.hid (T1.out.below HB.out)
          rw [restT_at hlt] at HS
          generalize xs[k] = x at *
          obtain ⟨a, i⟩ := x
          have hlk : a.size ≤ 1000 := hlk0
          clear hlk0
          have BL1 := Lib.hid (bld_keep BL.out ((Below.refl _ _).alloc (Nat.le_refl _) (.cells #[.string a, .int .i64 i] 37)))
          have HB1 := Lib.hid (HB.out.alloc HB.out.size (.cells #[.string a, .int .i64 i] 37))
          have HT3 := Lib.hid (HT2.out.below ((Below.refl _ _).alloc (Nat.le_refl _) (.cells #[.string a, .int .i64 i] 37)))
          clear BL HB HT2
          by_cases ha : a.size = 0
          · obtain ⟨a1, a2⟩ := empty_facts a ha
            have hi : 0 ≤ i ∧ i ≤ 1000000 := by
              rcases Decidable.em (0 ≤ i ∧ i ≤ 1000000) with h | h
              · exact h
              · rw [vld_4 (x := (a, i)) ha h] at hvk; cases hvk
            have HS2 : Hid (acc ++ ((⟨#[91]⟩ ++ istr i ++ ⟨#[93]⟩ : ByteArray).data.toList ++ restT (k + 1) xs) = restT 0 xs) := by
              have := HS.out; rw [stT_1 (x := (a, i)) ha] at this; exact Lib.hid this
            have hsi := istr_size i hi.1 hi.2
            have hcat : (⟨#[91]⟩ ++ istr i ++ ⟨#[93]⟩ : ByteArray).size ≤ 23 := by rw [cat_size, cat_size]; show 1 + _ + 1 ≤ 23; omega
            have g1 : ¬ (9223372036854775807 < 1 + (istr i).size) := by omega
            have g2 : ¬ (9223372036854775807 < 1 + (istr i).size + 1) := by omega
            have CI := Lib.hid (fun W h => itoa_tab i hi.1 hi.2 W h)
            clear HS hvk ha hi
            go_wp2_with fail
            refine (CI.out _ HT3.out).mono ?_
            rintro e w3 ⟨rfl, hb3⟩
            have BL2 := Lib.hid (bld_keep BL1.out hb3)
            have HB2 := Lib.hid (HB1.out.trans (hb3.mono HB1.out.size))
            clear hb3 BL1 HB1 HT3
            generalize istr i = I at *
            have WS := Lib.hid (fun W h hB => wstrB (B := w1.heap.size) (b := w1.heap.size) (l := acc) (⟨#[91]⟩ ++ I ++ ⟨#[93]⟩ : ByteArray) W h (by omega) (by omega) hB)
            go_wp2_with fail
            refine (WS.out _ BL2.out HB2.out.size).mono ?_
            rintro e w4 ⟨n, rfl, h1, h2⟩
            have BL3 := Lib.hid h1
            have HB3 := Lib.hid (HB2.out.trans h2)
            clear h1 h2
            go_wp2_with fail
            go_roundw
            case rel => exact ⟨k + 1, acc ++ (⟨#[91]⟩ ++ I ++ ⟨#[93]⟩ : ByteArray).data.toList, by go_num, by omega, by rw [app_len]; omega, BL3, Lib.hid (by rw [List.append_assoc]; exact HS2.out), HB3⟩
            case measure => simp [intOf]; omega
          · obtain ⟨a1, a2⟩ := str_ne a ha
            have CL := Lib.hid (label_any a (by omega))
            have hls := labelV_size a
            by_cases hk0 : k = 0
            · have q5 : ((k : Int) == 0) = true := by simp; omega
              have HS2 : Hid (acc ++ ((labelV a).data.toList ++ restT (k + 1) xs) = restT 0 xs) := by
                have := HS.out; rw [show (k == 0) = true by simpa using hk0, stT_2 (x := (a, i)) ha] at this; exact Lib.hid this
              clear HS hvk ha hk0
              generalize labelV a = I at *
              have WS := Lib.hid (fun W h hB => wstrB (B := w1.heap.size) (b := w1.heap.size) (l := acc) I W h (by omega) (by omega) hB)
              go_wp2_with fail
              refine (CL.out _).mono ?_
              rintro e w3 ⟨rfl, hb3⟩
              have BL2 := Lib.hid (bld_keep BL1.out hb3)
              have HB2 := Lib.hid (HB1.out.trans (hb3.mono HB1.out.size))
              clear hb3 BL1 HB1 HT3
              go_wp2_with fail
              refine (WS.out _ BL2.out HB2.out.size).mono ?_
              rintro e w4 ⟨n, rfl, h1, h2⟩
              have BL3 := Lib.hid h1
              have HB3 := Lib.hid (HB2.out.trans h2)
              clear h1 h2
              go_wp2_with fail
              go_roundw
              case rel => exact ⟨k + 1, acc ++ I.data.toList, by go_num, by omega, by rw [app_len]; omega, BL3, Lib.hid (by rw [List.append_assoc]; exact HS2.out), HB3⟩
              case measure => simp [intOf]; omega
            · have q5 : ((k : Int) == 0) = false := by simp; omega
              have HS2 : Hid (acc ++ ((⟨#[46]⟩ ++ labelV a : ByteArray).data.toList ++ restT (k + 1) xs) = restT 0 xs) := by
                have := HS.out; rw [show (k == 0) = false by simpa using hk0, stT_3 (x := (a, i)) ha] at this; exact Lib.hid this
              clear HS hvk ha hk0
              generalize labelV a = I at *
              have hcat : (⟨#[46]⟩ ++ I : ByteArray).size ≤ 4003 := by rw [cat_size]; show 1 + _ ≤ _; omega
              have g1 : ¬ (9223372036854775807 < 1 + I.size) := by omega
              have WS := Lib.hid (fun W h hB => wstrB (B := w1.heap.size) (b := w1.heap.size) (l := acc) (⟨#[46]⟩ ++ I : ByteArray) W h (by omega) (by omega) hB)
              go_wp2_with fail
              refine (CL.out _).mono ?_
              rintro e w3 ⟨rfl, hb3⟩
              have BL2 := Lib.hid (bld_keep BL1.out hb3)
              have HB2 := Lib.hid (HB1.out.trans (hb3.mono HB1.out.size))
              clear hb3 BL1 HB1 HT3
              go_wp2_with fail
              refine (WS.out _ BL2.out HB2.out.size).mono ?_
              rintro e w4 ⟨n, rfl, h1, h2⟩
              have BL3 := Lib.hid h1
              have HB3 := Lib.hid (HB2.out.trans h2)
              clear h1 h2
              go_wp2_with fail
              go_roundw
              case rel => exact ⟨k + 1, acc ++ (⟨#[46]⟩ ++ I : ByteArray).data.toList, by go_num, by omega, by rw [app_len]; omega, BL3, Lib.hid (by rw [List.append_assoc]; exact HS2.out), HB3⟩
              case measure => simp [intOf]; omega
        · obtain rfl : k = xs.length := by omega
          have HS2 : Hid (acc = restT 0 xs) := by have := HS.out; rw [HE.out, List.append_nil] at this; exact Lib.hid this
          clear HS
          go_wp2_with fail
          refine (bstring_at _ BL.out HB.out.size).mono ?_
          rintro e w4 ⟨rfl, h1, h2, _⟩
          have HB3 := Lib.hid (BB.out.trans ((HB.out.trans h2).mono hsz))
          clear h1 h2
          go_wp2_with fail
          go_ret
          exact ⟨by rw [← HS2.out]; rfl, HB3.out⟩
end Go.Proofs.YtaocgibfabofhaaDoor
