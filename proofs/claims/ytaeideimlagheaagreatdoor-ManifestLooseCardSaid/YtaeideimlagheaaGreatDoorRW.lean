/-
  The specification's Words: the words of a line. At most 2000000 bytes. No other condition.
-/
import Derived.Test.YtaeideimlagheaaGreatDoorR2
import Derived.Test.YtaeideimlagheaaGreatDoorWA
import Derived.Test.YtaeideimlagheaaGreatDoorC2
import Derived.Test.YtaeideimlagheaaGreatDoorMn
namespace Go.Proofs.YtaeideimlagheaaGreatDoor
open Go.RowKit Go.Sort Go.Lib Go.Shelf Go.Proofs
set_option linter.unusedSimpArgs false
set_option linter.unnecessarySimpa false
set_option linter.unusedVariables false
theorem byte_iff {s : ByteArray} {k : Nat} (h : k < s.size) (c : UInt8) : s.data.toList[k]? = some c ↔ s[k] = c := by
  have e : s.data.toList[k]? = some s[k] := by
    rw [List.getElem?_eq_getElem (by simpa using h)]; rfl
  rw [e, Option.some.injEq]
/-- no comment begins before k -/
def noC (s : ByteArray) (k : Nat) : Prop := ∀ j : Nat, j < k → ¬ (s.data.toList[j]? = some 47 ∧ s.data.toList[j + 1]? = some 47)
/-- what the first loop holds: the whole text, or what is ahead of its comment -/
def WdI (s : ByteArray) (k : Nat) (t : ByteArray) : Prop := (t = s ∧ noC s k) ∨ (t.data.toList = bareL s.data.toList ∧ t.size ≤ k ∧ t.size ≤ s.size)
theorem WdI.done {s t : ByteArray} {k : Nat} (h : WdI s k t) (hk : ¬ k + 1 < t.size) : t.data.toList = bareL s.data.toList ∧ t.size ≤ s.size := by
  rcases h with ⟨rfl, h⟩ | ⟨h, _, h2⟩
  · refine ⟨(bare_full fun j => ?_).symm, Nat.le_refl _⟩
    by_cases hj : j < k
    · exact h j hj
    · rintro ⟨_, e⟩
      have := (List.getElem?_eq_some_iff.1 e).1
      have hl : t.data.toList.length = t.size := by simp
      omega
  · exact ⟨h, h2⟩
theorem WdI.hit {s t : ByteArray} {k : Nat} (h : WdI s k t) (hk : k + 1 < t.size) (h1 : (t[k]'(by omega)) = 47) (h2 : t[k + 1] = 47) : WdI s (k + 1) (t.extract 0 k) := by
  rcases h with ⟨rfl, h⟩ | ⟨_, h, _⟩
  · refine .inr ⟨?_, by simp; omega, by simp; omega⟩
    rw [bare_cut ((byte_iff (by omega) 47).2 h1) ((byte_iff hk 47).2 h2) h, ex_sl]
    simp [sl]
  · omega
theorem WdI.miss {s t : ByteArray} {k : Nat} (h : WdI s k t) (hk : k + 1 < t.size) (hn : ¬ ((t[k]'(by omega)) = 47 ∧ t[k + 1] = 47)) : WdI s (k + 1) t := by
  rcases h with ⟨rfl, h⟩ | ⟨_, h, _⟩
  · refine .inl ⟨rfl, fun j hj => ?_⟩
    rcases Nat.lt_succ_iff_lt_or_eq.1 hj with hj | rfl
    · exact h j hj
    · rw [byte_iff (by omega), byte_iff hk]; exact hn
  · omega
def neB (x : ByteArray) : Bool := decide (x.size ≠ 0)
theorem neB_map (L : List ByteArray) : (L.filter neB).map (·.data.toList) = (L.map (·.data.toList)).filter fun x => !x.isEmpty := by
  rw [List.filter_map]
  congr 1
  apply List.filter_congr
  intro x _
  simp only [neB, Function.comp]
  have : x.size = x.data.toList.length := by simp
  rw [this]
  cases h : x.data.toList <;> simp
theorem filt_snoc {L : List ByteArray} {k : Nat} (h : k < L.length) : (L.take (k + 1)).filter neB = (L.take k).filter neB ++ if neB L[k] then [L[k]] else [] := by
  rw [← List.take_append_getElem h, List.filter_append]
  cases hb : neB L[k] <;> simp [hb]
set_option maxRecDepth 100000 in
set_option maxHeartbeats 4000000 in
theorem rwords_any (s : ByteArray) (hs : s.size ≤ 2000000) (w : World) : Calls Tryz.prog 51 #[.string s] w (WordsIs s w) := by
  have HP : Hid (∀ (L : List ByteArray) (e : Ending) (w' : World), L.map (·.data.toList) = wordsC s.data.toList → GivesS L w e w' → WordsIs s w e w') := Lib.hid (fun L e w' h hG => ⟨L, h, hG⟩)
  have HS := Lib.hid hs
  clear hs
  go_enter Tryz.func51, Tryz.ntmps51
  go_wp2_with fail
  go_loopw [0, 3] (fun s0 s3 wr => ∃ (k : Nat) (t : ByteArray), s3 = .int .i64 (k : Int) ∧ s0 = .string t ∧ k ≤ s.size ∧ t.size ≤ s.size ∧ Hid (WdI s k t) ∧ wr = w) (fun _ s3 _ => (s.size + 1 - intOf s3).toNat)
  case atStart => exact ⟨0, s, rfl, rfl, by omega, by omega, Lib.hid (.inl ⟨rfl, fun j h => absurd h (Nat.not_lt_zero _)⟩), rfl⟩
  case round =>
    obtain ⟨k, t, rfl, rfl, hk, ht, HI, rfl⟩ := hrel
    have hks : k ≤ 2000000 := by have := HS.out; omega
    have t1 : IntKind.i64.wrap ((k : Int) + 1) = (k : Int) + 1 := IntWalk.i64_in _ (by omega)
    by_cases hlt : k + 1 < t.size
    · have hkl : (k : Int) + 1 < (t.size : Int) := by omega
      have hk0 : k < t.size := by omega
      have HK : k + 1 ≤ s.size := by omega
      by_cases h1 : t[k] = 47
      · have q1 : (((t[k]).toNat : Int) == 47) = true := by rw [h1]; rfl
        by_cases h2 : t[k + 1] = 47
        · have q2 : (((t[k + 1]).toNat : Int) == 47) = true := by rw [h2]; rfl
          have HI2 := Lib.hid (HI.out.hit hlt h1 h2)
          have hz : (t.extract 0 k).size ≤ s.size := by simp; omega
          have HZ := Lib.hid hz
          clear HI h1 h2 hz
          go_wp2_with fail
          go_roundw
          case rel => exact ⟨k + 1, t.extract 0 k, by go_num, rfl, HK, HZ.out, HI2, trivial⟩
          case measure => simp [intOf]; omega
        · have q2 : (((t[k + 1]).toNat : Int) == 47) = false := by
            rw [beq_eq_false_iff_ne]; intro h; exact h2 (UInt8.toNat_inj.1 (by simpa using (by omega : (t[k + 1]).toNat = 47)))
          have HI2 := Lib.hid (HI.out.miss hlt (fun h => h2 h.2))
          clear HI h1 h2
          go_wp2_with fail
          go_roundw
          case rel => exact ⟨k + 1, t, by go_num, rfl, HK, ht, HI2, trivial⟩
          case measure => simp [intOf]; omega
      · have q1 : (((t[k]).toNat : Int) == 47) = false := by
          rw [beq_eq_false_iff_ne]; intro h; exact h1 (UInt8.toNat_inj.1 (by simpa using (by omega : (t[k]).toNat = 47)))
        have HI2 := Lib.hid (HI.out.miss hlt (fun h => h1 h.1))
        clear HI h1
        go_wp2_with fail
        go_roundw
        case rel => exact ⟨k + 1, t, by go_num, rfl, HK, ht, HI2, trivial⟩
        case measure => simp [intOf]; omega
    · have hkl : ¬ (k : Int) + 1 < (t.size : Int) := by omega
      obtain ⟨hbare, hts⟩ := HI.out.done hlt
      have K := Lib.hid (rsplit_any 32 32 rfl t (by have := HS.out; omega) wr)
      have HBR := Lib.hid hbare
      have HTS := Lib.hid (show t.size ≤ 2000000 by have := HS.out; omega)
      clear HI hlt hbare hts ht hk hks
      go_wp2_with fail
      refine K.out.mono ?_
      rintro e w1 ⟨L, hL, hlen, A, c, rfl, hR, _, hb⟩
      have HR := Lib.hid hR
      have HB := Lib.hid hb
      have HLL := Lib.hid (show (L.filter neB).map (·.data.toList) = wordsC s.data.toList by rw [neB_map, hL, HBR.out]; rfl)
      have HLN := Lib.hid (show L.length ≤ 2000001 by have := HTS.out; omega)
      clear hR hb hL hlen K HBR
      go_wp2_with fail
      go_loopw [4, 6, 31] (fun s4 _ s31 wy => ∃ (i : Nat) (v : Value), s4 = v ∧ s31 = .int .i64 (i : Int) ∧ i ≤ L.length ∧ Hid (wy.ownsRow w1.heap.size 9 1 v ((L.take i).filter neB).length (((L.take i).filter neB).map Value.string)) ∧ Hid (Below w1.heap.size w1 wy)) (fun _ _ s31 _ => (L.length - intOf s31).toNat)
      case atStart => exact ⟨0, _, rfl, rfl, by omega, Lib.hid (World.ownsRow_nil _ _ _ _), Lib.hid (Below.refl _ _)⟩
      case round =>
        rename World => wy
        obtain ⟨i0, hi, hz0, hz1, hz2⟩ := info_parts info9
        obtain ⟨i, v, rfl, rfl, hil, HO, HB3⟩ := hrel
        have hown := HO.out
        have hwr : w1.heap.size ≤ wy.heap.size := HB3.out.size
        by_cases hlt : i < L.length
        · have hkl : (i : Int) < (L.length : Int) := by omega
          obtain ⟨g, o, rfl, hgl, c0⟩ := HR.out.at_ i hlt
          rw [← HB3.out.cell (p := ⟨g, o + i, none⟩) hgl] at c0
          have HF := Lib.hid (filt_snoc hlt)
          have HI1 := Lib.hid (show i + 1 ≤ L.length by omega)
          have hfl : ((L.take i).filter neB).length ≤ i := Nat.le_trans (List.length_filter_le _ _) (by simp; omega)
          have hil2 : i ≤ 2000001 := by have := HLN.out; omega
          generalize (L.take i).filter neB = acc at *
          generalize L[i] = x at *
          by_cases hx : x.size = 0
          · have hd : x.data.toList = [] := List.eq_nil_of_length_eq_zero (by simpa using hx)
            have q1 : (x.toList == (⟨#[]⟩ : ByteArray).toList) = true := by rw [Go.ByteArray.toList_eq, Go.ByteArray.toList_eq, hd]; rfl
            have q2 : x.toList.isEmpty = true := by rw [Go.ByteArray.toList_eq, hd]; rfl
            have HF2 := Lib.hid (show (L.take (i + 1)).filter neB = acc by rw [HF.out]; simp [neB, hx])
            clear hx hd hlt hown
            go_wp2_with fail
            go_roundw
            case rel => exact ⟨i + 1, _, rfl, by go_num, HI1.out, by rw [HF2.out]; exact HO, HB3⟩
            case measure => simp [intOf]; omega
          · have hd : ¬ x.data.toList = [] := fun h => hx (by have : x.size = x.data.toList.length := by simp
                                                              rw [this, h]; rfl)
            have q1 : (x.toList == (⟨#[]⟩ : ByteArray).toList) = false := by rw [Go.ByteArray.toList_eq, Go.ByteArray.toList_eq]; simpa using hd
            have q2 : x.toList.isEmpty = false := by rw [Go.ByteArray.toList_eq]; simpa using hd
            have HF2 := Lib.hid (show (L.take (i + 1)).filter neB = acc ++ [x] by rw [HF.out]; simp [neB, hx])
            clear hx hd hlt
            go_wp2_with (at_builtin; refine wpList_append_own _ rfl _ _ 43 rfl w1.heap.size 9 i0 (.string ⟨#[]⟩) 1 16 Tryz.underlying43 hi hz0 hz1 hz2 rfl (by decide) _ _ _ rfl (hown.alloc _) ⟨wy.heap.size, 0, none⟩ 1 1 [.string x] rfl rfl ?c1 ?c2 ?c3 ?c4 ?c5 ?_)
            case c1 => exact new1 _ _ _
            case c2 => exact one1 _
            case c3 => unfold maxLen; omega
            case c4 => omega
            case c5 => simp; omega
            intro v8 w8 hown8 hgrow _
            have HO8 := Lib.hid (show w8.ownsRow w1.heap.size 9 1 v8 (acc ++ [x]).length ((acc ++ [x]).map Value.string) by
              rw [List.length_append, List.map_append]; exact hown8)
            have HB8 := Lib.hid ((HB3.out.alloc hwr _).grown hgrow (by simp; omega) (fun j hj => (hown.lt j hj).1))
            clear hown8 hgrow hown HO HB3 c0
            go_wp2_with fail
            go_roundw
            case rel => exact ⟨i + 1, _, rfl, by go_num, HI1.out, by rw [HF2.out]; exact HO8, HB8⟩
            case measure => simp [intOf]; omega
        · have hkl : ¬ (i : Int) < (L.length : Int) := by omega
          obtain rfl : i = L.length := by omega
          rw [List.take_length] at HO hown
          obtain ⟨A9, c9, rfl, h1, h2, h3⟩ := rs_of_own hown
          have HG := Lib.hid (HP.out (L.filter neB) (.returned (.slice A9 (L.filter neB).length c9)) wy HLL.out ⟨A9, c9, rfl, h1, ⟨h2, h3.le HB.out.size⟩, HB.out.trans (HB3.out.mono HB.out.size)⟩)
          clear h1 h2 h3 hown HO HP HLL hlt hil
          go_wp2_with fail
          go_ret
          exact HG.out
end Go.Proofs.YtaeideimlagheaaGreatDoor
