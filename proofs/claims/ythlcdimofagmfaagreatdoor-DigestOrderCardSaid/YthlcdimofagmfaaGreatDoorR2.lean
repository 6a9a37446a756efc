/-
  The specification's Split, part and Path. No condition but sizes.
-/
import Derived.Test.YthlcdimofagmfaaGreatDoorR1
import Derived.Test.YthlcdimofagmfaaGreatDoorP1
import Derived.Test.YthlcdimofagmfaaGreatDoorM
namespace Go.Proofs.YthlcdimofagmfaaGreatDoor
open Go.RowKit Go.Sort
set_option linter.unusedSimpArgs false
set_option linter.unnecessarySimpa false
set_option linter.unusedVariables false
theorem ex_sl (s : ByteArray) (a b : Nat) : (s.extract a b).data.toList = sl s.data.toList a b := Lib.extract_data s a b
theorem drop_at' (s : ByteArray) (k : Nat) (h : k < s.size) : s.data.toList.drop k = s[k] :: s.data.toList.drop (k + 1) :=
  List.drop_eq_getElem_cons (by simpa using h)
theorem sl_snoc (s : ByteArray) (f k : Nat) (h : k < s.size) (hf : f ≤ k) : sl s.data.toList f (k + 1) = sl s.data.toList f k ++ [s[k]] := by
  rw [← sl_more s.data.toList f k (k + 1) hf (by omega)]
  congr 1
  unfold sl
  rw [drop_at' s k h, show k + 1 - k = 1 by omega]; rfl
/-- the pieces so far, and the open one -/
def SpI (c : UInt8) (s : ByteArray) (f k : Nat) (acc : List ByteArray) : Prop :=
  acc.map (·.data.toList) ++ glue (sl s.data.toList f k) (splitL c (s.data.toList.drop k)) = splitL c s.data.toList
theorem SpI.start (c : UInt8) (s : ByteArray) : SpI c s 0 0 [] := by
  unfold SpI; rw [sl_self, List.drop_zero, glue_nil]; rfl
theorem SpI.hit {c : UInt8} {s : ByteArray} {f k : Nat} {acc : List ByteArray} (h : SpI c s f k acc) (hk : k < s.size) (e : s[k] = c) : SpI c s (k + 1) (k + 1) (acc ++ [s.extract f k]) := by
  unfold SpI at *
  rw [drop_at' s k hk, splitL_eq e, glue_mt] at h
  rw [sl_self, glue_nil, List.map_append, List.map_cons, List.map_nil, ex_sl, List.append_assoc]
  exact h
theorem SpI.miss {c : UInt8} {s : ByteArray} {f k : Nat} {acc : List ByteArray} (h : SpI c s f k acc) (hk : k < s.size) (hf : f ≤ k) (e : ¬ s[k] = c) : SpI c s f (k + 1) acc := by
  unfold SpI at *
  rw [drop_at' s k hk, splitL_no e, glue_glue, ← sl_snoc s f k hk hf] at h
  exact h
theorem SpI.done {c : UInt8} {s : ByteArray} {f : Nat} {acc : List ByteArray} (h : SpI c s f s.size acc) : (acc ++ [s.extract f s.size]).map (·.data.toList) = splitL c s.data.toList := by
  unfold SpI at h
  rw [List.drop_eq_nil_of_le (by simp)] at h
  rw [← h, List.map_append, List.map_cons, List.map_nil, ex_sl]
  simp [splitL, glue]
def RSplitIs (c : UInt8) (s : ByteArray) (w : World) (e : Ending) (w' : World) : Prop :=
  ∃ L : List ByteArray, L.map (·.data.toList) = splitL c s.data.toList ∧ L.length ≤ s.size + 1 ∧ GivesS L w e w'
def RSplitC (c : UInt8) (s : ByteArray) (w : World) (e : Ending) (w' : World) : Prop :=
  ∃ L : List ByteArray, L.map (·.data.toList) = splitL c s.data.toList ∧ L.length ≤ s.size + 1 ∧ ∃ A c8, e = .returned (.slice A L.length c8) ∧ RS w' w'.heap.size A L ∧ (Plain A c8 ∧ Hi w.heap.size A) ∧ Below w.heap.size w w' ∧ L.length ≤ c8 ∧ c8 ≤ maxLen
set_option maxRecDepth 100000 in
set_option maxHeartbeats 4000000 in
theorem rsplit_cap (c : UInt8) (n : Int) (hn : n = (c.toNat : Int)) (s : ByteArray) (hs : s.size ≤ 2000000) (w : World) : Calls Tryz.prog 128 #[.string s, .int .u8 n] w (RSplitC c s w) := by
  have HN := Lib.hid hn
  clear hn
  have HP : Hid (∀ (acc : List ByteArray) (e : Ending) (w' : World), (acc.map (·.data.toList) = splitL c s.data.toList ∧ acc.length ≤ s.size + 1 ∧ ∃ A c8, e = .returned (.slice A acc.length c8) ∧ RS w' w'.heap.size A acc ∧ (Plain A c8 ∧ Hi w.heap.size A) ∧ Below w.heap.size w w' ∧ acc.length ≤ c8 ∧ c8 ≤ maxLen) → RSplitC c s w e w') := Lib.hid (fun acc e w' h => ⟨acc, h⟩)
  go_enter Tryz.func128, Tryz.ntmps128
  go_wp2_with fail
  go_loopw [5, 6, 7] (fun s5 s6 s7 wr => ∃ (k f : Nat) (v : Value) (acc : List ByteArray), s7 = .int .i64 (k : Int) ∧ s6 = .int .i64 (f : Int) ∧ s5 = v ∧ f ≤ k ∧ k ≤ s.size ∧ acc.length ≤ k ∧ Hid (SpI c s f k acc) ∧ Hid (wr.ownsRow w.heap.size 9 1 v acc.length (acc.map Value.string)) ∧ Hid (Below w.heap.size w wr)) (fun _ _ s7 _ => (s.size - intOf s7).toNat)
  case atStart => exact ⟨0, 0, _, [], rfl, rfl, rfl, Nat.le_refl _, Nat.zero_le _, Nat.zero_le _, Lib.hid (SpI.start c s), Lib.hid (World.ownsRow_nil _ _ _ _), Lib.hid (Below.refl _ _)⟩
  case round =>
    obtain ⟨i0, hi, hz0, hz1, hz2⟩ := info_parts info9
    obtain ⟨k, f, v, acc, rfl, rfl, rfl, hf, hk, hac, HI, HO, HB⟩ := hrel
    have hown := HO.out
    have hwr : w.heap.size ≤ wr.heap.size := HB.out.size
    by_cases hlt : k < s.size
    · have hkl : (k : Int) < (s.size : Int) := by omega
      by_cases hc : s[k] = c
      · have hq : (((s[k]).toNat : Int) == n) = true := by rw [beq_iff_eq, HN.out, hc]
        have HI2 := Lib.hid (HI.out.hit hlt hc)
        obtain ⟨x, hx⟩ : ∃ x, x = s.extract f k := ⟨_, rfl⟩
        rw [← hx] at HI2
        have HX := Lib.hid hx
        clear hx hc HI
        go_wp2_with (at_builtin; refine wpList_append_own _ rfl _ _ 45 rfl w.heap.size 9 i0 (.string ⟨#[]⟩) 1 16 Tryz.underlying45 hi hz0 hz1 hz2 rfl (by decide) _ _ _ rfl (hown.alloc _) ⟨wr.heap.size, 0, none⟩ 1 1 [.string (s.extract f k)] rfl rfl ?c1 ?c2 ?c3 ?c4 ?c5 ?_)
        case c1 => exact new1 _ _ _
        case c2 => exact one1 _
        case c3 => unfold maxLen; omega
        case c4 => omega
        case c5 => simp; omega
        intro v8 w8 hown8 hgrow _
        have HO8 := Lib.hid (show w8.ownsRow w.heap.size 9 1 v8 (acc ++ [x]).length ((acc ++ [x]).map Value.string) by
          rw [List.length_append, List.map_append, HX.out]; exact hown8)
        have HB8 := Lib.hid ((HB.out.alloc hwr _).grown hgrow (by simp; omega) (fun j hj => (hown.lt j hj).1))
        clear hown8 hgrow hown HO HB
        go_wp2_with fail
        go_roundw
        case rel => exact ⟨k + 1, k + 1, _, acc ++ [x], by go_num, by go_num, rfl, Nat.le_refl _, by omega, by simp; omega, HI2, HO8, HB8⟩
        case measure => simp [intOf]; omega
      · have hq : (((s[k]).toNat : Int) == n) = false := by
          rw [beq_eq_false_iff_ne, HN.out]; intro h
          exact hc (UInt8.toNat_inj.1 (by omega))
        have HI2 := Lib.hid (HI.out.miss hlt hf hc)
        clear hc HI hown
        go_wp2_with fail
        go_roundw
        case rel => exact ⟨k + 1, f, _, acc, by go_num, rfl, rfl, by omega, by omega, by omega, HI2, HO, HB⟩
        case measure => simp [intOf]; omega
    · obtain rfl : k = s.size := by omega
      have HD := Lib.hid HI.out.done
      have hsz : s.size ≤ s.size := Nat.le_refl _
      go_wp2_with (at_builtin; refine wpList_append_own _ rfl _ _ 45 rfl w.heap.size 9 i0 (.string ⟨#[]⟩) 1 16 Tryz.underlying45 hi hz0 hz1 hz2 rfl (by decide) _ _ _ rfl (hown.alloc _) ⟨wr.heap.size, 0, none⟩ 1 1 [.string (s.extract f s.size)] rfl rfl ?d1 ?d2 ?d3 ?d4 ?d5 ?_)
      case d1 => exact new1 _ _ _
      case d2 => exact one1 _
      case d3 => unfold maxLen; omega
      case d4 => omega
      case d5 => simp; omega
      intro v8 w8 hown8 hgrow _
      have hO8 : w8.ownsRow w.heap.size 9 1 v8 (acc ++ [s.extract f s.size]).length ((acc ++ [s.extract f s.size]).map Value.string) := by
        rw [List.length_append, List.map_append]; exact hown8
      have hb8 := (HB.out.alloc hwr (.cells #[.string (s.extract f s.size)] 9)).grown hgrow (by simp; omega) (fun j hj => (hown.lt j hj).1)
      have hcap := own_cell hO8
      obtain ⟨A, c8, rfl, h1, h2, h3⟩ := rs_of_own hO8
      have hcap2 : (acc ++ [s.extract f s.size]).length ≤ c8 ∧ c8 ≤ maxLen := by
        rcases hcap with ⟨_, e⟩ | ⟨g0, c0, e, _, _, e1, e2, _⟩
        · rw [List.length_append] at e; simp at e
        · simp only [Value.slice.injEq] at e
          obtain ⟨rfl, _, rfl⟩ := e
          exact ⟨e1, e2⟩
      have HG := Lib.hid (HP.out (acc ++ [s.extract f s.size]) (.returned (.slice A (acc ++ [s.extract f s.size]).length c8)) w8 ⟨HD.out, by simp; omega, A, c8, rfl, h1, ⟨h2, h3⟩, hb8, hcap2⟩)
      clear hcap hcap2 hown8 hgrow hown HO HB h1 h2 h3 hb8 hO8 HP
      generalize (acc ++ [s.extract f s.size]).length = m at *
      go_wp2_with fail
      go_ret
      exact HG.out
theorem rsplit_any (c : UInt8) (n : Int) (hn : n = (c.toNat : Int)) (s : ByteArray) (hs : s.size ≤ 2000000) (w : World) : Calls Tryz.prog 128 #[.string s, .int .u8 n] w (RSplitIs c s w) :=
  (rsplit_cap c n hn s hs w).mono fun e w' ⟨L, h1, h2, A, c8, h3, h4, h5, h6, _⟩ => ⟨L, h1, h2, A, c8, h3, h4, h5, h6⟩
end Go.Proofs.YthlcdimofagmfaaGreatDoor
