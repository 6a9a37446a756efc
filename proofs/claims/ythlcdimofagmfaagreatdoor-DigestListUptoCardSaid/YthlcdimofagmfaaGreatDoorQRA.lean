/-
  The statements' own writer of literals ('written', 'Quote' of the reference): the same bytes. No condition but the length.
-/
import Derived.Test.YthlcdimofagmfaaGreatDoorQAD
import Derived.Laws.IdiomStrings
namespace Go.Proofs.YthlcdimofagmfaaGreatDoor.Qt
open Go.RowKit
set_option linter.unusedSimpArgs false
set_option linter.unusedVariables false
theorem wr_n : wrB 10 = [92, 110] ∧ wrB 9 = [92, 116] ∧ wrB 13 = [92, 114] ∧ wrB 34 = [92, 34] ∧ wrB 92 = [92, 92] := by decide +kernel
theorem ret_str {a : ByteArray} {l : List UInt8} (h : a = ⟨l.toArray⟩) : Ending.returned (.string a) = .returned (.string ⟨l.toArray⟩) := by rw [h]
theorem below_drewN (w : World) (n : Nat) : Below w.heap.size w (w.drewN n) := by
  constructor <;> first | rfl | (intros; rfl) | (intros; assumption) | exact Nat.le_refl _
set_option maxRecDepth 100000 in
set_option maxHeartbeats 2000000 in
theorem rwritten_any (c : UInt8) (w : World) :
    Calls Tryz.prog 64 #[.int .u8 (c.toNat : Int)] w fun e w' => e = .returned (.string ⟨(wrB c).toArray⟩) ∧ Below w.heap.size w w' := by
  have hlt := c.toNat_lt
  by_cases h34 : c.toNat = 34
  · obtain rfl : c = 34 := nat_u8 (n := 34) h34 (by omega)
    clear h34 hlt
    rw [wr_n.2.2.2.1]
    go_enter Tryz.func64, Tryz.ntmps64
    go_wp2_with fail
    go_ret
    exact ⟨rfl, Below.refl _ _⟩
  · by_cases h92 : c.toNat = 92
    · obtain rfl : c = 92 := nat_u8 (n := 92) h92 (by omega)
      clear h92 h34 hlt
      rw [wr_n.2.2.2.2]
      go_enter Tryz.func64, Tryz.ntmps64
      go_wp2_with fail
      go_ret
      exact ⟨rfl, Below.refl _ _⟩
    · by_cases h10 : c.toNat = 10
      · obtain rfl : c = 10 := nat_u8 (n := 10) h10 (by omega)
        clear h92 h34 hlt h10
        rw [wr_n.1]
        go_enter Tryz.func64, Tryz.ntmps64
        go_wp2_with fail
        go_ret
        exact ⟨rfl, Below.refl _ _⟩
      · by_cases h9 : c.toNat = 9
        · obtain rfl : c = 9 := nat_u8 (n := 9) h9 (by omega)
          clear h92 h34 hlt h10 h9
          rw [wr_n.2.1]
          go_enter Tryz.func64, Tryz.ntmps64
          go_wp2_with fail
          go_ret
          exact ⟨rfl, Below.refl _ _⟩
        · by_cases h13 : c.toNat = 13
          · obtain rfl : c = 13 := nat_u8 (n := 13) h13 (by omega)
            clear h92 h34 hlt h10 h9 h13
            rw [wr_n.2.2.1]
            go_enter Tryz.func64, Tryz.ntmps64
            go_wp2_with fail
            go_ret
            exact ⟨rfl, Below.refl _ _⟩
          · have n34 : ((c.toNat : Int) == 34) = false := beq_eq_false_iff_ne.2 (by omega)
            have n92 : ((c.toNat : Int) == 92) = false := beq_eq_false_iff_ne.2 (by omega)
            have n10 : ((c.toNat : Int) == 10) = false := beq_eq_false_iff_ne.2 (by omega)
            have n9 : ((c.toNat : Int) == 9) = false := beq_eq_false_iff_ne.2 (by omega)
            have n13 : ((c.toNat : Int) == 13) = false := beq_eq_false_iff_ne.2 (by omega)
            by_cases hp : 32 ≤ c.toNat ∧ c.toNat ≤ 126
            · have P1 : decide ((c.toNat : Int) < 32) = false := by simp; omega
              have P2 : decide ((126 : Int) < (c.toNat : Int)) = false := by simp; omega
              have hbk := fun (w : World) (a : Addr) (hc : w.cell? a = some (.int .u8 (c.toNat : Int))) => Go.run_convert_bytes_back (P := Tryz.prog) w 52 9 5 a 1 [c] Tryz.underlying52 Tryz.underlying5 Tryz.underlying9 (fun j hj => by
                obtain rfl : j = 0 := by simpa using hj
                simpa [Addr.add] using hc)
              have hcv : ∀ w : World, (convert 52 9 (.slice (some ⟨w.heap.size, 0, none⟩) 1 1)).run Tryz.prog (w.alloc (.cells #[.int .u8 (c.toNat : Int)] 5)) = .ok (.string ⟨#[c]⟩) (w.alloc (.cells #[.int .u8 (c.toNat : Int)] 5)) := fun w => hbk _ _ (by rw [Lib.cell_of_heap (World.alloc_heap_new _ _)]; rfl)
              have HW := Lib.hid (wr_c h34 h92 hp)
              clear hbk hp h34 h92 h10 h9 h13
              rw [HW.out]
              clear HW
              go_enter Tryz.func64, Tryz.ntmps64
              go_wp2_with fail
              go_ret
              exact ⟨rfl, (Below.refl _ _).alloc (Nat.le_refl _) _⟩
            · have HW := Lib.hid (wr_x h10 h9 h13 hp)
              obtain ⟨d1, hd1⟩ : ∃ d, d = c.toNat / 16 := ⟨_, rfl⟩
              obtain ⟨d2, hd2⟩ : ∃ d, d = c.toNat % 16 := ⟨_, rfl⟩
              have t1 : Int.tdiv (c.toNat : Int) 16 = (d1 : Int) := by rw [hd1]; rfl
              have t2 : Int.tmod (c.toNat : Int) 16 = (d2 : Int) := by rw [hd2]; rfl
              have t3 : (c.toNat : Int) / 16 = (d1 : Int) := by rw [hd1]; rfl
              have t4 : (c.toNat : Int) % 16 = (d2 : Int) := by rw [hd2]; rfl
              have l1 : d1 < 16 := by omega
              have l2 : d2 < 16 := by omega
              have f1 : IntKind.i64.wrap ((d1 : Int) + 1) = (d1 : Int) + 1 := by simp [IntKind.wrap, IntKind.bits, IntKind.signed]; omega
              have f2 : IntKind.i64.wrap ((d2 : Int) + 1) = (d2 : Int) + 1 := by simp [IntKind.wrap, IntKind.bits, IntKind.signed]; omega
              have f3 : IntKind.i64.wrap (d1 : Int) = (d1 : Int) := by simp [IntKind.wrap, IntKind.bits, IntKind.signed]; omega
              have f4 : IntKind.i64.wrap (d2 : Int) = (d2 : Int) := by simp [IntKind.wrap, IntKind.bits, IntKind.signed]; omega
              have f5 : IntKind.i64.wrap (c.toNat : Int) = (c.toNat : Int) := by simp [IntKind.wrap, IntKind.bits, IntKind.signed]; omega
              rw [← hd1, ← hd2] at HW
              have hp' : ¬ (32 ≤ (c.toNat : Int) ∧ (c.toNat : Int) ≤ 126) := by omega
              clear hd1 hd2 hp h34 h92 h10 h9 h13
              rw [HW.out, ← hex_two d1 d2 l1 l2]
              clear HW
              by_cases hp1 : c.toNat < 32
              · have P1 : decide ((c.toNat : Int) < 32) = true := by simp; omega
                clear hp' hp1
                go_enter Tryz.func64, Tryz.ntmps64
                go_wp2_with fail
                go_quiet (fail)
                go_wp2_with fail
                go_ret
                exact ⟨rfl, below_drewN _ _⟩
              · have P1 : decide ((c.toNat : Int) < 32) = false := by simp; omega
                have P2 : decide ((126 : Int) < (c.toNat : Int)) = true := by simp; omega
                clear hp' hp1
                go_enter Tryz.func64, Tryz.ntmps64
                go_wp2_with fail
                go_quiet (fail)
                go_wp2_with fail
                go_ret
                exact ⟨rfl, below_drewN _ _⟩
theorem app_lists (a b : List UInt8) : (⟨a.toArray⟩ : ByteArray) ++ ⟨b.toArray⟩ = ⟨(a ++ b).toArray⟩ := by
  apply ByteArray.ext
  simp
theorem rwritten_at (c : UInt8) (x : Int) (h : x = (c.toNat : Int)) (w : World) :
    Calls Tryz.prog 64 #[.int .u8 x] w fun e w' => e = .returned (.string ⟨(wrB c).toArray⟩) ∧ Below w.heap.size w w' := by subst h; exact rwritten_any c w
set_option maxRecDepth 100000 in
set_option maxHeartbeats 2000000 in
/-- the reference's Quote -/
theorem rquote_any (s : ByteArray) (hs : s.size ≤ 1099511627776) (w : World) :
    Calls Tryz.prog 38 #[.string s] w fun e w' => e = .returned (.string ⟨(quoteL s.data.toList).toArray⟩) ∧ Below w.heap.size w w' := by
  have hlen : s.data.toList.length = s.size := by simp
  have HL := Lib.hid hlen
  clear hlen
  go_enter Tryz.func38, Tryz.ntmps38
  go_wp2_with fail
  go_loopw [3, 4] (fun i j wr => ∃ k : Nat, k ≤ s.size ∧ i = .string ⟨([34] ++ body (s.data.toList.take k)).toArray⟩ ∧ j = .int .i64 (k : Int) ∧ Below w.heap.size w wr) (fun _ j _ => s.size - (intOf j).toNat)
  case atStart => exact ⟨0, Nat.zero_le _, by simp [body], rfl, Below.refl _ _⟩
  case round =>
    obtain ⟨k, hk, rfl, rfl, hB⟩ := hrel
    have hbl := body_len (s.data.toList.take k)
    have htl : (s.data.toList.take k).length ≤ k := by simp; omega
    by_cases hlt : k < s.size
    · have hz : (⟨([34] ++ body (s.data.toList.take k)).toArray⟩ : ByteArray).size ≤ 5000000000000 := by
        show ([34] ++ body (s.data.toList.take k)).toArray.size ≤ _
        simp; omega
      have hz2 : (⟨(wrB s[k]).toArray⟩ : ByteArray).size ≤ 4 := wrB_len _
      have hnx : (⟨([34] ++ body (s.data.toList.take k)).toArray⟩ : ByteArray) ++ ⟨(wrB s[k]).toArray⟩ = ⟨([34] ++ body (s.data.toList.take (k + 1))).toArray⟩ := by
        rw [app_lists, List.append_assoc, ← body_snoc, List.take_add_one, List.getElem?_eq_getElem (by simpa using hlt)]
        rfl
      have HNX := Lib.hid hnx
      clear hnx hbl htl
      generalize (⟨([34] ++ body (s.data.toList.take k)).toArray⟩ : ByteArray) = A at *
      go_wp2_with fail
      refine (rwritten_at s[k] _ rfl _).mono ?_
      rintro e w1 ⟨rfl, hb1⟩
      have hB1 := hB.trans (hb1.mono hB.size)
      clear hB hb1
      generalize (⟨(wrB s[k]).toArray⟩ : ByteArray) = C at *
      go_wp2_with fail
      go_roundw
      case rel => exact ⟨k + 1, by omega, by rw [HNX.out], by go_num, hB1⟩
      case measure => simp [intOf]; omega
    · have he : k = s.size := by omega
      have hfin : (⟨([34] ++ body (s.data.toList.take k)).toArray⟩ : ByteArray) ++ ⟨#[34]⟩ = ⟨(quoteL s.data.toList).toArray⟩ := by
        rw [List.take_of_length_le (by rw [HL.out]; omega)]
        exact app_lists _ [34]
      have hz : (⟨([34] ++ body (s.data.toList.take k)).toArray⟩ : ByteArray).size ≤ 5000000000000 := by
        show ([34] ++ body (s.data.toList.take k)).toArray.size ≤ _
        simp; omega
      have HF := Lib.hid hfin
      clear hfin hbl htl
      generalize (⟨([34] ++ body (s.data.toList.take k)).toArray⟩ : ByteArray) = A at *
      clear he
      go_wp2_with fail
      go_ret
      exact ⟨by rw [← HF.out]; rfl, hB⟩
end Go.Proofs.YthlcdimofagmfaaGreatDoor.Qt
