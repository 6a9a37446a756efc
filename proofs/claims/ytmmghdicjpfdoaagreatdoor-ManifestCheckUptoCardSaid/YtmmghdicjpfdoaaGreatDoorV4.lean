/-
  The specification of numerals. No condition.
-/
import Derived.Test.YtmmghdicjpfdoaaGreatDoorV3
import Derived.Laws.IdiomStrings
import Derived.Lib.Hide
import Derived.Lib.ItoaNum
namespace Go.Proofs.YtmmghdicjpfdoaaGreatDoor
open Go.RowKit
set_option linter.unusedSimpArgs false
set_option linter.unnecessarySimpa false
set_option linter.unusedVariables false
/-
  The statements' own decimal numerals ('digits', 'Digits'). The number at most 1000000.
-/
def noText : Value → Nat
  | .string s => if s.size = 0 then 1 else 0
  | _ => 0
def DInv (n m : Nat) (t : List UInt8) : Prop := (t = [] ∧ m = n) ∨ (t ≠ [] ∧ 0 < m ∧ Lib.decDigits m ++ t = Lib.decDigits n) ∨ (t ≠ [] ∧ m = 0 ∧ t = Lib.decDigits n)
theorem dec_more {m : Nat} (h : ¬ m < 10) : Lib.decDigits m = Lib.decDigits (m / 10) ++ [UInt8.ofNat (48 + m % 10)] := by
  rw [Lib.decDigits, dif_neg h]
theorem dinv_step {n m : Nat} {t : List UInt8} (h : DInv n m t) (hgo : 0 < m ∨ t = []) : DInv n (m / 10) ([UInt8.ofNat (48 + m % 10)] ++ t) := by
  rcases h with ⟨rfl, rfl⟩ | ⟨h1, h2, h3⟩ | ⟨h1, rfl, h3⟩
  · by_cases hm : m < 10
    · right; right
      exact ⟨by simp, by omega, by rw [Lib.decDigits_one hm, Nat.mod_eq_of_lt hm]; rfl⟩
    · right; left
      exact ⟨by simp, by omega, by rw [dec_more hm]; simp⟩
  · by_cases hm : m < 10
    · right; right
      refine ⟨by simp, by omega, ?_⟩
      rw [← h3, Lib.decDigits_one hm, Nat.mod_eq_of_lt hm]
    · right; left
      refine ⟨by simp, by omega, ?_⟩
      rw [← h3, dec_more hm]; simp
  · rcases hgo with h | h
    · omega
    · exact absurd h h1
theorem dinv_end {n m : Nat} {t : List UInt8} (h : DInv n m t) (h1 : ¬ 0 < m) (h2 : t ≠ []) : t = Lib.decDigits n := by
  rcases h with ⟨e, _⟩ | ⟨_, e, _⟩ | ⟨_, _, e⟩
  · exact absurd e h2
  · exact absurd e h1
  · exact e
theorem app_ba (a b : List UInt8) : (⟨a.toArray⟩ : ByteArray) ++ ⟨b.toArray⟩ = ⟨(a ++ b).toArray⟩ := by
  apply ByteArray.ext
  simp
set_option maxRecDepth 100000 in
set_option maxHeartbeats 2000000 in
theorem rdig_any (n : Nat) (hn : n ≤ 1000000) (w : World) :
    Calls Tryz.prog 105 #[.int .i64 (n : Int), .int .i64 1] w fun e w' => e = .returned (.string ⟨(Lib.decDigits n).toArray⟩) ∧ Below w.heap.size w w' := by
  obtain ⟨R, hR⟩ : ∃ R, R = (⟨(Lib.decDigits n).toArray⟩ : ByteArray) := ⟨_, rfl⟩
  rw [← hR]
  have HR := Lib.hid hR
  clear hR
  go_enter Tryz.func105, Tryz.ntmps105
  go_wp2_with fail
  go_loopw [0, 5] (fun i v wr => ∃ (m : Nat) (t : List UInt8), i = .int .i64 (m : Int) ∧ v = .string ⟨t.toArray⟩ ∧ m ≤ n ∧ t.length + m ≤ n + 1 ∧ Hid (DInv n m t) ∧ Below w.heap.size w wr) (fun i v _ => (intOf i).toNat + noText v)
  case atStart => exact ⟨n, [], rfl, rfl, Nat.le_refl _, by simp, Lib.hid (.inl ⟨rfl, rfl⟩), Below.refl _ _⟩
  case round =>
    obtain ⟨m, t, rfl, rfl, hm, hl, HI, hB⟩ := hrel
    have ts : (⟨t.toArray⟩ : ByteArray).size = t.length := rfl
    by_cases hgo : 0 < m ∨ t = []
    · obtain ⟨d, hd⟩ : ∃ d, d = m % 10 := ⟨_, rfl⟩
      obtain ⟨q, hq⟩ : ∃ q, q = m / 10 := ⟨_, rfl⟩
      obtain ⟨c, hcd⟩ : ∃ c, c = UInt8.ofNat (48 + d) := ⟨_, rfl⟩
      have hd9 : d < 10 := by omega
      have hc : (c.toNat : Int) = 48 + (d : Int) := by rw [hcd]; simp; omega
      have r1 : Int.tmod (m : Int) 10 = (d : Int) := by rw [hd]; rfl
      have r2 : (m : Int) % 10 = (d : Int) := by rw [hd]; rfl
      have r3 : Int.tdiv (m : Int) 10 = (q : Int) := by rw [hq]; rfl
      have r4 : (m : Int) / 10 = (q : Int) := by rw [hq]; rfl
      have r5 : IntKind.i64.wrap (48 + (d : Int)) = 48 + (d : Int) := by simp [IntKind.wrap, IntKind.bits, IntKind.signed]; omega
      have r6 : IntKind.u8.wrap (48 + (d : Int)) = 48 + (d : Int) := by simp [IntKind.wrap, IntKind.bits, IntKind.signed]; omega
      have r7 : (48 + (d : Int)) % 256 = 48 + (d : Int) := by omega
      have r8 : IntKind.i64.wrap (q : Int) = (q : Int) := by simp [IntKind.wrap, IntKind.bits, IntKind.signed]; omega
      have r9 : IntKind.i64.wrap (d : Int) = (d : Int) := by simp [IntKind.wrap, IntKind.bits, IntKind.signed]; omega
      have hbk := fun (w : World) (a : Addr) (hx : w.cell? a = some (.int .u8 (48 + (d : Int)))) => Go.run_convert_bytes_back (P := Tryz.prog) w 63 9 5 a 1 [c] Tryz.underlying63 Tryz.underlying5 Tryz.underlying9 (fun j hj => by
        obtain rfl : j = 0 := by simpa using hj
        rw [show a.add 0 = a by simp [Addr.add], hx, ← hc]; rfl)
      have hcv : ∀ w : World, (convert 63 9 (.slice (some ⟨w.heap.size, 0, none⟩) 1 1)).run Tryz.prog (w.alloc (.cells #[.int .u8 (48 + (d : Int))] 5)) = .ok (.string ⟨#[c]⟩) (w.alloc (.cells #[.int .u8 (48 + (d : Int))] 5)) := fun w => hbk _ _ (by rw [World.cell?_alloc_new]; rfl)
      have HS := Lib.hid (dinv_step HI.out hgo)
      rw [← hd, ← hq, ← hcd] at HS
      have hap : (⟨#[c]⟩ : ByteArray) ++ ⟨t.toArray⟩ = ⟨([c] ++ t).toArray⟩ := app_ba [_] t
      have HA := Lib.hid hap
      have HM := Lib.hid (show q + noText (.string ⟨([c] ++ t).toArray⟩) < m + noText (.string ⟨t.toArray⟩) by
        have e1 : noText (.string ⟨([c] ++ t).toArray⟩) = 0 := by
          show (if ([c] ++ t).toArray.size = 0 then 1 else 0) = 0
          simp
        rw [e1]
        rcases hgo with h | h
        · omega
        · subst h
          have e2 : noText (.string ⟨([] : List UInt8).toArray⟩) = 1 := rfl
          rw [e2]; omega)
      have hql : t.length + 1 + q ≤ n + 1 := by
        rcases hgo with h | h
        · omega
        · subst h; simp; omega
      have hqn : q ≤ n := by omega
      have zs : ¬ 9223372036854775807 < 1 + t.length := by omega
      clear hbk hap hc hd hq hcd
      by_cases hm0 : 0 < m
      · have HB := Lib.hid (hB.alloc hB.size (.cells #[.int .u8 (48 + (d : Int))] 5))
        clear hgo hB
        go_wp2_with fail
        go_roundw
        case rel => exact ⟨q, _, rfl, by rw [HA.out], hqn, by simp; omega, HS, HB.out⟩
        case measure => have := HM.out; rw [HA.out]; simp [intOf] at this ⊢; omega
      · have HB := Lib.hid (hB.alloc hB.size (.cells #[.int .u8 (48 + (d : Int))] 5))
        have ht : t = [] := by
          rcases hgo with h | h
          · exact absurd h hm0
          · exact h
        subst ht
        have hz1 : decide ((0 : Int) < (m : Int)) = false := by simp; omega
        have hz2 : ¬ (0 : Int) < (m : Int) := by omega
        clear hgo hB
        go_wp2_with fail
        go_roundw
        case rel => exact ⟨q, _, rfl, by rw [HA.out], hqn, by simp; omega, HS, HB.out⟩
        case measure => have := HM.out; rw [HA.out]; simp [intOf] at this ⊢; omega
    · have h1 : ¬ 0 < m := fun h => hgo (.inl h)
      have h2 : t ≠ [] := fun h => hgo (.inr h)
      have HE := Lib.hid (dinv_end HI.out h1 h2)
      obtain rfl : m = 0 := by omega
      have hl1 : 1 ≤ t.length := List.length_pos_iff.2 h2
      have hl2 : (1 : Int) ≤ ((⟨t.toArray⟩ : ByteArray).size : Int) := by rw [ts]; omega
      clear hgo h1 h2 HI
      generalize hU : (⟨t.toArray⟩ : ByteArray) = U at *
      have HU := Lib.hid hU
      clear hU
      go_wp2_with fail
      go_ret
      exact ⟨by rw [HR.out, ← HE.out, HU.out]; rfl, hB⟩
end Go.Proofs.YtmmghdicjpfdoaaGreatDoor
