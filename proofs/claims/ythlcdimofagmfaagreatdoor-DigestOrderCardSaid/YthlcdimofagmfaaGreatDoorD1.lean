/-
  The sum of a text: the program's loop over pieces and the specification's. No condition.
-/
import Derived.Test.YthlcdimofagmfaaGreatDoorProg
import Derived.WalkKit
import Derived.WalkSpells
import Derived.WalkLawsBesides
import Derived.Lib.Hide
import Derived.Laws.Bits64b
import Derived.Below
namespace Go.Proofs.YthlcdimofagmfaaGreatDoor.Dg
open Go.RowKit
set_option linter.unusedSimpArgs false
set_option linter.unnecessarySimpa false
set_option linter.unusedVariables false
def hstep (h : Nat) (c : UInt8) : Nat := ((h ^^^ c.toNat) * 1099511628211) % 18446744073709551616
def hsum (h : Nat) (l : List UInt8) : Nat := l.foldl hstep h
theorem hstep_lt (h : Nat) (c : UInt8) : hstep h c < 18446744073709551616 := Nat.mod_lt _ (by decide)
theorem hsum_cons (h : Nat) (c : UInt8) (t : List UInt8) : hsum h (c :: t) = hsum (hstep h c) t := by simp only [hsum, List.foldl_cons]
theorem hsum_lt : ∀ (l : List UInt8) (h : Nat), h < 18446744073709551616 → hsum h l < 18446744073709551616
  | [], h, hh => by simp only [hsum, List.foldl_nil]; exact hh
  | c :: t, h, hh => by rw [hsum_cons]; exact hsum_lt t _ (hstep_lt h c)
theorem hsum_append (h : Nat) (l m : List UInt8) : hsum h (l ++ m) = hsum (hsum h l) m := by simp only [hsum, List.foldl_append]
theorem hsum_nil (h : Nat) : hsum h [] = h := by simp only [hsum, List.foldl_nil]
theorem hsum_snoc (h : Nat) (l : List UInt8) (c : UInt8) : hsum h (l ++ [c]) = hstep (hsum h l) c := by rw [hsum_append, hsum_cons, hsum_nil]
theorem take_next (s : ByteArray) (k : Nat) (h : k < s.size) : s.data.toList.take (k + 1) = s.data.toList.take k ++ [s[k]] :=
  (List.take_append_getElem (by simpa using h)).symm
theorem xor_nat (h c : Nat) (hh : h < 18446744073709551616) (hc : c < 256) : bits .xor .u64 (h : Int) (c : Int) = ((h ^^^ c : Nat) : Int) := by
  have hw : bits .xor .u64 (h : Int) (c : Int) = IntKind.u64.wrap ((BitVec.ofInt 64 (h : Int) ^^^ BitVec.ofInt 64 (c : Int)).toNat : Int) := rfl
  rw [hw]
  have e1 : BitVec.ofInt 64 (h : Int) = BitVec.ofNat 64 h := by simp
  have e2 : BitVec.ofInt 64 (c : Int) = BitVec.ofNat 64 c := by simp
  rw [e1, e2, BitVec.toNat_xor, BitVec.toNat_ofNat, BitVec.toNat_ofNat, Nat.mod_eq_of_lt (by omega), Nat.mod_eq_of_lt (by omega)]
  have hx : h ^^^ c < 2 ^ 64 := Nat.xor_lt_two_pow (by omega) (by omega)
  simp [IntKind.wrap, IntKind.bits, IntKind.signed]
  omega
theorem mul_nat (x : Nat) : IntKind.u64.wrap ((x : Int) * 1099511628211) = ((x * 1099511628211 % 18446744073709551616 : Nat) : Int) := by
  simp [IntKind.wrap, IntKind.bits, IntKind.signed]
set_option maxRecDepth 100000 in
set_option maxHeartbeats 4000000 in
theorem rcont_any (n : Nat) (hn : n < 18446744073709551616) (s : ByteArray) (hs : s.size ≤ 1000000) (w : World) :
    Calls Tryz.prog 27 #[.int .u64 (n : Int), .string s] w fun e w' => e = .returned (.int .u64 (hsum n s.data.toList : Nat)) ∧ w' = w := by
  go_enter Tryz.func27, Tryz.ntmps27
  go_wp2_with fail
  go_loop [0, 5] (fun h i => ∃ k : Nat, i = .int .i64 (k : Int) ∧ k ≤ s.size ∧ h = .int .u64 ((hsum n (s.data.toList.take k) : Nat) : Int)) (fun _ i => (s.size - intOf i).toNat)
  case atStart => exact ⟨0, rfl, by omega, by rw [List.take_zero, hsum_nil]⟩
  case round =>
    obtain ⟨k, rfl, hk, rfl⟩ := hrel
    by_cases hlt : k < s.size
    · have hki : (k : Int) < (s.size : Int) := by omega
      have wk : IntKind.i64.wrap ((k : Int) + 1) = (k : Int) + 1 := by simp [IntKind.wrap, IntKind.bits, IntKind.signed]; omega
      have hb := hsum_lt (s.data.toList.take k) n hn
      have hc : (s[k]).toNat < 256 := (s[k]).toNat_lt
      have hx := xor_nat _ _ hb hc
      have hm := mul_nat (hsum n (s.data.toList.take k) ^^^ (s[k]).toNat)
      have wc : IntKind.u64.wrap (((s[k]).toNat : Nat) : Int) = (((s[k]).toNat : Nat) : Int) := by simp [IntKind.wrap, IntKind.bits, IntKind.signed]; omega
      have hnx : hsum n (s.data.toList.take (k + 1)) = (hsum n (s.data.toList.take k) ^^^ (s[k]).toNat) * 1099511628211 % 18446744073709551616 := by rw [take_next s k hlt, hsum_snoc, hstep]
      generalize hsum n (s.data.toList.take k) = h at *
      obtain ⟨z, hz⟩ : ∃ z : Nat, z = (h ^^^ (s[k]).toNat) * 1099511628211 % 18446744073709551616 := ⟨_, rfl⟩
      rw [← hz] at hm hnx
      have HNX := Lib.hid hnx
      clear hnx hz
      go_wp2_with fail
      go_round
      case rel => exact ⟨k + 1, by go_num, by omega, by rw [HNX.out]⟩
      case measure => simp [intOf]; omega
    · obtain rfl : k = s.size := by omega
      have ht : s.data.toList.take s.size = s.data.toList := List.take_of_length_le (by simp)
      rw [ht]
      go_wp2_with fail
      go_ret
      exact ⟨rfl, rfl⟩
set_option maxRecDepth 100000 in
set_option maxHeartbeats 4000000 in
/-- the program's sum of a row of pieces -/
theorem sum_any (ps : List ByteArray) (g c : Nat) (w : World) (hc : ∀ i s, ps[i]? = some s → w.cell? ⟨g, i, none⟩ = some (.string s)) (hl : ps.length ≤ 100000) (hs : ∀ s ∈ ps, s.size ≤ 1000000) :
    Calls Tryz.prog 26 #[.slice (some ⟨g, 0, none⟩) ps.length c] w fun e w' => e = .returned (.int .u64 (hsum 14695981039346656037 (ps.flatMap fun s => s.data.toList) : Nat)) ∧ w' = w := by
  have HC := Lib.hid hc
  have HS := Lib.hid hs
  clear hc hs
  obtain ⟨st0, hst⟩ : ∃ n : Nat, n = 14695981039346656037 := ⟨_, rfl⟩
  have hst' : (14695981039346656037 : Int) = (st0 : Int) := by rw [hst]; rfl
  have hlt0 : st0 < 18446744073709551616 := by omega
  rw [← hst]
  have HST := Lib.hid hst'
  clear hst hst'
  go_enter Tryz.func26, Tryz.ntmps26
  go_wp2_with fail
  go_loop [3, 9] (fun h i => ∃ k : Nat, i = .int .i64 (k : Int) ∧ k ≤ ps.length ∧ h = .int .u64 ((hsum st0 ((ps.take k).flatMap fun s => s.data.toList) : Nat) : Int)) (fun _ i => (ps.length - intOf i).toNat)
  case atStart => exact ⟨0, rfl, by omega, by rw [List.take_zero, List.flatMap_nil, hsum_nil, ← HST.out]⟩
  case round =>
    obtain ⟨k, rfl, hk, rfl⟩ := hrel
    by_cases hlt : k < ps.length
    · have hki : (k : Int) < (ps.length : Int) := by omega
      have wk : IntKind.i64.wrap ((k : Int) + 1) = (k : Int) + 1 := by simp [IntKind.wrap, IntKind.bits, IntKind.signed]; omega
      have hx := List.getElem?_eq_getElem hlt
      have hcell := HC.out k _ hx
      have hsz := HS.out _ (List.getElem_mem hlt)
      have hnxt : (ps.take (k + 1)).flatMap (fun s => s.data.toList) = (ps.take k).flatMap (fun s => s.data.toList) ++ (ps[k]).data.toList := by
        rw [(List.take_append_getElem hlt).symm, List.flatMap_append]; simp
      have HNXT := Lib.hid (show hsum st0 ((ps.take (k + 1)).flatMap fun s => s.data.toList) = hsum (hsum st0 ((ps.take k).flatMap fun s => s.data.toList)) (ps[k]).data.toList by rw [hnxt, hsum_append])
      have hb0 := hsum_lt ((ps.take k).flatMap fun s => s.data.toList) st0 hlt0
      clear hnxt hx
      generalize ps[k] = s at *
      generalize hsum st0 ((ps.take k).flatMap fun s => s.data.toList) = n at *
      go_wp2_with fail
      go_loop [3, 15] (fun h i => ∃ j : Nat, i = .int .i64 (j : Int) ∧ j ≤ s.size ∧ h = .int .u64 ((hsum n (s.data.toList.take j) : Nat) : Int)) (fun _ i => (s.size - intOf i).toNat)
      case atStart => exact ⟨0, rfl, by omega, by rw [List.take_zero, hsum_nil]⟩
      case round =>
        obtain ⟨j, rfl, hj, rfl⟩ := hrel
        by_cases hjlt : j < s.size
        · have hji : (j : Int) < (s.size : Int) := by omega
          have wj : IntKind.i64.wrap ((j : Int) + 1) = (j : Int) + 1 := by simp [IntKind.wrap, IntKind.bits, IntKind.signed]; omega
          have hb := hsum_lt (s.data.toList.take j) n hb0
          have hc : (s[j]).toNat < 256 := (s[j]).toNat_lt
          have hx := xor_nat _ _ hb hc
          have hm := mul_nat (hsum n (s.data.toList.take j) ^^^ (s[j]).toNat)
          have wc : IntKind.u64.wrap (((s[j]).toNat : Nat) : Int) = (((s[j]).toNat : Nat) : Int) := by simp [IntKind.wrap, IntKind.bits, IntKind.signed]; omega
          have hnx : hsum n (s.data.toList.take (j + 1)) = (hsum n (s.data.toList.take j) ^^^ (s[j]).toNat) * 1099511628211 % 18446744073709551616 := by rw [take_next s j hjlt, hsum_snoc, hstep]
          generalize hsum n (s.data.toList.take j) = h at *
          obtain ⟨z, hz⟩ : ∃ z : Nat, z = (h ^^^ (s[j]).toNat) * 1099511628211 % 18446744073709551616 := ⟨_, rfl⟩
          rw [← hz] at hm hnx
          have HNX := Lib.hid hnx
          clear hnx hz
          go_wp2_with fail
          go_round
          case rel => exact ⟨j + 1, by go_num, by omega, by rw [HNX.out]⟩
          case measure => simp [intOf]; omega
        · obtain rfl : j = s.size := by omega
          have ht : s.data.toList.take s.size = s.data.toList := List.take_of_length_le (by simp)
          rw [ht]
          go_wp2_with fail
          go_round
          case rel => exact ⟨k + 1, by go_num, by omega, by rw [HNXT.out]⟩
          case measure => simp [intOf]; omega
    · obtain rfl : k = ps.length := by omega
      rw [List.take_length]
      go_wp2_with fail
      go_ret
      exact ⟨rfl, rfl⟩
end Go.Proofs.YthlcdimofagmfaaGreatDoor.Dg
