/-
  The iterator 'escapes' of the program: it yields what stands for each byte of its string, in order. No condition.
-/
import Derived.RangeFuncNested
import Derived.RangeFuncBound
import Derived.RangeFuncCalls
import Derived.RangeFuncLeaves
import Derived.RangeFuncFrom
import Derived.Shelf.Abstract
import Derived.Shelf.RegionOpen
import Derived.OwnWalkIn
import Derived.TacticsInMore
import Derived.LoopNIn
import Derived.LoopIn
import Derived.Test.YthlcdimofagmfaaGreatDoorQA
namespace Go.Proofs.YthlcdimofagmfaaGreatDoor.Qt
open Go.RowKit Go.Shelf
set_option linter.unusedSimpArgs false
set_option linter.unusedVariables false
attribute [local go_sem] Oper.semAt_some

/-- the box of a string stands as it stood -/
def KpS (pc : Nat) (s : ByteArray) (W W' : World) : Prop := W.heap[pc]? = some (.cells #[.string s] 9 (0, 0)) → W'.heap[pc]? = some (.cells #[.string s] 9 (0, 0))
theorem kpS_t {pc : Nat} {s : ByteArray} {A B C : World} (h : KpS pc s A B) (k : KpS pc s B C) : KpS pc s A C := fun x => k (h x)
theorem kpS_b {pc : Nat} {s : ByteArray} {w : World} (W : World) (l : Nat) (o o' : Obj) (_ : w.heap.size ≤ l) (h : W.heap[l]? = some o) (ho : o.isCells = false) (_ : o.isWalk = false) : KpS pc s W (W.putObj l o') := by
  intro hx
  rw [World.putObj_heap_other]
  · exact hx
  · intro e; subst e; rw [hx] at h; cases h; simp [Obj.isCells] at ho

theorem escapes_in (F : Fence) (n : Nat) (h26 : F.fn 61) (hro : F.round = none) (s : ByteArray) (w : World) :
    CallsIn F n Tryz.prog 61 #[.string s] w fun e w' => e = .returned (.func (.func 97) #[] #[.pointer (some ⟨w.heap.size, 0, none⟩)]) ∧ w' = w.alloc (.cells #[.string s] 9) := by
  refine callsIn_of_wp Tryz.func61 rfl h26 ?_ hro
  simp only [Tryz.ntmps61, List.size_toArray, List.length_cons, List.length_nil, Nat.reduceAdd, Nat.reduceSub, Array.replicate_succ, Array.replicate_zero, List.push_toArray, List.append_toArray, List.nil_append, List.cons_append]
  gi_wp2
  go_ret
  exact ⟨rfl, rfl⟩

theorem grownBy_drewN (w : World) (n : Nat) : w.grownBy (w.drewN n) none := by
  constructor <;> first | rfl | exact Nat.le_refl _ | (intros; rfl)
theorem take_snoc (l : List UInt8) (k : Nat) (h : k < l.length) : l.take (k + 1) = l.take k ++ [l[k]] := by
  rw [List.take_succ_eq_append_getElem h]
theorem slice1 (s : ByteArray) (k : Nat) (h : k < s.size) : (s.extract k (k + 1)).size = 1 ∧ ∀ h', (s.extract k (k + 1))[0]'h' = s[k] := by
  constructor
  · simp; omega
  · intro h'
    rw [ByteArray.getElem_extract]
    simp

set_option maxRecDepth 100000 in
set_option maxHeartbeats 2000000 in
theorem esc1_in (n : Nat) (hn : 4 ≤ n) (l pc : Nat) (s : ByteArray) (hs : s.size ≤ 4611686018427387904) (J Jx : List UInt8 → World → Prop)
    (hY : ∀ pre x W, J pre W → pre.length < s.size → YieldAt Fence.wide (n - 1) Tryz.prog l #[.string ⟨(wrB x).toArray⟩] W fun e W' =>
      (e = .returned (.bool true) ∧ J (pre ++ [x]) W' ∧ KpS pc s W W') ∨ (e = .returned (.bool false) ∧ Jx (pre ++ [x]) W'))
    (W : World) (hJ : ∀ pre A m, J pre A → J pre (A.drewN m)) (hpc : W.heap[pc]? = some (.cells #[.string s] 9 (0, 0))) (h0 : J [] W) :
    CallsIn Fence.wide n Tryz.prog 97 #[.func (.yield l) #[] #[], .pointer (some ⟨pc, 0, none⟩)] W fun e W' => (∃ v, e = .returned v) ∧
      ((∃ ys, ys = s.data.toList ∧ J ys W') ∨ (∃ pre, (∃ k, k ≤ s.size ∧ pre = s.data.toList.take k) ∧ Jx pre W')) := by
  have hlen : s.data.toList.length = s.size := by simp
  refine callsIn_of_wp Tryz.func97 rfl trivial ?_ rfl
  simp only [Tryz.ntmps97, List.size_toArray, List.length_cons, List.length_nil, Nat.reduceAdd, Nat.reduceSub, Array.replicate_succ, Array.replicate_zero, List.push_toArray, List.append_toArray, List.nil_append, List.cons_append]
  have hcell : ∀ A : World, A.heap[pc]? = some (.cells #[.string s] 9 (0, 0)) → A.cell? ⟨pc, 0, none⟩ = some (.string s) := fun A h => by simp [World.cell?, h]
  have hc0 := hcell W hpc
  have HC := Lib.hid hcell
  clear hcell
  gi_wp2
  gi_loopw [6] (fun i wr => ∃ k : Nat, k ≤ s.size ∧ i = .int .i64 k ∧ J (s.data.toList.take k) wr ∧ wr.heap[pc]? = some (.cells #[.string s] 9 (0, 0)))
    (fun i _ => s.size - (intOf i).toNat)
  case atStart => exact ⟨0, Nat.zero_le _, rfl, h0, hpc⟩
  case round =>
    obtain ⟨k, hk, rfl, hJs, hpw⟩ := hrel
    have hcx := HC.out wr hpw
    by_cases hlt : k < s.size
    · obtain ⟨z1, z2⟩ := slice1 s k hlt
      have Z1 := Lib.hid z1
      have Z2 := Lib.hid z2
      have HPW := Lib.hid hpw
      clear z1 z2 hpw
      gi_wp2_with fail
      refine ⟨trivial, fun _ => by omega, ?_⟩
      refine (callsIn_wide.2 (written_any _ Z1.out (by have := Z1.out; omega) wr)).mono ?_
      rintro e w1 ⟨rfl, m, rfl⟩
      rw [Z2.out]
      have hJ1 := hJ _ _ m hJs
      have hpw1 : (wr.drewN m).heap[pc]? = some (.cells #[.string s] 9 (0, 0)) := HPW.out
      obtain ⟨fn, tmps, assign, body, hy, hR⟩ := hY _ s[k] (wr.drewN m) hJ1 (by rw [List.length_take]; omega)
      gi_wp2_with fail
      refine ⟨fun _ => by omega, hR.mono ?_⟩
      rintro e W3 (⟨rfl, hJ3, hk3⟩ | ⟨rfl, hJx3⟩)
      · have hp3 := hk3 hpw1
        have hts := take_snoc s.data.toList k (by omega)
        gi_wp2
        go_roundw
        case rel => exact ⟨k + 1, by omega, by simp, by rw [hts]; exact hJ3, hp3⟩
        case measure => simp [intOf]; omega
      · gi_wp2
        refine bodyPost_ret (results_none rfl _ _ _) rfl ?_
        exact ⟨⟨_, rfl⟩, .inr ⟨_, ⟨k + 1, by omega, (take_snoc s.data.toList k (by omega)).symm⟩, hJx3⟩⟩
    · obtain rfl : k = s.size := by omega
      gi_wp2
      go_end0
      exact ⟨⟨_, rfl⟩, .inl ⟨_, rfl, by rw [List.take_of_length_le (by omega)] at hJs; exact hJs⟩⟩
theorem esc_stops (n : Nat) (hn : 4 ≤ n) (pc : Nat) (s : ByteArray) (hs : s.size ≤ 4611686018427387904) (w : World) (hpc : w.heap[pc]? = some (.cells #[.string s] 9 (0, 0))) :
    SeqStopsK Fence.wide n Tryz.prog 97 #[.pointer (some ⟨pc, 0, none⟩)] (fun x : UInt8 => #[Value.string ⟨(wrB x).toArray⟩]) (KpS pc s) (fun ys => ys = s.data.toList) (fun pre => pre <+: s.data.toList) s.size w := fun l J Jx W hW hA hAx hY h0 => by
  have hlt : pc < w.heap.size := (Array.getElem?_eq_some_iff.1 hpc).1
  have hpc' : W.heap[pc]? = some (.cells #[.string s] 9 (0, 0)) := by rw [hW.block pc hlt]; exact hpc
  refine (esc1_in n hn l pc s hs J Jx hY W (fun pre A m h => hA _ _ _ none h (grownBy_drewN A m) (fun r e => by cases e)) hpc' h0).mono ?_
  rintro e W' ⟨he, ⟨ys, rfl, hj⟩ | ⟨pre, ⟨k, hk, rfl⟩, hj⟩⟩
  · exact ⟨he, .inl ⟨_, rfl, hj⟩⟩
  · exact ⟨he, .inr ⟨_, List.take_prefix _ _, hj⟩⟩
end Go.Proofs.YthlcdimofagmfaaGreatDoor.Qt
