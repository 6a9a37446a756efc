/-
  The iterator over the lines of a text. Condition: internal/bytealg.MaxLen holds some number.
-/
import Derived.Test.YtmmghdicjpfdoaaGreatDoorW2
import Derived.RangeFuncNested
import Derived.RangeFuncBound
import Derived.RangeFuncCalls
import Derived.RangeFuncLeaves
import Derived.RangeFuncFrom
import Derived.RangeFuncBox
import Derived.RangeFuncWrites
import Derived.Shelf.Abstract
import Derived.Shelf.RegionOpen
import Derived.OwnWalkIn
import Derived.TacticsInMore
import Derived.LoopNIn
import Derived.LoopIn
namespace Go.Proofs.YtmmghdicjpfdoaaGreatDoor
open Go.RowKit Go.Sort Go.Shelf Go.Proofs
set_option linter.unusedSimpArgs false
set_option linter.unnecessarySimpa false
set_option linter.unusedVariables false
attribute [local go_sem] Oper.semAt_some
/-- a line with its number -/
abbrev Ln := { x : Nat × ByteArray // x.1 ≤ 100000 ∧ x.2.size ≤ 100000 }
def mkLn (n : Nat) (l : List UInt8) : Ln := if h : n ≤ 100000 ∧ l.length ≤ 100000 then ⟨(n, bA l), h.1, by show l.toArray.size ≤ 100000; rw [List.size_toArray]; exact h.2⟩ else ⟨(0, ⟨#[]⟩), by decide, by decide⟩
theorem mkLn_val {n : Nat} {l : List UInt8} (h : n ≤ 100000) (h2 : l.length ≤ 100000) : (mkLn n l).1 = (n, bA l) := by
  unfold mkLn; rw [dif_pos ⟨h, h2⟩]
def seqF : Nat → List (List UInt8) → List Ln
  | _, [] => []
  | n, x :: t => mkLn n x :: seqF (n + 1) t
def allL (s : ByteArray) : List Ln := seqF 1 (linesL s.data.toList)
theorem grown_drewN (W : World) (n : Nat) : W.grownBy (W.drewN n) none := ⟨rfl, rfl, rfl, Nat.le_refl _, fun _ _ _ => rfl⟩
theorem drewN_below (N : Nat) (W : World) (n : Nat) : Below N W (W.drewN n) := by constructor <;> first | rfl | (intros; rfl) | (intros; assumption) | exact Nat.le_refl _
theorem cut10 (s : ByteArray) (hs : s.size ≤ 100000) (m : Int) (w : World) (hm : w.cell? ⟨0, 0, none⟩ = some (.int .i64 m)) :
    Calls Tryz.prog 68 #[.string s, .string ⟨#[10]⟩] w fun e w' => (∃ f, e = .returned (.tuple #[.string (bA (Lib.cut s.data.toList [10]).1), .string (bA (Lib.cut s.data.toList [10]).2.1), .bool f])) ∧ ∃ n, w' = w.drewN n :=
  (Tryz.strings_Cut s ⟨#[10]⟩ m w (by omega) hm).mono fun e w' ⟨he, hw⟩ => ⟨⟨(Lib.cut s.data.toList [10]).2.2, he⟩, hw⟩
def szV : Value → Nat
  | .string r => r.size
  | _ => 0
set_option maxRecDepth 100000 in
set_option maxHeartbeats 2000000 in
theorem lines_in (n : Nat) (hn : 4 ≤ n) (l0 ps N : Nat) (s : ByteArray) (hs : s.size ≤ 70000) (hN : 0 < N) (J Jx : List Ln → World → Prop)
    (hY : ∀ pre (x : Ln) W, J pre W → pre.length < (allL s).length → YieldAt Fence.wide (n - 1) Tryz.prog l0 #[.int .i64 (x.1.1 : Int), .string x.1.2] W fun e W' =>
      (e = .returned (.bool true) ∧ J (pre ++ [x]) W' ∧ Below N W W') ∨ (e = .returned (.bool false) ∧ Jx (pre ++ [x]) W'))
    (W : World) (hJ : ∀ pre A k, J pre A → J pre (A.drewN k)) (m : Int) (hm : W.cell? ⟨0, 0, none⟩ = some (.int .i64 m)) (hc : W.cell? ⟨ps, 0, none⟩ = some (.string s)) (h0 : J [] W) :
    CallsIn Fence.wide n Tryz.prog 67 #[.func (.yield l0) #[] #[], .pointer (some ⟨ps, 0, none⟩)] W fun e W' => (∃ v, e = .returned v) ∧
      ((∃ ys, ys = allL s ∧ J ys W') ∨ (∃ pre, pre <+: allL s ∧ Jx pre W')) := by
  have HM := Lib.hid hm
  have HJ0 := Lib.hid h0
  clear hm h0
  refine callsIn_of_wp Tryz.func67 rfl trivial ?_ rfl
  simp only [Tryz.ntmps67, List.size_toArray, List.length_cons, List.length_nil, Nat.reduceAdd, Nat.reduceSub, Array.replicate_succ, Array.replicate_zero, List.push_toArray, List.append_toArray, List.nil_append, List.cons_append]
  gi_wp2
  gi_loopw [3, 4, 5] (fun s3 s4 _ wr => ∃ (r : ByteArray) (k : Nat) (pre : List Ln), s3 = .string r ∧ s4 = .int .i64 (k : Int) ∧ k + r.size ≤ s.size + 1 ∧ Hid (pre ++ seqF k (linesL r.data.toList) = allL s) ∧ Hid (J pre wr) ∧ Hid (Below N W wr))
    (fun s3 _ _ _ => szV s3)
  case atStart => exact ⟨s, 1, [], rfl, rfl, by omega, Lib.hid rfl, HJ0, Lib.hid (Below.refl _ _)⟩
  case round =>
    obtain ⟨r, k, pre, rfl, rfl, hk, HA, HJ, HB⟩ := hrel
    by_cases hr : r.data.toList = []
    · have hre : r = ⟨#[]⟩ := ByteArray.ext (Array.ext' hr)
      have HJE := Lib.hid (show J (allL s) wr by
        have := HA.out
        rw [hr, linesL_nil] at this
        rw [← this, seqF, List.append_nil]; exact HJ.out)
      subst hre
      clear HA HJ hr
      gi_wp2_with fail
      go_end0
      exact ⟨⟨_, rfl⟩, .inl ⟨_, rfl, HJE.out⟩⟩
    · obtain ⟨hl, hlt⟩ := linesL_cut r.data.toList hr
      have hm' : wr.cell? ⟨0, 0, none⟩ = some (.int .i64 m) := by rw [HB.out.cell (p := ⟨0, 0, none⟩) hN]; exact HM.out
      have hrs : r.data.toList.length = r.size := by simp
      have K := Lib.hid (cut10 r (by omega) m wr hm')
      have q1 : r.toList.isEmpty = false := by rw [toL]; cases hh : r.data.toList with
        | nil => exact absurd hh hr
        | cons _ _ => rfl
      have q2 : ¬ r.toList = [] := by intro hh; rw [hh] at q1; cases q1
      have hc1 := cut_len r.data.toList [10]
      obtain ⟨T, hT⟩ : ∃ T, T = (Lib.cut r.data.toList [10]).1 := ⟨_, rfl⟩
      obtain ⟨R, hR⟩ : ∃ R, R = (Lib.cut r.data.toList [10]).2.1 := ⟨_, rfl⟩
      rw [← hT, ← hR] at hl K
      rw [← hR] at hlt
      rw [← hT] at hc1
      have HA2 := Lib.hid (show (pre ++ [mkLn k T]) ++ seqF (k + 1) (linesL R) = allL s by
        rw [← HA.out, hl, seqF, List.append_assoc]; rfl)
      have hpl : pre.length < (allL s).length := by rw [← HA2.out]; simp
      have hRs : (bA R).size = R.length := by show R.toArray.size = _; rw [List.size_toArray]
      have hRd : (bA R).data.toList = R := rfl
      have HRD := Lib.hid hRd
      have HRS := Lib.hid hRs
      have hmk := mkLn_val (n := k) (l := T) (by omega) (by omega)
      have HKK := Lib.hid (show k + 1 + (bA R).size ≤ s.size + 1 ∧ (bA R).size < r.size by rw [hRs]; omega)
      have hk2 : (k : Int) + 1 ≤ 100001 := by omega
      have HPX := Lib.hid (show (pre ++ [mkLn k T]) <+: allL s from ⟨_, HA2.out⟩)
      clear hl hlt hc1 hT hR hrs hr HA hRs hRd hm'
      gi_wp2_with fail
      refine ⟨trivial, fun _ => by omega, (callsIn_wide.2 K.out).mono ?_⟩
      rintro e w2 ⟨⟨f, rfl⟩, q, rfl⟩
      have HJ2 := Lib.hid (hJ _ _ q HJ.out)
      have HB2 := Lib.hid (HB.out.trans (drewN_below N wr q))
      obtain ⟨fn, tmps, assign, body, hy, hRR⟩ := hY pre (mkLn k T) _ HJ2.out hpl
      rw [hmk] at hy
      dsimp only at hy
      clear HJ HB K q1 q2 hmk
      gi_wp2_with fail
      refine ⟨fun _ => by omega, hRR.mono ?_⟩
      rintro e W3 (⟨rfl, hJ3, hk3⟩ | ⟨rfl, hJx3⟩)
      · have HB3 := Lib.hid (HB2.out.trans hk3)
        have HJ3 := Lib.hid hJ3
        clear hk3 hJ3 hy hRR
        gi_wp2_with fail
        go_roundw
        case rel => exact ⟨bA R, k + 1, pre ++ [mkLn k T], rfl, by go_num, HKK.out.1, Lib.hid (by rw [HRD.out]; exact HA2.out), HJ3, HB3⟩
        case measure => exact HKK.out.2
      · have HJ3 := Lib.hid hJx3
        clear hJx3 hy hRR
        gi_wp2_with fail
        refine bodyPost_ret (results_none rfl _ _ _) rfl ?_
        exact ⟨⟨_, rfl⟩, .inr ⟨_, HPX.out, HJ3.out⟩⟩
theorem lines_stops (n : Nat) (hn : 4 ≤ n) (ps N : Nat) (s : ByteArray) (hs : s.size ≤ 70000) (hN : 0 < N) (w : World) (hM : Mx w) (hps : ps < w.heap.size) (hc : w.cell? ⟨ps, 0, none⟩ = some (.string s)) :
    SeqStopsK Fence.wide n Tryz.prog 67 #[.pointer (some ⟨ps, 0, none⟩)] (fun x : Ln => #[.int .i64 (x.1.1 : Int), .string x.1.2]) (Below N) (fun ys => ys = allL s) (fun pre => pre <+: allL s) (allL s).length w := fun l0 J Jx W hW hA hAx hY h0 => by
  obtain ⟨hz, m, hm⟩ := hM
  exact lines_in n hn l0 ps N s hs hN J Jx hY W (fun pre A k h => hA pre A _ none h (grown_drewN A k) (fun r e => by cases e)) m (by rw [hW.cell (p := ⟨0, 0, none⟩) hz]; exact hm) (by rw [hW.cell (p := ⟨ps, 0, none⟩) hps]; exact hc) h0
theorem lines_any (s : ByteArray) (w : World) : Calls Tryz.prog 48 #[.string s] w fun e w' => e = .returned (.func (.func 67) #[] #[.pointer (some ⟨w.heap.size, 0, none⟩)]) ∧ w' = w.alloc (.cells #[.string s] 9) := by
  go_enter Tryz.func48, Tryz.ntmps48
  go_wp2
  go_ret
  exact ⟨rfl, rfl⟩
end Go.Proofs.YtmmghdicjpfdoaaGreatDoor
