/-
  The iterator over the lines of a text. Condition: internal/bytealg.MaxLen holds some number.
-/
import Derived.Test.YtaeideimlagheaaGreatDoorWA
import Derived.RangeFuncNested
import Derived.RangeFuncBound
import Derived.RangeFuncCalls
import Derived.RangeFuncLeaves
import Derived.RangeFuncFrom
import Derived.RangeFuncBox
import Derived.RangeFuncWrites
import Derived.Shelf.Abstract
import Derived.Shelf.RegionOpen
import Derived.OwnWalkIn
import Derived.TacticsInMore
import Derived.LoopNIn
import Derived.LoopIn
import Derived.Test.YtaeideimlagheaaGreatDoorS
import Derived.Maps.AppendAt
import Derived.Maps.OwnIn
namespace Go.Proofs.YtaeideimlagheaaGreatDoor
open Go.RowKit Go.Sort Go.Shelf Go.Proofs
set_option linter.unusedSimpArgs false
set_option linter.unnecessarySimpa false
set_option linter.unusedVariables false
attribute [local go_sem] Oper.semAt_some
/-- a line with its number -/
abbrev Ln := { x : Nat × ByteArray // x.1 ≤ 100000 ∧ x.2.size ≤ 100000 }
def mkLn (n : Nat) (l : List UInt8) : Ln := if h : n ≤ 100000 ∧ l.length ≤ 100000 then ⟨(n, bA l), h.1, by show l.toArray.size ≤ 100000; rw [List.size_toArray]; exact h.2⟩ else ⟨(0, ⟨#[]⟩), by decide, by decide⟩
theorem mkLn_val {n : Nat} {l : List UInt8} (h : n ≤ 100000) (h2 : l.length ≤ 100000) : (mkLn n l).1 = (n, bA l) := by
  unfold mkLn; rw [dif_pos ⟨h, h2⟩]
def seqF : Nat → List (List UInt8) → List Ln
  | _, [] => []
  | n, x :: t => mkLn n x :: seqF (n + 1) t
def allL (s : ByteArray) : List Ln := seqF 1 (linesL s.data.toList)
theorem grown_drewN (W : World) (n : Nat) : W.grownBy (W.drewN n) none := ⟨rfl, rfl, rfl, Nat.le_refl _, fun _ _ _ => rfl⟩
theorem drewN_below (N : Nat) (W : World) (n : Nat) : Below N W (W.drewN n) := by constructor <;> first | rfl | (intros; rfl) | (intros; assumption) | exact Nat.le_refl _
theorem cut10 (s : ByteArray) (hs : s.size ≤ 100000) (m : Int) (w : World) (hm : w.cell? ⟨0, 0, none⟩ = some (.int .i64 m)) :
    Calls Tryz.prog 68 #[.string s, .string ⟨#[10]⟩] w fun e w' => (∃ f, e = .returned (.tuple #[.string (bA (Lib.cut s.data.toList [10]).1), .string (bA (Lib.cut s.data.toList [10]).2.1), .bool f])) ∧ ∃ n, w' = w.drewN n :=
  (Tryz.strings_Cut s ⟨#[10]⟩ m w (by omega) hm).mono fun e w' ⟨he, hw⟩ => ⟨⟨(Lib.cut s.data.toList [10]).2.2, he⟩, hw⟩
def szV : Value → Nat
  | .string r => r.size
  | _ => 0
set_option maxRecDepth 100000 in
set_option maxHeartbeats 2000000 in
theorem lines_in (n : Nat) (hn : 4 ≤ n) (l0 ps N : Nat) (s : ByteArray) (hs : s.size ≤ 70000) (hN : 0 < N) (J Jx : List Ln → World → Prop)
    (hY : ∀ pre (x : Ln) W, J pre W → pre.length < (allL s).length → YieldAt Fence.wide (n - 1) Tryz.prog l0 #[.int .i64 (x.1.1 : Int), .string x.1.2] W fun e W' =>
      (e = .returned (.bool true) ∧ J (pre ++ [x]) W' ∧ Below N W W') ∨ (e = .returned (.bool false) ∧ Jx (pre ++ [x]) W'))
    (W : World) (hJ : ∀ pre A k, J pre A → J pre (A.drewN k)) (m : Int) (hm : W.cell? ⟨0, 0, none⟩ = some (.int .i64 m)) (hc : W.cell? ⟨ps, 0, none⟩ = some (.string s)) (h0 : J [] W) :
    CallsIn Fence.wide n Tryz.prog 67 #[.func (.yield l0) #[] #[], .pointer (some ⟨ps, 0, none⟩)] W fun e W' => (∃ v, e = .returned v) ∧
      ((∃ ys, ys = allL s ∧ J ys W') ∨ (∃ pre, pre <+: allL s ∧ Jx pre W')) := by
  have HM := Lib.hid hm
  have HJ0 := Lib.hid h0
  clear hm h0
  refine callsIn_of_wp Tryz.func67 rfl trivial ?_ rfl
  simp only [Tryz.ntmps67, List.size_toArray, List.length_cons, List.length_nil, Nat.reduceAdd, Nat.reduceSub, Array.replicate_succ, Array.replicate_zero, List.push_toArray, List.append_toArray, List.nil_append, List.cons_append]
  gi_wp2
  gi_loopw [3, 4, 5] (fun s3 s4 _ wr => ∃ (r : ByteArray) (k : Nat) (pre : List Ln), s3 = .string r ∧ s4 = .int .i64 (k : Int) ∧ k + r.size ≤ s.size + 1 ∧ Hid (pre ++ seqF k (linesL r.data.toList) = allL s) ∧ Hid (J pre wr) ∧ Hid (Below N W wr))
    (fun s3 _ _ _ => szV s3)
  case atStart => exact ⟨s, 1, [], rfl, rfl, by omega, Lib.hid rfl, HJ0, Lib.hid (Below.refl _ _)⟩
  case round =>
    obtain ⟨r, k, pre, rfl, rfl, hk, HA, HJ, HB⟩ := hrel
    by_cases hr : r.data.toList = []
    · have hre : r = ⟨#[]⟩ := ByteArray.ext (Array.ext' hr)
      have HJE := Lib.hid (show J (allL s) wr by
        have := HA.out
        rw [hr, linesL_nil] at this
        rw [← this, seqF, List.append_nil]; exact HJ.out)
      subst hre
      clear HA HJ hr
      gi_wp2_with fail
      go_end0
      exact ⟨⟨_, rfl⟩, .inl ⟨_, rfl, HJE.out⟩⟩
    · obtain ⟨hl, hlt⟩ := linesL_cut r.data.toList hr
      have hm' : wr.cell? ⟨0, 0, none⟩ = some (.int .i64 m) := by rw [HB.out.cell (p := ⟨0, 0, none⟩) hN]; exact HM.out
      have hrs : r.data.toList.length = r.size := by simp
      have K := Lib.hid (cut10 r (by omega) m wr hm')
      have q1 : r.toList.isEmpty = false := by rw [toL]; cases hh : r.data.toList with
        | nil => exact absurd hh hr
        | cons _ _ => rfl
      have q2 : ¬ r.toList = [] := by intro hh; rw [hh] at q1; cases q1
      have hc1 := cut_len r.data.toList [10]
      obtain ⟨T, hT⟩ : ∃ T, T = (Lib.cut r.data.toList [10]).1 := ⟨_, rfl⟩
      obtain ⟨R, hR⟩ : ∃ R, R = (Lib.cut r.data.toList [10]).2.1 := ⟨_, rfl⟩
      rw [← hT, ← hR] at hl K
      rw [← hR] at hlt
      rw [← hT] at hc1
      have HA2 := Lib.hid (show (pre ++ [mkLn k T]) ++ seqF (k + 1) (linesL R) = allL s by
        rw [← HA.out, hl, seqF, List.append_assoc]; rfl)
      have hpl : pre.length < (allL s).length := by rw [← HA2.out]; simp
      have hRs : (bA R).size = R.length := by show R.toArray.size = _; rw [List.size_toArray]
      have hRd : (bA R).data.toList = R := rfl
      have HRD := Lib.hid hRd
      have HRS := Lib.hid hRs
      have hmk := mkLn_val (n := k) (l := T) (by omega) (by omega)
      have HKK := Lib.hid (show k + 1 + (bA R).size ≤ s.size + 1 ∧ (bA R).size < r.size by rw [hRs]; omega)
      have hk2 : (k : Int) + 1 ≤ 100001 := by omega
      have HPX := Lib.hid (show (pre ++ [mkLn k T]) <+: allL s from ⟨_, HA2.out⟩)
      clear hl hlt hc1 hT hR hrs hr HA hRs hRd hm'
      gi_wp2_with fail
      refine ⟨trivial, fun _ => by omega, (callsIn_wide.2 K.out).mono ?_⟩
      rintro e w2 ⟨⟨f, rfl⟩, q, rfl⟩
      have HJ2 := Lib.hid (hJ _ _ q HJ.out)
      have HB2 := Lib.hid (HB.out.trans (drewN_below N wr q))
      obtain ⟨fn, tmps, assign, body, hy, hRR⟩ := hY pre (mkLn k T) _ HJ2.out hpl
      rw [hmk] at hy
      dsimp only at hy
      clear HJ HB K q1 q2 hmk
      gi_wp2_with fail
      refine ⟨fun _ => by omega, hRR.mono ?_⟩
      rintro e W3 (⟨rfl, hJ3, hk3⟩ | ⟨rfl, hJx3⟩)
      · have HB3 := Lib.hid (HB2.out.trans hk3)
        have HJ3 := Lib.hid hJ3
        clear hk3 hJ3 hy hRR
        gi_wp2_with fail
        go_roundw
        case rel => exact ⟨bA R, k + 1, pre ++ [mkLn k T], rfl, by go_num, HKK.out.1, Lib.hid (by rw [HRD.out]; exact HA2.out), HJ3, HB3⟩
        case measure => exact HKK.out.2
      · have HJ3 := Lib.hid hJx3
        clear hJx3 hy hRR
        gi_wp2_with fail
        refine bodyPost_ret (results_none rfl _ _ _) rfl ?_
        exact ⟨⟨_, rfl⟩, .inr ⟨_, HPX.out, HJ3.out⟩⟩
theorem lines_stops (n : Nat) (hn : 4 ≤ n) (ps N : Nat) (s : ByteArray) (hs : s.size ≤ 70000) (hN : 0 < N) (w : World) (hM : Mx w) (hps : ps < w.heap.size) (hc : w.cell? ⟨ps, 0, none⟩ = some (.string s)) :
    SeqStopsK Fence.wide n Tryz.prog 67 #[.pointer (some ⟨ps, 0, none⟩)] (fun x : Ln => #[.int .i64 (x.1.1 : Int), .string x.1.2]) (Below N) (fun ys => ys = allL s) (fun pre => pre <+: allL s) (allL s).length w := fun l0 J Jx W hW hA hAx hY h0 => by
  obtain ⟨hz, m, hm⟩ := hM
  exact lines_in n hn l0 ps N s hs hN J Jx hY W (fun pre A k h => hA pre A _ none h (grown_drewN A k) (fun r e => by cases e)) m (by rw [hW.cell (p := ⟨0, 0, none⟩) hz]; exact hm) (by rw [hW.cell (p := ⟨ps, 0, none⟩) hps]; exact hc) h0
theorem lines_any (s : ByteArray) (w : World) : Calls Tryz.prog 48 #[.string s] w fun e w' => e = .returned (.func (.func 67) #[] #[.pointer (some ⟨w.heap.size, 0, none⟩)]) ∧ w' = w.alloc (.cells #[.string s] 9) := by
  go_enter Tryz.func48, Tryz.ntmps48
  go_wp2
  go_ret
  exact ⟨rfl, rfl⟩
end Go.Proofs.YtaeideimlagheaaGreatDoor
namespace Go.Proofs.YtaeideimlagheaaGreatDoor
open Go.RowKit Go.Sort Go.Shelf Go.Proofs
set_option linter.unusedSimpArgs false
set_option linter.unnecessarySimpa false
set_option linter.unusedVariables false
def stepL (V : List UInt8 → Option (Int × Int × Int)) (x : List UInt8) (k : Nat) (R : List Md) : Nat ⊕ List Md :=
  if wordsC x = [] then .inr R else match readL V (if R = [] then kwM else kwR) (wordsC x) with
    | none => .inl k
    | some m => .inr (R ++ [m])
theorem scan_snoc (V : List UInt8 → Option (Int × Int × Int)) (x : List UInt8) : ∀ (L : List (List UInt8)) (n : Nat) (all : List Md), scanL V (L ++ [x]) n all = match scanL V L n all with
    | .inl k => .inl k
    | .inr R => stepL V x (n + L.length) R
  | [], n, all => by
    simp only [List.nil_append, scanL, List.length_nil, Nat.add_zero, stepL]
    split
    · rfl
    · cases readL V (if all = [] then kwM else kwR) (wordsC x) <;> rfl
  | y :: L, n, all => by
    rw [List.cons_append, scanL, scanL]
    split
    · rw [scan_snoc V x L, List.length_cons, show n + 1 + L.length = n + (L.length + 1) by omega]
    · cases readL V (if all = [] then kwM else kwR) (wordsC y) with
      | none => rfl
      | some m => simp only []; rw [scan_snoc V x L, List.length_cons, show n + 1 + L.length = n + (L.length + 1) by omega]
theorem scan_fail (V : List UInt8 → Option (Int × Int × Int)) (M : List (List UInt8)) (k : Nat) : ∀ (L : List (List UInt8)) (n : Nat) (all : List Md), scanL V L n all = .inl k → scanL V (L ++ M) n all = .inl k
  | [], n, all, h => by cases h
  | y :: L, n, all, h => by
    rw [List.cons_append, scanL]
    rw [scanL] at h
    split
    · rename_i h1
      rw [if_pos h1] at h
      exact scan_fail V M k L _ _ h
    · rename_i h1
      rw [if_neg h1] at h
      cases hr : readL V (if all = [] then kwM else kwR) (wordsC y) with
      | none => rw [hr] at h; exact h
      | some m => rw [hr] at h; exact scan_fail V M k L _ _ h
def txtsL (pre : List Ln) : List (List UInt8) := pre.map fun x => x.1.2.data.toList
def scanP (pre : List Ln) : Nat ⊕ List Md := scanL verV (txtsL pre) 1 []
def accM (pre : List Ln) : List Md := match scanP pre with | .inr R => R | .inl _ => []
def OkP (pre : List Ln) : Prop := scanP pre = .inr (accM pre)
theorem scanP_snoc {pre : List Ln} (h : OkP pre) (x : Ln) : scanP (pre ++ [x]) = stepL verV x.1.2.data.toList (pre.length + 1) (accM pre) := by
  unfold OkP at h
  have e : txtsL (pre ++ [x]) = txtsL pre ++ [x.1.2.data.toList] := by simp [txtsL]
  show scanL verV (txtsL (pre ++ [x])) 1 [] = _
  rw [e, scan_snoc]
  have : scanL verV (txtsL pre) 1 [] = .inr (accM pre) := h
  rw [this]
  simp only []
  have hl : (txtsL pre).length = pre.length := by simp [txtsL]
  rw [hl, Nat.add_comm]
theorem okP_nil : OkP [] := rfl
theorem okP_blank {pre : List Ln} (h : OkP pre) {x : Ln} (hw : wordsC x.1.2.data.toList = []) : OkP (pre ++ [x]) ∧ accM (pre ++ [x]) = accM pre := by
  have e := scanP_snoc h x
  rw [stepL, if_pos hw] at e
  have ea : accM (pre ++ [x]) = accM pre := by unfold accM at e ⊢; rw [e]
  exact ⟨by unfold OkP; rw [ea]; exact e, ea⟩
theorem okP_read {pre : List Ln} (h : OkP pre) {x : Ln} {m : Md} (hw : wordsC x.1.2.data.toList ≠ []) (hm : readL verV (if accM pre = [] then kwM else kwR) (wordsC x.1.2.data.toList) = some m) : OkP (pre ++ [x]) ∧ accM (pre ++ [x]) = accM pre ++ [m] := by
  have e := scanP_snoc h x
  rw [stepL, if_neg hw, hm] at e
  simp only [] at e
  have ea : accM (pre ++ [x]) = accM pre ++ [m] := by
    show (match scanP (pre ++ [x]) with | .inr R => R | .inl _ => []) = _
    rw [e]
  exact ⟨by unfold OkP; rw [ea]; exact e, ea⟩
theorem okP_bad {pre : List Ln} (h : OkP pre) {x : Ln} (hw : wordsC x.1.2.data.toList ≠ []) (hm : readL verV (if accM pre = [] then kwM else kwR) (wordsC x.1.2.data.toList) = none) : scanP (pre ++ [x]) = .inl (pre.length + 1) := by
  have e := scanP_snoc h x
  rw [stepL, if_neg hw, hm] at e
  exact e
theorem seqF_txts : ∀ (L : List (List UInt8)) (n : Nat), n + L.length ≤ 100000 → (∀ x ∈ L, x.length ≤ 100000) → txtsL (seqF n L) = L ∧ (seqF n L).length = L.length ∧ ∀ i (h : i < (seqF n L).length), ((seqF n L)[i]).1.1 = n + i
  | [], n, _, _ => ⟨rfl, rfl, fun i h => absurd h (Nat.not_lt_zero _)⟩
  | x :: t, n, hn, hx => by
    have hlen : n + 1 + t.length ≤ 100000 := by simp at hn; omega
    obtain ⟨h1, h2, h3⟩ := seqF_txts t (n + 1) hlen (fun y hy => hx y (by simp [hy]))
    have hv := mkLn_val (n := n) (l := x) (by omega) (hx x (by simp))
    refine ⟨?_, by simp [seqF, h2], fun i h => ?_⟩
    · show (mkLn n x).1.2.data.toList :: txtsL (seqF (n + 1) t) = _
      rw [h1, hv]; rfl
    · cases i with
      | zero => show (mkLn n x).1.1 = n + 0; rw [hv]; rfl
      | succ i =>
        have := h3 i (by simpa [seqF] using h)
        show ((seqF (n + 1) t)[i]'_).1.1 = _
        rw [this]; omega
theorem linesL_count (s : List UInt8) : (linesL s).length ≤ s.length := by
  induction hn : s.length using Nat.strongRecOn generalizing s with
  | ind n ih =>
    by_cases h : s = []
    · subst h; simp [linesL_nil]
    · obtain ⟨h1, h2⟩ := linesL_cut s h
      rw [h1, List.length_cons]
      have := ih _ (by omega) (Lib.cut s [10]).2.1 rfl
      omega
theorem linesL_len (s : List UInt8) : ∀ x ∈ linesL s, x.length ≤ s.length := by
  intro x hx
  have hm : x ∈ splitL 10 s := by
    unfold linesL dropE at hx
    split at hx
    · exact List.dropLast_subset _ hx
    · exact hx
  exact splitL_len 10 s x hm
theorem allL_facts (s : ByteArray) (hs : s.size ≤ 70000) : txtsL (allL s) = linesL s.data.toList ∧ (allL s).length = (linesL s.data.toList).length ∧ ∀ i (h : i < (allL s).length), ((allL s)[i]).1.1 = i + 1 := by
  have hl : s.data.toList.length = s.size := by simp
  have h1 := linesL_count s.data.toList
  have h2 := linesL_len s.data.toList
  obtain ⟨a, b, c⟩ := seqF_txts (linesL s.data.toList) 1 (by omega) (fun x hx => by have := h2 x hx; omega)
  exact ⟨a, b, fun i h => by have := c i h; show ((seqF 1 (linesL s.data.toList))[i]'_).1.1 = _; omega⟩
def lastN (pre : List Ln) : Int := match pre.getLast? with | some x => (x.1.1 : Int) | none => 0
theorem lastN_snoc (pre : List Ln) (x : Ln) : lastN (pre ++ [x]) = (x.1.1 : Int) := by simp [lastN]
theorem lastN_all (s : ByteArray) (hs : s.size ≤ 70000) : lastN (allL s) = ((linesL s.data.toList).length : Int) := by
  obtain ⟨_, h2, h3⟩ := allL_facts s hs
  unfold lastN
  rw [List.getLast?_eq_getElem?]
  by_cases h : (allL s).length = 0
  · rw [List.length_eq_zero_iff.1 h] at h2 ⊢
    simp at h2
    simp [← h2]
  · have hi : (allL s).length - 1 < (allL s).length := by omega
    rw [List.getElem?_eq_getElem hi]
    have := h3 _ hi
    simp only []
    rw [this]; omega
/-- a block whole -/
def RowT (W : World) (g : Nat) (cs : Array Value) (T : TypeId) : Prop := W.heap[g]? = some (.cells cs T (0, 0))
theorem RowT.lt {W : World} {g : Nat} {cs : Array Value} {T : TypeId} (h : RowT W g cs T) : g < W.heap.size := (Array.getElem?_eq_some_iff.1 h).1
theorem RowT.up {W W' : World} {g N : Nat} {cs : Array Value} {T : TypeId} (h : RowT W g cs T) (hb : Below N W W') (hg : g < N) : RowT W' g cs T := (hb.block g hg).trans h
theorem RowT.other {W : World} {g g' j : Nat} {cs : Array Value} {T : TypeId} (h : RowT W g cs T) (hne : g' ≠ g) (v : Value) : RowT (W.setCell ⟨g', j, none⟩ v) g cs T := by
  unfold RowT at *
  simp [World.setCell, Array.getElem?_modify, hne, h]
theorem RowT.cell {W : World} {g : Nat} {cs : Array Value} {T : TypeId} (h : RowT W g cs T) (j : Nat) : W.cell? ⟨g, j, none⟩ = cs[j]? := by simp [World.cell?, show W.heap[g]? = _ from h]
theorem RowT.frozen {W : World} {g : Nat} {cs : Array Value} {T : TypeId} (h : RowT W g cs T) (j : Nat) : W.frozen? ⟨g, j, none⟩ = false := by simp [World.frozen?, show W.heap[g]? = _ from h]
theorem rowT_own {β : Type} (g : Nat) (cs : Array Value) (T : TypeId) : Own (fun (_ : β) W => RowT W g cs T) := fun s X Y row hs hg hrow => by
  have hs : RowT X g cs T := hs
  have hlt := hs.lt
  show RowT Y g cs T
  unfold RowT at *
  rw [hg.block g hlt (fun e => by obtain ⟨o, ho, hc⟩ := hrow g e.symm; rw [hs] at ho; cases ho; cases hc)]
  exact hs
theorem pure_own {β : Type} (p : β → Prop) : Own (fun s (_ : World) => p s) := fun s X Y row hs _ _ => hs
theorem keepsB {W W' : World} (hb : Below W.heap.size W W') : KeepsOthers W W' := ⟨hb.size, fun k o hk _ => (hb.block k (Array.getElem?_eq_some_iff.1 hk).1).trans hk⟩
/-- another type's block stays where a row of modules grows -/
theorem row_apart {W : World} {base n k : Nat} {v : Value} {xs : List Value} (hr : W.ownsRow base 25 4 v n xs) {cs : Array Value} {T : TypeId} (h : RowT W k cs T) (hT : T ≠ 25) : some k ≠ v.ownBlock := by
  rcases hr.2 with ⟨rfl, _⟩ | ⟨g, cap, cur, rfl, _, hg, _⟩
  · simp [Value.ownBlock]
  · intro e
    simp only [Value.ownBlock, Option.some.injEq] at e
    subst e
    unfold RowT at h
    rw [hg] at h
    simp at h
    exact hT h.2.symm
theorem RowT.grown {W w1 : World} {o : Obj} {k : Nat} {cs : Array Value} {T : TypeId} {row : Option Nat} (h : RowT W k cs T) (hg : (W.alloc o).grownBy w1 row) (hne : some k ≠ row) : RowT w1 k cs T := by
  have hlt := h.lt
  unfold RowT at *
  rw [hg.block k (by simp; omega) hne, ((Below.refl W.heap.size W).alloc (Nat.le_refl _) o).block k hlt]
  exact h
end Go.Proofs.YtaeideimlagheaaGreatDoor
