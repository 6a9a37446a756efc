/-
  What stands for a byte in a literal. No condition.
-/
import Derived.Test.YthlcdimofagmfaaGreatDoorProg
import Derived.WalkKit
import Derived.WalkSpells
import Derived.WalkLawsBesides
import Derived.Lib.Hide
import Derived.Below
import Derived.BigQuiet
import Derived.Deep.QuietTactic
import Derived.RangeFuncNested
import Derived.RangeFuncBound
import Derived.RangeFuncCalls
import Derived.RangeFuncLeaves
import Derived.RangeFuncFrom
import Derived.Shelf.Abstract
import Derived.Shelf.RegionOpen
import Derived.OwnWalkIn
import Derived.TacticsInMore
import Derived.LoopNIn
import Derived.LoopIn
import Derived.Shelf.Strings.BuilderK
import Derived.Test.YthlcdimofagmfaaGreatDoorShelf
import Derived.Test.YthlcdimofagmfaaGreatDoorBs
namespace Go.Proofs.YthlcdimofagmfaaGreatDoor.Qt
open Go.RowKit
set_option linter.unusedSimpArgs false
set_option linter.unusedVariables false

def prB (c : UInt8) : Bool := decide (32 ≤ c.toNat) && decide (c.toNat ≤ 126)
theorem ret_bool {a b : Bool} (h : a = b) : Ending.returned (.bool a) = .returned (.bool b) := by rw [h]
theorem ret_int {k : IntKind} {a b : Int} (h : a = b) : Ending.returned (.int k a) = .returned (.int k b) := by rw [h]

set_option maxHeartbeats 1000000 in
theorem printable_any (n : Nat) (w : World) :
    Calls Tryz.prog 127 #[.int .u8 (n : Int)] w fun e w' => e = .returned (.bool (decide (32 ≤ n) && decide (n ≤ 126))) ∧ w = w' := by
  by_cases h1 : 32 ≤ n
  · go_enter Tryz.func127, Tryz.ntmps127
    go_wp2
    go_ret
    exact ⟨ret_bool (by simp [h1] <;> omega), rfl⟩
  · go_enter Tryz.func127, Tryz.ntmps127
    go_wp2
    go_ret
    exact ⟨ret_bool (by simp [h1] <;> omega), rfl⟩

def hexD (n : Nat) : UInt8 := if n < 10 then UInt8.ofNat (48 + n) else UInt8.ofNat (87 + n)
/-- what stands for a byte in a literal -/
def wrB (c : UInt8) : List UInt8 :=
  if c = 34 ∨ c = 92 then [92, c] else if c = 10 then [92, 110] else if c = 9 then [92, 116] else if c = 13 then [92, 114]
  else if 32 ≤ c.toNat ∧ c.toNat ≤ 126 then [c] else [92, 120, hexD (c.toNat / 16), hexD (c.toNat % 16)]

theorem one_byte (s : ByteArray) (hs : s.size = 1) (h : 0 < s.size) : s = ⟨#[s[0]]⟩ := by
  obtain ⟨⟨l⟩⟩ := s
  match l, hs with
  | [c], _ => rfl
theorem app1 (x : List UInt8) (s : ByteArray) (hs : s.size = 1) (h : 0 < s.size) : (⟨x.toArray⟩ : ByteArray) ++ s = ⟨(x ++ [s[0]]).toArray⟩ := by
  obtain ⟨⟨l⟩⟩ := s
  match l, hs with
  | [c], _ =>
    apply ByteArray.ext
    simp
    rfl
theorem nat_u8 {c : UInt8} {n : Nat} (h : c.toNat = n) (hn : n < 256) : c = UInt8.ofNat n := by subst h; simp
theorem wr_q {c : UInt8} (h : c.toNat = 34 ∨ c.toNat = 92) : wrB c = [92, c] := by
  unfold wrB
  rw [if_pos]
  rcases h with h | h
  · left; exact nat_u8 (n := 34) h (by omega)
  · right; exact nat_u8 (n := 92) h (by omega)
theorem ne_u8 {c : UInt8} {n : Nat} (h : c.toNat ≠ n) (hn : n < 256) : c ≠ UInt8.ofNat n := by
  intro e; subst e; apply h; simp; omega
theorem wr_c {c : UInt8} (h1 : c.toNat ≠ 34) (h2 : c.toNat ≠ 92) (hp : 32 ≤ c.toNat ∧ c.toNat ≤ 126) : wrB c = [c] := by
  have q1 := ne_u8 h1 (by omega); have q2 := ne_u8 h2 (by omega)
  have q3 : c ≠ 10 := ne_u8 (c := c) (n := 10) (by omega) (by omega)
  have q4 : c ≠ 9 := ne_u8 (c := c) (n := 9) (by omega) (by omega)
  have q5 : c ≠ 13 := ne_u8 (c := c) (n := 13) (by omega) (by omega)
  unfold wrB
  rw [if_neg (by rintro (h | h); exact q1 h; exact q2 h), if_neg q3, if_neg q4, if_neg q5, if_pos hp]
theorem wr_x {c : UInt8} (h3 : c.toNat ≠ 10) (h4 : c.toNat ≠ 9) (h5 : c.toNat ≠ 13) (hp : ¬ (32 ≤ c.toNat ∧ c.toNat ≤ 126)) : wrB c = [92, 120, hexD (c.toNat / 16), hexD (c.toNat % 16)] := by
  have q1 : c ≠ 34 := ne_u8 (c := c) (n := 34) (by omega) (by omega)
  have q2 : c ≠ 92 := ne_u8 (c := c) (n := 92) (by omega) (by omega)
  have q3 : c ≠ 10 := ne_u8 (n := 10) h3 (by omega)
  have q4 : c ≠ 9 := ne_u8 (n := 9) h4 (by omega)
  have q5 : c ≠ 13 := ne_u8 (n := 13) h5 (by omega)
  unfold wrB
  rw [if_neg (by rintro (h | h); exact q1 h; exact q2 h), if_neg q3, if_neg q4, if_neg q5, if_neg hp]
abbrev hexS : ByteArray := ⟨#[48, 49, 50, 51, 52, 53, 54, 55, 56, 57, 97, 98, 99, 100, 101, 102]⟩
theorem hex_at : ∀ d : Fin 16, (hexS.extract d.val (d.val + 1)).data.toList = [hexD d.val] := by decide +kernel
theorem hex_ba (d : Nat) (h : d < 16) : hexS.extract d (d + 1) = ⟨#[hexD d]⟩ := by
  have := hex_at ⟨d, h⟩
  apply ByteArray.ext
  apply Array.ext'
  exact this
theorem hex_two (d1 d2 : Nat) (h1 : d1 < 16) (h2 : d2 < 16) : (⟨#[92, 120]⟩ : ByteArray) ++ hexS.extract d1 (d1 + 1) ++ hexS.extract d2 (d2 + 1) = ⟨[92, 120, hexD d1, hexD d2].toArray⟩ := by
  rw [hex_ba d1 h1, hex_ba d2 h2]
  apply ByteArray.ext
  rfl
theorem and15 : ∀ n : Fin 256, bits .and .u8 (n.val : Int) 15 = ((n.val % 16 : Nat) : Int) := by decide +kernel
set_option maxHeartbeats 1000000 in
theorem written_any (s : ByteArray) (hs : s.size = 1) (h0 : 0 < s.size) (w : World) :
    Calls Tryz.prog 98 #[.string s] w fun e w' => e = .returned (.string ⟨(wrB s[0]).toArray⟩) ∧ ∃ n, w' = w.drewN n := by
  have hlt := (s[0]).toNat_lt
  have hle : s.size ≤ 1 := by omega
  have HS := Lib.hid hs
  have w1 : ∀ d : Int, 0 ≤ d → d < 16 → IntKind.u8.wrap (d + 1) = d + 1 := fun d a b => by simp [IntKind.wrap, IntKind.bits, IntKind.signed]; omega
  obtain ⟨d1, hd1⟩ : ∃ d, d = s[0].toNat / 16 := ⟨_, rfl⟩
  obtain ⟨d2, hd2⟩ : ∃ d, d = s[0].toNat % 16 := ⟨_, rfl⟩
  have e1 : ((s[0]).toNat : Int) / 16 = (d1 : Int) := by omega
  have e2 : bits .and .u8 ((s[0]).toNat : Int) 15 = (d2 : Int) := by rw [hd2]; exact and15 ⟨s[0].toNat, by omega⟩
  have l1 : d1 < 16 := by omega
  have l2 : d2 < 16 := by omega
  have f1 := w1 d1 (by omega) (by omega)
  have f2 := w1 d2 (by omega) (by omega)
  have HD1 := Lib.hid hd1
  have HD2 := Lib.hid hd2
  clear hs hd1 hd2 w1
  go_enter Tryz.func98, Tryz.ntmps98
  go_wp2_with (go_at_call 127; refine (printable_any _ _).mono ?_; rintro e w1 ⟨rfl, rfl⟩)
  case' _ => skip
  · go_ret; exact ⟨by rw [wr_q (.inl (by omega))]; exact congrArg _ (congrArg _ (app1 [92] s HS.out h0)), 0, rfl⟩
  · go_ret; exact ⟨by rw [wr_q (by simp at *; omega)]; exact congrArg _ (congrArg _ (app1 [92] s HS.out h0)), 0, rfl⟩
  · go_ret; exact ⟨by rw [nat_u8 (c := s[0]) (n := 10) (by simp at *; omega) (by omega)]; rfl, 0, rfl⟩
  · go_ret; exact ⟨by rw [nat_u8 (c := s[0]) (n := 9) (by simp at *; omega) (by omega)]; rfl, 0, rfl⟩
  · go_ret; exact ⟨by rw [nat_u8 (c := s[0]) (n := 13) (by simp at *; omega) (by omega)]; rfl, 0, rfl⟩
  · go_quiet (fail)
    go_wp2_with fail
    go_ret
    exact ⟨by rw [wr_x (by simp at *; omega) (by simp at *; omega) (by simp at *; omega) (by simp at *; omega), ← HD1.out, ← HD2.out, hex_two d1 d2 l1 l2]; rfl, nq, rfl⟩
  · go_ret; exact ⟨by rw [wr_c (by simp at *; omega) (by simp at *; omega) (by simp at *; omega)]; exact congrArg _ (congrArg _ (one_byte s HS.out h0)), 0, rfl⟩
end Go.Proofs.YthlcdimofagmfaaGreatDoor.Qt
namespace Go.Proofs.YthlcdimofagmfaaGreatDoor.Qt
open Go.RowKit Go.Shelf
set_option linter.unusedSimpArgs false
set_option linter.unusedVariables false
attribute [local go_sem] Oper.semAt_some

/-- the box of a string stands as it stood -/
def KpS (pc : Nat) (s : ByteArray) (W W' : World) : Prop := W.heap[pc]? = some (.cells #[.string s] 9 (0, 0)) → W'.heap[pc]? = some (.cells #[.string s] 9 (0, 0))
theorem kpS_t {pc : Nat} {s : ByteArray} {A B C : World} (h : KpS pc s A B) (k : KpS pc s B C) : KpS pc s A C := fun x => k (h x)
theorem kpS_b {pc : Nat} {s : ByteArray} {w : World} (W : World) (l : Nat) (o o' : Obj) (_ : w.heap.size ≤ l) (h : W.heap[l]? = some o) (ho : o.isCells = false) (_ : o.isWalk = false) : KpS pc s W (W.putObj l o') := by
  intro hx
  rw [World.putObj_heap_other]
  · exact hx
  · intro e; subst e; rw [hx] at h; cases h; simp [Obj.isCells] at ho

theorem escapes_in (F : Fence) (n : Nat) (h26 : F.fn 61) (hro : F.round = none) (s : ByteArray) (w : World) :
    CallsIn F n Tryz.prog 61 #[.string s] w fun e w' => e = .returned (.func (.func 97) #[] #[.pointer (some ⟨w.heap.size, 0, none⟩)]) ∧ w' = w.alloc (.cells #[.string s] 9) := by
  refine callsIn_of_wp Tryz.func61 rfl h26 ?_ hro
  simp only [Tryz.ntmps61, List.size_toArray, List.length_cons, List.length_nil, Nat.reduceAdd, Nat.reduceSub, Array.replicate_succ, Array.replicate_zero, List.push_toArray, List.append_toArray, List.nil_append, List.cons_append]
  gi_wp2
  go_ret
  exact ⟨rfl, rfl⟩

theorem grownBy_drewN (w : World) (n : Nat) : w.grownBy (w.drewN n) none := by
  constructor <;> first | rfl | exact Nat.le_refl _ | (intros; rfl)
theorem take_snoc (l : List UInt8) (k : Nat) (h : k < l.length) : l.take (k + 1) = l.take k ++ [l[k]] := by
  rw [List.take_succ_eq_append_getElem h]
theorem slice1 (s : ByteArray) (k : Nat) (h : k < s.size) : (s.extract k (k + 1)).size = 1 ∧ ∀ h', (s.extract k (k + 1))[0]'h' = s[k] := by
  constructor
  · simp; omega
  · intro h'
    rw [ByteArray.getElem_extract]
    simp

set_option maxRecDepth 100000 in
set_option maxHeartbeats 2000000 in
theorem esc1_in (n : Nat) (hn : 4 ≤ n) (l pc : Nat) (s : ByteArray) (hs : s.size ≤ 4611686018427387904) (J Jx : List UInt8 → World → Prop)
    (hY : ∀ pre x W, J pre W → pre.length < s.size → YieldAt Fence.wide (n - 1) Tryz.prog l #[.string ⟨(wrB x).toArray⟩] W fun e W' =>
      (e = .returned (.bool true) ∧ J (pre ++ [x]) W' ∧ KpS pc s W W') ∨ (e = .returned (.bool false) ∧ Jx (pre ++ [x]) W'))
    (W : World) (hJ : ∀ pre A m, J pre A → J pre (A.drewN m)) (hpc : W.heap[pc]? = some (.cells #[.string s] 9 (0, 0))) (h0 : J [] W) :
    CallsIn Fence.wide n Tryz.prog 97 #[.func (.yield l) #[] #[], .pointer (some ⟨pc, 0, none⟩)] W fun e W' => (∃ v, e = .returned v) ∧
      ((∃ ys, ys = s.data.toList ∧ J ys W') ∨ (∃ pre, (∃ k, k ≤ s.size ∧ pre = s.data.toList.take k) ∧ Jx pre W')) := by
  have hlen : s.data.toList.length = s.size := by simp
  refine callsIn_of_wp Tryz.func97 rfl trivial ?_ rfl
  simp only [Tryz.ntmps97, List.size_toArray, List.length_cons, List.length_nil, Nat.reduceAdd, Nat.reduceSub, Array.replicate_succ, Array.replicate_zero, List.push_toArray, List.append_toArray, List.nil_append, List.cons_append]
  have hcell : ∀ A : World, A.heap[pc]? = some (.cells #[.string s] 9 (0, 0)) → A.cell? ⟨pc, 0, none⟩ = some (.string s) := fun A h => by simp [World.cell?, h]
  have hc0 := hcell W hpc
  have HC := Lib.hid hcell
  clear hcell
  gi_wp2
  gi_loopw [6] (fun i wr => ∃ k : Nat, k ≤ s.size ∧ i = .int .i64 k ∧ J (s.data.toList.take k) wr ∧ wr.heap[pc]? = some (.cells #[.string s] 9 (0, 0)))
    (fun i _ => s.size - (intOf i).toNat)
  case atStart => exact ⟨0, Nat.zero_le _, rfl, h0, hpc⟩
  case round =>
    obtain ⟨k, hk, rfl, hJs, hpw⟩ := hrel
    have hcx := HC.out wr hpw
    by_cases hlt : k < s.size
    · obtain ⟨z1, z2⟩ := slice1 s k hlt
      have Z1 := Lib.hid z1
      have Z2 := Lib.hid z2
      have HPW := Lib.hid hpw
      clear z1 z2 hpw
      gi_wp2_with fail
      refine ⟨trivial, fun _ => by omega, ?_⟩
      refine (callsIn_wide.2 (written_any _ Z1.out (by have := Z1.out; omega) wr)).mono ?_
      rintro e w1 ⟨rfl, m, rfl⟩
      rw [Z2.out]
      have hJ1 := hJ _ _ m hJs
      have hpw1 : (wr.drewN m).heap[pc]? = some (.cells #[.string s] 9 (0, 0)) := HPW.out
      obtain ⟨fn, tmps, assign, body, hy, hR⟩ := hY _ s[k] (wr.drewN m) hJ1 (by rw [List.length_take]; omega)
      gi_wp2_with fail
      refine ⟨fun _ => by omega, hR.mono ?_⟩
      rintro e W3 (⟨rfl, hJ3, hk3⟩ | ⟨rfl, hJx3⟩)
      · have hp3 := hk3 hpw1
        have hts := take_snoc s.data.toList k (by omega)
        gi_wp2
        go_roundw
        case rel => exact ⟨k + 1, by omega, by simp, by rw [hts]; exact hJ3, hp3⟩
        case measure => simp [intOf]; omega
      · gi_wp2
        refine bodyPost_ret (results_none rfl _ _ _) rfl ?_
        exact ⟨⟨_, rfl⟩, .inr ⟨_, ⟨k + 1, by omega, (take_snoc s.data.toList k (by omega)).symm⟩, hJx3⟩⟩
    · obtain rfl : k = s.size := by omega
      gi_wp2
      go_end0
      exact ⟨⟨_, rfl⟩, .inl ⟨_, rfl, by rw [List.take_of_length_le (by omega)] at hJs; exact hJs⟩⟩
theorem esc_stops (n : Nat) (hn : 4 ≤ n) (pc : Nat) (s : ByteArray) (hs : s.size ≤ 4611686018427387904) (w : World) (hpc : w.heap[pc]? = some (.cells #[.string s] 9 (0, 0))) :
    SeqStopsK Fence.wide n Tryz.prog 97 #[.pointer (some ⟨pc, 0, none⟩)] (fun x : UInt8 => #[Value.string ⟨(wrB x).toArray⟩]) (KpS pc s) (fun ys => ys = s.data.toList) (fun pre => pre <+: s.data.toList) s.size w := fun l J Jx W hW hA hAx hY h0 => by
  have hlt : pc < w.heap.size := (Array.getElem?_eq_some_iff.1 hpc).1
  have hpc' : W.heap[pc]? = some (.cells #[.string s] 9 (0, 0)) := by rw [hW.block pc hlt]; exact hpc
  refine (esc1_in n hn l pc s hs J Jx hY W (fun pre A m h => hA _ _ _ none h (grownBy_drewN A m) (fun r e => by cases e)) hpc' h0).mono ?_
  rintro e W' ⟨he, ⟨ys, rfl, hj⟩ | ⟨pre, ⟨k, hk, rfl⟩, hj⟩⟩
  · exact ⟨he, .inl ⟨_, rfl, hj⟩⟩
  · exact ⟨he, .inr ⟨_, List.take_prefix _ _, hj⟩⟩
end Go.Proofs.YthlcdimofagmfaaGreatDoor.Qt
namespace Go.Proofs
open Go.Shelf
def Tryz.lays167_ren : Go.Shelf.Ren := ⟨fun | 167 => 60 | 240 => 82 | 276 => 119 | n => n, fun | 0 => 0 | 4 => 4 | 5 => 5 | 9 => 9 | 20 => 20 | 37 => 52 | 70 => 82 | 72 => 84 | 75 => 86 | 80 => 90 | 164 => 135 | n => n, fun | n => n⟩
theorem Tryz.lays167 : Go.Proofs.Lays.n167 Tryz.prog Tryz.lays167_ren := {
  mixed := by kernel_rfl
  f167 := Tryz.func60.trans (congrArg some (by kernel_rfl))
  f240 := Tryz.func82.trans (congrArg some (by kernel_rfl))
  f276 := Tryz.func119.trans (congrArg some (by kernel_rfl))
  t0 := Tryz.underlying0
  a0 := Tryz.isAgg0
  z0 := Tryz.sizeOf0
  v0 := Tryz.zeroValue0
  t4 := Tryz.underlying4
  a4 := Tryz.isAgg4
  z4 := Tryz.sizeOf4
  v4 := Tryz.zeroValue4
  t5 := Tryz.underlying5
  a5 := Tryz.isAgg5
  z5 := Tryz.sizeOf5
  v5 := Tryz.zeroValue5
  t9 := Tryz.underlying9
  a9 := Tryz.isAgg9
  z9 := Tryz.sizeOf9
  v9 := Tryz.zeroValue9
  t20 := Tryz.underlying20
  a20 := Tryz.isAgg20
  z20 := Tryz.sizeOf20
  v20 := Tryz.zeroValue20
  t37 := Tryz.underlying52
  a37 := Tryz.isAgg52
  z37 := Tryz.sizeOf52
  v37 := Tryz.zeroValue52
  t70 := Tryz.underlying82
  a70 := Tryz.isAgg82
  z70 := Tryz.sizeOf82
  v70 := Tryz.zeroValue82
  t72 := Tryz.underlying84
  a72 := Tryz.isAgg84
  z72 := Tryz.sizeOf84
  v72 := Tryz.zeroValue84
  t75 := Tryz.underlying86
  a75 := Tryz.isAgg86
  z75 := Tryz.sizeOf86
  v75 := Tryz.zeroValue86
  t164 := Tryz.underlying135
  a164 := Tryz.isAgg135
  z164 := Tryz.sizeOf135
  v164 := Tryz.zeroValue135 }
theorem Tryz.Builder_Extra_167 : Builder.Extra Tryz.prog Tryz.lays167_ren := {
  sizeBuilder := by kernel_rfl
  liesBuilder := by kernel_rfl
  t5 := Tryz.underlying5
  a5 := Tryz.isAgg5
  z5 := Tryz.sizeOf5
  v5 := Tryz.zeroValue5
  infoByte := by kernel_rfl
  cellsByte := by kernel_rfl
  sizeByte := by kernel_rfl
  neB5 := by decide }
open Go.RowKit in
theorem Tryz.writeByte (B b : Nat) (bs : List Value) (c : Int) (w : World) (h : Lib.IsBuilderF 84 5 B b bs w) (hlen : bs.length + 1 ≤ 140737488355328) (hBw : B ≤ w.heap.size) :
    Calls Tryz.prog 60 #[.pointer (some ⟨b, 0, none⟩), .int .u8 c] w fun e w' => e = .returned .nilIface ∧ (Lib.BuilderAtF 84 5 B b (.pointer (some ⟨b, 0, none⟩)) (bs ++ [.int .u8 c]) w' ∧ Below B w w' ∧ Lib.OthersKept 5 (some b) w w') :=
  Any.Builder_WriteByte_k Tryz.lays167 Tryz.Builder_Extra_167 B b bs c w h hlen hBw
end Go.Proofs
namespace Go.Proofs.YthlcdimofagmfaaGreatDoor.Qt
open Go.RowKit Go.Shelf
set_option linter.unusedSimpArgs false
set_option linter.unusedVariables false
attribute [local go_sem] Oper.semAt_some

/-- the bytes of a literal, between its quotes -/
def body (l : List UInt8) : List UInt8 := l.flatMap wrB
def quoteL (l : List UInt8) : List UInt8 := [34] ++ body l ++ [34]
theorem wrB_len (c : UInt8) : (wrB c).length ≤ 4 := by unfold wrB; (repeat' split) <;> simp
theorem body_len (l : List UInt8) : (body l).length ≤ 4 * l.length := by
  induction l with
  | nil => simp [body]
  | cons c t ih => have := wrB_len c; simp [body] at ih ⊢; omega
theorem body_snoc (l : List UInt8) (c : UInt8) : body (l ++ [c]) = body l ++ wrB c := by simp [body]
theorem strCells_of (l : List UInt8) : Lib.strCells ⟨l.toArray⟩ = Lib.byteCells l := by simp [Lib.strCells, Lib.byteCells]
theorem byteCells_app (a b : List UInt8) : Lib.byteCells (a ++ b) = Lib.byteCells a ++ Lib.byteCells b := by simp [Lib.byteCells]
/-- a builder, in the blocks of a call -/
def Bld (B b : Nat) (l : List UInt8) (w : World) : Prop := Lib.IsBuilderF 84 5 B b (Lib.byteCells l) w
theorem bld_own (B b : Nat) (f : List UInt8 → List UInt8) : Own (fun (pre : List UInt8) W => Bld B b (f pre) W) := by
  intro s A C row hs hg hr
  have key : ∀ p, Lib.BuilderAtF 84 5 B b p (Lib.byteCells (f s)) A → Lib.BuilderAtF 84 5 B b p (Lib.byteCells (f s)) C := by
    rintro p ⟨hB, v, hbk, hown, hne⟩
    have hcells : ∀ (k : Nat) (o : Obj), A.heap[k]? = some o → o.isCells = true → C.heap[k]? = some o := by
      intro k o hk ho
      rw [hg.block k (Array.getElem?_eq_some_iff.1 hk).1]
      · exact hk
      · intro e
        obtain ⟨o', ho', hc⟩ := hr k e.symm
        rw [hk] at ho'; cases ho'; rw [ho] at hc; cases hc
    refine ⟨hB, v, hcells b _ hbk rfl, ?_, hne⟩
    refine ⟨hown.1, ?_⟩
    rcases hown.2 with h | ⟨g, cap, cur, fz, hv, hbg, hgk, r⟩
    · exact .inl h
    · exact .inr ⟨g, cap, cur, fz, hv, hbg, hcells g _ hgk rfl, r⟩
  rcases hs with h | h
  · exact .inl (key _ h)
  · exact .inr (key _ h)
theorem keeps_of {B b : Nat} {l : List UInt8} {w w' : World} (h : Lib.OthersKept 5 (some b) w w') (hb : Bld B b l w) (hsz : w.heap.size ≤ w'.heap.size) : KeepsOthers w w' := by
  refine ⟨hsz, fun k o hk ho => h k o hk ?_ ?_⟩
  · intro e
    cases e
    rcases hb with h | h <;> (obtain ⟨_, v, hbk, _⟩ := h; rw [hk] at hbk; cases hbk; cases ho)
  · intro c fz e; subst e; cases ho
theorem kpS_of {pc b : Nat} {s : ByteArray} {w w' : World} (h : Lib.OthersKept 5 (some b) w w') (hne : pc ≠ b) : KpS pc s w w' := by
  intro hx
  refine h pc _ hx (fun e => hne (by injection e)) ?_
  intro c fz e
  cases e
theorem grow_at (n : Nat) (hn : n ≤ 1099511627776) (w : World) (hbk : w.heap[w.heap.size - 1]? = some (.cells #[.pointer none, .slice none 0 0] 84 (0, 0))) (B : Nat) (hB : B = w.heap.size - 1) :
    Calls Tryz.prog 59 #[.pointer (some ⟨B, 0, none⟩), .int .i64 ((n : Int) + 2)] w fun e w' => e = .returned (.tuple #[]) ∧ Bld B B [] w' ∧ Below B w w' := by
  subst hB
  have := Tryz.Builder_Grow_fresh (w.heap.size - 1) (w.heap.size - 1) (n + 2) w (Nat.le_refl _) hbk (by omega) (by omega)
  rw [show ((n + 2 : Nat) : Int) = (n : Int) + 2 by omega] at this
  refine this.mono ?_
  rintro e w' ⟨rfl, h1, h2⟩
  exact ⟨rfl, Lib.IsBuilderF.of (.inr h1), h2⟩
theorem wbyte_at {B b : Nat} {l : List UInt8} (c : UInt8) (w : World) (h : Bld B b l w) (hlen : l.length ≤ 70368744177664) (hBw : B ≤ w.heap.size) :
    Calls Tryz.prog 60 #[.pointer (some ⟨b, 0, none⟩), .int .u8 (c.toNat : Int)] w fun e w' => e = .returned .nilIface ∧ Bld B b (l ++ [c]) w' ∧ Below B w w' ∧ Lib.OthersKept 5 (some b) w w' := by
  refine (Tryz.writeByte B b (Lib.byteCells l) c.toNat w h (by simp [Lib.byteCells]; omega) hBw).mono ?_
  rintro e w' ⟨rfl, h1, h2, h3⟩
  refine ⟨rfl, .inr ?_, h2, h3⟩
  rw [byteCells_app]; exact h1
theorem wstr_at {B b : Nat} {l : List UInt8} (x : List UInt8) (w : World) (h : Bld B b l w) (hlen : l.length ≤ 70368744177664) (hx : x.length ≤ 1048576) (hBw : B ≤ w.heap.size) :
    Calls Tryz.prog 52 #[.pointer (some ⟨b, 0, none⟩), .string ⟨x.toArray⟩] w fun e w' => (∃ n, e = .returned (.tuple #[.int .i64 n, .nilIface])) ∧ Bld B b (l ++ x) w' ∧ Below B w w' ∧ Lib.OthersKept 5 (some b) w w' := by
  refine (Tryz.writeString B b (Lib.byteCells l) ⟨x.toArray⟩ w h (by simp [Lib.byteCells, ByteArray.size]; omega) hBw).mono ?_
  rintro e w' ⟨rfl, h1, h2, h3⟩
  refine ⟨⟨_, rfl⟩, .inr ?_, h2, h3⟩
  rw [byteCells_app, ← strCells_of x]; exact h1
theorem bstring_at {B b : Nat} {l : List UInt8} (w : World) (h : Bld B b l w) (hBw : B ≤ w.heap.size) :
    Calls Tryz.prog 55 #[.pointer (some ⟨b, 0, none⟩)] w fun e w' => e = .returned (.string ⟨l.toArray⟩) ∧ Bld B b l w' ∧ Below B w w' ∧ Lib.OthersKept 5 (some b) w w' := by
  refine (Tryz.builderString B b l w h hBw).mono ?_
  rintro e w' ⟨rfl, h1, h2, h3⟩
  exact ⟨rfl, h1, h2, h3⟩
theorem Bld.lt {B b : Nat} {l : List UInt8} {w : World} (h : Bld B b l w) : b < w.heap.size := by
  rcases h with h | h <;> (obtain ⟨_, v, hbk, _⟩ := h; exact (Array.getElem?_eq_some_iff.1 hbk).1)

set_option maxRecDepth 100000 in
set_option maxHeartbeats 2000000 in
theorem quote_any (s : ByteArray) (hs : s.size ≤ 1099511627776) (w : World) :
    Calls Tryz.prog 36 #[.string s] w fun e w' => e = .returned (.string ⟨(quoteL s.data.toList).toArray⟩) ∧ Below w.heap.size w w' := by
  refine (callsIn_wide (n := 8)).1 ?_
  refine callsIn_of_wp_marks Tryz.func36 rfl trivial ?_ rfl
  simp only [Tryz.ntmps36, List.size_toArray, List.length_cons, List.length_nil, Nat.reduceAdd, Nat.reduceSub, Array.replicate_succ, Array.replicate_zero, List.push_toArray, List.append_toArray, List.nil_append, List.cons_append]
  gi_wp2_with fail
  refine ⟨trivial, ?_⟩
  refine (callsIn_wide.2 (grow_at s.size hs _ (by rw [World.size_alloc, Nat.add_sub_cancel]; exact World.alloc_heap_new _ _) _ (by rw [World.size_alloc, Nat.add_sub_cancel]))).mono ?_
  rintro e w1 ⟨rfl, b1, hb1⟩
  have B1 : Below w.heap.size w w1 := ((Below.refl w.heap.size w).alloc (Nat.le_refl _) _).trans hb1
  clear hb1
  gi_wp2_with fail
  refine ⟨trivial, ?_⟩
  refine (callsIn_wide.2 (wbyte_at 34 w1 b1 (by simp) B1.size)).mono ?_
  rintro e w2 ⟨rfl, b2, hb2, _⟩
  have B2 : Below w.heap.size w w2 := B1.trans hb2
  have l2 := b2.lt
  clear hb2 b1 B1
  gi_wp2_with fail
  refine ⟨trivial, ?_⟩
  refine (escapes_in Fence.wide _ trivial rfl s w2).mono ?_
  rintro e w3 ⟨rfl, rfl⟩
  gi_wp2_with fail
  have hbl := body_len s.data.toList
  have hln : s.data.toList.length = s.size := by simp
  have hW3 : Below w.heap.size w (w2.alloc (.cells #[.string s] 9)) := B2.alloc B2.size _
  have b3 : Bld w.heap.size w.heap.size [34] (w2.alloc (.cells #[.string s] 9)) := by
    refine bld_own w.heap.size w.heap.size (fun _ => [34]) [] w2 _ none b2 (World.grownBy_alloc _ _ _) (fun r e => by cases e)
  have hpc : (w2.alloc (.cells #[.string s] 9)).heap[w2.heap.size]? = some (.cells #[.string s] 9 (0, 0)) := World.alloc_heap_new _ _
  refine wpIn_rangeFunc_ownF rfl (by omega) (gf := 97) (lb := #[.pointer (some ⟨w2.heap.size, 0, none⟩)]) rfl trivial (enters_of Tryz.func97 (by kernel_rfl) rfl)
    (esc_stops 7 (by omega) w2.heap.size s (by omega) _ hpc) kpS_t kpS_b (Below.refl _ _) (fun _ => rfl)
    (fun pre W => Bld w.heap.size w.heap.size ([34] ++ body pre) W ∧ Below w.heap.size w W)
    (fun _ _ _ => False)
    (OwnFrom.and (Own.from (bld_own w.heap.size w.heap.size (fun pre => [34] ++ body pre)) _) (ownFrom_below (Nat.le_refl _) (by have := B2.size; simp; omega)))
    (fun _ _ _ _ _ hs _ _ => hs)
    ⟨b3, hW3⟩
    (fun x => { tmps := #[.string s, undef, .string ⟨#[]⟩, .pointer (some ⟨w.heap.size, 0, none⟩), .string ⟨(wrB x).toArray⟩, .string s, .int .i64 s.size, .int .i64 ((s.size : Int) + 2), .tuple #[], .nilIface, .string s, .func (.func 97) #[] #[.pointer (some ⟨w2.heap.size, 0, none⟩)], .string ⟨(wrB x).toArray⟩, undef, undef, undef, undef], defers := [] }) ?assign ?body ?done ?stop
  case assign =>
    intro l x W K hK
    gi_wp2
    exact hK
  case body =>
    rintro l pre x W ⟨hb, hB⟩ hlen
    have h4 := body_len pre
    gi_wp2_with fail
    refine ⟨trivial, ?_⟩
    refine (CallsIn.inRound l (callsIn_wide.2 (wstr_at (wrB x) W hb (by simp; omega) (by have := wrB_len x; omega) hB.size))).mono ?_
    rintro e W1 ⟨⟨nn, rfl⟩, hb1, hB1, hk1⟩
    gi_wp2_with fail
    exact ⟨keeps_of hk1 hb hB1.size, kpS_of hk1 (by omega), by rw [body_snoc, ← List.append_assoc]; exact hb1, hB.trans hB1⟩
  case done =>
    rintro D xs W hD rfl ⟨hb, hB⟩ hK
    gi_wp2_with fail
    refine ⟨trivial, ?_⟩
    refine (callsIn_wide.2 (wbyte_at 34 W hb (by simp; omega) hB.size)).mono ?_
    rintro e W1 ⟨rfl, hb1, hB1, hk1⟩
    have hK1 := (keeps_of hk1 hb hB1.size).same D _ hK rfl
    have hBB := hB.trans hB1
    gi_wp2_with fail
    refine ⟨trivial, ?_⟩
    refine (callsIn_wide.2 (bstring_at W1 hb1 hBB.size)).mono ?_
    rintro e W2 ⟨rfl, hb2', hB2, hk2⟩
    have hK2 := (keeps_of hk2 hb1 hB2.size).same D _ hK1 rfl
    have hBC := hBB.trans hB2
    have hDw : w.heap.size ≤ D := by have := B2.size; simp at hD; omega
    gi_wp2_with fail
    refine ⟨by simp, .inl ⟨_, _, rfl, run_takeDeferred hK2, ?_⟩⟩
    exact ⟨_, results_tmp rfl _ _ _, rfl, hBC.trans (belowK_b (w := w) (Nat.le_refl _) W2 D _ _ hDw hK2 rfl rfl)⟩
  case stop =>
    rintro D c pre W _ _ h _
    exact h.elim
end Go.Proofs.YthlcdimofagmfaaGreatDoor.Qt
