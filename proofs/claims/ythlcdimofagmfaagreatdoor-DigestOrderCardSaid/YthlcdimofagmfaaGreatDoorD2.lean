/-
  The text of a sum. No condition.
-/
import Derived.Test.YthlcdimofagmfaaGreatDoorD1
import Derived.Laws.IdiomStrings
import Derived.Laws.BytesArg
import Derived.OwnWalk
import Derived.ArgAppend
import Derived.Lib.SlBytesConst
namespace Go.Proofs.YthlcdimofagmfaaGreatDoor.Dg
open Go.RowKit
set_option linter.unusedSimpArgs false
set_option linter.unnecessarySimpa false
set_option linter.unusedVariables false
theorem own_below {B : Nat} {e : TypeId} {k : Nat} {v : Value} {n : Nat} {xs : List Value} {w w' : World} (h : w.ownsRow B e k v n xs) (hb : Below w.heap.size w w') : w'.ownsRow B e k v n xs := by
  refine ⟨h.1, ?_⟩
  rcases h.2 with h' | ⟨g, cap, cur, hv, hbg, hg, r⟩
  · exact .inl h'
  · have hlt : g < w.heap.size := (Array.getElem?_eq_some_iff.1 hg).1
    exact .inr ⟨g, cap, cur, hv, hbg, by rw [hb.block g hlt]; exact hg, r⟩
theorem cells_new1 (w : World) (x : Value) (T : TypeId) : ∀ j u, [x][j]? = some u → (w.alloc (.cells #[x] T)).cell? ((⟨w.heap.size, 0, none⟩ : Addr).add j) = some u := by
  intro j u h
  rw [show (⟨w.heap.size, 0, none⟩ : Addr).add j = ⟨w.heap.size, j, none⟩ by simp [Addr.add]; exact fun e => e.symm, World.cell?_alloc_new]
  simpa using h
theorem own_string {B : Nat} {v : Value} {l : List UInt8} {w : World} (h : w.ownsRow B 5 1 v l.length (Lib.byteCells l)) :
    (convert 52 9 v).run Tryz.prog w = .ok (.string ⟨l.toArray⟩) w := by
  rcases id h.2 with ⟨hv, hn⟩ | ⟨g, cap, cur, hv, hbg, hg, r⟩
  · subst hv
    have : l = [] := List.eq_nil_of_length_eq_zero hn
    subst this
    rw [Go.run_convert_bytes_nil w 52 5 Tryz.underlying52 Tryz.underlying5 0 0 9 Tryz.underlying9]
    rfl
  · subst hv
    refine Go.run_convert_bytes_back w 52 9 5 ⟨g, 0, none⟩ cap l Tryz.underlying52 Tryz.underlying5 Tryz.underlying9 (fun j hj => ?_)
    refine h.cells (by rfl) j _ ?_
    simp [Lib.byteCells, hj]
theorem Tryz.info5 : (Tryz.prog.info? 5).map (fun i => (i.zero, i.size, i.bytes)) = some (some (.int .u8 0), 1, 1) := by kernel_rfl
def digsL : List UInt8 := [48, 49, 50, 51, 52, 53, 54, 55, 56, 57, 97, 98, 99, 100, 101, 102]
def hxd (d : Nat) : UInt8 := digsL.getD d 0
theorem ix_any (d : Nat) (hd : d < 16) (w : World) : (Instr.index 9 (.string ⟨#[48, 49, 50, 51, 52, 53, 54, 55, 56, 57, 97, 98, 99, 100, 101, 102]⟩) (.int .u64 (d : Int))).run Tryz.prog w = .ok (.int .u8 ((hxd d).toNat : Int)) w := by
  have h : d = 0 ∨ d = 1 ∨ d = 2 ∨ d = 3 ∨ d = 4 ∨ d = 5 ∨ d = 6 ∨ d = 7 ∨ d = 8 ∨ d = 9 ∨ d = 10 ∨ d = 11 ∨ d = 12 ∨ d = 13 ∨ d = 14 ∨ d = 15 := by omega
  rcases h with rfl | rfl | rfl | rfl | rfl | rfl | rfl | rfl | rfl | rfl | rfl | rfl | rfl | rfl | rfl | rfl <;> (go_simp; rfl)
theorem and15 (x : Nat) (hx : x < 18446744073709551616) : bits .and .u64 (x : Int) 15 = ((x % 16 : Nat) : Int) := by
  have hw : bits .and .u64 (x : Int) 15 = IntKind.u64.wrap ((BitVec.ofInt 64 (x : Int) &&& BitVec.ofInt 64 15).toNat : Int) := rfl
  rw [hw]
  have e1 : BitVec.ofInt 64 (x : Int) = BitVec.ofNat 64 x := by simp
  have e2 : BitVec.ofInt 64 (15 : Int) = BitVec.ofNat 64 15 := by decide
  rw [e1, e2, BitVec.toNat_and, BitVec.toNat_ofNat, BitVec.toNat_ofNat, Nat.mod_eq_of_lt (by omega), Nat.mod_eq_of_lt (by omega)]
  have hx15 : x &&& 15 = x % 16 := Nat.and_two_pow_sub_one_eq_mod x 4
  rw [hx15]
  simp [IntKind.wrap, IntKind.bits, IntKind.signed]
  omega
/-- digit i of 16 -/
def dig (n i : Nat) : UInt8 := hxd (n / 2 ^ (4 * (15 - i)) % 16)
def txtL (n k : Nat) : List UInt8 := 104 :: 58 :: (List.range k).map (dig n)
def txtH (n : Nat) : ByteArray := ⟨(txtL n 16).toArray⟩
theorem txtL_next (n k : Nat) : txtL n (k + 1) = txtL n k ++ [dig n k] := by simp [txtL, List.range_succ]
theorem txtL_len (n k : Nat) : (txtL n k).length = k + 2 := by simp [txtL]
theorem byteCells_snoc (l : List UInt8) (c : UInt8) : Lib.byteCells (l ++ [c]) = Lib.byteCells l ++ [.int .u8 (c.toNat : Int)] := by simp [Lib.byteCells]
theorem own_base {B B' : Nat} {e : TypeId} {k : Nat} {v : Value} {n : Nat} {xs : List Value} {w : World} (h : w.ownsRow B' e k v n xs) (hb : B ≤ B') : w.ownsRow B e k v n xs := by
  refine ⟨h.1, ?_⟩
  rcases h.2 with h' | ⟨g, cap, cur, hv, hbg, r⟩
  · exact .inl h'
  · exact .inr ⟨g, cap, cur, hv, Nat.le_trans hb hbg, r⟩
theorem conv0 (w : World) : (convert 52 52 (.slice (some ⟨w.heap.size, 0, none⟩) 2 2)).run Tryz.prog (w.alloc (.cells #[.int .u8 104, .int .u8 58] 5)) = .ok (.slice (some ⟨w.heap.size, 0, none⟩) 2 2) (w.alloc (.cells #[.int .u8 104, .int .u8 58] 5 (2, 3))) :=
  Lib.run_convert_bytes_const w 52 5 _ 2 2 Tryz.underlying52 Tryz.underlying5
set_option maxRecDepth 100000 in
set_option maxHeartbeats 4000000 in
theorem text_any (n : Nat) (hn : n < 18446744073709551616) (w : World) :
    Calls Tryz.prog 14 #[.int .u64 (n : Int)] w fun e w' => e = .returned (.string (txtH n)) ∧ Below w.heap.size w w' := by
  obtain ⟨i0, hi, hz0, hz1, hz2⟩ := info_parts Tryz.info5
  have HI := Lib.hid (And.intro hi (And.intro hz0 (And.intro hz1 hz2)))
  have cv := conv0 w
  clear hi hz0 hz1 hz2
  go_enter Tryz.func14, Tryz.ntmps14
  go_wp2_with fail
  clear cv
  go_loopw [3, 7] (fun v i wr => ∃ k : Nat, i = .int .i64 (k : Int) ∧ k ≤ 16 ∧ Hid ((k = 0 ∧ v = .slice (some ⟨w.heap.size, 0, none⟩) 2 2 ∧ ∀ j u, (Lib.byteCells (txtL n 0))[j]? = some u → wr.cell? ⟨w.heap.size, j, none⟩ = some u) ∨ (1 ≤ k ∧ wr.ownsRow w.heap.size 5 1 v (k + 2) (Lib.byteCells (txtL n k)))) ∧ Hid (Below w.heap.size w wr)) (fun _ i _ => (16 - intOf i).toNat)
  case atStart =>
    refine ⟨0, rfl, by omega, Lib.hid (.inl ⟨rfl, rfl, fun j u hj => ?_⟩), Lib.hid ((Below.refl _ _).alloc (Nat.le_refl _) _)⟩
    have e : ∀ i, (w.alloc (.cells #[.int .u8 104, .int .u8 58] 5 (2, 3))).cell? ⟨w.heap.size, i, none⟩ = (#[Value.int .u8 104, Value.int .u8 58] : Array Value)[i]? := fun i => by
      unfold World.cell?
      simp only [heap_alloc_new]
      rfl
    rw [e]
    simpa [Lib.byteCells, txtL] using hj
  case round =>
    obtain ⟨k, rfl, hk, HO, HB⟩ := hrel
    by_cases hlt : k < 16
    · have hki : (k : Int) < 16 := by omega
      have wk : IntKind.i64.wrap ((k : Int) + 1) = (k : Int) + 1 := by simp [IntKind.wrap, IntKind.bits, IntKind.signed]; omega
      have w15 : IntKind.i64.wrap (15 - (k : Int)) = ((15 - k : Nat) : Int) := by simp [IntKind.wrap, IntKind.bits, IntKind.signed]; omega
      have w4 : IntKind.i64.wrap (4 * ((15 - k : Nat) : Int)) = ((4 * (15 - k) : Nat) : Int) := by simp [IntKind.wrap, IntKind.bits, IntKind.signed]; omega
      have hi := HI.out.1
      have hz0 := HI.out.2.1
      have hz1 := HI.out.2.2.1
      have hz2 := HI.out.2.2.2
      have HO2 := HO.out
      rcases HO2 with ⟨rfl, rfl, hc⟩ | ⟨hk1, hown⟩
      · obtain ⟨q, hq⟩ : ∃ q : Nat, q = n / 2 ^ 60 := ⟨_, rfl⟩
        have hq2 : (n : Int) / 1152921504606846976 = (q : Int) := by rw [hq]; simp
        have hql : q < 18446744073709551616 := by rw [hq]; exact Nat.lt_of_le_of_lt (Nat.div_le_self _ _) hn
        have ha := and15 q hql
        obtain ⟨d, hd⟩ : ∃ d : Nat, d = q % 16 := ⟨_, rfl⟩
        have hd16 : d < 16 := by omega
        rw [← hd] at ha
        have hix := fun w => ix_any d hd16 w
        have hdg : dig n 0 = hxd d := by rw [hd, hq]; rfl
        have hdi : (d : Int) < 16 := by omega
        have HDG := Lib.hid hdg
        have HC := Lib.hid hc
        clear hq hd hdg hc
        generalize hxd d = cc at *
        have hws : w.heap.size ≤ wr.heap.size := HB.out.size
        go_wp2_with (at_builtin; refine wpList_append_grows _ rfl _ _ 52 rfl 5 i0 (.int .u8 0) 1 1 Tryz.underlying52 hi hz0 hz1 hz2 rfl (by decide) (some ⟨w.heap.size, 0, none⟩) 2 2 (Lib.byteCells (txtL n 0)) rfl (fun h => by cases h) rfl ?d1 ⟨wr.heap.size, 0, none⟩ 1 1 [.int .u8 (cc.toNat : Int)] rfl rfl ?c1 ?c2 (by decide) ?c3 (by decide) ?_)
        case d1 =>
          intro j u hj
          have h1 := HC.out j u hj
          have hlt := World.block_lt_of_cell? wr _ h1
          rw [((Below.refl wr.heap.size wr).alloc (Nat.le_refl _) _).cell (p := ⟨w.heap.size, j, none⟩) hlt]
          exact h1
        case c2 => first | rfl | (intro u hu; simp at hu; subst hu; rfl)
        case c3 => unfold maxLen; omega
        intro v' w2 hown2 hgrow
        have hO2 := own_base hown2 (show w.heap.size ≤ _ by first | omega | (simp; omega))
        have hB2 := (HB.out.alloc hws _).grown hgrow (by simp; omega) (fun j hj => by cases hj)
        rw [← HDG.out, ← byteCells_snoc, ← txtL_next] at hO2
        have HO2 := Lib.hid hO2
        have HB2 := Lib.hid hB2
        clear hown2 hgrow hO2 hB2 hix
        go_wp2_with fail
        go_roundw
        case rel => exact ⟨1, by rfl, by omega, Lib.hid (.inr ⟨by omega, HO2.out⟩), HB2⟩
        case measure => simp [intOf]
      · obtain ⟨q, hq⟩ : ∃ q : Nat, q = n / 2 ^ (4 * (15 - k)) := ⟨_, rfl⟩
        have hq2 : (n : Int) / 2 ^ (4 * (15 - k)) = (q : Int) := by rw [hq]; simp
        have hql : q < 18446744073709551616 := by rw [hq]; exact Nat.lt_of_le_of_lt (Nat.div_le_self _ _) hn
        have ha := and15 q hql
        obtain ⟨d, hd⟩ : ∃ d : Nat, d = q % 16 := ⟨_, rfl⟩
        have hd16 : d < 16 := by omega
        rw [← hd] at ha
        have hix := fun w => ix_any d hd16 w
        have hdg : dig n k = hxd d := by rw [hd, hq]; rfl
        have hdi : (d : Int) < 16 := by omega
        have HDG := Lib.hid hdg
        have HOW := Lib.hid hown
        clear hq hd hdg
        generalize hxd d = cc at *
        have hws : w.heap.size ≤ wr.heap.size := HB.out.size
        go_wp2_with (at_builtin; refine wpList_append_own _ rfl _ _ 52 rfl w.heap.size 5 i0 (.int .u8 0) 1 1 Tryz.underlying52 hi hz0 hz1 hz2 rfl (by decide) _ _ _ rfl (HOW.out.alloc _) ⟨wr.heap.size, 0, none⟩ 1 1 [.int .u8 (cc.toNat : Int)] rfl rfl ?e1 ?e2 ?e3 ?e4 ?e5 ?_)
        case e1 => exact cells_new1 _ _ _
        case e2 => first | rfl | (intro u hu; simp at hu; subst hu; rfl)
        case e3 => unfold maxLen; omega
        case e4 => omega
        case e5 => simp; omega
        intro v' w2 hown2 hgrow _
        have hO2 := hown2
        have hB2 := (HB.out.alloc hws _).grown hgrow (by simp; omega) (fun j hj => by have := (HOW.out.lt j hj).1; omega)
        rw [← HDG.out, ← byteCells_snoc, ← txtL_next] at hO2
        have HO2 := Lib.hid hO2
        have HB2 := Lib.hid hB2
        clear hown2 hgrow hO2 hB2 hix hown
        go_wp2_with fail
        go_roundw
        case rel => exact ⟨k + 1, by go_num, by omega, Lib.hid (.inr ⟨by omega, HO2.out⟩), HB2⟩
        case measure => simp [intOf]; omega
    · obtain rfl : k = 16 := by omega
      have hown := HO.out.resolve_left (fun h => by omega)
      have hcv := own_string (l := txtL n 16) (by rw [txtL_len]; exact hown.2)
      have HCV := Lib.hid hcv
      clear hown HO
      have hcv2 := HCV.out
      go_wp2_with fail
      go_ret
      exact ⟨rfl, HB.out⟩
end Go.Proofs.YthlcdimofagmfaaGreatDoor.Dg
