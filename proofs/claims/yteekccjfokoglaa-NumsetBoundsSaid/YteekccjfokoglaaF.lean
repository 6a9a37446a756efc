/-
  DeleteFunc walked. No condition but the bounds on the list.
-/
import Derived.Test.YteekccjfokoglaaE
namespace Go.Proofs.Yteekccjfokoglaa
open Go.RowKit Go.Sort Go.Lib Go.Proofs
set_option linter.unusedSimpArgs false
set_option linter.unnecessarySimpa false
set_option linter.unusedVariables false
def DelIs (b : Bool) (l : List Sp) (g cap B : Nat) (w : World) (e : Ending) (w' : World) : Prop :=
  ∃ rest', e = .returned (.slice (some ⟨g, 0, none⟩) (kp b l).length cap) ∧ Row w' g (flat (kp b l) ++ rest') ∧ Below B w w'
theorem below_sets {B g : Nat} (hg : B ≤ g) : ∀ (vs : List Value) (o : Nat) (w : World), Below B w (w.setCells g o vs)
  | [], _, _ => Below.refl _ _
  | v :: vs, o, w => ((Below.refl _ _).setCell (p := ⟨g, o, none⟩) hg v).trans (below_sets hg vs (o + 1) _)
set_option maxRecDepth 100000 in
set_option maxHeartbeats 2000000 in
theorem delete_any (b : Bool) (l : List Sp) (g cap B : Nat) (rest : List Value) (w : World) (hB : B ≤ g) (hrow : Row w g (flat l ++ rest)) (hl : okL l) (hcap : l.length ≤ cap) (hcm : cap ≤ maxLen) :
    Calls Try.prog 72 #[.slice (some ⟨g, 0, none⟩) l.length cap, .func (.func 74) #[axv b] #[]] w (DelIs b l g cap B w) := by
  have hI := index_any b (some ⟨g, 0, none⟩) cap l w (re_row (c := cap) hrow) hl
  have HI := Lib.hid hI
  have HL := Lib.hid hl
  have HR := Lib.hid hrow
  have hlen := hl.1
  have hgw := hrow.lt
  unfold maxLen at hcm
  clear hI hl hrow
  go_enter Try.func72, Try.ntmps72
  go_wp2_with fail
  refine HI.out.mono ?_
  rintro e w1 ⟨k, hk, hno, he, hb1⟩
  have HN := Lib.hid hno
  have HB := Lib.hid (hb1.mono (Nat.le_of_lt (Nat.lt_of_le_of_lt hB hgw)))
  have HR1 := Lib.hid (HR.out.up hb1)
  have hgw1 : g < w1.heap.size := Nat.lt_of_lt_of_le hgw hb1.size
  clear hno hb1
  rcases he with ⟨hkl, rfl⟩ | ⟨hkl, hwk, rfl⟩
  · have hkp : kp b l = l := kp_all b l fun j hj => HN.out j hj (by omega)
    have h11 : ((-1 : Int) == -1) = true := by decide
    go_wp2_with fail
    go_ret
    exact ⟨rest, by rw [hkp]; rfl, by rw [hkp]; exact HR1.out, HB.out⟩
  · have hM : Mid b l rest w1 g k (k + 1) := by
      have hkp : kp b (l.take k) = l.take k := kp_all b _ fun j hj => by
        have hj' : j < k := by simp at hj; omega
        simp only [List.getElem_take]
        exact HN.out j (by omega) hj'
      have e : kp b (l.take (k + 1)) = l.take k := by rw [take_snoc l k hkl, kp_snoc, if_pos hwk, hkp]
      refine ⟨⟨l[k], [], ?_, by rw [e]; simp; omega, by simp⟩, by omega⟩
      rw [e, show l.take k ++ ([l[k]] ++ l.drop (k + 1)) = l by rw [List.singleton_append, ← List.drop_eq_getElem_cons hkl, List.take_append_drop]]
      exact HR1.out
    have HM := Lib.hid hM
    have hk1 : ((k : Int) == -1) = false := beq_eq_false_iff_ne.2 (by omega)
    clear hwk hM HR1 HN
    go_wp2_with fail
    clear hk1
    go_loopw [5, 6, 7] (fun s5 s6 _ wr => ∃ i j : Nat, s5 = .int .i64 (i : Int) ∧ s6 = .int .i64 (j : Int) ∧ j ≤ l.length ∧ Hid (Mid b l rest wr g i j) ∧ Hid (Below B w wr)) (fun _ s6 _ _ => (l.length - intOf s6).toNat)
    case atStart => exact ⟨k, k + 1, rfl, by go_num, by omega, HM, HB⟩
    case round =>
      clear HM HB hgw1 hk hkl
      obtain ⟨i, j, rfl, rfl, hj, HM, HB⟩ := hrel
      have hij := HM.out.lt
      by_cases hlt : j < l.length
      · obtain ⟨⟨c0, c1⟩, ⟨m, d0, d1⟩, f0, f1⟩ := HM.out.read hlt
        have hs := HL.out.2 l[j] (List.getElem_mem hlt)
        have hC := fun W => without_any b l[j].1 l[j].2 W hs.1 hs.2
        obtain ⟨x, hx⟩ : ∃ x, x = l[j] := ⟨_, rfl⟩
        rw [← hx] at c0 c1 hC
        have HX := Lib.hid hx
        have HQ := Lib.hid (show wo b l[j] = wo b (x.1, x.2) by rw [hx])
        have HC := Lib.hid hC
        have hkl : (j : Int) < (l.length : Int) := by omega
        have hgs := hij.2
        clear hC hx hs
        cases hq : wo b (x.1, x.2)
        · rw [hq] at HC HQ
          go_wp2_with fail
          refine (HC.out _).mono ?_
          rintro e w2 ⟨rfl, os, hw2⟩
          have hb2 : Below (wr.heap.size + 1) (wr.alloc (Obj.cells #[Value.int IntKind.i64 x.fst, Value.int IntKind.i64 x.snd] 46)) w2 := by rw [hw2]; exact below_grow _ _ _ (by simp)
          have hb3 : Below wr.heap.size wr w2 := ((Below.refl _ _).alloc (Nat.le_refl _) _).trans (hb2.mono (Nat.le_succ _))
          clear hw2
          have x0 : w2.cell? ⟨wr.heap.size, 0, none⟩ = some (.int .i64 x.1) := by rw [hb2.cell (p := ⟨wr.heap.size, 0, none⟩) (by show wr.heap.size < _; omega)]; simp
          have x1 : w2.cell? ⟨wr.heap.size, 1, none⟩ = some (.int .i64 x.2) := by rw [hb2.cell (p := ⟨wr.heap.size, 1, none⟩) (by show wr.heap.size < _; omega)]; simp
          rw [← hb3.cell (p := ⟨g, i * 2, none⟩) hgs] at d0
          rw [← hb3.cell (p := ⟨g, i * 2 + 1, none⟩) hgs] at d1
          rw [← hb3.frozen (p := ⟨g, i * 2, none⟩) hgs] at f0
          rw [← hb3.frozen (p := ⟨g, i * 2 + 1, none⟩) hgs] at f1
          have hij1 := hij.1
          have hil : (i : Int) < (l.length : Int) := by omega
          have HB2 := Lib.hid (HB.out.trans (hb3.mono (Nat.le_of_lt (Nat.lt_of_le_of_lt hB hgs))))
          have HM2 := Lib.hid ((HM.out.up hb3).keep hlt HQ.out)
          rw [← HX.out] at HM2
          have HB3 := Lib.hid ((HB2.out.setCell (p := ⟨g, i * 2, none⟩) hB (.int .i64 x.1)).setCell (p := ⟨g, i * 2 + 1, none⟩) hB (.int .i64 x.2))
          clear hb2 hb3 HB HM c0 c1
          go_wp2_with fail
          go_roundw
          case rel => exact ⟨i + 1, j + 1, by go_num, by go_num, by omega, HM2, HB3⟩
          case measure => simp [intOf]; omega
        · rw [hq] at HC HQ
          go_wp2_with fail
          refine (HC.out _).mono ?_
          rintro e w2 ⟨rfl, os, hw2⟩
          have hb3 : Below wr.heap.size wr w2 := ((Below.refl _ _).alloc (Nat.le_refl _) _).trans (by rw [hw2]; exact below_grow _ _ _ (by simp))
          have HB2 := Lib.hid (HB.out.trans (hb3.mono (Nat.le_of_lt (Nat.lt_of_le_of_lt hB hgs))))
          have HM2 := Lib.hid ((HM.out.up hb3).skip hlt HQ.out)
          clear hw2 hb3
          go_wp2_with fail
          go_roundw
          case rel => exact ⟨i, j + 1, rfl, by go_num, by omega, HM2, HB2⟩
          case measure => simp [intOf]; omega
      · obtain rfl : j = l.length := by omega
        obtain ⟨hi, hil, cs, hrw, hcl, rest', hrow'⟩ := HM.out.done
        have hclr : ∀ ty c, (Builtin.clear_ #[22] ty #[.slice (some ⟨g, i * 2, none⟩) (l.length - i) c]).run Try.prog wr = .ok (.tuple #[]) (wr.setCells g (i * 2) (List.replicate ((l.length - i) * 2) (.int .i64 0))) := fun ty c => by
          exact run_clear46 wr ty g (i * 2) _ c (by omega) cs hrw hcl
        have HX := Lib.hid (And.intro hrow' (HB.out.trans (below_sets hB (List.replicate ((l.length - i) * 2) (Value.int .i64 0)) (i * 2) wr)))
        have HI := Lib.hid hi
        have hic : (i : Int) < (cap : Int) := by omega
        clear hrow' hi hcl hrw
        go_wp2_with fail
        go_ret
        exact ⟨rest', by rw [← HI.out]; rfl, HX.out.1, HX.out.2⟩
end Go.Proofs.Yteekccjfokoglaa
