/-
  Partition: the parts, sorted by their least bytes. Condition: the table deBruijn64tab.
-/
import Derived.Test.YtmkmbpiaolmncaaDoorSort3
import Derived.Test.YtmkmbpiaolmncaaDoorSort1
namespace Go.Proofs.YtmkmbpiaolmncaaDoor
open Go.RowKit
set_option linter.unusedSimpArgs false
set_option linter.unnecessarySimpa false
set_option linter.unusedVariables false
/-- a list of sets that came in -/
def Sets (w : World) (v : Value) (l : List BS) : Prop :=
  (l = [] ∧ ∃ A cap, v = .slice A 0 cap) ∨ ∃ b o cap, v = .slice (some ⟨b, o, none⟩) l.length cap ∧ b < w.heap.size ∧ ∀ i x, l[i]? = some x →
    w.cell? ⟨b, o + i * 4, none⟩ = some (.int .u64 (wd 0 x)) ∧ w.cell? ⟨b, o + i * 4 + 1, none⟩ = some (.int .u64 (wd 1 x)) ∧ w.cell? ⟨b, o + i * 4 + 2, none⟩ = some (.int .u64 (wd 2 x)) ∧ w.cell? ⟨b, o + i * 4 + 3, none⟩ = some (.int .u64 (wd 3 x))
theorem Sets.below {w w' : World} {v : Value} {l : List BS} (h : Sets w v l) (hb : Below w.heap.size w w') : Sets w' v l := by
  rcases h with h | ⟨b, o, cap, hv, hlt, hc⟩
  · exact .inl h
  · refine .inr ⟨b, o, cap, hv, Nat.lt_of_lt_of_le hlt hb.size, fun i x hx => ?_⟩
    obtain ⟨c0, c1, c2, c3⟩ := hc i x hx
    exact ⟨by rw [hb.cell hlt]; exact c0, by rw [hb.cell hlt]; exact c1, by rw [hb.cell hlt]; exact c2, by rw [hb.cell hlt]; exact c3⟩
def partsL (l : List BS) : List BS := l.foldl splitL [fullS]
theorem splitL_len (l : List BS) (s : BS) : l.length ≤ (splitL l s).length ∧ (splitL l s).length ≤ 2 * l.length := by
  have := outs_len s l
  simp only [splitL, List.length_append, List.length_map]
  omega
theorem foldl_len : ∀ (l : List BS) (p : List BS), p.length ≤ (l.foldl splitL p).length ∧ (l.foldl splitL p).length ≤ 2 ^ l.length * p.length
  | [], p => by simp
  | s :: t, p => by
    have h1 := splitL_len p s
    have h2 := foldl_len t (splitL p s)
    simp only [List.foldl_cons, List.length_cons]
    refine ⟨Nat.le_trans h1.1 h2.1, Nat.le_trans h2.2 ?_⟩
    rw [Nat.pow_succ, Nat.mul_assoc]
    exact Nat.mul_le_mul_left _ h1.2
theorem parts_len {l : List BS} (h : l.length ≤ 12) : 1 ≤ (partsL l).length ∧ (partsL l).length ≤ 4096 := by
  have := foldl_len l [fullS]
  refine ⟨this.1, ?_⟩
  have h2 : 2 ^ l.length ≤ 2 ^ 12 := Nat.pow_le_pow_right (by decide) h
  have h3 : (partsL l).length ≤ 2 ^ l.length * 1 := this.2
  omega
theorem parts_next (l : List BS) (k : Nat) (hk : k < l.length) : partsL (l.take (k + 1)) = splitL (partsL (l.take k)) l[k] := by
  rw [(List.take_append_getElem hk).symm]
  unfold partsL
  rw [List.foldl_append]
  rfl
/-- what Partition returns -/
def PartIs (l : List BS) (w : World) (e : Ending) (w' : World) : Prop :=
  ∃ (g cap : Nat) (R : List BS), e = .returned (.slice (some ⟨g, 0, none⟩) R.length cap) ∧ R.Perm (partsL l) ∧ (∀ i j, i < j → j < R.length → lst (R.getD i 0#256) ≤ lst (R.getD j 0#256)) ∧
    (∀ i x c, R[i]? = some x → c < 4 → w'.cell? ⟨g, i * 4 + c, none⟩ = some (.int .u64 (wd c x))) ∧ g < w'.heap.size ∧ Below w.heap.size w w'
set_option maxRecDepth 100000 in
set_option maxHeartbeats 4000000 in
theorem part_any (l : List BS) (v : Value) (w : World) (hT : Tab w) (hv : Sets w v l) (hl : l.length ≤ 12) : Calls Tryd.prog 29 #[v] w (PartIs l w) := by
  have HV := Lib.hid hv
  have HT := Lib.hid hT
  have HL := Lib.hid hl
  have hvform : ∃ a cap, v = .slice a l.length cap := by
    rcases hv with ⟨rfl, A, cap, rfl⟩ | ⟨b, o, cap, rfl, _⟩
    · exact ⟨A, cap, rfl⟩
    · exact ⟨_, _, rfl⟩
  obtain ⟨av, cv, rfl⟩ := hvform
  have h0 := hT.1
  clear hv hT hl
  go_enter Tryd.func29, Tryd.ntmps29
  go_wp2_with fail
  refine (of_any 0 255 (by omega) (by omega) (by omega) (by omega) _).mono ?_
  rintro e w1 ⟨rfl, hb1⟩
  have hrow : (w1.alloc (.cells #[.int .u64 (wd 0 fullS), .int .u64 (wd 1 fullS), .int .u64 (wd 2 fullS), .int .u64 (wd 3 fullS)] 24)).ownsRow w.heap.size 24 4 (.slice (some ⟨w1.heap.size, 0, none⟩) 1 1) 1 (flatB [fullS]) :=
    World.ownsRow_lit w1 _ 1 hb1.size (by unfold maxLen; omega) rfl
  have HR := Lib.hid hrow
  have HB := Lib.hid (hb1.alloc hb1.size (.cells #[.int .u64 (wd 0 fullS), .int .u64 (wd 1 fullS), .int .u64 (wd 2 fullS), .int .u64 (wd 3 fullS)] 24))
  clear hb1 hrow
  go_wp2_with fail
  go_loopw [3, 10] (fun u i wr => ∃ k : Nat, i = .int .i64 (k : Int) ∧ k ≤ l.length ∧ Hid (∃ gg cc, u = .slice (some ⟨gg, 0, none⟩) (partsL (l.take k)).length cc) ∧ Hid (wr.ownsRow w.heap.size 24 4 u (partsL (l.take k)).length (flatB (partsL (l.take k)))) ∧ Hid (Below w.heap.size w wr)) (fun _ i _ => (l.length - intOf i).toNat)
  case atStart => exact ⟨0, rfl, by omega, Lib.hid ⟨_, _, rfl⟩, HR, HB⟩
  case round =>
    clear HR HB
    obtain ⟨k, rfl, hk, HF, HR, HB⟩ := hrel
    obtain ⟨gg, cc, rfl⟩ := HF.out
    by_cases hlt : k < l.length
    · obtain ⟨b, o, rfl, hbl, hc⟩ : ∃ b o, av = some ⟨b, o, none⟩ ∧ b < w.heap.size ∧ (w.cell? ⟨b, o + k * 4, none⟩ = some (.int .u64 (wd 0 l[k])) ∧ w.cell? ⟨b, o + k * 4 + 1, none⟩ = some (.int .u64 (wd 1 l[k])) ∧ w.cell? ⟨b, o + k * 4 + 2, none⟩ = some (.int .u64 (wd 2 l[k])) ∧ w.cell? ⟨b, o + k * 4 + 3, none⟩ = some (.int .u64 (wd 3 l[k]))) := by
        rcases HV.out with ⟨h2, _⟩ | ⟨b, o, cap, h1, hbl, hc⟩
        · rw [h2] at hlt; exact absurd hlt (by simp)
        · injection h1 with e1 _ _
          exact ⟨b, o, e1, hbl, hc k _ (List.getElem?_eq_getElem hlt)⟩
      obtain ⟨x0, x1, x2, x3⟩ := hc
      rw [← HB.out.cell (p := ⟨b, o + k * 4, none⟩) hbl] at x0
      rw [← HB.out.cell (p := ⟨b, o + k * 4 + 1, none⟩) hbl] at x1
      rw [← HB.out.cell (p := ⟨b, o + k * 4 + 2, none⟩) hbl] at x2
      rw [← HB.out.cell (p := ⟨b, o + k * 4 + 3, none⟩) hbl] at x3
      have hkl : (k : Int) < (l.length : Int) := by omega
      have wk : IntKind.i64.wrap ((k : Int) + 1) = (k : Int) + 1 := by simp [IntKind.wrap, IntKind.bits, IntKind.signed]; have := HL.out; omega
      have hpl : 1 ≤ (partsL (l.take k)).length ∧ (partsL (l.take k)).length ≤ 4096 := parts_len (by rw [List.length_take]; have := HL.out; omega)
      have HPL := Lib.hid hpl
      have HN := Lib.hid (parts_next l k hlt)
      obtain ⟨x, hx⟩ : ∃ x, x = l[k] := ⟨_, rfl⟩
      rw [← hx] at x0 x1 x2 x3 HN
      have hbx := Lib.hid (HB.out.size)
      clear hpl hx
      go_wp2_with fail
      refine (split_any (partsL (l.take k)) x _ w.heap.size _ (by have := hbx.out; simp; omega) (by have := HPL.out; omega) (by have := HPL.out; omega) (own_below HR.out ((Below.refl _ _).alloc (Nat.le_refl _) _))).mono ?_
      rintro e w2 ⟨v2, rfl, hown2, hb2⟩
      have HR2 := Lib.hid hown2
      have HB2 := Lib.hid ((HB.out.alloc hbx.out _).trans hb2)
      clear hown2 hb2 x0 x1 x2 x3
      rw [← HN.out] at HR2
      have hform := Joins.ownsRow_form HR2.out (by rw [HN.out]; have := (splitL_len (partsL (l.take k)) x).1; have := HPL.out; omega)
      have HF2 := Lib.hid hform
      clear hform
      go_wp2_with fail
      go_roundw
      case rel => exact ⟨k + 1, by go_num, by omega, HF2, HR2, HB2⟩
      case measure => simp [intOf]; omega
    · obtain rfl : k = l.length := by omega
      have htk : l.take l.length = l := List.take_length
      rw [htk] at HR HF ⊢
      clear htk
      have hpl := parts_len HL.out
      have hgw := HR.out.lt gg rfl
      have htw : Tab _ := HT.out.below HB.out h0
      have HTW := Lib.hid htw
      have HPL := Lib.hid hpl
      clear hpl hgw htw
      go_wp2_with fail
      refine (sort_own (partsL l) gg cc w.heap.size _ h0 HTW.out (by have := HPL.out; omega) HR.out).mono ?_
      rintro e w2 ⟨rfl, R, hp, hs, hc, hg, hb⟩
      have HX := Lib.hid (And.intro hp (And.intro hs (And.intro hc (And.intro hg (HB.out.trans hb)))))
      have hln := hp.length_eq
      clear hp hs hc hg hb
      go_wp2_with fail
      go_ret
      exact ⟨gg, cc, R, by show Ending.returned (.slice (some ⟨gg, 0, none⟩) (partsL l).length cc) = _; rw [hln], HX.out.1, HX.out.2.1, HX.out.2.2.1, HX.out.2.2.2.1, HX.out.2.2.2.2⟩
end Go.Proofs.YtmkmbpiaolmncaaDoor
