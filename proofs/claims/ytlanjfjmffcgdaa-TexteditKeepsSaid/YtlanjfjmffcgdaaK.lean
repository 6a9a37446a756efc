/-
  Invert of the specification. Conditions: the slice reads as a list of at most 20 edits with texts of at most 60 bytes; the text has at most 100000 bytes.
-/
import Derived.Test.YtlanjfjmffcgdaaJ
namespace Go.Proofs.Ytlanjfjmffcgdaa
open Go.RowKit
set_option linter.unusedSimpArgs false
set_option linter.unusedVariables false
set_option maxRecDepth 100000 in
set_option maxHeartbeats 8000000 in
theorem rinvert_any (s : ByteArray) (A : Option Addr) (c : Nat) (xs : List Ed) (hs : s.size ≤ 100000) (hx : xs.length ≤ 20) (ht : ∀ x ∈ xs, x.2.2.size ≤ 60) (w : World) (h : Re w w.heap.size A xs) :
    Calls Try.prog 20 #[.string s, .slice A xs.length c] w (InvP w (appE s xs) (invV s xs)) := by
  have C0 := Lib.hid (rapply_any s A c xs hs hx ht w h)
  have H := Lib.hid h
  clear h
  by_cases hz : appE s xs = 0
  · have HI : Hid (∀ k (hk : k < xs.length), 0 ≤ xs[k].1 ∧ xs[k].1 ≤ xs[k].2.1 ∧ xs[k].2.1 ≤ (s.size : Int) ∧ xs[k].2.2.size ≤ 60) := Lib.hid fun k hk => by
      have hc : chkL (s.size : Int) xs = 0 := by
        by_cases hc : chkL (s.size : Int) xs = 0
        · exact hc
        · have := (appE_1 hc).1; omega
      obtain ⟨e0, e1, e2⟩ := insA_mem (chk_zero hc).1 hk
      exact ⟨e0, e1, e2, ht _ (List.getElem_mem hk)⟩
    have HR : Hid (([] : List Ed) ++ invF s 0 (xs.drop 0) = invV s xs) := Lib.hid (by unfold invV; rw [if_neg (by omega)]; simp)
    rw [hz] at C0 ⊢
    generalize appS s xs = RS at *
    generalize invV s xs = R at *
    clear hz ht
    go_enter Try.func20, Try.ntmps20
    go_wp2_with fail
    refine C0.out.mono ?_
    rintro e w1 ⟨rfl, hb1⟩
    have HB1 := Lib.hid hb1
    clear hb1 C0
    go_wp2_with fail
    go_loopw [8, 9, 10] (fun v g i wr => ∃ (k : Nat) (b : Int) (acc : List Ed), i = .int .i64 (k : Int) ∧ g = .int .i64 b ∧ k ≤ xs.length ∧ -((k : Int) * 100000) ≤ b ∧ b ≤ (k : Int) * 60 ∧ Hid (acc.length = k) ∧ Hid (acc ++ invF s b (xs.drop k) = R) ∧ Hid (wr.ownsRow w.heap.size 35 3 v acc.length (flat3 acc)) ∧ Hid (Below w.heap.size w wr)) (fun _ _ i _ => xs.length - (intOf i).toNat)
    case atStart => exact ⟨0, 0, [], rfl, rfl, by omega, by omega, by omega, Lib.hid rfl, HR, Lib.hid (World.ownsRow_nil _ _ _ _), HB1⟩
    case round =>
      obtain ⟨k, b, acc, rfl, rfl, hk, hb0, hb1, HL, HS, HO, HB⟩ := hrel
      by_cases hlt : k < xs.length
      · obtain ⟨ad, rfl, hl, c0, c1, c2⟩ := (H.out.below HB.out).at_ k hlt
        obtain ⟨ad', ead, hl5, d0, d1, d2⟩ := H.out.at_ k hlt
        injection ead with ead
        subst ead
        have HC0 := Lib.hid d0
        have HC1 := Lib.hid d1
        have HC2 := Lib.hid d2
        obtain ⟨i0, i1, i2, i3⟩ := HI.out k hlt
        rw [invF_at hlt] at HS
        clear d0 d1 d2 hl5
        generalize xs[k] = x at *
        obtain ⟨f, t, u⟩ := x
        simp only at i0 i1 i2 i3 c0 c1 c2
        obtain ⟨f, rfl⟩ := Int.eq_ofNat_of_zero_le i0
        obtain ⟨t, rfl⟩ := Int.eq_ofNat_of_zero_le (show 0 ≤ t by omega)
        simp only [Int.toNat_natCast] at HS
        have q8 : (k : Int) < (xs.length : Int) := by omega
        have HS2 : Hid ((acc ++ [((f : Int) + b, (f : Int) + b + (u.size : Int), s.extract f t)]) ++ invF s (b + (u.size : Int) - ((t : Int) - (f : Int))) (xs.drop (k + 1)) = R) := Lib.hid (by rw [← HS.out, show b + (u.size : Int) - ((t : Int) - (f : Int)) = b + grw ((f : Int), (t : Int), u) by unfold grw; simp only; omega]; simp)
        have w1' : IntKind.i64.wrap ((f : Int) + b + (u.size : Int)) = (f : Int) + b + (u.size : Int) := IntWalk.i64_in _ (by omega)
        have w2' : IntKind.i64.wrap ((f : Int) + b) = (f : Int) + b := IntWalk.i64_in _ (by omega)
        have q5 : (f : Int) ≤ (t : Int) := i1
        have q6 : (t : Int) ≤ (s.size : Int) := i2
        have HB3 : Hid (w.heap.size ≤ wr.heap.size) := Lib.hid HB.out.size
        have Hrw : Hid (∀ j, u8.ownBlock = some j → w.heap.size ≤ j ∧ j < wr.heap.size) := Lib.hid fun j hj => HO.out.lt j hj
        clear HS
        go_wp2_with fail
        go_region_law (first | (refine step_append_ed rfl (.tmp 34) (.tmp 57) rfl w.heap.size u8 acc ((f : Int) + b, (f : Int) + b + (u.size : Int), s.extract f t) rfl (HO.out.alloc _) wr.heap.size rfl ((MapKept.heap_alloc _ _).1) (by have := HL.out; omega) (by simp; have := HB3.out; omega) ?_; intro v5 w5 HO5 hg5))
        all_goals
          have HB5 : Hid (Below w.heap.size w w5) := Lib.hid (((HB.out.drew).alloc (by simp; exact HB3.out) _).grown hg5 (by simp; have := HB3.out; omega) (fun j hj => (Hrw.out j hj).1))
          have HL5 : Hid ((acc ++ [((f : Int) + b, (f : Int) + b + (u.size : Int), s.extract f t)]).length = k + 1) := Lib.hid (by rw [List.length_append, HL.out]; rfl)
          have e0 : w5.cell? (ad.add (k * 3)) = some (.int .i64 (f : Int)) := by rw [HB5.out.cell (by rw [block_of_add]; exact hl)]; exact HC0.out
          have e1 : w5.cell? ⟨(ad.add (k * 3)).block, (ad.add (k * 3)).off + 1, none⟩ = some (.int .i64 (t : Int)) := by rw [HB5.out.cell (by show (ad.add (k * 3)).block < _; rw [block_of_add]; exact hl)]; exact HC1.out
          have e2 : w5.cell? ⟨(ad.add (k * 3)).block, (ad.add (k * 3)).off + 2, none⟩ = some (.string u) := by rw [HB5.out.cell (by show (ad.add (k * 3)).block < _; rw [block_of_add]; exact hl)]; exact HC2.out
          clear hg5 HO HB c0 c1 c2 w1' w2' Hrw HL HB3
          generalize acc ++ [((f : Int) + b, (f : Int) + b + (u.size : Int), s.extract f t)] = acc2 at *
          have w1' : IntKind.i64.wrap (b + (u.size : Int)) = b + (u.size : Int) := IntWalk.i64_in _ (by omega)
          have w2' : IntKind.i64.wrap ((t : Int) - (f : Int)) = (t : Int) - (f : Int) := IntWalk.i64_in _ (by omega)
          have w3' : IntKind.i64.wrap (b + (u.size : Int) - ((t : Int) - (f : Int))) = b + (u.size : Int) - ((t : Int) - (f : Int)) := IntWalk.i64_in _ (by omega)
          have HBd : Hid (-(((k + 1 : Nat) : Int) * 100000) ≤ b + (u.size : Int) - ((t : Int) - (f : Int)) ∧ b + (u.size : Int) - ((t : Int) - (f : Int)) ≤ ((k + 1 : Nat) : Int) * 60) := Lib.hid (by omega)
          go_wp2_with fail
          go_quiet (fail)
          have HB6 := Lib.hid (bdrewN HB5.out nq)
          have HO6 : Hid ((w5.drewN nq).ownsRow w.heap.size 35 3 v5 acc2.length (flat3 acc2)) := Lib.hid HO5.out
          clear w1' w2' w3' e0 e1 e2 HB5 HO5
          generalize w5.drewN nq = w6 at *
          go_wp2_with fail
          go_roundw
          case rel => exact ⟨k + 1, _, acc2, by go_num, rfl, by omega, HBd.out.1, HBd.out.2, HL5, HS2, HO6, HB6⟩
          case measure => simp [intOf]; omega
      · obtain rfl : k = xs.length := by omega
        have HX : Hid (acc = R) := Lib.hid (by have := HS.out; rw [invF_end (Nat.le_refl _)] at this; simpa using this)
        rw [HX.out] at HO
        clear HS HL
        go_wp2_with fail
        go_ret2
        exact ⟨u8, rfl, HO.out, HB.out⟩
  · have HV : Hid (invV s xs = []) := Lib.hid (by unfold invV; rw [if_pos hz])
    rw [HV.out]
    have q1 : (appE s xs != 0) = true := by simp [hz]
    generalize appE s xs = E at *
    generalize appS s xs = RS at *
    clear hz ht HV
    go_enter Try.func20, Try.ntmps20
    go_wp2_with fail
    refine C0.out.mono ?_
    rintro e w1 ⟨rfl, hb1⟩
    have HB1 := Lib.hid hb1
    clear hb1 C0
    go_wp2_with fail
    go_ret2
    exact ⟨.slice none 0 0, rfl, World.ownsRow_nil _ _ _ _, HB1.out⟩
