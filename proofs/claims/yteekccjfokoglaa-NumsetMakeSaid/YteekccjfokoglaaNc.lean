/-
  The specification's ints and fracs. Condition: at most 100000 spans, their ends 64-bit integers.
-/
import Derived.Test.YteekccjfokoglaaNb
import Derived.Test.YteekccjfokoglaaO
namespace Go.Proofs.Yteekccjfokoglaa
open Go.RowKit Go.Sort Go.Lib Go.Proofs
set_option linter.unusedSimpArgs false
set_option linter.unnecessarySimpa false
set_option linter.unusedVariables false
theorem RnIs.le {L : List Sp} {w w0 w' : World} {e : Ending} (h : RnIs L w0 e w') (hb : Below w.heap.size w w0) : RnIs L w e w' := by
  obtain ⟨v, rfl, h1, h2⟩ := h
  exact ⟨v, rfl, own_le h1 hb.size, hb.trans (h2.mono hb.size)⟩
set_option maxRecDepth 100000 in
set_option maxHeartbeats 1000000 in
theorem rints_any (A1 A2 : Option Addr) (c1 c2 : Nat) (s : NS) (w : World) (hN : Ns w A1 c1 A2 c2 s) (hk : okN 100000 s) :
    Calls Try.prog 55 #[nv A1 s.1.length c1 A2 s.2.length c2] w (RnIs (rn (s.1.map clipI)) w) := by
  have hb0 : Below w.heap.size w (w.alloc (.cells #[.slice A1 s.1.length c1, .slice A2 s.2.length c2] 24)) := (Below.refl _ _).alloc (Nat.le_refl _) _
  have HR := Lib.hid (hN.r1.up hb0)
  have HK := Lib.hid hk
  have HB0 := Lib.hid hb0
  have hlen := hk.1
  clear hN hk hb0
  go_enter Try.func55, Try.ntmps55
  go_wp2_with fail
  generalize w.alloc (.cells #[.slice A1 s.1.length c1, .slice A2 s.2.length c2] 24) = w3 at *
  go_loopw [3, 9] (fun s3 s9 wr => ∃ (k : Nat) (v : Value), s9 = .int .i64 (k : Int) ∧ s3 = v ∧ k ≤ s.1.length ∧ Hid (wr.ownsRow w3.heap.size 46 2 v ((s.1.take k).map clipI).length (flat ((s.1.take k).map clipI))) ∧ Hid (Below w3.heap.size w3 wr)) (fun _ s9 _ => (s.1.length - intOf s9).toNat)
  case atStart => exact ⟨0, _, rfl, rfl, by omega, Lib.hid (World.ownsRow_nil _ _ _ _), Lib.hid (Below.refl _ _)⟩
  case round =>
    obtain ⟨i0, hi, hz0, hz1, hz2⟩ := info_parts info46
    obtain ⟨k, v, rfl, rfl, hk, HO, HB⟩ := hrel
    by_cases hlt : k < s.1.length
    · obtain ⟨b, o, hA, hbl, d0, d1⟩ := HR.out.at_ k hlt
      subst hA
      rw [← HB.out.cell (p := ⟨b, o + k * 2, none⟩) hbl] at d0
      rw [← HB.out.cell (p := ⟨b, o + k * 2 + 1, none⟩) hbl] at d1
      have HT := Lib.hid (show (s.1.take (k + 1)).map clipI = (s.1.take k).map clipI ++ [clipI s.1[k]] by rw [← List.take_append_getElem hlt, List.map_append]; rfl)
      obtain ⟨x, hx⟩ : ∃ x, x = s.1[k] := ⟨_, rfl⟩
      rw [← hx] at d0 d1 HT
      have hacl : ((s.1.take k).map clipI).length = k := by simp; omega
      obtain ⟨acc, hacc⟩ : ∃ acc, acc = (s.1.take k).map clipI := ⟨_, rfl⟩
      rw [← hacc] at HO HT hacl
      have hkl : (k : Int) < (s.1.length : Int) := by omega
      have hwr : w3.heap.size ≤ wr.heap.size := HB.out.size
      obtain ⟨W, hW⟩ : ∃ W, W = wr.alloc (.cells #[.int .i64 x.1, .int .i64 x.2] 46) := ⟨_, rfl⟩
      obtain ⟨b9, hb9⟩ : ∃ b9, b9 = wr.heap.size := ⟨_, rfl⟩
      have HO1 := Lib.hid (show W.ownsRow w3.heap.size 46 2 u3 acc.length (flat acc) by rw [hW]; exact HO.out.alloc _)
      have HB1 := Lib.hid (show Below w3.heap.size w3 W by rw [hW]; exact HB.out.alloc hwr _)
      have e0 : W.cell? ⟨b9, 0, none⟩ = some (.int .i64 x.1) := by rw [hW, hb9]; simp
      have e1 : W.cell? ⟨b9, 1, none⟩ = some (.int .i64 x.2) := by rw [hW, hb9]; simp
      have l9 : b9 < W.heap.size := by rw [hW, hb9]; simp
      have hW3 : w3.heap.size ≤ W.heap.size := HB1.out.size
      clear hx hacc
      go_upto_region 5 with fail
      rw [← hW, ← hb9]
      clear hW hb9 d0 d1 HO HB
      have hown := HO1.out
      have hacl2 : acc.length ≤ 100000 := by omega
      go_wp2_with (at_builtin; refine wpList_append_own _ rfl _ _ 22 rfl w3.heap.size 46 i0 (.agg #[.int .i64 0, .int .i64 0]) 2 16 Try.underlying22 hi hz0 hz1 hz2 rfl (by decide) _ _ _ rfl (hown.alloc _) ⟨W.heap.size, 0, none⟩ 1 1 [.int .i64 (clipI x).1, .int .i64 (clipI x).2] rfl rfl ?c1 ?c2 ?c3 ?c4 ?c5 ?_)
      case c1 => exact new2 _ _ _ _
      case c2 => exact one2 _ _
      case c3 => unfold maxLen; omega
      case c4 => omega
      case c5 => simp; omega
      intro v8 w8 hown8 hgrow _
      have HO8 := Lib.hid (show w8.ownsRow w3.heap.size 46 2 v8 ((s.1.take (k + 1)).map clipI).length (flat ((s.1.take (k + 1)).map clipI)) by rw [HT.out, flat_append, List.length_append, hacl]; exact hown8)
      have HB8 := Lib.hid ((HB1.out.alloc hW3 _).grown hgrow (by simp; omega) (fun j hj => (hown.lt j hj).1))
      clear hown8 hgrow hown HO1 HB1 e0 e1
      go_wp2_with fail
      go_roundw
      case rel => exact ⟨k + 1, _, by go_num, rfl, by omega, HO8, HB8⟩
      case measure => simp [intOf]; omega
    · obtain rfl : k = s.1.length := by omega
      rw [List.take_length] at HO
      obtain ⟨A3, c3, rfl, hre3, hp3, hhi3⟩ := re_of_own HO.out
      have hc := rnormal_any A3 c3 (s.1.map clipI) wr hre3 (by simp; omega) (fun y hy => by
        obtain ⟨t, ht, rfl⟩ := List.mem_map.1 hy
        have := HK.out.2.2.1 t ht
        unfold i64ok clipI at *; simp only; omega) (fun y hy h => by
        obtain ⟨t, ht, rfl⟩ := List.mem_map.1 hy
        unfold bd15; simp only [clipI] at h ⊢; omega)
      rw [List.length_map] at hc
      have hbel : Below w.heap.size w wr := HB0.out.trans (HB.out.mono HB0.out.size)
      have HC := Lib.hid (Calls.mono hc (fun e w' h => RnIs.le h hbel))
      clear hbel
      clear hc hre3 hp3 hhi3 HO
      go_wp2_with fail
      refine HC.out.mono ?_
      rintro e w5 ⟨v5, rfl, h1, h2⟩
      have H1 := Lib.hid (And.intro h1 h2)
      clear h1 h2 HC
      go_wp2_with fail
      go_ret
      exact ⟨_, rfl, H1.out.1, H1.out.2⟩
end Go.Proofs.Yteekccjfokoglaa
