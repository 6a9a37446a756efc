/-
  Parse returns what 'parS' says of its text: the walk. No condition.
-/
import Derived.Test.YtaocgibfabofhaaDoorR7
import Derived.WalkMore
namespace Go.Proofs.YtaocgibfabofhaaDoor
open Go.RowKit
set_option linter.unusedSimpArgs false
set_option linter.unusedVariables false
theorem Tryd.info37 : (Tryd.prog.info? 37).map (fun i => (i.zero, i.size, i.bytes)) = some (some (.agg #[.string ⟨#[]⟩, .int .i64 0]), 2, 24) := by kernel_rfl
theorem own_kept {B : Nat} {e : TypeId} {k : Nat} {v : Value} {n : Nat} {xs : List Value} {w w' : World} {g : Nat} (h : w.ownsRow B e k v n xs) (hg : w.grownBy w' (some g)) (hB : g < B) : w'.ownsRow B e k v n xs :=
  h.kept hg (by
    cases hv : v.ownBlock with
    | none => exact .inl rfl
    | some b => exact .inr (fun he => by injection he with he; subst he; have := (h.lt b hv).1; omega))
theorem cells_new2 (w : World) (x y : Value) (T : TypeId) (k : Nat) (hk : k = w.heap.size) : ∀ j u, [x, y][j]? = some u → (w.alloc (.cells #[x, y] T)).cell? ((⟨k, 0, none⟩ : Addr).add j) = some u := by
  subst hk
  intro j u h
  rw [show (⟨w.heap.size, 0, none⟩ : Addr).add j = ⟨w.heap.size, j, none⟩ by simp [Addr.add]; exact fun e => e.symm, World.cell?_alloc_new]
  simpa using h
theorem own_bel {B : Nat} {e : TypeId} {k : Nat} {v : Value} {n : Nat} {xs : List Value} {w w' : World} (h : w.ownsRow B e k v n xs) (hb : Below w.heap.size w w') : w'.ownsRow B e k v n xs :=
  h.kept (gb_below (r := none) hb) (by
    cases hv : v.ownBlock with
    | none => exact .inl rfl
    | some b => exact .inr (by simp))
theorem own_mono {B C : Nat} {e : TypeId} {k : Nat} {v : Value} {n : Nat} {xs : List Value} {w : World} (h : w.ownsRow B e k v n xs) (hC : C ≤ B) : w.ownsRow C e k v n xs := by
  refine ⟨h.1, ?_⟩
  rcases h.2 with h' | ⟨g, cap, cur, hv, hbg, r⟩
  · exact .inl h'
  · exact .inr ⟨g, cap, cur, hv, by omega, r⟩
theorem own_set {B : Nat} {e : TypeId} {k : Nat} {v : Value} {n : Nat} {xs : List Value} {w : World} (h : w.ownsRow B e k v n xs) (p : Addr) (hb : p.block < B) (x : Value) : (w.setCell p x).ownsRow B e k v n xs :=
  own_kept h (g := p.block) (gb_set w p x) hb
theorem own_set2 {B : Nat} {e : TypeId} {k : Nat} {v : Value} {n : Nat} {xs : List Value} {w : World} (h : w.ownsRow B e k v n xs) {b : Nat} (hb : b < B) (x y : Value) : ((w.setCell ⟨b, 0, none⟩ x).setCell ⟨b, 1, none⟩ y).ownsRow B e k v n xs :=
  own_set (own_set h ⟨b, 0, none⟩ hb x) ⟨b, 1, none⟩ hb y
/-- the block of the fault that Parse returns -/
def FR (w : World) (b : Nat) : Prop := w.heap[b]? = some (.cells #[.int .i64 0, .int .i64 0] 28 (0, 0))
theorem FR.facts {w : World} {b : Nat} (h : FR w b) :
    b < w.heap.size ∧ w.cell? ⟨b, 0, none⟩ = some (.int .i64 0) ∧ w.cell? ⟨b, 1, none⟩ = some (.int .i64 0) ∧ w.frozen? ⟨b, 0, none⟩ = false ∧ w.frozen? ⟨b, 1, none⟩ = false := by
  unfold FR at h
  refine ⟨(Array.getElem?_eq_some_iff.1 h).1, by rw [Lib.cell_of_heap h]; rfl, by rw [Lib.cell_of_heap h]; rfl, by simp [World.frozen?, h], by simp [World.frozen?, h]⟩
theorem FR.keep {w w' : World} {b g : Nat} (h : FR w b) (k : w.grownBy w' (some g)) (hn : b ≠ g) : FR w' b := gb_blk h k (fun e => hn (by injection e))
theorem FR.below {w w' : World} {b : Nat} (h : FR w b) (k : Below w.heap.size w w') : FR w' b := by
  unfold FR at h ⊢; rw [k.block _ (Array.getElem?_eq_some_iff.1 h).1]; exact h
set_option maxRecDepth 100000 in
set_option maxHeartbeats 8000000 in
theorem parse_idx (s : ByteArray) (hs : s.size ≤ 65536) (hne : (s.toList == [46]) = false) (hpf : Lib.hasPrefix s.data.toList [46] = false) (w : World) (h91 : ch s 0 = 91) (R : List St × Nat × Nat) (HR : Hid (parF s (s.size + 1) true 0 [] = R)) :
    Calls Tryd.prog 17 #[.string s] w (ParP w R) := by
  obtain ⟨i0, hi, hz0, hz1, hz2⟩ := info_parts Tryd.info37
  have CP := Lib.hid (Tryd.strings_HasPrefix s ⟨#[46]⟩)
  rw [show (⟨#[46]⟩ : ByteArray).data.toList = [46] from rfl, hpf] at CP
  have CK := Lib.hid (fun W q h hq => peek_any (w.heap.size + 1) s q W h hq hs)
  have CI := Lib.hid (fun W p h hlt => indexR_any (w.heap.size + 1) s p W h hlt hs)
  have CL := Lib.hid (fun W p h hle => labelR_any (w.heap.size + 1) s p W h hle hs)
  have q1 : decide ((65536 : Int) < (s.size : Int)) = false := decide_eq_false (by omega)
  have hlt0 := ch_in (s := s) (p := 0) (by omega)
  have q91 : ((ch s 0 : Int) == 91) = true := by simp; omega
  clear hpf h91
  have R0 : Hid (Rdr ((w.alloc (.cells #[.int .i64 0, .int .i64 0] 28)).alloc (.cells #[.string s, .int .i64 0] 54)) (w.heap.size + 1) s (0 : Nat)) := by
    have := World.alloc_heap_new (w.alloc (.cells #[.int .i64 0, .int .i64 0] 28)) (.cells #[.string s, .int .i64 0] 54)
    rw [World.size_alloc] at this
    exact Lib.hid this
  have F0 : Hid (FR ((w.alloc (.cells #[.int .i64 0, .int .i64 0] 28)).alloc (.cells #[.string s, .int .i64 0] 54)) w.heap.size) := by
    refine Lib.hid ?_
    unfold FR
    rw [Below.heap_alloc _ _ _ (by simp)]
    exact World.alloc_heap_new w _
  have B0 : Hid (Below w.heap.size w ((w.alloc (.cells #[.int .i64 0, .int .i64 0] 28)).alloc (.cells #[.string s, .int .i64 0] 54))) := Lib.hid (((Below.refl _ _).alloc (Nat.le_refl _) _).alloc (by simp) _)
  have Z0 : Hid (w.heap.size + 2 ≤ ((w.alloc (.cells #[.int .i64 0, .int .i64 0] 28)).alloc (.cells #[.string s, .int .i64 0] 54)).heap.size) := Lib.hid (by simp)
  go_enter Tryd.func17, Tryd.ntmps17
  go_wp2_with fail
  go_step3
  go_wp2_with fail
  refine (CP.out _).mono ?_
  rintro e w1 ⟨rfl, rfl⟩
  go_wp2_with fail
  generalize (w.alloc (.cells #[.int .i64 0, .int .i64 0] 28)).alloc (.cells #[.string s, .int .i64 0] 54) = w0 at *
  refine (CK.out _ 0 R0.out (by omega)).mono ?_
  rintro e w1 ⟨rfl, hb1⟩
  have R1 := Lib.hid (R0.out.keep hb1)
  have F1 := Lib.hid (F0.out.below hb1)
  have B1 := Lib.hid (B0.out.trans (hb1.mono B0.out.size))
  have Z1 : w.heap.size + 2 ≤ w1.heap.size := Nat.le_trans Z0.out hb1.size
  clear hb1 R0 F0 B0 Z0
  go_wp2_with fail
  go_step3
  go_wp2_with fail
  go_loopw [4, 6] (fun l rd wr => ∃ (f p K : Nat) (m : Bool) (acc : List St), rd = .func (.func K) #[.pointer (some ⟨w.heap.size + 1, 0, none⟩)] #[] ∧ ((m = true ∧ K = 34 ∧ p < s.size) ∨ (m = false ∧ K = 32)) ∧ p ≤ s.size ∧ acc.length ≤ p ∧ s.size < p + f ∧ Hid (parF s f m p acc = R) ∧ Hid (Rdr wr (w.heap.size + 1) s (p : Nat)) ∧ Hid (FR wr w.heap.size) ∧ Hid (wr.ownsRow (w.heap.size + 2) 37 2 l acc.length (flat acc)) ∧ Hid (Below w.heap.size w wr) ∧ w.heap.size + 2 ≤ wr.heap.size) (fun _ _ wr => s.size - (intOf ((wr.cell? ⟨w.heap.size + 1, 1, none⟩).getD undef)).toNat)
  case atStart => exact ⟨s.size + 1, 0, 34, true, [], rfl, .inl ⟨rfl, rfl, hlt0⟩, by omega, by simp, by omega, HR, R1, F1, Lib.hid (World.ownsRow_nil _ _ _ _), B1, Z1⟩
  case round =>
    clear R1 F1 B1 Z1 HR
    obtain ⟨f, p, K, m, acc, rfl, hK, hp, hacc, hf, HS, RR, FF, OW, BB, ZZ⟩ := hrel
    obtain ⟨f', rfl⟩ : ∃ f', f = f' + 1 := ⟨f - 1, by omega⟩
    obtain ⟨zr, r0, r1, rf⟩ := RR.out.facts
    rcases hK with ⟨rfl, rfl, hlt⟩ | ⟨rfl, rfl⟩
    · have hgo := stepS_go (s := s) (m := true) hp (fun _ => hlt)
      have HI := Lib.hid (fun W h => CI.out W p h hlt)
      have HX : Hid (((idxS s p).1, ((⟨#[]⟩ : ByteArray), ((idxS s p).2.1 : Int)), (idxS s p).2.2) = stepS s true p) := Lib.hid rfl
      rw [← HX.out] at hgo
      generalize idxS s p = I at *
      obtain ⟨r, n, q⟩ := I
      clear CI CL
      go_wp2_with fail
      refine (HI.out _ RR.out).mono ?_
      rintro e w2 ⟨rfl, h2⟩
      have R2 := Lib.hid h2.2
      have F2 := Lib.hid (FF.out.keep h2.1 (by omega))
      have B2 := Lib.hid (BB.out.trans (below_gb h2.1 BB.out.size (by omega)))
      have O2 := Lib.hid (own_kept OW.out h2.1 (by omega))
      have Z2 : w.heap.size + 2 ≤ w2.heap.size := Nat.le_trans ZZ h2.1.size
      clear h2 RR FF BB OW zr r0 rf
      have R3 := Lib.hid (R2.out.keep ((Below.refl _ _).alloc (Nat.le_refl _) (.cells #[.string (⟨#[]⟩ : ByteArray), .int .i64 (n : Int)] 37)))
      have F3 := Lib.hid (F2.out.below ((Below.refl _ _).alloc (Nat.le_refl _) (.cells #[.string (⟨#[]⟩ : ByteArray), .int .i64 (n : Int)] 37)))
      have B3 := Lib.hid (B2.out.alloc (by omega) (.cells #[.string (⟨#[]⟩ : ByteArray), .int .i64 (n : Int)] 37))
      have O3 := Lib.hid (O2.out.alloc (.cells #[.string (⟨#[]⟩ : ByteArray), .int .i64 (n : Int)] 37))
      have Z3 : w.heap.size + 2 ≤ (w2.alloc (.cells #[.string (⟨#[]⟩ : ByteArray), .int .i64 (n : Int)] 37)).heap.size := by simp; omega
      have N3 := Lib.hid (World.alloc_heap_new w2 (.cells #[.string (⟨#[]⟩ : ByteArray), .int .i64 (n : Int)] 37))
      clear R2 F2 B2 O2
      cases r with
      | false =>
        have HV := Lib.hid ((parF_0 (f := f') (acc := acc) HX.out).symm.trans HS.out)
        clear HS HX N3 O3
        go_wp2_with fail
        generalize w2.alloc (.cells #[.string (⟨#[]⟩ : ByteArray), .int .i64 (n : Int)] 37) = w3 at *
        obtain ⟨y0, y1, y2, y3⟩ := R3.out.facts
        obtain ⟨z5, b0, b1, bf0, bf1⟩ := F3.out.facts
        have B4 : Hid (Below w.heap.size w ((w3.setCell ⟨w.heap.size, 0, none⟩ (.int .i64 8)).setCell ⟨w.heap.size, 1, none⟩ (.int .i64 (q : Int)))) := Lib.hid ((B3.out.setCell (p := ⟨w.heap.size, 0, none⟩) (Nat.le_refl _) (.int .i64 8)).setCell (p := ⟨w.heap.size, 1, none⟩) (Nat.le_refl _) (.int .i64 (q : Int)))
        go_wp2_with fail
        go_region
        all_goals
          go_wp2_with fail
          rw [Exit.noGoto_ret]
          refine bodyPost_ret (v := .tuple #[.slice none 0 0, .agg #[.int .i64 8, .int .i64 (q : Int)]]) (by simp [results, Tryd.results17, go_sem, z5, b0, b1]) rfl ⟨.slice none 0 0, by rw [← HV.out]; rfl, by rw [← HV.out]; exact World.ownsRow_nil _ _ _ _, B4.out.drew⟩
      | true =>
        have hpq := hgo.2.2 rfl
        have hqs := hgo.2.1
        have H1 := Lib.hid (parF_1 (f := f') (acc := acc) HX.out)
        have H2 := Lib.hid (parF_2 (f := f') (acc := acc) HX.out)
        have H3 := Lib.hid (parF_3 (f := f') (acc := acc) HX.out)
        have H4 := Lib.hid (parF_4 (f := f') (acc := acc) HX.out)
        clear HX
        go_wp2_with (at_builtin; refine wpList_append_own _ rfl _ _ 22 rfl (w.heap.size + 2) 37 i0 (.agg #[.string ⟨#[]⟩, .int .i64 0]) 2 24 Tryd.underlying22 hi hz0 hz1 hz2 rfl (by decide) _ _ _ rfl (O3.out.alloc _) ⟨w2.heap.size + 1, 0, none⟩ 1 1 [.string (⟨#[]⟩ : ByteArray), .int .i64 (n : Int)] rfl rfl ?c1 ?c2 ?c3 ?c4 ?c5 ?_)
        case c1 => exact cells_new2 _ _ _ _ _ (by simp)
        case c2 => intro u hu; simp at hu; rcases hu with rfl | rfl <;> rfl
        case c3 => unfold maxLen; omega
        case c4 => omega
        case c5 => simp; omega
        intro v' w4 hown4 hgrow _
        have hrow := fun j hj => (O3.out.lt j hj).1
        have B4 : Hid (Below w.heap.size w w4) := Lib.hid ((B3.out.alloc (by simp; omega) _).grown hgrow (by simp; omega) (fun j hj => by have := hrow j hj; omega))
        have R4 : Hid (Rdr w4 (w.heap.size + 1) s (q : Nat)) := Lib.hid (gb_blk (R3.out.keep ((Below.refl _ _).alloc (Nat.le_refl _) _)) hgrow (fun e => by have := hrow _ e.symm; omega))
        have F4 : Hid (FR w4 w.heap.size) := Lib.hid (gb_blk (F3.out.below ((Below.refl _ _).alloc (Nat.le_refl _) _)) hgrow (fun e => by have := hrow _ e.symm; omega))
        have Z4 : w.heap.size + 2 ≤ w4.heap.size := by have := hgrow.size; simp at this; omega
        have O4 : Hid (w4.ownsRow (w.heap.size + 2) 37 2 v' (acc ++ [((⟨#[]⟩ : ByteArray), (n : Int))]).length (flat (acc ++ [((⟨#[]⟩ : ByteArray), (n : Int))]))) := Lib.hid (by rw [flat_snoc, List.length_append]; exact hown4)
        have hal : (acc ++ [(((⟨#[]⟩ : ByteArray), (n : Int)) : St)]).length ≤ q := by rw [List.length_append]; show acc.length + 1 ≤ q; omega
        clear hown4 hgrow hrow R3 F3 B3 O3 N3 hacc hgo
        generalize acc ++ [(((⟨#[]⟩ : ByteArray), (n : Int)) : St)] = acc' at *
        obtain ⟨y0, y1, y2, y3⟩ := R4.out.facts
        by_cases hend : q = s.size
        · have q2 : ((q : Int) == (s.size : Int)) = true := by simp [hend]
          have HV := Lib.hid ((H1.out hend).symm.trans HS.out)
          obtain ⟨z5, b0, b1, bf0, bf1⟩ := F4.out.facts
          have B5 := Lib.hid ((B4.out.setCell (p := ⟨w.heap.size, 0, none⟩) (Nat.le_refl _) (.int .i64 0)).setCell (p := ⟨w.heap.size, 1, none⟩) (Nat.le_refl _) (.int .i64 0))
          have O5 := Lib.hid (own_set2 O4.out (b := w.heap.size) (by omega) (.int .i64 0) (.int .i64 0))
          clear hend H1 H2 H3 H4 HS
          go_wp2_with fail
          rw [Exit.noGoto_ret]
          refine bodyPost_ret (v := .tuple #[v', .agg #[.int .i64 0, .int .i64 0]]) (by simp [results, Tryd.results17, go_sem, z5, b0, b1]) rfl ⟨v', by rw [← HV.out]; rfl, by rw [← HV.out]; exact own_mono O5.out (by omega), B5.out⟩
        · have q2 : ((q : Int) == (s.size : Int)) = false := by simp; omega
          have hql : q < s.size := by omega
          have CK4 := Lib.hid (fun W h => CK.out W q h (by omega))
          by_cases c46 : ch s q = 46
          · have HV := Lib.hid ((H2.out hend c46).symm.trans HS.out)
            have q3 : ((ch s q : Int) == 46) = true := by simp; omega
            clear H1 H2 H3 H4 HS hend c46
            go_wp2_with fail
            refine (CK4.out _ R4.out).mono ?_
            rintro e w5 ⟨rfl, hb5⟩
            have R5 := Lib.hid (R4.out.keep hb5)
            have F5 := Lib.hid (F4.out.below hb5)
            have B5 := Lib.hid (B4.out.trans (hb5.mono B4.out.size))
            have O5 := Lib.hid (own_bel O4.out hb5)
            have Z5 : w.heap.size + 2 ≤ w5.heap.size := Nat.le_trans Z4 hb5.size
            clear hb5 R4 F4 B4 O4 y0 y1 y2 y3
            obtain ⟨y0, y1, y2, y3⟩ := R5.out.facts
            have R6 : Hid (Rdr (w5.setCell ⟨w.heap.size + 1, 1, none⟩ (.int .i64 ((q : Int) + 1))) (w.heap.size + 1) s ((q + 1 : Nat) : Int)) := Lib.hid (by have := R5.out.set ((q : Int) + 1); exact this)
            have F6 := Lib.hid (F5.out.keep (gb_set w5 ⟨w.heap.size + 1, 1, none⟩ (.int .i64 ((q : Int) + 1))) (by simp))
            have B6 := Lib.hid (B5.out.setCell (p := ⟨w.heap.size + 1, 1, none⟩) (by simp) (.int .i64 ((q : Int) + 1)))
            have O6 := Lib.hid (own_set O5.out ⟨w.heap.size + 1, 1, none⟩ (by simp) (.int .i64 ((q : Int) + 1)))
            have Z6 : w.heap.size + 2 ≤ (w5.setCell ⟨w.heap.size + 1, 1, none⟩ (.int .i64 ((q : Int) + 1))).heap.size := by simpa [World.setCell] using Z5
            clear R5 F5 B5 O5
            go_wp2_with fail
            go_roundw
            case rel => exact ⟨f', q + 1, 32, false, acc', rfl, .inr ⟨rfl, rfl⟩, by omega, by omega, by omega, HV, R6, F6, O6, B6, Z6⟩
            case measure => have m1 := R6.out.facts.2.2.1; simp [intOf, r1, m1]; omega
          have q3 : ((ch s q : Int) == 46) = false := by simp; omega
          by_cases c91 : ch s q = 91
          · have HV := Lib.hid ((H3.out hend c91).symm.trans HS.out)
            have q4 : ((ch s q : Int) == 91) = true := by simp; omega
            clear H1 H2 H3 H4 HS hend c46 c91
            go_wp2_with fail
            refine (CK4.out _ R4.out).mono ?_
            rintro e w5 ⟨rfl, hb5⟩
            have R5 := Lib.hid (R4.out.keep hb5)
            have F5 := Lib.hid (F4.out.below hb5)
            have B5 := Lib.hid (B4.out.trans (hb5.mono B4.out.size))
            have O5 := Lib.hid (own_bel O4.out hb5)
            have Z5 : w.heap.size + 2 ≤ w5.heap.size := Nat.le_trans Z4 hb5.size
            clear hb5 R4 F4 B4 O4 y0 y1 y2 y3
            go_wp2_with fail
            refine (CK4.out _ R5.out).mono ?_
            rintro e w6 ⟨rfl, hb6⟩
            have R6 := Lib.hid (R5.out.keep hb6)
            have F6 := Lib.hid (F5.out.below hb6)
            have B6 := Lib.hid (B5.out.trans (hb6.mono B5.out.size))
            have O6 := Lib.hid (own_bel O5.out hb6)
            have Z6 : w.heap.size + 2 ≤ w6.heap.size := Nat.le_trans Z5 hb6.size
            clear hb6 R5 F5 B5 O5
            go_wp2_with fail
            go_roundw
            case rel => exact ⟨f', q, 34, true, acc', rfl, .inl ⟨rfl, rfl, hql⟩, by omega, hal, by omega, HV, R6, F6, O6, B6, Z6⟩
            case measure => have m1 := R6.out.facts.2.2.1; simp [intOf, r1, m1]; omega
          · have HV := Lib.hid ((H4.out hend c46 c91).symm.trans HS.out)
            have q4 : ((ch s q : Int) == 91) = false := by simp; omega
            clear H1 H2 H3 H4 HS hend c46 c91
            go_wp2_with fail
            refine (CK4.out _ R4.out).mono ?_
            rintro e w5 ⟨rfl, hb5⟩
            have R5 := Lib.hid (R4.out.keep hb5)
            have F5 := Lib.hid (F4.out.below hb5)
            have B5 := Lib.hid (B4.out.trans (hb5.mono B4.out.size))
            clear hb5 R4 F4 B4 O4 y0 y1 y2 y3
            go_wp2_with fail
            refine (CK4.out _ R5.out).mono ?_
            rintro e w3 ⟨rfl, hb6⟩
            have R3 := Lib.hid (R5.out.keep hb6)
            have F3 := Lib.hid (F5.out.below hb6)
            have B3 := Lib.hid (B5.out.trans (hb6.mono B5.out.size))
            clear hb6 R5 F5 B5
            obtain ⟨y0, y1, y2, y3⟩ := R3.out.facts
            obtain ⟨z5, b0, b1, bf0, bf1⟩ := F3.out.facts
            have B4 : Hid (Below w.heap.size w ((w3.setCell ⟨w.heap.size, 0, none⟩ (.int .i64 8)).setCell ⟨w.heap.size, 1, none⟩ (.int .i64 (q : Int)))) := Lib.hid ((B3.out.setCell (p := ⟨w.heap.size, 0, none⟩) (Nat.le_refl _) (.int .i64 8)).setCell (p := ⟨w.heap.size, 1, none⟩) (Nat.le_refl _) (.int .i64 (q : Int)))
            go_wp2_with fail
            go_region
            all_goals
              go_wp2_with fail
              rw [Exit.noGoto_ret]
              refine bodyPost_ret (v := .tuple #[.slice none 0 0, .agg #[.int .i64 8, .int .i64 (q : Int)]]) (by simp [results, Tryd.results17, go_sem, z5, b0, b1]) rfl ⟨.slice none 0 0, by rw [← HV.out]; rfl, by rw [← HV.out]; exact World.ownsRow_nil _ _ _ _, B4.out.drew⟩
    · have hgo := stepS_go (s := s) (m := false) hp (fun h => by cases h)
      have HI := Lib.hid (fun W h => CL.out W p h hp)
      have HX : Hid (((labS s p).1, ((labS s p).2.1, (0 : Int)), (labS s p).2.2) = stepS s false p) := Lib.hid rfl
      rw [← HX.out] at hgo
      generalize labS s p = I at *
      obtain ⟨r, v, q⟩ := I
      clear CI CL
      go_wp2_with fail
      refine (HI.out _ RR.out).mono ?_
      rintro e w2 ⟨rfl, h2⟩
      have R2 := Lib.hid h2.2
      have F2 := Lib.hid (FF.out.keep h2.1 (by omega))
      have B2 := Lib.hid (BB.out.trans (below_gb h2.1 BB.out.size (by omega)))
      have O2 := Lib.hid (own_kept OW.out h2.1 (by omega))
      have Z2 : w.heap.size + 2 ≤ w2.heap.size := Nat.le_trans ZZ h2.1.size
      clear h2 RR FF BB OW zr r0 rf
      have R3 := Lib.hid (R2.out.keep ((Below.refl _ _).alloc (Nat.le_refl _) (.cells #[.string v, .int .i64 (0 : Int)] 37)))
      have F3 := Lib.hid (F2.out.below ((Below.refl _ _).alloc (Nat.le_refl _) (.cells #[.string v, .int .i64 (0 : Int)] 37)))
      have B3 := Lib.hid (B2.out.alloc (by omega) (.cells #[.string v, .int .i64 (0 : Int)] 37))
      have O3 := Lib.hid (O2.out.alloc (.cells #[.string v, .int .i64 (0 : Int)] 37))
      have Z3 : w.heap.size + 2 ≤ (w2.alloc (.cells #[.string v, .int .i64 (0 : Int)] 37)).heap.size := by simp; omega
      have N3 := Lib.hid (World.alloc_heap_new w2 (.cells #[.string v, .int .i64 (0 : Int)] 37))
      clear R2 F2 B2 O2
      cases r with
      | false =>
        have HV := Lib.hid ((parF_0 (f := f') (acc := acc) HX.out).symm.trans HS.out)
        clear HS HX N3 O3
        go_wp2_with fail
        generalize w2.alloc (.cells #[.string v, .int .i64 (0 : Int)] 37) = w3 at *
        obtain ⟨y0, y1, y2, y3⟩ := R3.out.facts
        obtain ⟨z5, b0, b1, bf0, bf1⟩ := F3.out.facts
        have B4 : Hid (Below w.heap.size w ((w3.setCell ⟨w.heap.size, 0, none⟩ (.int .i64 8)).setCell ⟨w.heap.size, 1, none⟩ (.int .i64 (q : Int)))) := Lib.hid ((B3.out.setCell (p := ⟨w.heap.size, 0, none⟩) (Nat.le_refl _) (.int .i64 8)).setCell (p := ⟨w.heap.size, 1, none⟩) (Nat.le_refl _) (.int .i64 (q : Int)))
        go_wp2_with fail
        go_region
        all_goals
          go_wp2_with fail
          rw [Exit.noGoto_ret]
          refine bodyPost_ret (v := .tuple #[.slice none 0 0, .agg #[.int .i64 8, .int .i64 (q : Int)]]) (by simp [results, Tryd.results17, go_sem, z5, b0, b1]) rfl ⟨.slice none 0 0, by rw [← HV.out]; rfl, by rw [← HV.out]; exact World.ownsRow_nil _ _ _ _, B4.out.drew⟩
      | true =>
        have hpq := hgo.2.2 rfl
        have hqs := hgo.2.1
        have H1 := Lib.hid (parF_1 (f := f') (acc := acc) HX.out)
        have H2 := Lib.hid (parF_2 (f := f') (acc := acc) HX.out)
        have H3 := Lib.hid (parF_3 (f := f') (acc := acc) HX.out)
        have H4 := Lib.hid (parF_4 (f := f') (acc := acc) HX.out)
        clear HX
        go_wp2_with (at_builtin; refine wpList_append_own _ rfl _ _ 22 rfl (w.heap.size + 2) 37 i0 (.agg #[.string ⟨#[]⟩, .int .i64 0]) 2 24 Tryd.underlying22 hi hz0 hz1 hz2 rfl (by decide) _ _ _ rfl (O3.out.alloc _) ⟨w2.heap.size + 1, 0, none⟩ 1 1 [.string v, .int .i64 (0 : Int)] rfl rfl ?c1 ?c2 ?c3 ?c4 ?c5 ?_)
        case c1 => exact cells_new2 _ _ _ _ _ (by simp)
        case c2 => intro u hu; simp at hu; rcases hu with rfl | rfl <;> rfl
        case c3 => unfold maxLen; omega
        case c4 => omega
        case c5 => simp; omega
        intro v' w4 hown4 hgrow _
        have hrow := fun j hj => (O3.out.lt j hj).1
        have B4 : Hid (Below w.heap.size w w4) := Lib.hid ((B3.out.alloc (by simp; omega) _).grown hgrow (by simp; omega) (fun j hj => by have := hrow j hj; omega))
        have R4 : Hid (Rdr w4 (w.heap.size + 1) s (q : Nat)) := Lib.hid (gb_blk (R3.out.keep ((Below.refl _ _).alloc (Nat.le_refl _) _)) hgrow (fun e => by have := hrow _ e.symm; omega))
        have F4 : Hid (FR w4 w.heap.size) := Lib.hid (gb_blk (F3.out.below ((Below.refl _ _).alloc (Nat.le_refl _) _)) hgrow (fun e => by have := hrow _ e.symm; omega))
        have Z4 : w.heap.size + 2 ≤ w4.heap.size := by have := hgrow.size; simp at this; omega
        have O4 : Hid (w4.ownsRow (w.heap.size + 2) 37 2 v' (acc ++ [(v, (0 : Int))]).length (flat (acc ++ [(v, (0 : Int))]))) := Lib.hid (by rw [flat_snoc, List.length_append]; exact hown4)
        have hal : (acc ++ [((v, (0 : Int)) : St)]).length ≤ q := by rw [List.length_append]; show acc.length + 1 ≤ q; omega
        clear hown4 hgrow hrow R3 F3 B3 O3 N3 hacc hgo
        generalize acc ++ [((v, (0 : Int)) : St)] = acc' at *
        obtain ⟨y0, y1, y2, y3⟩ := R4.out.facts
        by_cases hend : q = s.size
        · have q2 : ((q : Int) == (s.size : Int)) = true := by simp [hend]
          have HV := Lib.hid ((H1.out hend).symm.trans HS.out)
          obtain ⟨z5, b0, b1, bf0, bf1⟩ := F4.out.facts
          have B5 := Lib.hid ((B4.out.setCell (p := ⟨w.heap.size, 0, none⟩) (Nat.le_refl _) (.int .i64 0)).setCell (p := ⟨w.heap.size, 1, none⟩) (Nat.le_refl _) (.int .i64 0))
          have O5 := Lib.hid (own_set2 O4.out (b := w.heap.size) (by omega) (.int .i64 0) (.int .i64 0))
          clear hend H1 H2 H3 H4 HS
          go_wp2_with fail
          rw [Exit.noGoto_ret]
          refine bodyPost_ret (v := .tuple #[v', .agg #[.int .i64 0, .int .i64 0]]) (by simp [results, Tryd.results17, go_sem, z5, b0, b1]) rfl ⟨v', by rw [← HV.out]; rfl, by rw [← HV.out]; exact own_mono O5.out (by omega), B5.out⟩
        · have q2 : ((q : Int) == (s.size : Int)) = false := by simp; omega
          have hql : q < s.size := by omega
          have CK4 := Lib.hid (fun W h => CK.out W q h (by omega))
          by_cases c46 : ch s q = 46
          · have HV := Lib.hid ((H2.out hend c46).symm.trans HS.out)
            have q3 : ((ch s q : Int) == 46) = true := by simp; omega
            clear H1 H2 H3 H4 HS hend c46
            go_wp2_with fail
            refine (CK4.out _ R4.out).mono ?_
            rintro e w5 ⟨rfl, hb5⟩
            have R5 := Lib.hid (R4.out.keep hb5)
            have F5 := Lib.hid (F4.out.below hb5)
            have B5 := Lib.hid (B4.out.trans (hb5.mono B4.out.size))
            have O5 := Lib.hid (own_bel O4.out hb5)
            have Z5 : w.heap.size + 2 ≤ w5.heap.size := Nat.le_trans Z4 hb5.size
            clear hb5 R4 F4 B4 O4 y0 y1 y2 y3
            obtain ⟨y0, y1, y2, y3⟩ := R5.out.facts
            have R6 : Hid (Rdr (w5.setCell ⟨w.heap.size + 1, 1, none⟩ (.int .i64 ((q : Int) + 1))) (w.heap.size + 1) s ((q + 1 : Nat) : Int)) := Lib.hid (by have := R5.out.set ((q : Int) + 1); exact this)
            have F6 := Lib.hid (F5.out.keep (gb_set w5 ⟨w.heap.size + 1, 1, none⟩ (.int .i64 ((q : Int) + 1))) (by simp))
            have B6 := Lib.hid (B5.out.setCell (p := ⟨w.heap.size + 1, 1, none⟩) (by simp) (.int .i64 ((q : Int) + 1)))
            have O6 := Lib.hid (own_set O5.out ⟨w.heap.size + 1, 1, none⟩ (by simp) (.int .i64 ((q : Int) + 1)))
            have Z6 : w.heap.size + 2 ≤ (w5.setCell ⟨w.heap.size + 1, 1, none⟩ (.int .i64 ((q : Int) + 1))).heap.size := by simpa [World.setCell] using Z5
            clear R5 F5 B5 O5
            go_wp2_with fail
            go_roundw
            case rel => exact ⟨f', q + 1, 32, false, acc', rfl, .inr ⟨rfl, rfl⟩, by omega, by omega, by omega, HV, R6, F6, O6, B6, Z6⟩
            case measure => have m1 := R6.out.facts.2.2.1; simp [intOf, r1, m1]; omega
          have q3 : ((ch s q : Int) == 46) = false := by simp; omega
          by_cases c91 : ch s q = 91
          · have HV := Lib.hid ((H3.out hend c91).symm.trans HS.out)
            have q4 : ((ch s q : Int) == 91) = true := by simp; omega
            clear H1 H2 H3 H4 HS hend c46 c91
            go_wp2_with fail
            refine (CK4.out _ R4.out).mono ?_
            rintro e w5 ⟨rfl, hb5⟩
            have R5 := Lib.hid (R4.out.keep hb5)
            have F5 := Lib.hid (F4.out.below hb5)
            have B5 := Lib.hid (B4.out.trans (hb5.mono B4.out.size))
            have O5 := Lib.hid (own_bel O4.out hb5)
            have Z5 : w.heap.size + 2 ≤ w5.heap.size := Nat.le_trans Z4 hb5.size
            clear hb5 R4 F4 B4 O4 y0 y1 y2 y3
            go_wp2_with fail
            refine (CK4.out _ R5.out).mono ?_
            rintro e w6 ⟨rfl, hb6⟩
            have R6 := Lib.hid (R5.out.keep hb6)
            have F6 := Lib.hid (F5.out.below hb6)
            have B6 := Lib.hid (B5.out.trans (hb6.mono B5.out.size))
            have O6 := Lib.hid (own_bel O5.out hb6)
            have Z6 : w.heap.size + 2 ≤ w6.heap.size := Nat.le_trans Z5 hb6.size
            clear hb6 R5 F5 B5 O5
            go_wp2_with fail
            go_roundw
            case rel => exact ⟨f', q, 34, true, acc', rfl, .inl ⟨rfl, rfl, hql⟩, by omega, hal, by omega, HV, R6, F6, O6, B6, Z6⟩
            case measure => have m1 := R6.out.facts.2.2.1; simp [intOf, r1, m1]; omega
          · have HV := Lib.hid ((H4.out hend c46 c91).symm.trans HS.out)
            have q4 : ((ch s q : Int) == 91) = false := by simp; omega
            clear H1 H2 H3 H4 HS hend c46 c91
            go_wp2_with fail
            refine (CK4.out _ R4.out).mono ?_
            rintro e w5 ⟨rfl, hb5⟩
            have R5 := Lib.hid (R4.out.keep hb5)
            have F5 := Lib.hid (F4.out.below hb5)
            have B5 := Lib.hid (B4.out.trans (hb5.mono B4.out.size))
            clear hb5 R4 F4 B4 O4 y0 y1 y2 y3
            go_wp2_with fail
            refine (CK4.out _ R5.out).mono ?_
            rintro e w3 ⟨rfl, hb6⟩
            have R3 := Lib.hid (R5.out.keep hb6)
            have F3 := Lib.hid (F5.out.below hb6)
            have B3 := Lib.hid (B5.out.trans (hb6.mono B5.out.size))
            clear hb6 R5 F5 B5
            obtain ⟨y0, y1, y2, y3⟩ := R3.out.facts
            obtain ⟨z5, b0, b1, bf0, bf1⟩ := F3.out.facts
            have B4 : Hid (Below w.heap.size w ((w3.setCell ⟨w.heap.size, 0, none⟩ (.int .i64 8)).setCell ⟨w.heap.size, 1, none⟩ (.int .i64 (q : Int)))) := Lib.hid ((B3.out.setCell (p := ⟨w.heap.size, 0, none⟩) (Nat.le_refl _) (.int .i64 8)).setCell (p := ⟨w.heap.size, 1, none⟩) (Nat.le_refl _) (.int .i64 (q : Int)))
            go_wp2_with fail
            go_region
            all_goals
              go_wp2_with fail
              rw [Exit.noGoto_ret]
              refine bodyPost_ret (v := .tuple #[.slice none 0 0, .agg #[.int .i64 8, .int .i64 (q : Int)]]) (by simp [results, Tryd.results17, go_sem, z5, b0, b1]) rfl ⟨.slice none 0 0, by rw [← HV.out]; rfl, by rw [← HV.out]; exact World.ownsRow_nil _ _ _ _, B4.out.drew⟩
set_option maxRecDepth 100000 in
set_option maxHeartbeats 8000000 in
theorem parse_lab (s : ByteArray) (hs : s.size ≤ 65536) (hne : (s.toList == [46]) = false) (hpf : Lib.hasPrefix s.data.toList [46] = false) (w : World) (h91 : ch s 0 ≠ 91) (R : List St × Nat × Nat) (HR : Hid (parF s (s.size + 1) false 0 [] = R)) :
    Calls Tryd.prog 17 #[.string s] w (ParP w R) := by
  obtain ⟨i0, hi, hz0, hz1, hz2⟩ := info_parts Tryd.info37
  have CP := Lib.hid (Tryd.strings_HasPrefix s ⟨#[46]⟩)
  rw [show (⟨#[46]⟩ : ByteArray).data.toList = [46] from rfl, hpf] at CP
  have CK := Lib.hid (fun W q h hq => peek_any (w.heap.size + 1) s q W h hq hs)
  have CI := Lib.hid (fun W p h hlt => indexR_any (w.heap.size + 1) s p W h hlt hs)
  have CL := Lib.hid (fun W p h hle => labelR_any (w.heap.size + 1) s p W h hle hs)
  have q1 : decide ((65536 : Int) < (s.size : Int)) = false := decide_eq_false (by omega)
  have q91 : ((ch s 0 : Int) == 91) = false := by simp; omega
  clear hpf h91
  have R0 : Hid (Rdr ((w.alloc (.cells #[.int .i64 0, .int .i64 0] 28)).alloc (.cells #[.string s, .int .i64 0] 54)) (w.heap.size + 1) s (0 : Nat)) := by
    have := World.alloc_heap_new (w.alloc (.cells #[.int .i64 0, .int .i64 0] 28)) (.cells #[.string s, .int .i64 0] 54)
    rw [World.size_alloc] at this
    exact Lib.hid this
  have F0 : Hid (FR ((w.alloc (.cells #[.int .i64 0, .int .i64 0] 28)).alloc (.cells #[.string s, .int .i64 0] 54)) w.heap.size) := by
    refine Lib.hid ?_
    unfold FR
    rw [Below.heap_alloc _ _ _ (by simp)]
    exact World.alloc_heap_new w _
  have B0 : Hid (Below w.heap.size w ((w.alloc (.cells #[.int .i64 0, .int .i64 0] 28)).alloc (.cells #[.string s, .int .i64 0] 54))) := Lib.hid (((Below.refl _ _).alloc (Nat.le_refl _) _).alloc (by simp) _)
  have Z0 : Hid (w.heap.size + 2 ≤ ((w.alloc (.cells #[.int .i64 0, .int .i64 0] 28)).alloc (.cells #[.string s, .int .i64 0] 54)).heap.size) := Lib.hid (by simp)
  go_enter Tryd.func17, Tryd.ntmps17
  go_wp2_with fail
  go_step3
  go_wp2_with fail
  refine (CP.out _).mono ?_
  rintro e w1 ⟨rfl, rfl⟩
  go_wp2_with fail
  generalize (w.alloc (.cells #[.int .i64 0, .int .i64 0] 28)).alloc (.cells #[.string s, .int .i64 0] 54) = w0 at *
  refine (CK.out _ 0 R0.out (by omega)).mono ?_
  rintro e w1 ⟨rfl, hb1⟩
  have R1 := Lib.hid (R0.out.keep hb1)
  have F1 := Lib.hid (F0.out.below hb1)
  have B1 := Lib.hid (B0.out.trans (hb1.mono B0.out.size))
  have Z1 : w.heap.size + 2 ≤ w1.heap.size := Nat.le_trans Z0.out hb1.size
  clear hb1 R0 F0 B0 Z0
  go_wp2_with fail
  go_step3
  go_wp2_with fail
  go_loopw [4, 6] (fun l rd wr => ∃ (f p K : Nat) (m : Bool) (acc : List St), rd = .func (.func K) #[.pointer (some ⟨w.heap.size + 1, 0, none⟩)] #[] ∧ ((m = true ∧ K = 34 ∧ p < s.size) ∨ (m = false ∧ K = 32)) ∧ p ≤ s.size ∧ acc.length ≤ p ∧ s.size < p + f ∧ Hid (parF s f m p acc = R) ∧ Hid (Rdr wr (w.heap.size + 1) s (p : Nat)) ∧ Hid (FR wr w.heap.size) ∧ Hid (wr.ownsRow (w.heap.size + 2) 37 2 l acc.length (flat acc)) ∧ Hid (Below w.heap.size w wr) ∧ w.heap.size + 2 ≤ wr.heap.size) (fun _ _ wr => s.size - (intOf ((wr.cell? ⟨w.heap.size + 1, 1, none⟩).getD undef)).toNat)
  case atStart => exact ⟨s.size + 1, 0, 32, false, [], rfl, .inr ⟨rfl, rfl⟩, by omega, by simp, by omega, HR, R1, F1, Lib.hid (World.ownsRow_nil _ _ _ _), B1, Z1⟩
  case round =>
    clear R1 F1 B1 Z1 HR
    obtain ⟨f, p, K, m, acc, rfl, hK, hp, hacc, hf, HS, RR, FF, OW, BB, ZZ⟩ := hrel
    obtain ⟨f', rfl⟩ : ∃ f', f = f' + 1 := ⟨f - 1, by omega⟩
    obtain ⟨zr, r0, r1, rf⟩ := RR.out.facts
    rcases hK with ⟨rfl, rfl, hlt⟩ | ⟨rfl, rfl⟩
    · have hgo := stepS_go (s := s) (m := true) hp (fun _ => hlt)
      have HI := Lib.hid (fun W h => CI.out W p h hlt)
      have HX : Hid (((idxS s p).1, ((⟨#[]⟩ : ByteArray), ((idxS s p).2.1 : Int)), (idxS s p).2.2) = stepS s true p) := Lib.hid rfl
      rw [← HX.out] at hgo
      generalize idxS s p = I at *
      obtain ⟨r, n, q⟩ := I
      clear CI CL
      go_wp2_with fail
      refine (HI.out _ RR.out).mono ?_
      rintro e w2 ⟨rfl, h2⟩
      have R2 := Lib.hid h2.2
      have F2 := Lib.hid (FF.out.keep h2.1 (by omega))
      have B2 := Lib.hid (BB.out.trans (below_gb h2.1 BB.out.size (by omega)))
      have O2 := Lib.hid (own_kept OW.out h2.1 (by omega))
      have Z2 : w.heap.size + 2 ≤ w2.heap.size := Nat.le_trans ZZ h2.1.size
      clear h2 RR FF BB OW zr r0 rf
      have R3 := Lib.hid (R2.out.keep ((Below.refl _ _).alloc (Nat.le_refl _) (.cells #[.string (⟨#[]⟩ : ByteArray), .int .i64 (n : Int)] 37)))
      have F3 := Lib.hid (F2.out.below ((Below.refl _ _).alloc (Nat.le_refl _) (.cells #[.string (⟨#[]⟩ : ByteArray), .int .i64 (n : Int)] 37)))
      have B3 := Lib.hid (B2.out.alloc (by omega) (.cells #[.string (⟨#[]⟩ : ByteArray), .int .i64 (n : Int)] 37))
      have O3 := Lib.hid (O2.out.alloc (.cells #[.string (⟨#[]⟩ : ByteArray), .int .i64 (n : Int)] 37))
      have Z3 : w.heap.size + 2 ≤ (w2.alloc (.cells #[.string (⟨#[]⟩ : ByteArray), .int .i64 (n : Int)] 37)).heap.size := by simp; omega
      have N3 := Lib.hid (World.alloc_heap_new w2 (.cells #[.string (⟨#[]⟩ : ByteArray), .int .i64 (n : Int)] 37))
      clear R2 F2 B2 O2
      cases r with
      | false =>
        have HV := Lib.hid ((parF_0 (f := f') (acc := acc) HX.out).symm.trans HS.out)
        clear HS HX N3 O3
        go_wp2_with fail
        generalize w2.alloc (.cells #[.string (⟨#[]⟩ : ByteArray), .int .i64 (n : Int)] 37) = w3 at *
        obtain ⟨y0, y1, y2, y3⟩ := R3.out.facts
        obtain ⟨z5, b0, b1, bf0, bf1⟩ := F3.out.facts
        have B4 : Hid (Below w.heap.size w ((w3.setCell ⟨w.heap.size, 0, none⟩ (.int .i64 8)).setCell ⟨w.heap.size, 1, none⟩ (.int .i64 (q : Int)))) := Lib.hid ((B3.out.setCell (p := ⟨w.heap.size, 0, none⟩) (Nat.le_refl _) (.int .i64 8)).setCell (p := ⟨w.heap.size, 1, none⟩) (Nat.le_refl _) (.int .i64 (q : Int)))
        go_wp2_with fail
        go_region
        all_goals
          go_wp2_with fail
          rw [Exit.noGoto_ret]
          refine bodyPost_ret (v := .tuple #[.slice none 0 0, .agg #[.int .i64 8, .int .i64 (q : Int)]]) (by simp [results, Tryd.results17, go_sem, z5, b0, b1]) rfl ⟨.slice none 0 0, by rw [← HV.out]; rfl, by rw [← HV.out]; exact World.ownsRow_nil _ _ _ _, B4.out.drew⟩
      | true =>
        have hpq := hgo.2.2 rfl
        have hqs := hgo.2.1
        have H1 := Lib.hid (parF_1 (f := f') (acc := acc) HX.out)
        have H2 := Lib.hid (parF_2 (f := f') (acc := acc) HX.out)
        have H3 := Lib.hid (parF_3 (f := f') (acc := acc) HX.out)
        have H4 := Lib.hid (parF_4 (f := f') (acc := acc) HX.out)
        clear HX
        go_wp2_with (at_builtin; refine wpList_append_own _ rfl _ _ 22 rfl (w.heap.size + 2) 37 i0 (.agg #[.string ⟨#[]⟩, .int .i64 0]) 2 24 Tryd.underlying22 hi hz0 hz1 hz2 rfl (by decide) _ _ _ rfl (O3.out.alloc _) ⟨w2.heap.size + 1, 0, none⟩ 1 1 [.string (⟨#[]⟩ : ByteArray), .int .i64 (n : Int)] rfl rfl ?c1 ?c2 ?c3 ?c4 ?c5 ?_)
        case c1 => exact cells_new2 _ _ _ _ _ (by simp)
        case c2 => intro u hu; simp at hu; rcases hu with rfl | rfl <;> rfl
        case c3 => unfold maxLen; omega
        case c4 => omega
        case c5 => simp; omega
        intro v' w4 hown4 hgrow _
        have hrow := fun j hj => (O3.out.lt j hj).1
        have B4 : Hid (Below w.heap.size w w4) := Lib.hid ((B3.out.alloc (by simp; omega) _).grown hgrow (by simp; omega) (fun j hj => by have := hrow j hj; omega))
        have R4 : Hid (Rdr w4 (w.heap.size + 1) s (q : Nat)) := Lib.hid (gb_blk (R3.out.keep ((Below.refl _ _).alloc (Nat.le_refl _) _)) hgrow (fun e => by have := hrow _ e.symm; omega))
        have F4 : Hid (FR w4 w.heap.size) := Lib.hid (gb_blk (F3.out.below ((Below.refl _ _).alloc (Nat.le_refl _) _)) hgrow (fun e => by have := hrow _ e.symm; omega))
        have Z4 : w.heap.size + 2 ≤ w4.heap.size := by have := hgrow.size; simp at this; omega
        have O4 : Hid (w4.ownsRow (w.heap.size + 2) 37 2 v' (acc ++ [((⟨#[]⟩ : ByteArray), (n : Int))]).length (flat (acc ++ [((⟨#[]⟩ : ByteArray), (n : Int))]))) := Lib.hid (by rw [flat_snoc, List.length_append]; exact hown4)
        have hal : (acc ++ [(((⟨#[]⟩ : ByteArray), (n : Int)) : St)]).length ≤ q := by rw [List.length_append]; show acc.length + 1 ≤ q; omega
        clear hown4 hgrow hrow R3 F3 B3 O3 N3 hacc hgo
        generalize acc ++ [(((⟨#[]⟩ : ByteArray), (n : Int)) : St)] = acc' at *
        obtain ⟨y0, y1, y2, y3⟩ := R4.out.facts
        by_cases hend : q = s.size
        · have q2 : ((q : Int) == (s.size : Int)) = true := by simp [hend]
          have HV := Lib.hid ((H1.out hend).symm.trans HS.out)
          obtain ⟨z5, b0, b1, bf0, bf1⟩ := F4.out.facts
          have B5 := Lib.hid ((B4.out.setCell (p := ⟨w.heap.size, 0, none⟩) (Nat.le_refl _) (.int .i64 0)).setCell (p := ⟨w.heap.size, 1, none⟩) (Nat.le_refl _) (.int .i64 0))
          have O5 := Lib.hid (own_set2 O4.out (b := w.heap.size) (by omega) (.int .i64 0) (.int .i64 0))
          clear hend H1 H2 H3 H4 HS
          go_wp2_with fail
          rw [Exit.noGoto_ret]
          refine bodyPost_ret (v := .tuple #[v', .agg #[.int .i64 0, .int .i64 0]]) (by simp [results, Tryd.results17, go_sem, z5, b0, b1]) rfl ⟨v', by rw [← HV.out]; rfl, by rw [← HV.out]; exact own_mono O5.out (by omega), B5.out⟩
        · have q2 : ((q : Int) == (s.size : Int)) = false := by simp; omega
          have hql : q < s.size := by omega
          have CK4 := Lib.hid (fun W h => CK.out W q h (by omega))
          by_cases c46 : ch s q = 46
          · have HV := Lib.hid ((H2.out hend c46).symm.trans HS.out)
            have q3 : ((ch s q : Int) == 46) = true := by simp; omega
            clear H1 H2 H3 H4 HS hend c46
            go_wp2_with fail
            refine (CK4.out _ R4.out).mono ?_
            rintro e w5 ⟨rfl, hb5⟩
            have R5 := Lib.hid (R4.out.keep hb5)
            have F5 := Lib.hid (F4.out.below hb5)
            have B5 := Lib.hid (B4.out.trans (hb5.mono B4.out.size))
            have O5 := Lib.hid (own_bel O4.out hb5)
            have Z5 : w.heap.size + 2 ≤ w5.heap.size := Nat.le_trans Z4 hb5.size
            clear hb5 R4 F4 B4 O4 y0 y1 y2 y3
            obtain ⟨y0, y1, y2, y3⟩ := R5.out.facts
            have R6 : Hid (Rdr (w5.setCell ⟨w.heap.size + 1, 1, none⟩ (.int .i64 ((q : Int) + 1))) (w.heap.size + 1) s ((q + 1 : Nat) : Int)) := Lib.hid (by have := R5.out.set ((q : Int) + 1); exact this)
            have F6 := Lib.hid (F5.out.keep (gb_set w5 ⟨w.heap.size + 1, 1, none⟩ (.int .i64 ((q : Int) + 1))) (by simp))
            have B6 := Lib.hid (B5.out.setCell (p := ⟨w.heap.size + 1, 1, none⟩) (by simp) (.int .i64 ((q : Int) + 1)))
            have O6 := Lib.hid (own_set O5.out ⟨w.heap.size + 1, 1, none⟩ (by simp) (.int .i64 ((q : Int) + 1)))
            have Z6 : w.heap.size + 2 ≤ (w5.setCell ⟨w.heap.size + 1, 1, none⟩ (.int .i64 ((q : Int) + 1))).heap.size := by simpa [World.setCell] using Z5
            clear R5 F5 B5 O5
            go_wp2_with fail
            go_roundw
            case rel => exact ⟨f', q + 1, 32, false, acc', rfl, .inr ⟨rfl, rfl⟩, by omega, by omega, by omega, HV, R6, F6, O6, B6, Z6⟩
            case measure => have m1 := R6.out.facts.2.2.1; simp [intOf, r1, m1]; omega
          have q3 : ((ch s q : Int) == 46) = false := by simp; omega
          by_cases c91 : ch s q = 91
          · have HV := Lib.hid ((H3.out hend c91).symm.trans HS.out)
            have q4 : ((ch s q : Int) == 91) = true := by simp; omega
            clear H1 H2 H3 H4 HS hend c46 c91
            go_wp2_with fail
            refine (CK4.out _ R4.out).mono ?_
            rintro e w5 ⟨rfl, hb5⟩
            have R5 := Lib.hid (R4.out.keep hb5)
            have F5 := Lib.hid (F4.out.below hb5)
            have B5 := Lib.hid (B4.out.trans (hb5.mono B4.out.size))
            have O5 := Lib.hid (own_bel O4.out hb5)
            have Z5 : w.heap.size + 2 ≤ w5.heap.size := Nat.le_trans Z4 hb5.size
            clear hb5 R4 F4 B4 O4 y0 y1 y2 y3
            go_wp2_with fail
            refine (CK4.out _ R5.out).mono ?_
            rintro e w6 ⟨rfl, hb6⟩
            have R6 := Lib.hid (R5.out.keep hb6)
            have F6 := Lib.hid (F5.out.below hb6)
            have B6 := Lib.hid (B5.out.trans (hb6.mono B5.out.size))
            have O6 := Lib.hid (own_bel O5.out hb6)
            have Z6 : w.heap.size + 2 ≤ w6.heap.size := Nat.le_trans Z5 hb6.size
            clear hb6 R5 F5 B5 O5
            go_wp2_with fail
            go_roundw
            case rel => exact ⟨f', q, 34, true, acc', rfl, .inl ⟨rfl, rfl, hql⟩, by omega, hal, by omega, HV, R6, F6, O6, B6, Z6⟩
            case measure => have m1 := R6.out.facts.2.2.1; simp [intOf, r1, m1]; omega
          · have HV := Lib.hid ((H4.out hend c46 c91).symm.trans HS.out)
            have q4 : ((ch s q : Int) == 91) = false := by simp; omega
            clear H1 H2 H3 H4 HS hend c46 c91
            go_wp2_with fail
            refine (CK4.out _ R4.out).mono ?_
            rintro e w5 ⟨rfl, hb5⟩
            have R5 := Lib.hid (R4.out.keep hb5)
            have F5 := Lib.hid (F4.out.below hb5)
            have B5 := Lib.hid (B4.out.trans (hb5.mono B4.out.size))
            clear hb5 R4 F4 B4 O4 y0 y1 y2 y3
            go_wp2_with fail
            refine (CK4.out _ R5.out).mono ?_
            rintro e w3 ⟨rfl, hb6⟩
            have R3 := Lib.hid (R5.out.keep hb6)
            have F3 := Lib.hid (F5.out.below hb6)
            have B3 := Lib.hid (B5.out.trans (hb6.mono B5.out.size))
            clear hb6 R5 F5 B5
            obtain ⟨y0, y1, y2, y3⟩ := R3.out.facts
            obtain ⟨z5, b0, b1, bf0, bf1⟩ := F3.out.facts
            have B4 : Hid (Below w.heap.size w ((w3.setCell ⟨w.heap.size, 0, none⟩ (.int .i64 8)).setCell ⟨w.heap.size, 1, none⟩ (.int .i64 (q : Int)))) := Lib.hid ((B3.out.setCell (p := ⟨w.heap.size, 0, none⟩) (Nat.le_refl _) (.int .i64 8)).setCell (p := ⟨w.heap.size, 1, none⟩) (Nat.le_refl _) (.int .i64 (q : Int)))
            go_wp2_with fail
            go_region
            all_goals
              go_wp2_with fail
              rw [Exit.noGoto_ret]
              refine bodyPost_ret (v := .tuple #[.slice none 0 0, .agg #[.int .i64 8, .int .i64 (q : Int)]]) (by simp [results, Tryd.results17, go_sem, z5, b0, b1]) rfl ⟨.slice none 0 0, by rw [← HV.out]; rfl, by rw [← HV.out]; exact World.ownsRow_nil _ _ _ _, B4.out.drew⟩
    · have hgo := stepS_go (s := s) (m := false) hp (fun h => by cases h)
      have HI := Lib.hid (fun W h => CL.out W p h hp)
      have HX : Hid (((labS s p).1, ((labS s p).2.1, (0 : Int)), (labS s p).2.2) = stepS s false p) := Lib.hid rfl
      rw [← HX.out] at hgo
      generalize labS s p = I at *
      obtain ⟨r, v, q⟩ := I
      clear CI CL
      go_wp2_with fail
      refine (HI.out _ RR.out).mono ?_
      rintro e w2 ⟨rfl, h2⟩
      have R2 := Lib.hid h2.2
      have F2 := Lib.hid (FF.out.keep h2.1 (by omega))
      have B2 := Lib.hid (BB.out.trans (below_gb h2.1 BB.out.size (by omega)))
      have O2 := Lib.hid (own_kept OW.out h2.1 (by omega))
      have Z2 : w.heap.size + 2 ≤ w2.heap.size := Nat.le_trans ZZ h2.1.size
      clear h2 RR FF BB OW zr r0 rf
      have R3 := Lib.hid (R2.out.keep ((Below.refl _ _).alloc (Nat.le_refl _) (.cells #[.string v, .int .i64 (0 : Int)] 37)))
      have F3 := Lib.hid (F2.out.below ((Below.refl _ _).alloc (Nat.le_refl _) (.cells #[.string v, .int .i64 (0 : Int)] 37)))
      have B3 := Lib.hid (B2.out.alloc (by omega) (.cells #[.string v, .int .i64 (0 : Int)] 37))
      have O3 := Lib.hid (O2.out.alloc (.cells #[.string v, .int .i64 (0 : Int)] 37))
      have Z3 : w.heap.size + 2 ≤ (w2.alloc (.cells #[.string v, .int .i64 (0 : Int)] 37)).heap.size := by simp; omega
      have N3 := Lib.hid (World.alloc_heap_new w2 (.cells #[.string v, .int .i64 (0 : Int)] 37))
      clear R2 F2 B2 O2
      cases r with
      | false =>
        have HV := Lib.hid ((parF_0 (f := f') (acc := acc) HX.out).symm.trans HS.out)
        clear HS HX N3 O3
        go_wp2_with fail
        generalize w2.alloc (.cells #[.string v, .int .i64 (0 : Int)] 37) = w3 at *
        obtain ⟨y0, y1, y2, y3⟩ := R3.out.facts
        obtain ⟨z5, b0, b1, bf0, bf1⟩ := F3.out.facts
        have B4 : Hid (Below w.heap.size w ((w3.setCell ⟨w.heap.size, 0, none⟩ (.int .i64 8)).setCell ⟨w.heap.size, 1, none⟩ (.int .i64 (q : Int)))) := Lib.hid ((B3.out.setCell (p := ⟨w.heap.size, 0, none⟩) (Nat.le_refl _) (.int .i64 8)).setCell (p := ⟨w.heap.size, 1, none⟩) (Nat.le_refl _) (.int .i64 (q : Int)))
        go_wp2_with fail
        go_region
        all_goals
          go_wp2_with fail
          rw [Exit.noGoto_ret]
          refine bodyPost_ret (v := .tuple #[.slice none 0 0, .agg #[.int .i64 8, .int .i64 (q : Int)]]) (by simp [results, Tryd.results17, go_sem, z5, b0, b1]) rfl ⟨.slice none 0 0, by rw [← HV.out]; rfl, by rw [← HV.out]; exact World.ownsRow_nil _ _ _ _, B4.out.drew⟩
      | true =>
        have hpq := hgo.2.2 rfl
        have hqs := hgo.2.1
        have H1 := Lib.hid (parF_1 (f := f') (acc := acc) HX.out)
        have H2 := Lib.hid (parF_2 (f := f') (acc := acc) HX.out)
        have H3 := Lib.hid (parF_3 (f := f') (acc := acc) HX.out)
        have H4 := Lib.hid (parF_4 (f := f') (acc := acc) HX.out)
        clear HX
        go_wp2_with (at_builtin; refine wpList_append_own _ rfl _ _ 22 rfl (w.heap.size + 2) 37 i0 (.agg #[.string ⟨#[]⟩, .int .i64 0]) 2 24 Tryd.underlying22 hi hz0 hz1 hz2 rfl (by decide) _ _ _ rfl (O3.out.alloc _) ⟨w2.heap.size + 1, 0, none⟩ 1 1 [.string v, .int .i64 (0 : Int)] rfl rfl ?c1 ?c2 ?c3 ?c4 ?c5 ?_)
        case c1 => exact cells_new2 _ _ _ _ _ (by simp)
        case c2 => intro u hu; simp at hu; rcases hu with rfl | rfl <;> rfl
        case c3 => unfold maxLen; omega
        case c4 => omega
        case c5 => simp; omega
        intro v' w4 hown4 hgrow _
        have hrow := fun j hj => (O3.out.lt j hj).1
        have B4 : Hid (Below w.heap.size w w4) := Lib.hid ((B3.out.alloc (by simp; omega) _).grown hgrow (by simp; omega) (fun j hj => by have := hrow j hj; omega))
        have R4 : Hid (Rdr w4 (w.heap.size + 1) s (q : Nat)) := Lib.hid (gb_blk (R3.out.keep ((Below.refl _ _).alloc (Nat.le_refl _) _)) hgrow (fun e => by have := hrow _ e.symm; omega))
        have F4 : Hid (FR w4 w.heap.size) := Lib.hid (gb_blk (F3.out.below ((Below.refl _ _).alloc (Nat.le_refl _) _)) hgrow (fun e => by have := hrow _ e.symm; omega))
        have Z4 : w.heap.size + 2 ≤ w4.heap.size := by have := hgrow.size; simp at this; omega
        have O4 : Hid (w4.ownsRow (w.heap.size + 2) 37 2 v' (acc ++ [(v, (0 : Int))]).length (flat (acc ++ [(v, (0 : Int))]))) := Lib.hid (by rw [flat_snoc, List.length_append]; exact hown4)
        have hal : (acc ++ [((v, (0 : Int)) : St)]).length ≤ q := by rw [List.length_append]; show acc.length + 1 ≤ q; omega
        clear hown4 hgrow hrow R3 F3 B3 O3 N3 hacc hgo
        generalize acc ++ [((v, (0 : Int)) : St)] = acc' at *
        obtain ⟨y0, y1, y2, y3⟩ := R4.out.facts
        by_cases hend : q = s.size
        · have q2 : ((q : Int) == (s.size : Int)) = true := by simp [hend]
          have HV := Lib.hid ((H1.out hend).symm.trans HS.out)
          obtain ⟨z5, b0, b1, bf0, bf1⟩ := F4.out.facts
          have B5 := Lib.hid ((B4.out.setCell (p := ⟨w.heap.size, 0, none⟩) (Nat.le_refl _) (.int .i64 0)).setCell (p := ⟨w.heap.size, 1, none⟩) (Nat.le_refl _) (.int .i64 0))
          have O5 := Lib.hid (own_set2 O4.out (b := w.heap.size) (by omega) (.int .i64 0) (.int .i64 0))
          clear hend H1 H2 H3 H4 HS
          go_wp2_with fail
          rw [Exit.noGoto_ret]
          refine bodyPost_ret (v := .tuple #[v', .agg #[.int .i64 0, .int .i64 0]]) (by simp [results, Tryd.results17, go_sem, z5, b0, b1]) rfl ⟨v', by rw [← HV.out]; rfl, by rw [← HV.out]; exact own_mono O5.out (by omega), B5.out⟩
        · have q2 : ((q : Int) == (s.size : Int)) = false := by simp; omega
          have hql : q < s.size := by omega
          have CK4 := Lib.hid (fun W h => CK.out W q h (by omega))
          by_cases c46 : ch s q = 46
          · have HV := Lib.hid ((H2.out hend c46).symm.trans HS.out)
            have q3 : ((ch s q : Int) == 46) = true := by simp; omega
            clear H1 H2 H3 H4 HS hend c46
            go_wp2_with fail
            refine (CK4.out _ R4.out).mono ?_
            rintro e w5 ⟨rfl, hb5⟩
            have R5 := Lib.hid (R4.out.keep hb5)
            have F5 := Lib.hid (F4.out.below hb5)
            have B5 := Lib.hid (B4.out.trans (hb5.mono B4.out.size))
            have O5 := Lib.hid (own_bel O4.out hb5)
            have Z5 : w.heap.size + 2 ≤ w5.heap.size := Nat.le_trans Z4 hb5.size
            clear hb5 R4 F4 B4 O4 y0 y1 y2 y3
            obtain ⟨y0, y1, y2, y3⟩ := R5.out.facts
            have R6 : Hid (Rdr (w5.setCell ⟨w.heap.size + 1, 1, none⟩ (.int .i64 ((q : Int) + 1))) (w.heap.size + 1) s ((q + 1 : Nat) : Int)) := Lib.hid (by have := R5.out.set ((q : Int) + 1); exact this)
            have F6 := Lib.hid (F5.out.keep (gb_set w5 ⟨w.heap.size + 1, 1, none⟩ (.int .i64 ((q : Int) + 1))) (by simp))
            have B6 := Lib.hid (B5.out.setCell (p := ⟨w.heap.size + 1, 1, none⟩) (by simp) (.int .i64 ((q : Int) + 1)))
            have O6 := Lib.hid (own_set O5.out ⟨w.heap.size + 1, 1, none⟩ (by simp) (.int .i64 ((q : Int) + 1)))
            have Z6 : w.heap.size + 2 ≤ (w5.setCell ⟨w.heap.size + 1, 1, none⟩ (.int .i64 ((q : Int) + 1))).heap.size := by simpa [World.setCell] using Z5
            clear R5 F5 B5 O5
            go_wp2_with fail
            go_roundw
            case rel => exact ⟨f', q + 1, 32, false, acc', rfl, .inr ⟨rfl, rfl⟩, by omega, by omega, by omega, HV, R6, F6, O6, B6, Z6⟩
            case measure => have m1 := R6.out.facts.2.2.1; simp [intOf, r1, m1]; omega
          have q3 : ((ch s q : Int) == 46) = false := by simp; omega
          by_cases c91 : ch s q = 91
          · have HV := Lib.hid ((H3.out hend c91).symm.trans HS.out)
            have q4 : ((ch s q : Int) == 91) = true := by simp; omega
            clear H1 H2 H3 H4 HS hend c46 c91
            go_wp2_with fail
            refine (CK4.out _ R4.out).mono ?_
            rintro e w5 ⟨rfl, hb5⟩
            have R5 := Lib.hid (R4.out.keep hb5)
            have F5 := Lib.hid (F4.out.below hb5)
            have B5 := Lib.hid (B4.out.trans (hb5.mono B4.out.size))
            have O5 := Lib.hid (own_bel O4.out hb5)
            have Z5 : w.heap.size + 2 ≤ w5.heap.size := Nat.le_trans Z4 hb5.size
            clear hb5 R4 F4 B4 O4 y0 y1 y2 y3
            go_wp2_with fail
            refine (CK4.out _ R5.out).mono ?_
            rintro e w6 ⟨rfl, hb6⟩
            have R6 := Lib.hid (R5.out.keep hb6)
            have F6 := Lib.hid (F5.out.below hb6)
            have B6 := Lib.hid (B5.out.trans (hb6.mono B5.out.size))
            have O6 := Lib.hid (own_bel O5.out hb6)
            have Z6 : w.heap.size + 2 ≤ w6.heap.size := Nat.le_trans Z5 hb6.size
            clear hb6 R5 F5 B5 O5
            go_wp2_with fail
            go_roundw
            case rel => exact ⟨f', q, 34, true, acc', rfl, .inl ⟨rfl, rfl, hql⟩, by omega, hal, by omega, HV, R6, F6, O6, B6, Z6⟩
            case measure => have m1 := R6.out.facts.2.2.1; simp [intOf, r1, m1]; omega
          · have HV := Lib.hid ((H4.out hend c46 c91).symm.trans HS.out)
            have q4 : ((ch s q : Int) == 91) = false := by simp; omega
            clear H1 H2 H3 H4 HS hend c46 c91
            go_wp2_with fail
            refine (CK4.out _ R4.out).mono ?_
            rintro e w5 ⟨rfl, hb5⟩
            have R5 := Lib.hid (R4.out.keep hb5)
            have F5 := Lib.hid (F4.out.below hb5)
            have B5 := Lib.hid (B4.out.trans (hb5.mono B4.out.size))
            clear hb5 R4 F4 B4 O4 y0 y1 y2 y3
            go_wp2_with fail
            refine (CK4.out _ R5.out).mono ?_
            rintro e w3 ⟨rfl, hb6⟩
            have R3 := Lib.hid (R5.out.keep hb6)
            have F3 := Lib.hid (F5.out.below hb6)
            have B3 := Lib.hid (B5.out.trans (hb6.mono B5.out.size))
            clear hb6 R5 F5 B5
            obtain ⟨y0, y1, y2, y3⟩ := R3.out.facts
            obtain ⟨z5, b0, b1, bf0, bf1⟩ := F3.out.facts
            have B4 : Hid (Below w.heap.size w ((w3.setCell ⟨w.heap.size, 0, none⟩ (.int .i64 8)).setCell ⟨w.heap.size, 1, none⟩ (.int .i64 (q : Int)))) := Lib.hid ((B3.out.setCell (p := ⟨w.heap.size, 0, none⟩) (Nat.le_refl _) (.int .i64 8)).setCell (p := ⟨w.heap.size, 1, none⟩) (Nat.le_refl _) (.int .i64 (q : Int)))
            go_wp2_with fail
            go_region
            all_goals
              go_wp2_with fail
              rw [Exit.noGoto_ret]
              refine bodyPost_ret (v := .tuple #[.slice none 0 0, .agg #[.int .i64 8, .int .i64 (q : Int)]]) (by simp [results, Tryd.results17, go_sem, z5, b0, b1]) rfl ⟨.slice none 0 0, by rw [← HV.out]; rfl, by rw [← HV.out]; exact World.ownsRow_nil _ _ _ _, B4.out.drew⟩
end Go.Proofs.YtaocgibfabofhaaDoor
