/-
  The statements' own reader of literals returns what 'unq' says, for every string. No condition.
-/
import Derived.Test.YtadeejoekeaeeaaRC
import Derived.Laws.BytesArg
import Derived.OwnWalk
namespace Go.Proofs.Ytadeejoekeaeeaa
open Go.RowKit
set_option linter.unusedSimpArgs false
set_option linter.unusedVariables false
theorem own_below {B : Nat} {e : TypeId} {k : Nat} {v : Value} {n : Nat} {xs : List Value} {w w' : World} (h : w.ownsRow B e k v n xs) (hb : Below w.heap.size w w') : w'.ownsRow B e k v n xs := by
  refine ⟨h.1, ?_⟩
  rcases h.2 with h' | ⟨g, cap, cur, hv, hbg, hg, r⟩
  · exact .inl h'
  · have hlt : g < w.heap.size := (Array.getElem?_eq_some_iff.1 hg).1
    exact .inr ⟨g, cap, cur, hv, hbg, by rw [hb.block g hlt]; exact hg, r⟩
theorem cells_new1 (w : World) (x : Value) (T : TypeId) : ∀ j u, [x][j]? = some u → (w.alloc (.cells #[x] T)).cell? ((⟨w.heap.size, 0, none⟩ : Addr).add j) = some u := by
  intro j u h
  rw [show (⟨w.heap.size, 0, none⟩ : Addr).add j = ⟨w.heap.size, j, none⟩ by simp [Addr.add]; exact fun e => e.symm, World.cell?_alloc_new]
  simpa using h
theorem own_string {B : Nat} {v : Value} {l : List UInt8} {w : World} (h : w.ownsRow B 5 1 v l.length (Lib.byteCells l)) :
    (convert 31 9 v).run Try.prog w = .ok (.string ⟨l.toArray⟩) w := by
  rcases id h.2 with ⟨hv, hn⟩ | ⟨g, cap, cur, hv, hbg, hg, r⟩
  · subst hv
    have : l = [] := List.eq_nil_of_length_eq_zero hn
    subst this
    rw [Go.run_convert_bytes_nil w 31 5 Try.underlying31 Try.underlying5 0 0 9 Try.underlying9]
    rfl
  · subst hv
    refine Go.run_convert_bytes_back w 31 9 5 ⟨g, 0, none⟩ cap l Try.underlying31 Try.underlying5 Try.underlying9 (fun j hj => ?_)
    refine h.cells (by rfl) j _ ?_
    simp [Lib.byteCells, hj]
theorem Try.info5 : (Try.prog.info? 5).map (fun i => (i.zero, i.size, i.bytes)) = some (some (.int .u8 0), 1, 1) := by kernel_rfl
set_option maxRecDepth 100000 in
set_option maxHeartbeats 2000000 in
theorem runquote_big (s : ByteArray) (h : 65536 < s.size) (w : World) :
    Calls Try.prog 16 #[.string s] w fun e w' => e = .returned (uv (unq s.data.toList)) ∧ Below w.heap.size w w' := by
  rw [unq_big (by simpa using h)]
  unfold uv
  go_enter Try.func16, Try.ntmps16
  go_wp2
  refine bodyPost_ret (v := .tuple #[.string ⟨#[]⟩, .agg #[.int .i64 2, .int .i64 0]]) (by simp [results, Try.results16, go_sem]) rfl ⟨rfl, ?_⟩
  exact (Below.refl w.heap.size w).alloc (Nat.le_refl _) _
set_option maxRecDepth 100000 in
set_option maxHeartbeats 2000000 in
theorem runquote_no (s : ByteArray) (h : ¬ 65536 < s.size) (h' : s.size = 0 ∨ ch s 0 ≠ 34) (w : World) :
    Calls Try.prog 16 #[.string s] w fun e w' => e = .returned (uv (unq s.data.toList)) ∧ Below w.heap.size w w' := by
  rw [unq_no (by simpa using h) (by simpa [ch] using h')]
  unfold uv
  have hle : (s.size : Int) ≤ 65536 := by omega
  by_cases h0 : s.size = 0
  · have hs : s = ⟨#[]⟩ := by
      apply ByteArray.ext; apply Array.ext'; apply List.eq_nil_of_length_eq_zero; simpa using h0
    subst hs
    clear h' h0 h hle
    go_enter Try.func16, Try.ntmps16
    go_wp2_with fail
    refine (rfault_any _ _).mono ?_
    rintro e w1 ⟨rfl, hb1⟩
    have z1 : w.heap.size < w1.heap.size := by have := hb1.size; simp at this; omega
    have hB := Lib.hid (((Below.refl w.heap.size w).alloc (Nat.le_refl _) (.cells #[.int .i64 0, .int .i64 0] 27)).trans (hb1.mono (by simp)))
    have f0 : w1.frozen? ⟨w.heap.size, 0, none⟩ = false := by rw [hb1.frozen (p := ⟨w.heap.size, 0, none⟩) (by simp)]; simp
    have f1 : w1.frozen? ⟨w.heap.size, 1, none⟩ = false := by rw [hb1.frozen (p := ⟨w.heap.size, 1, none⟩) (by simp)]; simp
    have c0 : w1.cell? ⟨w.heap.size, 0, none⟩ = some (.int .i64 0) := by rw [hb1.cell (p := ⟨w.heap.size, 0, none⟩) (by simp)]; go_simp
    have c1 : w1.cell? ⟨w.heap.size, 1, none⟩ = some (.int .i64 0) := by rw [hb1.cell (p := ⟨w.heap.size, 1, none⟩) (by simp)]; go_simp
    clear hb1
    go_wp2_with fail
    refine bodyPost_ret (v := .tuple #[.string ⟨#[]⟩, .agg #[.int .i64 8, .int .i64 0]]) (by simp [results, Try.results16, go_sem, c0, c1, z1]) rfl ⟨rfl, ?_⟩
    exact (hB.out.setCell (p := ⟨w.heap.size, 0, none⟩) (Nat.le_refl _) _).setCell (p := ⟨w.heap.size, 1, none⟩) (Nat.le_refl _) _
  · have hp : 0 < s.size := by omega
    have hz : ((s.size : Int) == 0) = false := beq_eq_false_iff_ne.2 (by omega)
    have hc : ((s[0]).toNat : Int) ≠ 34 := by rw [ch_at s 0 hp]; omega
    have hc' : (((s[0]).toNat : Int) != 34) = true := by simpa using hc
    clear h' h0 h
    go_enter Try.func16, Try.ntmps16
    go_wp2_with fail
    refine (rfault_any _ _).mono ?_
    rintro e w1 ⟨rfl, hb1⟩
    have z1 : w.heap.size < w1.heap.size := by have := hb1.size; simp at this; omega
    have hB := Lib.hid (((Below.refl w.heap.size w).alloc (Nat.le_refl _) (.cells #[.int .i64 0, .int .i64 0] 27)).trans (hb1.mono (by simp)))
    have f0 : w1.frozen? ⟨w.heap.size, 0, none⟩ = false := by rw [hb1.frozen (p := ⟨w.heap.size, 0, none⟩) (by simp)]; simp
    have f1 : w1.frozen? ⟨w.heap.size, 1, none⟩ = false := by rw [hb1.frozen (p := ⟨w.heap.size, 1, none⟩) (by simp)]; simp
    have c0 : w1.cell? ⟨w.heap.size, 0, none⟩ = some (.int .i64 0) := by rw [hb1.cell (p := ⟨w.heap.size, 0, none⟩) (by simp)]; go_simp
    have c1 : w1.cell? ⟨w.heap.size, 1, none⟩ = some (.int .i64 0) := by rw [hb1.cell (p := ⟨w.heap.size, 1, none⟩) (by simp)]; go_simp
    clear hb1
    go_wp2_with fail
    refine bodyPost_ret (v := .tuple #[.string ⟨#[]⟩, .agg #[.int .i64 8, .int .i64 0]]) (by simp [results, Try.results16, go_sem, c0, c1, z1]) rfl ⟨rfl, ?_⟩
    exact (hB.out.setCell (p := ⟨w.heap.size, 0, none⟩) (Nat.le_refl _) _).setCell (p := ⟨w.heap.size, 1, none⟩) (Nat.le_refl _) _
set_option maxRecDepth 100000 in
set_option maxHeartbeats 4000000 in
theorem runquote_yes (s : ByteArray) (h : ¬ 65536 < s.size) (h' : ¬ (s.size = 0 ∨ ch s 0 ≠ 34)) (w : World) :
    Calls Try.prog 16 #[.string s] w fun e w' => e = .returned (uv (unq s.data.toList)) ∧ Below w.heap.size w w' := by
  obtain ⟨i0, hi, hz0, hz1, hz2⟩ := info_parts Try.info5
  have hR := unq_sc (l := s.data.toList) (by simpa using h) (by simpa [ch] using h')
  generalize unq s.data.toList = R at *
  have hle : s.size ≤ 65536 := by omega
  have hp : 0 < s.size := by omega
  have hz : ((s.size : Int) == 0) = false := beq_eq_false_iff_ne.2 (by omega)
  have hc : (((s[0]).toNat : Int) != 34) = false := by rw [ch_at s 0 hp]; simp; omega
  have HR := Lib.hid hR
  clear h' h hR
  go_enter Try.func16, Try.ntmps16
  go_wp2_with fail
  clear hz hc
  have hlen : s.data.toList.length = s.size := by simp
  have HL := Lib.hid hlen
  clear hlen
  go_loopw [4, 5] (fun v i wr => ∃ (a f : Nat) (acc : List UInt8), i = .int .i64 (a : Int) ∧ 1 ≤ a ∧ a ≤ s.size ∧ acc.length ≤ a ∧ Hid (sc f (s.data.toList.drop a) a acc = R) ∧ s.size - a < f ∧ wr.ownsRow (w.heap.size + 1) 5 1 v acc.length (Lib.byteCells acc) ∧ Below w.heap.size w wr ∧ wr.heap[w.heap.size]? = some (.cells #[.int .i64 0, .int .i64 0] 27 (0, 0))) (fun _ i _ => s.size - (intOf i).toNat)
  case atStart =>
    refine ⟨1, s.data.toList.length, [], rfl, by omega, hp, by simp, Lib.hid HR.out.symm, by rw [HL.out]; omega, ?_, ?_, ?_⟩
    · exact World.ownsRow_nil _ _ _ _
    · exact (Below.refl w.heap.size w).alloc (Nat.le_refl _) _
    · exact World.alloc_heap_new _ _
  case round =>
    obtain ⟨a, f, acc, rfl, ha1, ha2, hacc, HS, hf, hown, hB, hrc⟩ := hrel
    obtain ⟨g, rfl⟩ : ∃ g, f = g + 1 := ⟨f - 1, by omega⟩
    by_cases hlt : a < s.size
    · rw [drop_at s a hlt] at HS
      by_cases x34 : (s[a]).toNat = 34
      · rw [sc_q x34] at HS
        have X34 : (((s[a]).toNat : Int) == 34) = true := by simp [x34]
        have W1 : IntKind.i64.wrap ((a : Int) + 1) = ((a + 1 : Nat) : Int) := by simp [IntKind.wrap, IntKind.bits, IntKind.signed]; omega
        by_cases hla : a = s.size - 1
        · have ht : s.data.toList.drop (a + 1) = [] := List.drop_eq_nil_of_le (by rw [HL.out]; omega)
          rw [if_pos ht] at HS
          clear ht x34 W1
          have X1 : decide ((a : Int) + 1 < (s.size : Int)) = false := by simp; omega
          have hcv := own_string hown
          obtain ⟨z9, c0, c1, f0, f1⟩ := res_facts hrc
          have HB := Lib.hid ((hB.setCell (p := ⟨w.heap.size, 0, none⟩) (Nat.le_refl _) (.int .i64 0)).setCell (p := ⟨w.heap.size, 1, none⟩) (Nat.le_refl _) (.int .i64 0))
          clear hla hB hrc hown
          go_wp2_with fail
          refine bodyPost_ret (v := .tuple #[.string ⟨acc.toArray⟩, .agg #[.int .i64 0, .int .i64 0]]) (by simp [results, Try.results16, go_sem, c0, c1, z9]) rfl ⟨?_, HB.out⟩
          rw [← HS.out]; rfl
        · have ht : s.data.toList.drop (a + 1) ≠ [] := by
            intro e; have := congrArg List.length e; simp at this; have := HL.out; simp at this; omega
          rw [if_neg ht] at HS
          clear ht x34 W1
          have X1 : decide ((a : Int) + 1 < (s.size : Int)) = true := by simp; omega
          go_wp2_with fail
          refine (rfault_at _ (a + 1) (by omega) _).mono ?_
          rintro e w9 ⟨rfl, hb9⟩
          have hr9 := res_keep hrc hb9
          have hB9 := hB.trans (hb9.mono hB.size)
          obtain ⟨z9, c0, c1, f0, f1⟩ := res_facts hr9
          have HB := Lib.hid ((hB9.setCell (p := ⟨w.heap.size, 0, none⟩) (Nat.le_refl _) (.int .i64 8)).setCell (p := ⟨w.heap.size, 1, none⟩) (Nat.le_refl _) (.int .i64 ((a + 1 : Nat) : Int)))
          clear hb9 hB9 hr9 hrc hB hown
          go_wp2_with fail
          refine bodyPost_ret (v := .tuple #[.string ⟨#[]⟩, .agg #[.int .i64 8, .int .i64 ((a + 1 : Nat) : Int)]]) (by simp [results, Try.results16, go_sem, c0, c1, z9]) rfl ⟨?_, HB.out⟩
          rw [← HS.out]; rfl
      · have N34 : (((s[a]).toNat : Int) == 34) = false := by simp; omega
        by_cases x92 : (s[a]).toNat = 92
        · rw [sc_e x92] at HS
          have X92 : (((s[a]).toNat : Int) == 92) = true := by simp [x92]
          rw [← drop_at s a hlt] at HS
          have hn := escC_n (ch s (a + 1)) (ch s (a + 2)) (ch s (a + 3)) (s.size - a)
          have hb8 := escC_b (ch s (a + 1)) (ch s (a + 2)) (ch s (a + 3)) (s.size - a)
          rw [← escL_drop] at hn hb8
          have HE := Lib.hid (resc_any s a hlt hle x92 wr)
          generalize escL (s.data.toList.drop a) = P at *
          obtain ⟨p, n⟩ := P
          simp only at HS hn hb8 HE
          clear x92 x34
          go_wp2_with fail
          refine HE.out.mono ?_
          rintro e w2 ⟨rfl, m, rfl⟩
          have hown2 : (wr.drewN m).ownsRow (w.heap.size + 1) 5 1 u4 acc.length (Lib.byteCells acc) := hown
          have hrc2 : (wr.drewN m).heap[w.heap.size]? = some (.cells #[.int .i64 0, .int .i64 0] 27 (0, 0)) := hrc
          have hB2 : Below w.heap.size w (wr.drewN m) := hB.trans (by constructor <;> first | rfl | (intros; rfl) | (intros; assumption) | exact Nat.le_refl _)
          clear HE hown hrc hB
          generalize wr.drewN m = w3 at *
          have hown := hown2; have hrc := hrc2; have hB := hB2
          clear hown2 hrc2 hB2
          by_cases n0 : n = 0
          · rw [if_pos n0] at HS
            subst n0
            clear hn hb8
            go_wp2_with fail
            refine (rfault_at _ (a) (rfl) _).mono ?_
            rintro e w9 ⟨rfl, hb9⟩
            have hr9 := res_keep hrc hb9
            have hB9 := hB.trans (hb9.mono hB.size)
            obtain ⟨z9, c0, c1, f0, f1⟩ := res_facts hr9
            have HB := Lib.hid ((hB9.setCell (p := ⟨w.heap.size, 0, none⟩) (Nat.le_refl _) (.int .i64 8)).setCell (p := ⟨w.heap.size, 1, none⟩) (Nat.le_refl _) (.int .i64 ((a : Nat) : Int)))
            clear hb9 hB9 hr9 hrc hB hown
            go_wp2_with fail
            refine bodyPost_ret (v := .tuple #[.string ⟨#[]⟩, .agg #[.int .i64 8, .int .i64 ((a : Nat) : Int)]]) (by simp [results, Try.results16, go_sem, c0, c1, z9]) rfl ⟨?_, HB.out⟩
            rw [← HS.out]; rfl
          · rw [if_neg n0] at HS
            have N0 : ((n : Int) == 0) = false := beq_eq_false_iff_ne.2 (by omega)
            have hn' : 2 ≤ n ∧ n ≤ s.size - a := by omega
            have E1 : ((UInt8.ofNat p).toNat : Int) = (p : Int) := by simp; omega
            have hz3 : w.heap.size + 1 ≤ w3.heap.size := by have := (Array.getElem?_eq_some_iff.1 hrc).1; omega
            go_wp2_with (at_builtin; refine wpList_append_own _ rfl _ _ 31 rfl (w.heap.size + 1) 5 i0 (.int .u8 0) 1 1 Try.underlying31 hi hz0 hz1 hz2 rfl (by decide) _ _ _ rfl (hown.alloc _) ⟨w3.heap.size, 0, none⟩ 1 1 [.int .u8 (p : Int)] rfl rfl ?c1 ?c2 ?c3 ?c4 ?c5 ?_)
            case c1 => exact cells_new1 _ _ _
            case c2 => intro u hu; simp at hu; subst hu; rfl
            case c3 => unfold maxLen; omega
            case c4 => omega
            case c5 => simp; omega
            intro v' w4 hown4 hgrow _
            have hrow := fun j hj => (hown.lt j hj).1
            have hb4 : Below (w.heap.size + 1) w3 w4 := ((Below.refl _ _).alloc hz3 _).grown hgrow (by simp; omega) (fun j hj => hrow j hj)
            have hB4 := hB.trans (hb4.mono (by omega))
            have hr4 : w4.heap[w.heap.size]? = some (.cells #[.int .i64 0, .int .i64 0] 27 (0, 0)) := by rw [hb4.block _ (by omega)]; exact hrc
            have hown5 : w4.ownsRow (w.heap.size + 1) 5 1 v' (acc ++ [UInt8.ofNat p]).length (Lib.byteCells (acc ++ [UInt8.ofNat p])) := by
              rw [byteCells_app, List.length_append]
              have : Lib.byteCells [UInt8.ofNat p] = [.int .u8 (p : Int)] := by simp only [Lib.byteCells, List.map_cons, List.map_nil, E1]
              rw [this]; exact hown4
            clear hgrow hown hrow hown4 hb4 hB hrc
            go_wp2_with fail
            go_roundw
            case rel => exact ⟨a + n, g, acc ++ [UInt8.ofNat p], by go_num, by omega, by omega, by simp; omega, by rw [List.drop_drop] at HS; exact HS, by omega, hown5, hB4, hr4⟩
            case measure => simp [intOf]; omega
        · have N92 : (((s[a]).toNat : Int) == 92) = false := by simp; omega
          cases hpr : (decide (32 ≤ (s[a]).toNat) && decide ((s[a]).toNat ≤ 126)) with
          | false =>
            rw [sc_x x34 x92 hpr] at HS
            have HPR : (s[a]).toNat < 32 ∨ 126 < (s[a]).toNat := by
              by_cases q : (s[a]).toNat < 32
              · exact .inl q
              · right; by_cases q2 : (s[a]).toNat ≤ 126
                · rw [show decide (32 ≤ (s[a]).toNat) = true by simp; omega, show decide ((s[a]).toNat ≤ 126) = true by simp [q2]] at hpr; cases hpr
                · omega
            clear hpr x34 x92
            rcases HPR with q | q
            all_goals
              go_wp2_with fail
              refine (rfault_at _ (a) (rfl) _).mono ?_
              rintro e w9 ⟨rfl, hb9⟩
              have hr9 := res_keep hrc hb9
              have hB9 := hB.trans (hb9.mono hB.size)
              obtain ⟨z9, c0, c1, f0, f1⟩ := res_facts hr9
              have HB := Lib.hid ((hB9.setCell (p := ⟨w.heap.size, 0, none⟩) (Nat.le_refl _) (.int .i64 8)).setCell (p := ⟨w.heap.size, 1, none⟩) (Nat.le_refl _) (.int .i64 ((a : Nat) : Int)))
              clear hb9 hB9 hr9 hrc hB hown
              go_wp2_with fail
              refine bodyPost_ret (v := .tuple #[.string ⟨#[]⟩, .agg #[.int .i64 8, .int .i64 ((a : Nat) : Int)]]) (by simp [results, Try.results16, go_sem, c0, c1, z9]) rfl ⟨?_, HB.out⟩
              rw [← HS.out]; rfl
          | true =>
            rw [sc_c x34 x92 hpr] at HS
            have q1 : 32 ≤ (s[a]).toNat := by simp at hpr; omega
            have q2 : (s[a]).toNat ≤ 126 := by simp at hpr; omega
            have Q1 : decide (((s[a]).toNat : Int) < 32) = false := by simp; omega
            have Q2 : decide ((126 : Int) < ((s[a]).toNat : Int)) = false := by simp; omega
            clear hpr x34 x92 q1 q2
            have hz3 : w.heap.size + 1 ≤ wr.heap.size := by have := (Array.getElem?_eq_some_iff.1 hrc).1; omega
            go_wp2_with (at_builtin; refine wpList_append_own _ rfl _ _ 31 rfl (w.heap.size + 1) 5 i0 (.int .u8 0) 1 1 Try.underlying31 hi hz0 hz1 hz2 rfl (by decide) _ _ _ rfl (hown.alloc _) ⟨wr.heap.size, 0, none⟩ 1 1 [.int .u8 ((s[a]).toNat : Int)] rfl rfl ?c1 ?c2 ?c3 ?c4 ?c5 ?_)
            case c1 => exact cells_new1 _ _ _
            case c2 => intro u hu; simp at hu; subst hu; rfl
            case c3 => unfold maxLen; omega
            case c4 => omega
            case c5 => simp; omega
            intro v' w4 hown4 hgrow _
            have hrow := fun j hj => (hown.lt j hj).1
            have hb4 : Below (w.heap.size + 1) wr w4 := ((Below.refl _ _).alloc hz3 _).grown hgrow (by simp; omega) (fun j hj => hrow j hj)
            have hB4 := hB.trans (hb4.mono (by omega))
            have hr4 : w4.heap[w.heap.size]? = some (.cells #[.int .i64 0, .int .i64 0] 27 (0, 0)) := by rw [hb4.block _ (by omega)]; exact hrc
            have hown5 : w4.ownsRow (w.heap.size + 1) 5 1 v' (acc ++ [s[a]]).length (Lib.byteCells (acc ++ [s[a]])) := by
              rw [byteCells_app, List.length_append]
              exact hown4
            clear hgrow hown hrow hown4 hb4 hB hrc
            go_wp2_with fail
            go_roundw
            case rel => exact ⟨a + 1, g, acc ++ [s[a]], by go_num, by omega, by omega, by simp; omega, HS, by omega, hown5, hB4, hr4⟩
            case measure => simp [intOf]; omega
    · have he : a = s.size := by omega
      have hd : s.data.toList.drop a = [] := List.drop_eq_nil_of_le (by rw [HL.out]; omega)
      rw [hd] at HS
      simp only [sc] at HS
      clear hd
      have HE := Lib.hid he
      clear he
      go_wp2_with fail
      refine (rfault_at _ (a) (by have := HE.out; omega) _).mono ?_
      rintro e w9 ⟨rfl, hb9⟩
      have hr9 := res_keep hrc hb9
      have hB9 := hB.trans (hb9.mono hB.size)
      obtain ⟨z9, c0, c1, f0, f1⟩ := res_facts hr9
      have HB := Lib.hid ((hB9.setCell (p := ⟨w.heap.size, 0, none⟩) (Nat.le_refl _) (.int .i64 8)).setCell (p := ⟨w.heap.size, 1, none⟩) (Nat.le_refl _) (.int .i64 ((a : Nat) : Int)))
      clear hb9 hB9 hr9 hrc hB hown
      go_wp2_with fail
      refine bodyPost_ret (v := .tuple #[.string ⟨#[]⟩, .agg #[.int .i64 8, .int .i64 ((a : Nat) : Int)]]) (by simp [results, Try.results16, go_sem, c0, c1, z9]) rfl ⟨?_, HB.out⟩
      rw [← HS.out]; rfl
theorem runquote_any (s : ByteArray) (w : World) :
    Calls Try.prog 16 #[.string s] w fun e w' => e = .returned (uv (unq s.data.toList)) ∧ Below w.heap.size w w' := by
  by_cases h : 65536 < s.size
  · exact runquote_big s h w
  · by_cases h' : s.size = 0 ∨ ch s 0 ≠ 34
    · exact runquote_no s h h' w
    · exact runquote_yes s h h' w
end Go.Proofs.Ytadeejoekeaeeaa
