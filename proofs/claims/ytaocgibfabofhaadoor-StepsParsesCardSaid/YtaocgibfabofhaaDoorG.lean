/-
  Unquote returns what 'unq' says, for every string. No condition.
-/
import Derived.Test.YtaocgibfabofhaaDoorD
import Derived.Test.YtaocgibfabofhaaDoorF
import Derived.Lib.IndexBytes
import Derived.WalkMore
namespace Go.Proofs.YtaocgibfabofhaaDoor
open Go.RowKit
set_option linter.unusedSimpArgs false
set_option linter.unusedVariables false
def escL (l : List UInt8) : Nat × Nat := escC (l.getD 1 0).toNat (l.getD 2 0).toNat (l.getD 3 0).toNat l.length
/-- the text behind the opening quote: the string, the error, its offset -/
def sc : Nat → List UInt8 → Nat → List UInt8 → List UInt8 × Nat × Nat
  | 0, _, at_, _ => ([], 8, at_)
  | _ + 1, [], at_, _ => ([], 8, at_)
  | f + 1, c :: t, at_, acc =>
    if c.toNat = 34 then (if t = [] then (acc, 0, 0) else ([], 8, at_ + 1))
    else if c.toNat = 92 then (if (escL (c :: t)).2 = 0 then ([], 8, at_) else sc f ((c :: t).drop (escL (c :: t)).2) (at_ + (escL (c :: t)).2) (acc ++ [UInt8.ofNat (escL (c :: t)).1]))
    else if (decide (32 ≤ c.toNat) && decide (c.toNat ≤ 126)) = false then ([], 8, at_) else sc f t (at_ + 1) (acc ++ [c])
def unq (l : List UInt8) : List UInt8 × Nat × Nat :=
  if 65536 < l.length then ([], 2, 0) else if l.length = 0 ∨ (l.getD 0 0).toNat ≠ 34 then ([], 8, 0) else sc l.length (l.drop 1) 1 []
theorem escC_n (c h l n : Nat) : (escC c h l n).2 = 0 ∨ (escC c h l n).2 = 2 ∧ 2 ≤ n ∨ (escC c h l n).2 = 4 ∧ 4 ≤ n := by
  unfold escC hexV
  (repeat' split) <;> first | (left; rfl) | (right; left; exact ⟨rfl, by omega⟩) | (right; right; exact ⟨rfl, by omega⟩)
theorem escC_b (c h l n : Nat) : (escC c h l n).1 < 256 := by
  unfold escC hexV
  have := digI_hi h; have := digI_hi l; have := digI_lo h; have := digI_lo l
  (repeat' split) <;> simp <;> omega
theorem escV_ext (s : ByteArray) (a : Nat) : escV (s.extract a s.size) = escL (s.data.toList.drop a) := by
  unfold escV escL ch
  rw [Lib.extract_to_end]
  congr 1
  simp
theorem drop_at (s : ByteArray) (a : Nat) (h : a < s.size) : s.data.toList.drop a = s[a] :: s.data.toList.drop (a + 1) := by
  rw [List.drop_eq_getElem_cons (by simpa using h)]; rfl
/-- the value that Unquote returns -/
def uv (r : List UInt8 × Nat × Nat) : Value := .tuple #[.string ⟨r.1.toArray⟩, .agg #[.int .i64 (r.2.1 : Int), .int .i64 (r.2.2 : Int)]]
theorem bld_new (w : World) : Bld w.heap.size w.heap.size [] (w.alloc (.cells #[.pointer none, .slice none 0 0] 42)) := by
  refine .inl ⟨Nat.le_refl _, .slice none 0 0, World.alloc_heap_new _ _, ?_, by simp [Value.ownBlock]⟩
  exact World.ownsRowF_of (World.ownsRow_nil _ _ _ _)
theorem unq_big {l : List UInt8} (h : 65536 < l.length) : unq l = ([], 2, 0) := by unfold unq; rw [if_pos h]
theorem unq_no {l : List UInt8} (h : ¬ 65536 < l.length) (h' : l.length = 0 ∨ (l.getD 0 0).toNat ≠ 34) : unq l = ([], 8, 0) := by unfold unq; rw [if_neg h, if_pos h']
theorem unq_sc {l : List UInt8} (h : ¬ 65536 < l.length) (h' : ¬ (l.length = 0 ∨ (l.getD 0 0).toNat ≠ 34)) : unq l = sc l.length (l.drop 1) 1 [] := by unfold unq; rw [if_neg h, if_neg h']
set_option maxRecDepth 100000 in
set_option maxHeartbeats 2000000 in
theorem unquote_big (s : ByteArray) (h : 65536 < s.size) (w : World) :
    Calls Tryd.prog 68 #[.string s] w fun e w' => e = .returned (uv (unq s.data.toList)) ∧ Below w.heap.size w w' := by
  rw [unq_big (by simpa using h)]
  unfold uv
  go_enter Tryd.func68, Tryd.ntmps68
  go_wp2
  go_step3
  go_wp2
  rw [Exit.noGoto_ret]
  refine bodyPost_ret (v := .tuple #[.string ⟨#[]⟩, .agg #[.int .i64 2, .int .i64 0]]) (by simp [results, Tryd.results68, go_sem]) rfl ⟨rfl, ?_⟩
  exact (Below.refl w.heap.size w).alloc (Nat.le_refl _) _
theorem ne_facts (s : ByteArray) (h : 0 < s.size) : s.toList ≠ [] ∧ s.toList.isEmpty = false := by
  rw [Go.ByteArray.toList_eq]
  have : s.data.toList.length = s.size := by simp
  constructor
  · intro e; rw [e] at this; simp at this; omega
  · cases e : s.data.toList with
    | nil => rw [e] at this; simp at this; omega
    | cons a t => rfl
set_option maxRecDepth 100000 in
set_option maxHeartbeats 2000000 in
theorem unquote_no (s : ByteArray) (h : ¬ 65536 < s.size) (h' : s.size = 0 ∨ ch s 0 ≠ 34) (w : World) :
    Calls Tryd.prog 68 #[.string s] w fun e w' => e = .returned (uv (unq s.data.toList)) ∧ Below w.heap.size w w' := by
  rw [unq_no (by simpa using h) (by simpa [ch] using h')]
  unfold uv
  have hle : (s.size : Int) ≤ 65536 := by omega
  by_cases h0 : s.size = 0
  · have hs : s = ⟨#[]⟩ := by
      apply ByteArray.ext; apply Array.ext'; apply List.eq_nil_of_length_eq_zero; simpa using h0
    subst hs
    clear h' h0 h hle
    go_enter Tryd.func68, Tryd.ntmps68
    go_wp2_with fail
    go_step3
    go_wp2_with fail
    refine (fault_any _ _).mono ?_
    rintro e w1 ⟨rfl, hb1⟩
    have z1 : w.heap.size < w1.heap.size := by have := hb1.size; simp at this; omega
    have hB := Lib.hid (((Below.refl w.heap.size w).alloc (Nat.le_refl _) (.cells #[.int .i64 0, .int .i64 0] 28)).trans (hb1.mono (by simp)))
    have f0 : w1.frozen? ⟨w.heap.size, 0, none⟩ = false := by rw [hb1.frozen (p := ⟨w.heap.size, 0, none⟩) (by simp)]; simp
    have f1 : w1.frozen? ⟨w.heap.size, 1, none⟩ = false := by rw [hb1.frozen (p := ⟨w.heap.size, 1, none⟩) (by simp)]; simp
    have c0 : w1.cell? ⟨w.heap.size, 0, none⟩ = some (.int .i64 0) := by rw [hb1.cell (p := ⟨w.heap.size, 0, none⟩) (by simp)]; go_simp
    have c1 : w1.cell? ⟨w.heap.size, 1, none⟩ = some (.int .i64 0) := by rw [hb1.cell (p := ⟨w.heap.size, 1, none⟩) (by simp)]; go_simp
    clear hb1
    go_wp2_with fail
    rw [Exit.noGoto_ret]
    refine bodyPost_ret (v := .tuple #[.string ⟨#[]⟩, .agg #[.int .i64 8, .int .i64 0]]) (by simp [results, Tryd.results68, go_sem, c0, c1, z1]) rfl ⟨rfl, ?_⟩
    exact (hB.out.setCell (p := ⟨w.heap.size, 0, none⟩) (Nat.le_refl _) _).setCell (p := ⟨w.heap.size, 1, none⟩) (Nat.le_refl _) _
  · have hp : 0 < s.size := by omega
    obtain ⟨hne, he⟩ := ne_facts s hp
    have hc : ((s[0]).toNat : Int) ≠ 34 := by rw [ch_at s 0 hp]; omega
    have hc' : (((s[0]).toNat : Int) != 34) = true := by simpa using hc
    clear h' h0 h
    go_enter Tryd.func68, Tryd.ntmps68
    go_wp2_with fail
    go_step3
    go_wp2_with fail
    refine (fault_any _ _).mono ?_
    rintro e w1 ⟨rfl, hb1⟩
    have z1 : w.heap.size < w1.heap.size := by have := hb1.size; simp at this; omega
    have hB := Lib.hid (((Below.refl w.heap.size w).alloc (Nat.le_refl _) (.cells #[.int .i64 0, .int .i64 0] 28)).trans (hb1.mono (by simp)))
    have f0 : w1.frozen? ⟨w.heap.size, 0, none⟩ = false := by rw [hb1.frozen (p := ⟨w.heap.size, 0, none⟩) (by simp)]; simp
    have f1 : w1.frozen? ⟨w.heap.size, 1, none⟩ = false := by rw [hb1.frozen (p := ⟨w.heap.size, 1, none⟩) (by simp)]; simp
    have c0 : w1.cell? ⟨w.heap.size, 0, none⟩ = some (.int .i64 0) := by rw [hb1.cell (p := ⟨w.heap.size, 0, none⟩) (by simp)]; go_simp
    have c1 : w1.cell? ⟨w.heap.size, 1, none⟩ = some (.int .i64 0) := by rw [hb1.cell (p := ⟨w.heap.size, 1, none⟩) (by simp)]; go_simp
    clear hb1
    go_wp2_with fail
    rw [Exit.noGoto_ret]
    refine bodyPost_ret (v := .tuple #[.string ⟨#[]⟩, .agg #[.int .i64 8, .int .i64 0]]) (by simp [results, Tryd.results68, go_sem, c0, c1, z1]) rfl ⟨rfl, ?_⟩
    exact (hB.out.setCell (p := ⟨w.heap.size, 0, none⟩) (Nat.le_refl _) _).setCell (p := ⟨w.heap.size, 1, none⟩) (Nat.le_refl _) _
theorem fault_at (x : Int) (n : Nat) (h : x = (n : Int)) (w : World) : Calls Tryd.prog 82 #[.int .i64 x] w fun e w' => e = .returned (.agg #[.int .i64 8, .int .i64 (n : Int)]) ∧ Below w.heap.size w w' := by subst h; exact fault_any _ w
theorem res_keep {wr w1 : World} {rc : Nat} (h : wr.heap[rc]? = some (.cells #[.int .i64 0, .int .i64 0] 28 (0, 0))) (hb : Below wr.heap.size wr w1) : w1.heap[rc]? = some (.cells #[.int .i64 0, .int .i64 0] 28 (0, 0)) := by
  rw [hb.block _ (Array.getElem?_eq_some_iff.1 h).1]; exact h
theorem res_facts {w : World} {rc : Nat} (h : w.heap[rc]? = some (.cells #[.int .i64 0, .int .i64 0] 28 (0, 0))) :
    rc < w.heap.size ∧ w.cell? ⟨rc, 0, none⟩ = some (.int .i64 0) ∧ w.cell? ⟨rc, 1, none⟩ = some (.int .i64 0) ∧ w.frozen? ⟨rc, 0, none⟩ = false ∧ w.frozen? ⟨rc, 1, none⟩ = false :=
  ⟨(Array.getElem?_eq_some_iff.1 h).1, by rw [Lib.cell_of_heap h]; rfl, by rw [Lib.cell_of_heap h]; rfl, Lib.frozen_of_heap h 0, Lib.frozen_of_heap h 1⟩
theorem sc_q {f a : Nat} {c : UInt8} {t acc : List UInt8} (h : c.toNat = 34) : sc (f + 1) (c :: t) a acc = if t = [] then (acc, 0, 0) else ([], 8, a + 1) := by
  simp only [sc, h, if_true]
theorem sc_e {f a : Nat} {c : UInt8} {t acc : List UInt8} (h : c.toNat = 92) : sc (f + 1) (c :: t) a acc = if (escL (c :: t)).2 = 0 then ([], 8, a) else sc f ((c :: t).drop (escL (c :: t)).2) (a + (escL (c :: t)).2) (acc ++ [UInt8.ofNat (escL (c :: t)).1]) := by
  simp only [sc]; rw [if_neg (by omega), if_pos h]
theorem sc_x {f a : Nat} {c : UInt8} {t acc : List UInt8} (h1 : c.toNat ≠ 34) (h2 : c.toNat ≠ 92) (h : (decide (32 ≤ c.toNat) && decide (c.toNat ≤ 126)) = false) : sc (f + 1) (c :: t) a acc = ([], 8, a) := by
  simp only [sc]; rw [if_neg h1, if_neg h2, if_pos h]
theorem sc_c {f a : Nat} {c : UInt8} {t acc : List UInt8} (h1 : c.toNat ≠ 34) (h2 : c.toNat ≠ 92) (h : (decide (32 ≤ c.toNat) && decide (c.toNat ≤ 126)) = true) : sc (f + 1) (c :: t) a acc = sc f t (a + 1) (acc ++ [c]) := by
  simp only [sc]; rw [if_neg h1, if_neg h2, if_neg (by rw [h]; simp)]
set_option maxRecDepth 100000 in
set_option maxHeartbeats 4000000 in
theorem unquote_yes (s : ByteArray) (h : ¬ 65536 < s.size) (h' : ¬ (s.size = 0 ∨ ch s 0 ≠ 34)) (w : World) :
    Calls Tryd.prog 68 #[.string s] w fun e w' => e = .returned (uv (unq s.data.toList)) ∧ Below w.heap.size w w' := by
  have hR := unq_sc (l := s.data.toList) (by simpa using h) (by simpa [ch] using h')
  generalize unq s.data.toList = R at *
  have hle : s.size ≤ 65536 := by omega
  have hp : 0 < s.size := by omega
  obtain ⟨hne, he⟩ := ne_facts s hp
  have hc : (((s[0]).toNat : Int) != 34) = false := by rw [ch_at s 0 hp]; simp; omega
  have HR := Lib.hid hR
  clear h' h hR
  go_enter Tryd.func68, Tryd.ntmps68
  go_wp2_with fail
  go_step3
  go_wp2_with fail
  go_step3
  go_wp2_with fail
  clear hne he hc
  have hlen : s.data.toList.length = s.size := by simp
  have HL := Lib.hid hlen
  clear hlen
  go_loopw [5] (fun i wr => ∃ (a f : Nat) (acc : List UInt8), i = .int .i64 (a : Int) ∧ 1 ≤ a ∧ a ≤ s.size ∧ acc.length ≤ a ∧ Hid (sc f (s.data.toList.drop a) a acc = R) ∧ s.size - a < f ∧ Bld (w.heap.size + 1) (w.heap.size + 1) acc wr ∧ Below w.heap.size w wr ∧ wr.heap[w.heap.size]? = some (.cells #[.int .i64 0, .int .i64 0] 28 (0, 0))) (fun i _ => s.size - (intOf i).toNat)
  case atStart =>
    refine ⟨1, s.data.toList.length, [], rfl, by omega, hp, by simp, Lib.hid HR.out.symm, by rw [HL.out]; omega, ?_, ?_, ?_⟩
    · have := bld_new (w.alloc (.cells #[.int .i64 0, .int .i64 0] 28))
      rw [World.size_alloc] at this; exact this
    · exact ((Below.refl w.heap.size w).alloc (Nat.le_refl _) _).alloc (by simp) _
    · rw [Below.heap_alloc _ _ _ (by simp)]; exact World.alloc_heap_new _ _
  case round =>
    obtain ⟨a, f, acc, rfl, ha1, ha2, hacc, HS, hf, hbld, hB, hrc⟩ := hrel
    obtain ⟨g, rfl⟩ : ∃ g, f = g + 1 := ⟨f - 1, by omega⟩
    by_cases hlt : a < s.size
    · rw [drop_at s a hlt] at HS
      by_cases x34 : (s[a]).toNat = 34
      · rw [sc_q x34] at HS
        have X34 : (((s[a]).toNat : Int) == 34) = true := by simp [x34]
        by_cases hla : a = s.size - 1
        · have ht : s.data.toList.drop (a + 1) = [] := List.drop_eq_nil_of_le (by rw [HL.out]; omega)
          rw [if_pos ht] at HS
          clear ht x34
          have X1 : ((a : Int) != (s.size : Int) - 1) = false := by simp; omega
          clear hla
          go_wp2_with fail
          refine (bstring_at _ hbld (by have := hbld.lt; omega)).mono ?_
          rintro e w9 ⟨rfl, _, hb9, _⟩
          have hr9 : w9.heap[w.heap.size]? = some (.cells #[.int .i64 0, .int .i64 0] 28 (0, 0)) := by rw [hb9.block _ (by omega)]; exact hrc
          have hB9 := hB.trans (hb9.mono (by omega))
          obtain ⟨z9, c0, c1, f0, f1⟩ := res_facts hr9
          have HB := Lib.hid ((hB9.setCell (p := ⟨w.heap.size, 0, none⟩) (Nat.le_refl _) (.int .i64 0)).setCell (p := ⟨w.heap.size, 1, none⟩) (Nat.le_refl _) (.int .i64 0))
          clear hb9 hB9 hr9 hrc hB hbld
          go_wp2_with fail
          rw [Exit.noGoto_ret]
          refine bodyPost_ret (v := .tuple #[.string ⟨acc.toArray⟩, .agg #[.int .i64 0, .int .i64 0]]) (by simp [results, Tryd.results68, go_sem, c0, c1, z9]) rfl ⟨?_, HB.out⟩
          rw [← HS.out]; rfl
        · have ht : s.data.toList.drop (a + 1) ≠ [] := by
            intro e; have := congrArg List.length e; simp at this; have := HL.out; simp at this; omega
          rw [if_neg ht] at HS
          clear ht x34
          go_wp2_with fail
          refine (fault_at _ (a + 1) (by omega) _).mono ?_
          rintro e w9 ⟨rfl, hb9⟩
          have hr9 := res_keep hrc hb9
          have hB9 := hB.trans (hb9.mono hB.size)
          obtain ⟨z9, c0, c1, f0, f1⟩ := res_facts hr9
          have HB := Lib.hid ((hB9.setCell (p := ⟨w.heap.size, 0, none⟩) (Nat.le_refl _) (.int .i64 8)).setCell (p := ⟨w.heap.size, 1, none⟩) (Nat.le_refl _) (.int .i64 ((a + 1 : Nat) : Int)))
          clear hb9 hB9 hr9 hrc hB hbld
          go_wp2_with fail
          rw [Exit.noGoto_ret]
          refine bodyPost_ret (v := .tuple #[.string ⟨#[]⟩, .agg #[.int .i64 8, .int .i64 ((a + 1 : Nat) : Int)]]) (by simp [results, Tryd.results68, go_sem, c0, c1, z9]) rfl ⟨?_, HB.out⟩
          rw [← HS.out]; rfl
      · have N34 : (((s[a]).toNat : Int) == 34) = false := by simp; omega
        by_cases x92 : (s[a]).toNat = 92
        · rw [sc_e x92] at HS
          have X92 : (((s[a]).toNat : Int) == 92) = true := by simp [x92]
          rw [← drop_at s a hlt, ← escV_ext s a] at HS
          have hn := escC_n (ch (s.extract a s.size) 1) (ch (s.extract a s.size) 2) (ch (s.extract a s.size) 3) (s.extract a s.size).size
          have hb8 := escC_b (ch (s.extract a s.size) 1) (ch (s.extract a s.size) 2) (ch (s.extract a s.size) 3) (s.extract a s.size).size
          change (escV (s.extract a s.size)).2 = 0 ∨ (escV (s.extract a s.size)).2 = 2 ∧ _ ∨ (escV (s.extract a s.size)).2 = 4 ∧ _ at hn
          change (escV (s.extract a s.size)).1 < 256 at hb8
          have hsz : (s.extract a s.size).size = s.size - a := by simp
          rw [hsz] at hn
          have HE := Lib.hid (escape_any (s.extract a s.size) wr)
          clear hsz
          generalize escV (s.extract a s.size) = P at *
          obtain ⟨p, n⟩ := P
          simp only at HS hn hb8 HE
          clear x92 x34
          go_wp2_with fail
          refine HE.out.mono ?_
          rintro e w2 ⟨rfl, m, rfl⟩
          have hbld2 : Bld (w.heap.size + 1) (w.heap.size + 1) acc (wr.drewN m) := hbld
          have hrc2 : (wr.drewN m).heap[w.heap.size]? = some (.cells #[.int .i64 0, .int .i64 0] 28 (0, 0)) := hrc
          have hB2 : Below w.heap.size w (wr.drewN m) := hB.trans (by constructor <;> first | rfl | (intros; rfl) | (intros; assumption) | exact Nat.le_refl _)
          clear HE hbld hrc hB
          generalize wr.drewN m = w3 at *
          have hbld := hbld2; have hrc := hrc2; have hB := hB2
          clear hbld2 hrc2 hB2
          by_cases n0 : n = 0
          · rw [if_pos n0] at HS
            subst n0
            clear hn hb8
            go_wp2_with fail
            refine (fault_at _ (a) (rfl) _).mono ?_
            rintro e w9 ⟨rfl, hb9⟩
            have hr9 := res_keep hrc hb9
            have hB9 := hB.trans (hb9.mono hB.size)
            obtain ⟨z9, c0, c1, f0, f1⟩ := res_facts hr9
            have HB := Lib.hid ((hB9.setCell (p := ⟨w.heap.size, 0, none⟩) (Nat.le_refl _) (.int .i64 8)).setCell (p := ⟨w.heap.size, 1, none⟩) (Nat.le_refl _) (.int .i64 ((a : Nat) : Int)))
            clear hb9 hB9 hr9 hrc hB hbld
            go_wp2_with fail
            rw [Exit.noGoto_ret]
            refine bodyPost_ret (v := .tuple #[.string ⟨#[]⟩, .agg #[.int .i64 8, .int .i64 ((a : Nat) : Int)]]) (by simp [results, Tryd.results68, go_sem, c0, c1, z9]) rfl ⟨?_, HB.out⟩
            rw [← HS.out]; rfl
          · rw [if_neg n0] at HS
            have N0 : ((n : Int) == 0) = false := by simp; omega
            have hn' : 2 ≤ n ∧ n ≤ s.size - a := by omega
            have E1 : (UInt8.ofNat p).toNat = p := by simp; omega
            go_wp2_with fail
            have hwb := wbyte_at (UInt8.ofNat p) w3 hbld (by omega) (by have := hbld.lt; omega)
            rw [E1] at hwb
            refine hwb.mono ?_
            rintro e w4 ⟨rfl, hbld4, hb4, _⟩
            have hr4 : w4.heap[w.heap.size]? = some (.cells #[.int .i64 0, .int .i64 0] 28 (0, 0)) := by rw [hb4.block _ (by omega)]; exact hrc
            have hB4 := hB.trans (hb4.mono (by omega))
            clear hb4 hrc hB hbld hwb E1
            go_wp2_with fail
            go_roundw
            case rel => exact ⟨a + n, g, acc ++ [UInt8.ofNat p], by go_num, by omega, by omega, by simp; omega, by rw [List.drop_drop] at HS; exact HS, by omega, hbld4, hB4, hr4⟩
            case measure => simp [intOf]; omega
        · have N92 : (((s[a]).toNat : Int) == 92) = false := by simp; omega
          cases hpr : (decide (32 ≤ (s[a]).toNat) && decide ((s[a]).toNat ≤ 126)) with
          | false =>
            rw [sc_x x34 x92 hpr] at HS
            have HPR := Lib.hid hpr
            clear hpr x34 x92
            go_wp2_with fail
            refine (printable_any _ _).mono ?_
            rintro e w2 ⟨rfl, rfl⟩
            rw [HPR.out]
            go_wp2_with fail
            refine (fault_at _ (a) (rfl) _).mono ?_
            rintro e w9 ⟨rfl, hb9⟩
            have hr9 := res_keep hrc hb9
            have hB9 := hB.trans (hb9.mono hB.size)
            obtain ⟨z9, c0, c1, f0, f1⟩ := res_facts hr9
            have HB := Lib.hid ((hB9.setCell (p := ⟨w.heap.size, 0, none⟩) (Nat.le_refl _) (.int .i64 8)).setCell (p := ⟨w.heap.size, 1, none⟩) (Nat.le_refl _) (.int .i64 ((a : Nat) : Int)))
            clear hb9 hB9 hr9 hrc hB hbld
            go_wp2_with fail
            rw [Exit.noGoto_ret]
            refine bodyPost_ret (v := .tuple #[.string ⟨#[]⟩, .agg #[.int .i64 8, .int .i64 ((a : Nat) : Int)]]) (by simp [results, Tryd.results68, go_sem, c0, c1, z9]) rfl ⟨?_, HB.out⟩
            rw [← HS.out]; rfl
          | true =>
            rw [sc_c x34 x92 hpr] at HS
            have HPR := Lib.hid hpr
            clear hpr x34 x92
            go_wp2_with fail
            refine (printable_any _ _).mono ?_
            rintro e w2 ⟨rfl, rfl⟩
            rw [HPR.out]
            go_wp2_with fail
            refine (wbyte_at (s[a]) wr hbld (by omega) (by have := hbld.lt; omega)).mono ?_
            rintro e w4 ⟨rfl, hbld4, hb4, _⟩
            have hr4 : w4.heap[w.heap.size]? = some (.cells #[.int .i64 0, .int .i64 0] 28 (0, 0)) := by rw [hb4.block _ (by omega)]; exact hrc
            have hB4 := hB.trans (hb4.mono (by omega))
            clear hb4 hrc hB hbld
            go_wp2_with fail
            go_roundw
            case rel => exact ⟨a + 1, g, acc ++ [s[a]], by go_num, by omega, by omega, by simp; omega, HS, by omega, hbld4, hB4, hr4⟩
            case measure => simp [intOf]; omega
    · have he : a = s.size := by omega
      have hd : s.data.toList.drop a = [] := List.drop_eq_nil_of_le (by rw [HL.out]; omega)
      rw [hd] at HS
      simp only [sc] at HS
      clear hd
      have X1 : ((a : Int) != (s.size : Int) - 1) = true := by simp; omega
      have HE := Lib.hid he
      clear he
      go_wp2_with fail
      refine (fault_at _ (a) (by have := HE.out; omega) _).mono ?_
      rintro e w9 ⟨rfl, hb9⟩
      have hr9 := res_keep hrc hb9
      have hB9 := hB.trans (hb9.mono hB.size)
      obtain ⟨z9, c0, c1, f0, f1⟩ := res_facts hr9
      have HB := Lib.hid ((hB9.setCell (p := ⟨w.heap.size, 0, none⟩) (Nat.le_refl _) (.int .i64 8)).setCell (p := ⟨w.heap.size, 1, none⟩) (Nat.le_refl _) (.int .i64 ((a : Nat) : Int)))
      clear hb9 hB9 hr9 hrc hB hbld
      go_wp2_with fail
      rw [Exit.noGoto_ret]
      refine bodyPost_ret (v := .tuple #[.string ⟨#[]⟩, .agg #[.int .i64 8, .int .i64 ((a : Nat) : Int)]]) (by simp [results, Tryd.results68, go_sem, c0, c1, z9]) rfl ⟨?_, HB.out⟩
      rw [← HS.out]; rfl
end Go.Proofs.YtaocgibfabofhaaDoor
