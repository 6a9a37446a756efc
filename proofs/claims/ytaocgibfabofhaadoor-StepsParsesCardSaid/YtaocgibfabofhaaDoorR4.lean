/-
  The reader's quoted: a label in quotes. Condition: the reader stands at a quote.
-/
import Derived.Test.YtaocgibfabofhaaDoorR3
import Derived.StillTailTactics
namespace Go.Proofs.YtaocgibfabofhaaDoor
open Go.RowKit
set_option linter.unusedSimpArgs false
set_option linter.unusedVariables false
/-- the bytes up to the closing quote -/
def quoF (s : ByteArray) : Nat → Nat → Bool × Nat
  | 0, p => (false, p)
  | f + 1, p => if ch s p = 34 then (true, p) else if (chrS s p).1 = true then quoF s f (chrS s p).2 else (false, (chrS s p).2)
theorem quoF_1 {s : ByteArray} {f p : Nat} (h : ch s p = 34) : quoF s (f + 1) p = (true, p) := by rw [quoF, if_pos h]
theorem quoF_2 {s : ByteArray} {f p : Nat} (h : ch s p ≠ 34) (h' : (chrS s p).1 = true) : quoF s (f + 1) p = quoF s f (chrS s p).2 := by rw [quoF, if_neg h, if_pos h']
theorem quoF_3 {s : ByteArray} {f p : Nat} (h : ch s p ≠ 34) (h' : (chrS s p).1 = false) : quoF s (f + 1) p = (false, (chrS s p).2) := by rw [quoF, if_neg h, if_neg (by rw [h']; simp)]
theorem digS_go {s : ByteArray} {p : Nat} (h : p ≤ s.size) : p ≤ (digS s p).2 ∧ (digS s p).2 ≤ s.size := by
  unfold digS
  split
  · exact ⟨Nat.le_refl _, h⟩
  · have h1 := digV_in (s := s) (p := p) (by rename_i h; intro h'; apply h; unfold badHi; simp [h'])
    split
    · exact ⟨by show p ≤ p + 1; omega, by show p + 1 ≤ _; omega⟩
    · have h2 := digV_in (s := s) (p := p + 1) (by assumption)
      split
      · exact ⟨by show p ≤ p + 2; omega, by show p + 2 ≤ _; omega⟩
      · exact ⟨by show p ≤ p + 1; omega, by show p + 1 ≤ _; omega⟩
theorem escS_go {s : ByteArray} {p : Nat} (h : p ≤ s.size) : p ≤ (escS s p).2 ∧ (escS s p).2 ≤ s.size := by
  unfold escS
  split
  · have := ch_in (s := s) (p := p) (by omega); exact ⟨by show p ≤ p + 1; omega, by show p + 1 ≤ _; omega⟩
  · split
    · have := ch_in (s := s) (p := p) (by omega)
      have := digS_go (s := s) (p := p + 1) (by omega)
      exact ⟨by omega, this.2⟩
    · exact ⟨Nat.le_refl _, h⟩
theorem chrS_go {s : ByteArray} {p : Nat} (h : p ≤ s.size) : p ≤ (chrS s p).2 ∧ (chrS s p).2 ≤ s.size ∧ ((chrS s p).1 = true → p < (chrS s p).2) := by
  unfold chrS
  split
  · exact ⟨Nat.le_refl _, h, fun h => by cases h⟩
  · have := ch_in (s := s) (p := p) (by omega)
    split
    · exact ⟨by show p ≤ p + 1; omega, by show p + 1 ≤ _; omega, fun _ => by show p < p + 1; omega⟩
    · have := escS_go (s := s) (p := p + 1) (by omega)
      exact ⟨by omega, this.2, fun _ => by omega⟩
theorem quoF_go {s : ByteArray} : ∀ (f p : Nat), p ≤ s.size → p ≤ (quoF s f p).2 ∧ (quoF s f p).2 ≤ s.size ∧ ((quoF s f p).1 = true → ch s (quoF s f p).2 = 34)
  | 0, p, h => ⟨Nat.le_refl _, h, fun h => by cases h⟩
  | f + 1, p, h => by
    have hc := chrS_go h
    by_cases h1 : ch s p = 34
    · rw [quoF_1 h1]; exact ⟨Nat.le_refl _, h, fun _ => h1⟩
    · cases h2 : (chrS s p).1 with
      | true =>
        rw [quoF_2 h1 h2]
        have := quoF_go f (chrS s p).2 hc.2.1
        exact ⟨by omega, this.2⟩
      | false => rw [quoF_3 h1 h2]; exact ⟨hc.1, hc.2.1, fun h => by cases h⟩
/-- the label between the quotes at a and q -/
def quoV (s : ByteArray) (a q : Nat) : ByteArray := ⟨(unq (s.extract a (q + 1)).data.toList).1.toArray⟩
/-- a label in quotes at p: whether it is read, the label, and where the reader stands then -/
def quoS (s : ByteArray) (p : Nat) : Bool × ByteArray × Nat :=
  if (quoF s s.size (p + 1)).1 = true then
    if (quoV s p (quoF s s.size (p + 1)).2).size = 0 ∨ identB (quoV s p (quoF s s.size (p + 1)).2) = true then (false, ⟨#[]⟩, (quoF s s.size (p + 1)).2)
    else (true, quoV s p (quoF s s.size (p + 1)).2, (quoF s s.size (p + 1)).2 + 1)
  else (false, ⟨#[]⟩, (quoF s s.size (p + 1)).2)
theorem quoS_1 {s : ByteArray} {p : Nat} (q : Nat) (h : (false, q) = quoF s s.size (p + 1)) : quoS s p = (false, ⟨#[]⟩, q) := by unfold quoS; rw [← h]; rfl
theorem quoS_2 {s : ByteArray} {p : Nat} (q : Nat) (h : (true, q) = quoF s s.size (p + 1)) (h' : (quoV s p q).size = 0 ∨ identB (quoV s p q) = true) : quoS s p = (false, ⟨#[]⟩, q) := by unfold quoS; rw [← h, if_pos rfl, if_pos h']
theorem quoS_3 {s : ByteArray} {p : Nat} (q : Nat) (h : (true, q) = quoF s s.size (p + 1)) (h' : ¬ ((quoV s p q).size = 0 ∨ identB (quoV s p q) = true)) : quoS s p = (true, quoV s p q, q + 1) := by unfold quoS; rw [← h, if_pos rfl, if_neg h']
/-- the block of a step that a method returns -/
def Res (w : World) (b : Nat) : Prop := w.heap[b]? = some (.cells #[.string ⟨#[]⟩, .int .i64 0] 37 (0, 0))
theorem Res.facts {w : World} {b : Nat} (h : Res w b) :
    b < w.heap.size ∧ w.cell? ⟨b, 0, none⟩ = some (.string ⟨#[]⟩) ∧ w.cell? ⟨b, 1, none⟩ = some (.int .i64 0) ∧ w.frozen? ⟨b, 0, none⟩ = false ∧ w.frozen? ⟨b, 1, none⟩ = false := by
  unfold Res at h
  refine ⟨(Array.getElem?_eq_some_iff.1 h).1, by rw [Lib.cell_of_heap h]; rfl, by rw [Lib.cell_of_heap h]; rfl, by simp [World.frozen?, h], by simp [World.frozen?, h]⟩
theorem Res.keep {w w' : World} {b g : Nat} (h : Res w b) (k : w.grownBy w' (some g)) (hn : b ≠ g) : Res w' b := gb_blk h k (fun e => hn (by injection e))
theorem Res.below {w w' : World} {b : Nat} (h : Res w b) (k : Below w.heap.size w w') : Res w' b := by
  unfold Res at h ⊢; rw [k.block _ (Array.getElem?_eq_some_iff.1 h).1]; exact h
theorem Res.set {w : World} {b : Nat} (h : Res w b) (p : Addr) (v : Value) (hn : b ≠ p.block) : Res (w.setCell p v) b := (Below.heap_setCell w p v b hn).trans h
theorem RdP.new {g : Nat} {s : ByteArray} {a : Int} {w W : World} (h : RdP g s a w W) (p : Addr) (v : Value) (hp : w.heap.size ≤ p.block) (hg : g < w.heap.size) : RdP g s a w (W.setCell p v) := by
  refine ⟨⟨h.1.os, h.1.tape, h.1.output, by simpa [World.setCell] using h.1.size, fun i hi hn => ?_⟩, (Below.heap_setCell W p v g (by omega)).trans h.2⟩
  exact (Below.heap_setCell W p v i (by omega)).trans (h.1.block i hi hn)
/-- what the reading of the label's value loads -/
abbrev SQ (w0 : World) (g : Nat) (s : ByteArray) (q : Nat) (w : World) : Prop :=
  Below w0.heap.size w0 w ∧ w.cell? ⟨g, 0, none⟩ = some (.string s) ∧ w.cell? ⟨g, 1, none⟩ = some (.int .i64 (q : Int))
theorem keepQ {w0 w w' : World} {g : Nat} {s : ByteArray} {q : Nat} (h : SQ w0 g s q w) (hb : Below w.heap.size w w') : SQ w0 g s q w' := by
  obtain ⟨h0, a0, a1⟩ := h
  exact ⟨h0.trans (hb.mono h0.size), cell_keep a0 hb, cell_keep a1 hb⟩
theorem dr_alloc {w2 w3 : World} {o : Obj} (h : Below w2.drew.heap.size w2.drew w3) : Below w2.heap.size w2 (w3.alloc o) := ((Below.refl _ _).drew).trans (h.alloc h.size o)
theorem own_facts {X w3 : World} {k : Nat} (h : Below X.heap.size X w3) (hX : X.heap[k]? = some (.cells #[.int .i64 0, .int .i64 0] 28 (0, 0))) :
    k < w3.heap.size ∧ w3.cell? ⟨k, 0, none⟩ = some (.int .i64 0) ∧ w3.cell? ⟨k, 1, none⟩ = some (.int .i64 0) ∧ w3.frozen? ⟨k, 0, none⟩ = false ∧ w3.frozen? ⟨k, 1, none⟩ = false := by
  have h3 : w3.heap[k]? = some (.cells #[.int .i64 0, .int .i64 0] 28 (0, 0)) := by rw [h.block _ (Array.getElem?_eq_some_iff.1 hX).1]; exact hX
  refine ⟨(Array.getElem?_eq_some_iff.1 h3).1, by rw [Lib.cell_of_heap h3]; rfl, by rw [Lib.cell_of_heap h3]; rfl, by simp [World.frozen?, h3], by simp [World.frozen?, h3]⟩
theorem setQ {w0 w : World} {g : Nat} {s : ByteArray} {q : Nat} (z : g < w0.heap.size) (h : SQ w0 g s q w) {p : Addr} {v : Value} (hp : w0.heap.size ≤ p.block) : SQ w0 g s q (w.setCell p v) := by
  obtain ⟨h0, a0, a1⟩ := h
  exact ⟨h0.setCell hp v, by rw [World.cell?_setCell_other _ _ _ _ (fun e => by rw [e] at hp; simp at hp; omega)]; exact a0, by rw [World.cell?_setCell_other _ _ _ _ (fun e => by rw [e] at hp; simp at hp; omega)]; exact a1⟩
theorem belowQ {w0 w : World} {g : Nat} {s : ByteArray} {q : Nat} (h : SQ w0 g s q w) : Below w0.heap.size w0 w := h.1
set_option maxRecDepth 100000 in
set_option maxHeartbeats 4000000 in
theorem quotedR_any (g : Nat) (s : ByteArray) (p : Nat) (w : World) (h : Rdr w g s (p : Nat)) (hp : p < s.size) (hs : s.size ≤ 65536) :
    Calls Tryd.prog 47 #[.pointer (some ⟨g, 0, none⟩)] w fun e w' => e = .returned (.tuple #[sv (quoS s p).2.1 0, .bool (quoS s p).1]) ∧ RdP g s ((quoS s p).2.2 : Nat) w w' := by
  have C1 := Lib.hid (fun w q => peek_any g s q w)
  have C2 := Lib.hid (fun w q => chr_any g s q w)
  have hg := h.facts.1
  have P := Lib.hid ((RdP.start h).below ((Below.refl _ _).alloc (Nat.le_refl _) (.cells #[.string ⟨#[]⟩, .int .i64 0] 37)))
  have B := Lib.hid (World.alloc_heap_new w (.cells #[.string ⟨#[]⟩, .int .i64 0] 37))
  have B' : Hid (Res (w.alloc (.cells #[.string ⟨#[]⟩, .int .i64 0] 37)) w.heap.size) := Lib.hid B.out
  have H := Lib.hid h
  clear h B
  obtain ⟨z, c0, c1, f1⟩ := P.out.2.facts
  have P1 := Lib.hid (((RdP.start H.out).step).below ((Below.refl _ _).alloc (Nat.le_refl _) (.cells #[.string ⟨#[]⟩, .int .i64 0] 37)))
  have B1 : Hid (Res ((w.setCell ⟨g, 1, none⟩ (.int .i64 ((p : Int) + 1))).alloc (.cells #[.string ⟨#[]⟩, .int .i64 0] 37)) w.heap.size) := by
    have := World.alloc_heap_new (w.setCell ⟨g, 1, none⟩ (.int .i64 ((p : Int) + 1))) (.cells #[.string ⟨#[]⟩, .int .i64 0] 37)
    rw [show (w.setCell ⟨g, 1, none⟩ (.int .i64 ((p : Int) + 1))).heap.size = w.heap.size by simp [World.setCell]] at this
    exact Lib.hid this
  have Q1 := Lib.hid (quoS_1 (s := s) (p := p))
  have Q2 := Lib.hid (quoS_2 (s := s) (p := p))
  have Q3 := Lib.hid (quoS_3 (s := s) (p := p))
  generalize hF : quoF s s.size (p + 1) = F at *
  have HF := Lib.hid hF
  have hgo := (quoF_go (s := s) s.size (p + 1) (by omega))
  rw [hF] at hgo
  have GO := Lib.hid hgo
  clear hF hgo
  go_enter Tryd.func47, Tryd.ntmps47
  go_wp2_with fail
  generalize (w.setCell ⟨g, 1, none⟩ (.int .i64 ((p : Int) + 1))).alloc (.cells #[.string ⟨#[]⟩, .int .i64 0] 37) = w1 at *
  clear z c0 c1 f1 P B'
  go_loopw [3] (fun v wr => ∃ f q : Nat, v = .bool false ∧ p < q ∧ q ≤ s.size ∧ s.size ≤ q + f ∧ Hid (quoF s f q = F) ∧ Hid (RdP g s (q : Nat) w wr) ∧ Hid (Res wr w.heap.size)) (fun _ wr => s.size - (intOf ((wr.cell? ⟨g, 1, none⟩).getD undef)).toNat)
  case atStart => exact ⟨s.size, p + 1, rfl, by omega, by omega, by omega, HF, P1, B1⟩
  case round =>
    obtain ⟨f, q, rfl, hq1, hq2, hf, HS, PR, BR⟩ := hrel
    by_cases he : ch s q = 34
    · have hql := ch_in (s := s) (p := q) (by omega)
      obtain ⟨f', rfl⟩ : ∃ f', f = f' + 1 := ⟨f - 1, by omega⟩
      rw [quoF_1 he] at HS
      have hqd : (((34 : Nat) : Int) != 34) = false := rfl
      have C1' := Lib.hid (fun w => C1.out w q)
      have C1'' : Hid (∀ w, Rdr w g s (q : Nat) → q ≤ s.size → s.size ≤ 65536 → Calls Tryd.prog 33 #[.pointer (some ⟨g, 0, none⟩)] w fun e w' => e = .returned (.int .u8 34) ∧ Below w.heap.size w w') := Lib.hid fun w a b c => by have := C1'.out w a b c; rw [he] at this; exact this
      clear he C1 C1'
      go_wp2_with fail
      refine (C1''.out _ PR.out.2 hq2 hs).mono ?_
      rintro e w2 ⟨rfl, hb2⟩
      have P2 := Lib.hid (PR.out.below hb2)
      have B2 := Lib.hid (BR.out.below hb2)
      clear hb2 C1''
      obtain ⟨z, c0, c1, f1⟩ := P2.out.2.facts
      have S0 : SQ w2 g s q w2 := ⟨Below.refl _ _, c0, c1⟩
      have CU : Hid (∀ W, ∃ n a : Nat, Calls Tryd.prog 68 #[.string (s.extract p (q + 1))] W fun e w' => e = .returned (.tuple #[.string (quoV s p q), .agg #[.int .i64 (n : Int), .int .i64 (a : Int)]]) ∧ Below W.heap.size W w') :=
        Lib.hid fun W => ⟨(unq (s.extract p (q + 1)).data.toList).2.1, (unq (s.extract p (q + 1)).data.toList).2.2, unquote_any _ W⟩
      have HQ := HS.out
      have Q2' := Lib.hid (Q2.out q (HS.out))
      have Q3' := Lib.hid (Q3.out q (HS.out))
      clear HQ Q1 Q2 Q3 GO HF c0 c1 HS
      have W1 : IntKind.i64.wrap ((q : Int) + 1) = (q : Int) + 1 := by simp [IntKind.wrap, IntKind.bits, IntKind.signed]; omega
      have W2 : ((q : Int) + 1).toNat = q + 1 := by omega
      have W3 : (0 : Int) ≤ (q : Int) + 1 := by omega
      have W4 : (0 : Int) ≤ (p : Int) := by omega
      have W5 : (p : Int) ≤ (q : Int) + 1 := by omega
      have W6 : (q : Int) + 1 ≤ (s.size : Int) := by omega
      generalize hV : quoV s p q = V at *
      have HV := Lib.hid hV
      clear hV
      go_wp2_with fail
      go_region_held3 (fun w' => SQ w2 g s q w') (first | assumption | exact keepQ (by assumption) ((Below.refl _ _).drew) | exact keepQ (by assumption) (by assumption) | exact keepQ (by assumption) ((Below.refl _ _).alloc (Nat.le_refl _) _) | exact keepQ S0 (dr_alloc (by assumption)) | exact setQ z (setQ z (by assumption) (Nat.le_refl _)) (Nat.le_refl _)) (first | (go_at_call 68; obtain ⟨n, a, hu⟩ := CU.out _; refine hu.mono ?_; rintro e w3 ⟨rfl, hb3⟩; clear hu; try (have hy := own_facts (k := w2.heap.size) hb3 (World.alloc_heap_new w2 _); obtain ⟨y0, y1, y2, y3, y4⟩ := hy)))
      --TAIL
      · rename_i hHeld
        have P5 := Lib.hid (P2.out.below (belowQ hHeld))
        have B5 := Lib.hid (B2.out.below (belowQ hHeld))
        clear hHeld
        generalize w3.alloc (.cells #[.int .i64 (n : Int), .int .i64 (a : Int)] 28) = Wf at *
        clear P1 B1 PR BR P2 B2 CU
        by_cases hz : V.size = 0
        · obtain ⟨e1, e2⟩ := empty_facts V hz
          have HQ := Lib.hid (Q2'.out (.inl hz))
          obtain ⟨z5, b0, b1, bf0, bf1⟩ := B5.out.facts
          have P6 := Lib.hid ((P5.out.new ⟨w.heap.size, 0, none⟩ (.string ⟨#[]⟩) (Nat.le_refl _) hg).new ⟨w.heap.size, 1, none⟩ (.int .i64 0) (Nat.le_refl _) hg)
          clear hz
          go_wp2_with fail
          refine bodyPost_ret (v := .tuple #[sv ⟨#[]⟩ 0, .bool false]) (by simp [results, Tryd.results47, go_sem, z5, b0, b1]) rfl ⟨by rw [HQ.out], by rw [HQ.out]; exact P6.out⟩
        · obtain ⟨e1, e2⟩ := str_ne V hz
          cases hid : identB V with
          | true =>
            have HQ := Lib.hid (Q2'.out (.inr hid))
            have CI := Lib.hid (ident_at V true hid)
            obtain ⟨z5, b0, b1, bf0, bf1⟩ := B5.out.facts
            have P6 := Lib.hid ((P5.out.new ⟨w.heap.size, 0, none⟩ (.string ⟨#[]⟩) (Nat.le_refl _) hg).new ⟨w.heap.size, 1, none⟩ (.int .i64 0) (Nat.le_refl _) hg)
            clear hz hid
            go_wp2_with fail
            refine (CI.out _).mono ?_
            rintro e wx ⟨rfl, rfl⟩
            go_wp2_with fail
            refine bodyPost_ret (v := .tuple #[sv ⟨#[]⟩ 0, .bool false]) (by simp [results, Tryd.results47, go_sem, z5, b0, b1]) rfl ⟨by rw [HQ.out], by rw [HQ.out]; exact P6.out⟩
          | false =>
            have HQ := Lib.hid (Q3'.out (by rw [hid]; simpa using hz))
            have CI := Lib.hid (ident_at V false hid)
            obtain ⟨z5, b0, b1, bf0, bf1⟩ := B5.out.facts
            obtain ⟨z6, c0, c1, f1'⟩ := P5.out.2.facts
            have P6 := Lib.hid (((P5.out.step' (q := q + 1) (v := (q : Int) + 1) (by omega)).new ⟨w.heap.size, 0, none⟩ (.string V) (Nat.le_refl _) hg).new ⟨w.heap.size, 1, none⟩ (.int .i64 0) (Nat.le_refl _) hg)
            clear hz hid
            go_wp2_with fail
            refine (CI.out _).mono ?_
            rintro e wx ⟨rfl, rfl⟩
            go_wp2_with fail
            refine bodyPost_ret (v := .tuple #[sv V 0, .bool true]) (by simp [results, Tryd.results47, go_sem, z5, b0, b1]) rfl ⟨by rw [HQ.out], by rw [HQ.out]; exact P6.out⟩
      · rename_i hHeld
        have P5 := Lib.hid (P2.out.below (belowQ hHeld))
        have B5 := Lib.hid (B2.out.below (belowQ hHeld))
        clear hHeld
        generalize (w3.setCell ⟨w2.heap.size, 0, none⟩ (.int .i64 (n : Int))).setCell ⟨w2.heap.size, 1, none⟩ (.int .i64 (a : Int)) = Wf at *
        clear P1 B1 PR BR P2 B2 CU
        by_cases hz : V.size = 0
        · obtain ⟨e1, e2⟩ := empty_facts V hz
          have HQ := Lib.hid (Q2'.out (.inl hz))
          obtain ⟨z5, b0, b1, bf0, bf1⟩ := B5.out.facts
          have P6 := Lib.hid ((P5.out.new ⟨w.heap.size, 0, none⟩ (.string ⟨#[]⟩) (Nat.le_refl _) hg).new ⟨w.heap.size, 1, none⟩ (.int .i64 0) (Nat.le_refl _) hg)
          clear hz
          go_wp2_with fail
          refine bodyPost_ret (v := .tuple #[sv ⟨#[]⟩ 0, .bool false]) (by simp [results, Tryd.results47, go_sem, z5, b0, b1]) rfl ⟨by rw [HQ.out], by rw [HQ.out]; exact P6.out⟩
        · obtain ⟨e1, e2⟩ := str_ne V hz
          cases hid : identB V with
          | true =>
            have HQ := Lib.hid (Q2'.out (.inr hid))
            have CI := Lib.hid (ident_at V true hid)
            obtain ⟨z5, b0, b1, bf0, bf1⟩ := B5.out.facts
            have P6 := Lib.hid ((P5.out.new ⟨w.heap.size, 0, none⟩ (.string ⟨#[]⟩) (Nat.le_refl _) hg).new ⟨w.heap.size, 1, none⟩ (.int .i64 0) (Nat.le_refl _) hg)
            clear hz hid
            go_wp2_with fail
            refine (CI.out _).mono ?_
            rintro e wx ⟨rfl, rfl⟩
            go_wp2_with fail
            refine bodyPost_ret (v := .tuple #[sv ⟨#[]⟩ 0, .bool false]) (by simp [results, Tryd.results47, go_sem, z5, b0, b1]) rfl ⟨by rw [HQ.out], by rw [HQ.out]; exact P6.out⟩
          | false =>
            have HQ := Lib.hid (Q3'.out (by rw [hid]; simpa using hz))
            have CI := Lib.hid (ident_at V false hid)
            obtain ⟨z5, b0, b1, bf0, bf1⟩ := B5.out.facts
            obtain ⟨z6, c0, c1, f1'⟩ := P5.out.2.facts
            have P6 := Lib.hid (((P5.out.step' (q := q + 1) (v := (q : Int) + 1) (by omega)).new ⟨w.heap.size, 0, none⟩ (.string V) (Nat.le_refl _) hg).new ⟨w.heap.size, 1, none⟩ (.int .i64 0) (Nat.le_refl _) hg)
            clear hz hid
            go_wp2_with fail
            refine (CI.out _).mono ?_
            rintro e wx ⟨rfl, rfl⟩
            go_wp2_with fail
            refine bodyPost_ret (v := .tuple #[sv V 0, .bool true]) (by simp [results, Tryd.results47, go_sem, z5, b0, b1]) rfl ⟨by rw [HQ.out], by rw [HQ.out]; exact P6.out⟩
    · have hd : (((ch s q : Nat) : Int) != 34) = true := by simp; omega
      have hcg := chrS_go hq2
      have D1 := Lib.hid (fun w h => C1.out w q h hq2 hs)
      have D2 := Lib.hid (fun w h => C2.out w q h hq2 hs)
      have HT : Hid ((chrS s q).1 = true → quoF s (f - 1) (chrS s q).2 = F ∧ q < s.size) := Lib.hid fun ht => by
        have hlt : q < s.size := by
          have := hcg.2.2 ht
          omega
        obtain ⟨f', rfl⟩ : ∃ f', f = f' + 1 := ⟨f - 1, by omega⟩
        have := HS.out
        rw [quoF_2 he ht] at this
        exact ⟨this, hlt⟩
      have HN : Hid ((chrS s q).1 = false → (false, (chrS s q).2) = F) := Lib.hid fun ht => by
        have := HS.out
        rcases Nat.eq_zero_or_pos f with h0 | h0
        · subst h0
          have hqe : q = s.size := by omega
          rw [← this, chrS_1 (.inl (by rw [ch_end s q (by omega)]; omega))]
          rfl
        · obtain ⟨f', rfl⟩ : ∃ f', f = f' + 1 := ⟨f - 1, by omega⟩
          rw [quoF_3 he ht] at this
          exact this
      generalize chrS s q = R at *
      obtain ⟨r, q'⟩ := R
      obtain ⟨z0, k0, k1, kf⟩ := PR.out.2.facts
      clear he C1 C2 HS
      go_wp2_with fail
      refine (D1.out _ PR.out.2).mono ?_
      rintro e w2 ⟨rfl, hb2⟩
      have P2 := Lib.hid (PR.out.below hb2)
      have B2 := Lib.hid (BR.out.below hb2)
      clear hb2
      go_wp2_with fail
      refine (D2.out _ P2.out.2).mono ?_
      rintro e w3 ⟨rfl, h3⟩
      have P3 := Lib.hid (P2.out.trans h3)
      have B3 := Lib.hid (B2.out.keep h3.1 (by omega))
      clear h3
      cases r with
      | true =>
        obtain ⟨ht1, ht2⟩ := HT.out rfl
        have HS2 := Lib.hid ht1
        obtain ⟨z5, b0, b1, bf1⟩ := P3.out.2.facts
        have hcg' : q < q' ∧ q' ≤ s.size := ⟨hcg.2.2 rfl, hcg.2.1⟩
        clear ht1 HT HN hcg
        go_wp2_with fail
        go_roundw
        case rel => exact ⟨f - 1, q', rfl, by omega, by omega, by omega, HS2, P3, B3⟩
        case measure => simp [intOf, b1, k1]; omega
      | false =>
        have HQ := Lib.hid (Q1.out q' (HN.out rfl))
        obtain ⟨z5, b0, b1, bf0, bf1⟩ := B3.out.facts
        have P6 := Lib.hid ((P3.out.new ⟨w.heap.size, 0, none⟩ (.string ⟨#[]⟩) (Nat.le_refl _) hg).new ⟨w.heap.size, 1, none⟩ (.int .i64 0) (Nat.le_refl _) hg)
        clear HT HN hcg
        go_wp2_with fail
        refine bodyPost_ret (v := .tuple #[sv ⟨#[]⟩ 0, .bool false]) (by simp [results, Tryd.results47, go_sem, z5, b0, b1]) rfl ⟨by rw [HQ.out], by rw [HQ.out]; exact P6.out⟩
end Go.Proofs.YtaocgibfabofhaaDoor
