/-
  The words of a line. Condition: internal/bytealg.MaxLen holds some number.
-/
import Derived.Test.YtaeideimlagheaaGreatDoorR2
import Derived.Test.YtaeideimlagheaaGreatDoorVC
import Derived.Test.YtaeideimlagheaaGreatDoorC2
namespace Go.Proofs.YtaeideimlagheaaGreatDoor
open Go.RowKit Go.Sort
set_option linter.unusedSimpArgs false
set_option linter.unnecessarySimpa false
set_option linter.unusedVariables false
theorem splitL_count (c : UInt8) : ∀ l : List UInt8, (splitL c l).length ≤ l.length + 1
  | [] => by simp [splitL]
  | b :: l => by
    have ih := splitL_count c l
    by_cases hb : b = c
    · rw [splitL_eq hb]; simp; omega
    · rw [splitL_no hb]
      cases hs : splitL c l with
      | nil => simp [glue]
      | cons u v => rw [hs] at ih; simp [glue] at ih ⊢; omega
theorem cut_len (s p : List UInt8) : (Lib.cut s p).1.length ≤ s.length := by
  unfold Lib.cut
  split <;> simp
  omega
theorem words_len {s : List UInt8} {x : List UInt8} (h : x ∈ wordsC s) : x.length ≤ s.length := by
  unfold wordsC wordsL bareL at h
  have := splitL_len 32 _ x (List.mem_filter.1 h).1
  have := cut_len s [47, 47]
  omega
theorem words_count (s : List UInt8) : (wordsC s).length ≤ s.length + 1 := by
  unfold wordsC wordsL bareL
  have h1 := List.length_filter_le (fun x : List UInt8 => !x.isEmpty) (splitL 32 (Lib.cut s [47, 47]).1)
  have h2 := splitL_count 32 (Lib.cut s [47, 47]).1
  have := cut_len s [47, 47]
  omega
theorem closure70 (x : Nat) (W : World) : Calls Tryz.prog 70 #[.int .i32 (x : Int)] W fun e w' => e = .returned (.bool (blank x)) ∧ ∃ q, w' = W.drewN q := by
  have h : blank x = ((x : Int) == 32) := by
    unfold blank; rw [Bool.eq_iff_iff, beq_iff_eq, beq_iff_eq]; omega
  rw [h]
  clear h
  cases h1 : ((x : Int) == 32) <;> (
    go_enter Tryz.func70, Tryz.ntmps70
    go_wp2_with fail
    go_ret
    exact ⟨ret_bool (by first | exact h1.symm | exact h1 | rw [h1] | rfl), 0, rfl⟩)
def WordsIs (s : ByteArray) (w : World) (e : Ending) (w' : World) : Prop :=
  ∃ L : List ByteArray, L.map (·.data.toList) = wordsC s.data.toList ∧ GivesS L w e w'
theorem eg70 : ∀ args w, (callFunc 70 args).run Tryz.prog w = .ok (.enter 70 args) w := enters_of Tryz.func70 (by kernel_rfl) rfl
theorem fields_at (s : ByteArray) (hs : s.size ≤ 100000) (w : World) : Calls Tryz.prog 69 #[.string s, .func (.func 70) #[] #[]] w (GivesS (Lib.goFieldsP blank s) w) := by
  refine (Any.strings_FieldsFunc Tryz.lays229 70 #[] eg70 blank s w (by omega) (fun W x hb => closure70 x W) (by kernel_rfl) (by kernel_rfl)).mono ?_
  rintro e w' ⟨A, rfl, hA, hown, hb⟩
  obtain ⟨A', c', he, h1, h2, h3⟩ := rs_of_own hown
  exact ⟨A', c', congrArg _ he, h1, ⟨h2, h3⟩, hb⟩
set_option maxRecDepth 100000 in
theorem words_any (s : ByteArray) (hs : s.size ≤ 100000) (w : World) (hM : Mx w) : Calls Tryz.prog 49 #[.string s] w (WordsIs s w) := by
  obtain ⟨_, m, hm⟩ := hM
  obtain ⟨B, hB⟩ : ∃ B : ByteArray, B = ⟨(Lib.cut s.data.toList [47, 47]).1.toArray⟩ := ⟨_, rfl⟩
  have K1 : Hid (Calls Tryz.prog 68 #[.string s, .string ⟨#[47, 47]⟩] w fun e w' => (∃ r f, e = .returned (.tuple #[.string B, .string r, .bool f])) ∧ ∃ n, w' = w.drewN n) :=
    Lib.hid ((Tryz.strings_Cut s ⟨#[47, 47]⟩ m w (by omega) hm).mono fun e w' ⟨he, hw⟩ => ⟨⟨⟨(Lib.cut s.data.toList [47, 47]).2.1.toArray⟩, (Lib.cut s.data.toList [47, 47]).2.2, by rw [he, hB]⟩, hw⟩)
  have hBs : B.size ≤ 100000 := by
    have := cut_len s.data.toList [47, 47]
    rw [hB]
    show (Lib.cut s.data.toList [47, 47]).1.toArray.size ≤ 100000
    rw [List.size_toArray]
    simp at this
    omega
  have hBd : B.data.toList = bareL s.data.toList := by rw [hB]; rfl
  have HP : Hid (∀ e w1 w', Below w.heap.size w w1 → GivesS (Lib.goFieldsP blank B) w1 e w' → WordsIs s w e w') := Lib.hid (fun e w1 w' hb ⟨A, c, he, h1, ⟨h2, h3⟩, h4⟩ =>
    ⟨Lib.goFieldsP blank B, by rw [fields_words, hBd]; rfl, A, c, he, h1, ⟨h2, h3.le hb.size⟩, hb.trans (h4.mono hb.size)⟩)
  have K2 := Lib.hid (fun w => fields_at B hBs w)
  clear hB hBs hBd hm
  go_enter Tryz.func49, Tryz.ntmps49
  go_wp2_with fail
  refine K1.out.mono ?_
  rintro e w1 ⟨⟨r, f, rfl⟩, n, rfl⟩
  have HB := Lib.hid (show Below w.heap.size w (w.drewN n) from ((Gr.refl w).drewN n).below)
  go_wp2_with fail
  refine (K2.out _).mono ?_
  rintro e w2 hG
  obtain ⟨A, c, rfl, hG⟩ := hG
  have HE := Lib.hid (HP.out _ _ _ HB.out ⟨A, c, rfl, hG⟩)
  clear hG HP K1 K2
  generalize (Lib.goFieldsP blank B).length = q at *
  go_wp2_with fail
  go_ret
  exact HE.out
end Go.Proofs.YtaeideimlagheaaGreatDoor
namespace Go.Proofs.YtaeideimlagheaaGreatDoor
open Go.RowKit Go.Sort
set_option linter.unusedSimpArgs false
set_option linter.unnecessarySimpa false
set_option linter.unusedVariables false
/-- what the program's conditions ask of the world -/
structure Cond (w : World) : Prop where
  tab : P10 w
  max : Mx w
  err : Er w
theorem Cond.keep {w w' : World} (h : Cond w) (hb : Below w.heap.size w w') : Cond w' := ⟨P10.keep h.tab hb, h.max.keep hb h.max.1, h.err.keep hb h.err.1⟩
def rdS (kw : ByteArray) (L : List ByteArray) : Option Md := readL verV kw.data.toList (L.map (·.data.toList))
def ReadIs (o : Option Md) (w : World) (e : Ending) (w' : World) : Prop :=
  (∃ m, e = .returned (.tuple #[md m, .bool o.isSome]) ∧ ∀ x, o = some x → m = x) ∧ Below w.heap.size w w'
theorem rdS_len {kw : ByteArray} {L : List ByteArray} (h : L.length ≠ 3) : rdS kw L = none := by
  unfold rdS readL
  match L, h with
  | [], _ => rfl
  | [_], _ => rfl
  | [_, _], _ => rfl
  | [_, _, _], h => exact absurd rfl h
  | _ :: _ :: _ :: _ :: _, _ => rfl
theorem rdS_kw {kw k p v : ByteArray} (h : k ≠ kw) : rdS kw [k, p, v] = none := by
  have : ¬ (k.data.toList = kw.data.toList ∧ pathB p.data.toList = true) := fun ⟨e, _⟩ => h (ByteArray.ext (Array.ext' e))
  show (if k.data.toList = kw.data.toList ∧ pathB p.data.toList = true then _ else _) = _
  rw [if_neg this]
theorem rdS_path {kw k p v : ByteArray} (h : pathB p.data.toList = false) : rdS kw [k, p, v] = none := by
  have : ¬ (k.data.toList = kw.data.toList ∧ pathB p.data.toList = true) := fun ⟨_, e⟩ => by rw [h] at e; cases e
  show (if k.data.toList = kw.data.toList ∧ pathB p.data.toList = true then _ else _) = _
  rw [if_neg this]
theorem rdS_ver {kw p v : ByteArray} (h : pathB p.data.toList = true) : rdS kw [kw, p, v] = (verV v.data.toList).map fun x => (p, x) := by
  show (if kw.data.toList = kw.data.toList ∧ pathB p.data.toList = true then _ else _) = _
  rw [if_pos ⟨rfl, h⟩]
  rfl
theorem path_at (s : ByteArray) (v : Bool) (h : pathB s.data.toList = v) (w : World) (hM : Mx w) : Calls Tryz.prog 16 #[.string s] w fun e w' => e = .returned (.bool v) ∧ Below w.heap.size w w' := by
  subst h; exact path_any s w hM
theorem neL {a b : ByteArray} (h : a ≠ b) : (a.toList == b.toList) = false := by
  rw [beq_eq_false_iff_ne, Go.ByteArray.toList_eq, Go.ByteArray.toList_eq]
  exact fun e => h (ByteArray.ext (Array.ext' e))
structure Bx (w : World) (g : Nat) (m : Md) : Prop where
  lt : g < w.heap.size
  c0 : w.cell? ⟨g, 0, none⟩ = some (.string m.1)
  c1 : w.cell? ⟨g, 1, none⟩ = some (.int .i64 m.2.1)
  c2 : w.cell? ⟨g, 2, none⟩ = some (.int .i64 m.2.2.1)
  c3 : w.cell? ⟨g, 3, none⟩ = some (.int .i64 m.2.2.2)
  f0 : w.frozen? ⟨g, 0, none⟩ = false
  f1 : w.frozen? ⟨g, 1, none⟩ = false
  f2 : w.frozen? ⟨g, 2, none⟩ = false
  f3 : w.frozen? ⟨g, 3, none⟩ = false
theorem Bx.keep {w w' : World} {g : Nat} {m : Md} (h : Bx w g m) (hb : Below w.heap.size w w') : Bx w' g m :=
  ⟨Nat.lt_of_lt_of_le h.lt hb.size, cell_keep h.c0 hb, cell_keep h.c1 hb, cell_keep h.c2 hb, cell_keep h.c3 hb,
   by rw [hb.frozen (p := ⟨g, 0, none⟩) h.lt]; exact h.f0, by rw [hb.frozen (p := ⟨g, 1, none⟩) h.lt]; exact h.f1, by rw [hb.frozen (p := ⟨g, 2, none⟩) h.lt]; exact h.f2, by rw [hb.frozen (p := ⟨g, 3, none⟩) h.lt]; exact h.f3⟩
abbrev zeroMd : Md := (⟨#[]⟩, 0, 0, 0)
theorem Bx.new (w : World) (T : TypeId) (m : Md) (g : Nat) (hg : g = w.heap.size) : Bx (w.alloc (.cells #[.string m.1, .int .i64 m.2.1, .int .i64 m.2.2.1, .int .i64 m.2.2.2] T)) g m := by
  subst hg
  exact ⟨by simp, by simp, by simp, by simp, by simp, by simp, by simp, by simp, by simp⟩
set_option maxRecDepth 100000 in
set_option maxHeartbeats 4000000 in
theorem read3_any (kw : ByteArray) (A : Option Addr) (c : Nat) (k p v : ByteArray) (w : World) (hC : Cond w) (hR : RS w w.heap.size A [k, p, v]) (hv : v.size ≤ 100000) :
    Calls Tryz.prog 50 #[.string kw, .slice A 3 c] w (ReadIs (rdS kw [k, p, v]) w) := by
  obtain ⟨b, o, rfl, hbl, c0⟩ := hR.at_ 0 (by simp)
  obtain ⟨b', o', e, _, c1⟩ := hR.at_ 1 (by simp)
  simp only [Option.some.injEq, Addr.mk.injEq] at e
  obtain ⟨rfl, rfl, _⟩ := e
  obtain ⟨b', o', e, _, c2⟩ := hR.at_ 2 (by simp)
  simp only [Option.some.injEq, Addr.mk.injEq] at e
  obtain ⟨rfl, rfl, _⟩ := e
  simp only [List.getElem_cons_zero, List.getElem_cons_succ, Nat.add_zero] at c0 c1 c2
  have hb0 := bal w (.cells #[.string ⟨#[]⟩, .int .i64 0, .int .i64 0, .int .i64 0] 25)
  have d0 := cell_keep c0 hb0
  have d1 := cell_keep c1 hb0
  have d2 := cell_keep c2 hb0
  have hBx := Bx.new w 25 zeroMd w.heap.size rfl
  have HC0 := Lib.hid (hC.keep hb0)
  have HB0 := Lib.hid hb0
  clear hR hC hb0 c0 c1 c2
  by_cases hk : k = kw
  · subst hk
    cases hp : pathB p.data.toList with
    | false =>
      have HR := Lib.hid (rdS_path (kw := k) (k := k) (v := v) hp)
      rw [HR.out]
      have K := Lib.hid (path_at p _ hp _ HC0.out.max)
      have HX := Lib.hid hBx
      clear hp hBx
      go_enter Tryz.func50, Tryz.ntmps50
      go_wp2_with fail
      refine K.out.mono ?_
      rintro e w1 ⟨rfl, hb1⟩
      obtain ⟨z1, x0, x1, x2, x3, f0, f1, f2, f3⟩ := HX.out.keep hb1
      have HB1 := Lib.hid (HB0.out.trans (hb1.mono HB0.out.size))
      clear hb1 d0 d1 d2 K HX
      go_wp2_with fail
      refine bodyPost_ret (v := .tuple #[md zeroMd, .bool false]) (by simp [results, Tryz.results50, go_sem, x0, x1, x2, x3, z1]) rfl ⟨⟨zeroMd, rfl, fun x h => by cases h⟩, ?_⟩
      exact ((((HB1.out.setCell (by simp) _).setCell (by simp) _).setCell (by simp) _).setCell (by simp) _)
    | true =>
      have HR := Lib.hid (rdS_ver (kw := k) (v := v) hp)
      have K := Lib.hid (path_at p _ hp _ HC0.out.max)
      have HX := Lib.hid hBx
      have HV := Lib.hid (fun w (hC : Cond w) => vparse_any v hv w hC.tab hC.max hC.err)
      obtain ⟨O, hO⟩ : ∃ O, O = rdS k [k, p, v] := ⟨_, rfl⟩
      rw [← hO] at HR ⊢
      clear hp hBx hO hv
      cases hvv : verV v.data.toList with
      | none =>
        have HO := Lib.hid (show O = none by rw [HR.out, hvv]; rfl)
        rw [hvv] at HV
        unfold verR at HV
        simp only at HV
        clear hvv HR
        go_enter Tryz.func50, Tryz.ntmps50
        go_wp2_with fail
        refine K.out.mono ?_
        rintro e w1 ⟨rfl, hb1⟩
        have HX1 := Lib.hid (HX.out.keep hb1)
        have HC1 := Lib.hid (HC0.out.keep hb1)
        have HB1 := Lib.hid (HB0.out.trans (hb1.mono HB0.out.size))
        have e1 := cell_keep d1 hb1
        have e2 := cell_keep d2 hb1
        clear hb1 d0 d1 d2 K HX HC0 HB0
        go_wp2_with fail
        refine (HV.out _ HC1.out).mono ?_
        rintro e w2 ⟨rfl, hb2⟩
        have hb2' := hb2.trans ((bal w2 (.cells #[.int .i64 0, .int .i64 0, .int .i64 0] 23)).mono hb2.size)
        obtain ⟨z1, x0, x1, x2, x3, f0, f1, f2, f3⟩ := HX1.out.keep hb2'
        have HB2 := Lib.hid (HB1.out.trans (hb2'.mono HB1.out.size))
        have g1 := cell_keep e1 hb2'
        have v0 : (w2.alloc (.cells #[.int .i64 0, .int .i64 0, .int .i64 0] 23)).cell? ⟨w2.heap.size, 0, none⟩ = some (.int .i64 0) := by simp
        have v1 : (w2.alloc (.cells #[.int .i64 0, .int .i64 0, .int .i64 0] 23)).cell? ⟨w2.heap.size, 1, none⟩ = some (.int .i64 0) := by simp
        have v2 : (w2.alloc (.cells #[.int .i64 0, .int .i64 0, .int .i64 0] 23)).cell? ⟨w2.heap.size, 2, none⟩ = some (.int .i64 0) := by simp
        clear hb2 hb2' e1 e2 HX1 HC1 HB1 HV
        go_wp2_with fail
        generalize w2.alloc (.cells #[.int .i64 0, .int .i64 0, .int .i64 0] 23) = w3 at *
        go_region
        go_wp2_with fail
        refine bodyPost_ret (v := .tuple #[md (p, 0, 0, 0), .bool false]) (by simp [results, Tryz.results50, go_sem, x0, x1, x2, x3, z1]) rfl ⟨⟨(p, 0, 0, 0), by rw [HO.out]; rfl, fun x h => by rw [HO.out] at h; cases h⟩, ?_⟩
        exact ((((HB2.out.setCell (p := ⟨w.heap.size, 0, none⟩) (Nat.le_refl _) _).setCell (p := ⟨w.heap.size, 1, none⟩) (Nat.le_refl _) _).setCell (p := ⟨w.heap.size, 2, none⟩) (Nat.le_refl _) _).setCell (p := ⟨w.heap.size, 3, none⟩) (Nat.le_refl _) _).drew
      | some t =>
        obtain ⟨va, vb, vc⟩ := t
        have HO := Lib.hid (show O = some (p, va, vb, vc) by rw [HR.out, hvv]; rfl)
        rw [hvv] at HV
        unfold verR at HV
        simp only at HV
        clear hvv HR
        go_enter Tryz.func50, Tryz.ntmps50
        go_wp2_with fail
        refine K.out.mono ?_
        rintro e w1 ⟨rfl, hb1⟩
        have HX1 := Lib.hid (HX.out.keep hb1)
        have HC1 := Lib.hid (HC0.out.keep hb1)
        have HB1 := Lib.hid (HB0.out.trans (hb1.mono HB0.out.size))
        have e1 := cell_keep d1 hb1
        have e2 := cell_keep d2 hb1
        clear hb1 d0 d1 d2 K HX HC0 HB0
        go_wp2_with fail
        refine (HV.out _ HC1.out).mono ?_
        rintro e w2 ⟨rfl, hb2⟩
        have hb2' := hb2.trans ((bal w2 (.cells #[.int .i64 va, .int .i64 vb, .int .i64 vc] 23)).mono hb2.size)
        obtain ⟨z1, x0, x1, x2, x3, f0, f1, f2, f3⟩ := HX1.out.keep hb2'
        have HB2 := Lib.hid (HB1.out.trans (hb2'.mono HB1.out.size))
        have g1 := cell_keep e1 hb2'
        have v0 : (w2.alloc (.cells #[.int .i64 va, .int .i64 vb, .int .i64 vc] 23)).cell? ⟨w2.heap.size, 0, none⟩ = some (.int .i64 va) := by simp
        have v1 : (w2.alloc (.cells #[.int .i64 va, .int .i64 vb, .int .i64 vc] 23)).cell? ⟨w2.heap.size, 1, none⟩ = some (.int .i64 vb) := by simp
        have v2 : (w2.alloc (.cells #[.int .i64 va, .int .i64 vb, .int .i64 vc] 23)).cell? ⟨w2.heap.size, 2, none⟩ = some (.int .i64 vc) := by simp
        clear hb2 hb2' e1 e2 HX1 HC1 HB1 HV
        go_wp2_with fail
        generalize w2.alloc (.cells #[.int .i64 va, .int .i64 vb, .int .i64 vc] 23) = w3 at *
        go_region
        go_wp2_with fail
        refine bodyPost_ret (v := .tuple #[md (p, va, vb, vc), .bool true]) (by simp [results, Tryz.results50, go_sem, x0, x1, x2, x3, z1]) rfl ⟨⟨(p, va, vb, vc), by rw [HO.out]; rfl, fun x h => by rw [HO.out] at h; cases h; rfl⟩, ?_⟩
        exact ((((HB2.out.setCell (p := ⟨w.heap.size, 0, none⟩) (Nat.le_refl _) _).setCell (p := ⟨w.heap.size, 1, none⟩) (Nat.le_refl _) _).setCell (p := ⟨w.heap.size, 2, none⟩) (Nat.le_refl _) _).setCell (p := ⟨w.heap.size, 3, none⟩) (Nat.le_refl _) _).drew
  · have HR := Lib.hid (rdS_kw (p := p) (v := v) hk)
    rw [HR.out]
    have q0 := neL hk
    have q1 : ¬ k.toList = kw.toList := by simpa using q0
    have HX := Lib.hid hBx
    clear hk
    obtain ⟨z1, x0, x1, x2, x3, f0, f1, f2, f3⟩ := hBx
    go_enter Tryz.func50, Tryz.ntmps50
    go_wp2_with fail
    refine bodyPost_ret (v := .tuple #[md zeroMd, .bool false]) (by simp [results, Tryz.results50, go_sem, x0, x1, x2, x3, z1]) rfl ⟨⟨zeroMd, rfl, fun x h => by cases h⟩, ?_⟩
    first | exact HB0.out | exact ((((HB0.out.setCell (by simp) _).setCell (by simp) _).setCell (by simp) _).setCell (by simp) _)
theorem md_zero (w : World) (kw : ByteArray) (A : Option Addr) (c n : Nat) (h : n ≠ 3) :
    Calls Tryz.prog 50 #[.string kw, .slice A n c] w (ReadIs none w) := by
  have HB0 := Lib.hid (bal w (.cells #[.string ⟨#[]⟩, .int .i64 0, .int .i64 0, .int .i64 0] 25))
  obtain ⟨z1, x0, x1, x2, x3, f0, f1, f2, f3⟩ := Bx.new w 25 zeroMd w.heap.size rfl
  have q0 : ((n : Int) != 3) = true := by rw [bne_iff_ne]; omega
  have q1 : ¬ (n : Int) = 3 := by omega
  clear h
  go_enter Tryz.func50, Tryz.ntmps50
  go_wp2_with fail
  refine bodyPost_ret (v := .tuple #[md zeroMd, .bool false]) (by simp [results, Tryz.results50, go_sem, x0, x1, x2, x3, z1]) rfl ⟨⟨zeroMd, rfl, fun x h => by cases h⟩, ?_⟩
  first | exact HB0.out | exact ((((HB0.out.setCell (by simp) _).setCell (by simp) _).setCell (by simp) _).setCell (by simp) _)
theorem mread_any (kw : ByteArray) (A : Option Addr) (c : Nat) (L : List ByteArray) (w : World) (hC : Cond w) (hR : RS w w.heap.size A L) (hv : ∀ x ∈ L, x.size ≤ 100000) :
    Calls Tryz.prog 50 #[.string kw, .slice A L.length c] w (ReadIs (rdS kw L) w) := by
  by_cases h : L.length = 3
  · match L, h, hR, hv with
    | [k, p, v], _, hR, hv => exact read3_any kw A c k p v w hC hR (hv v (by simp))
  · rw [rdS_len h]; exact md_zero w kw A c _ h
end Go.Proofs.YtaeideimlagheaaGreatDoor
