/-
  What the specification's own trial needs: the mathematics of its texts, and the version by three numbers.
  The specification's own trial ('alive'). Conditions: the table of powers of ten, internal/bytealg.MaxLen holds some number, the two error variables of strconv hold interface values.
-/
import Derived.Test.YtaeideimlagheaaGreatDoorW6
import Derived.Test.YtaeideimlagheaaGreatDoorOA
import Derived.Test.YtaeideimlagheaaGreatDoorO3
namespace Go.Proofs.YtaeideimlagheaaGreatDoor
open Go.RowKit Go.Sort Go.Lib Go.Shelf Go.Proofs
set_option linter.unusedSimpArgs false
set_option linter.unnecessarySimpa false
set_option linter.unusedVariables false
theorem lversion_any (a b c : Int) (w : World) : Calls Tryz.prog 29 #[.int .i64 a, .int .i64 b, .int .i64 c] w fun e w' => e = .returned (vv a b c) ∧ Below w.heap.size w w' := by
  go_enter Tryz.func29, Tryz.ntmps29
  go_wp2_with fail
  refine bodyPost_ret (v := vv a b c) (by simp [results, Tryz.results29, go_sem]) rfl ⟨rfl, ?_⟩
  exact (Below.refl _ _).alloc (Nat.le_refl _) _
abbrev sA : ByteArray := ⟨#[109, 111, 100, 117, 108, 101, 32, 109, 32, 118, 49, 46, 48, 46, 48, 32, 47, 47, 32, 109, 97, 105, 110, 10, 114, 101, 113, 117, 105, 114, 101, 32, 97, 46, 98, 47, 99, 32, 118, 48, 46, 50, 46, 49]⟩
abbrev sB : ByteArray := ⟨#[109, 111, 100, 117, 108, 101, 32, 109, 32, 118, 49]⟩
abbrev sC : ByteArray := ⟨#[10]⟩
abbrev sT : ByteArray := ⟨#[109, 111, 100, 117, 108, 101, 32, 109, 32, 118, 49, 46, 48, 46, 48, 10, 114, 101, 113, 117, 105, 114, 101, 32, 97, 46, 98, 47, 99, 32, 118, 48, 46, 50, 46, 49, 10]⟩
abbrev mM : Md := (⟨#[109]⟩, 1, 0, 0)
abbrev mR : Md := (⟨#[97, 46, 98, 47, 99]⟩, 0, 2, 1)
theorem parse_sA : parseL verV sA.data.toList = .inr (mM, [mR]) := by kernel_rfl
theorem parse_sB : parseL verV sB.data.toList = .inl (8, 1) := by kernel_rfl
theorem parse_sC : parseL verV sC.data.toList = .inl (8, 2) := by kernel_rfl
theorem text_sA : textB mM [mR] = sT := by kernel_rfl
theorem chk_sA : chkM mM [mR] = 0 := by kernel_rfl
theorem path_1 : pathB [97, 46, 98, 47, 99] = true := by kernel_rfl
theorem path_2 : pathB [97, 47, 47, 98] = false := by kernel_rfl
theorem path_3 : pathB [97, 47, 49] = false := by kernel_rfl
abbrev oA : Md := (⟨#[97, 46, 98]⟩, 0, 0, 0)
abbrev oB : Md := (⟨#[97, 46, 98, 47, 99]⟩, 0, 0, 0)
theorem own_o : ownL [97, 46, 98, 47, 99, 47, 100] (pathsL [oA, oB]) 0 none = some (1, 5, [100]) := by kernel_rfl
end Go.Proofs.YtaeideimlagheaaGreatDoor
namespace Go.Proofs.YtaeideimlagheaaGreatDoor
open Go.RowKit Go.Sort Go.Lib Go.Shelf Go.Proofs
set_option linter.unusedSimpArgs false
set_option linter.unnecessarySimpa false
set_option linter.unusedVariables false
/-- a manifest in its box -/
structure B5 (w : World) (p : Nat) (x : Md) (A : Option Addr) (n c : Nat) : Prop where
  c0 : w.cell? ⟨p, 0, none⟩ = some (.string x.1)
  c1 : w.cell? ⟨p, 1, none⟩ = some (.int .i64 x.2.1)
  c2 : w.cell? ⟨p, 2, none⟩ = some (.int .i64 x.2.2.1)
  c3 : w.cell? ⟨p, 3, none⟩ = some (.int .i64 x.2.2.2)
  c4 : w.cell? ⟨p, 4, none⟩ = some (.slice A n c)
theorem B5.keep {w w' : World} {p : Nat} {x : Md} {A : Option Addr} {n c : Nat} (h : B5 w p x A n c) (hb : Below w.heap.size w w') : B5 w' p x A n c :=
  ⟨cell_keep h.c0 hb, cell_keep h.c1 hb, cell_keep h.c2 hb, cell_keep h.c3 hb, cell_keep h.c4 hb⟩
theorem B5.new (w : World) (x : Md) (A : Option Addr) (n c : Nat) : B5 (w.alloc (mblk x A n c 28)) w.heap.size x A n c := ⟨by simp, by simp, by simp, by simp, by simp⟩
/-- a fault in its box -/
structure B2 (w : World) (p : Nat) (a b : Int) : Prop where
  c0 : w.cell? ⟨p, 0, none⟩ = some (.int .i64 a)
  c1 : w.cell? ⟨p, 1, none⟩ = some (.int .i64 b)
theorem B2.keep {w w' : World} {p : Nat} {a b : Int} (h : B2 w p a b) (hb : Below w.heap.size w w') : B2 w' p a b := ⟨cell_keep h.c0 hb, cell_keep h.c1 hb⟩
theorem B2.new (w : World) (a b : Int) : B2 (w.alloc (.cells #[.int .i64 a, .int .i64 b] 38)) w.heap.size a b := ⟨by simp, by simp⟩
theorem rm_lit1 (w : World) (x : Md) : RM (w.alloc (.cells #[.string x.1, .int .i64 x.2.1, .int .i64 x.2.2.1, .int .i64 x.2.2.2] 25)) (w.alloc (.cells #[.string x.1, .int .i64 x.2.1, .int .i64 x.2.2.1, .int .i64 x.2.2.2] 25)).heap.size (some ⟨w.heap.size, 0, none⟩) [x] := by
  obtain ⟨A, c, e, h, _⟩ := rm_of_own (l := [x]) (own_lit w w.heap.size w.heap.size x rfl (Nat.le_refl _))
  simp only [Value.slice.injEq] at e
  obtain ⟨rfl, _, rfl⟩ := e
  exact h
theorem parse_inr {s : ByteArray} {w w' : World} {e : Ending} {m : Md} {R : List Md} (hp : parseL verV s.data.toList = .inr (m, R)) (h : ParseIs s w e w') :
    ∃ A c, e = .returned (.tuple #[mf m A R.length c, .agg #[.int .i64 0, .int .i64 0]]) ∧ RM w' w'.heap.size A R ∧ Plain A c ∧ Below w.heap.size w w' := by
  unfold ParseIs at h; rw [hp] at h
  obtain ⟨⟨A, c, h1, h2, h3, _⟩, h4⟩ := h
  exact ⟨A, c, h1, h2, h3, h4⟩
theorem parse_inl {s : ByteArray} {w w' : World} {e : Ending} {n k : Int} (hp : parseL verV s.data.toList = .inl (n, k)) (h : ParseIs s w e w') :
    e = .returned (.tuple #[mf zeroMd none 0 0, .agg #[.int .i64 n, .int .i64 k]]) ∧ Below w.heap.size w w' := by
  unfold ParseIs at h; rw [hp] at h
  exact h
theorem two_new (W : World) (x : Md) (A : Option Addr) (n c : Nat) (a b : Int) : B5 ((W.alloc (mblk x A n c 28)).alloc (.cells #[.int .i64 a, .int .i64 b] 38)) W.heap.size x A n c ∧ B2 ((W.alloc (mblk x A n c 28)).alloc (.cells #[.int .i64 a, .int .i64 b] 38)) (W.heap.size + 1) a b ∧ Below W.heap.size W ((W.alloc (mblk x A n c 28)).alloc (.cells #[.int .i64 a, .int .i64 b] 38)) := by
  refine ⟨(B5.new W x A n c).keep (bal _ _), ?_, (bal _ _).alloc (by simp) _⟩
  have := B2.new (W.alloc (mblk x A n c 28)) a b
  rwa [World.size_alloc] at this
theorem rm_lit2 (w : World) (g : Nat) (hg : g = w.heap.size) (x y : Md) : RM (w.alloc (.cells #[.string x.1, .int .i64 x.2.1, .int .i64 x.2.2.1, .int .i64 x.2.2.2, .string y.1, .int .i64 y.2.1, .int .i64 y.2.2.1, .int .i64 y.2.2.2] 25)) (w.alloc (.cells #[.string x.1, .int .i64 x.2.1, .int .i64 x.2.2.1, .int .i64 x.2.2.2, .string y.1, .int .i64 y.2.1, .int .i64 y.2.2.1, .int .i64 y.2.2.2] 25)).heap.size (some ⟨g, 0, none⟩) [x, y] := by
  have ho : (w.alloc (.cells #[.string x.1, .int .i64 x.2.1, .int .i64 x.2.2.1, .int .i64 x.2.2.2, .string y.1, .int .i64 y.2.1, .int .i64 y.2.2.1, .int .i64 y.2.2.2] 25)).ownsRow g 25 4 (.slice (some ⟨g, 0, none⟩) 2 2) 2 (flatM [x, y]) :=
    ⟨rfl, .inr ⟨g, 2, _, rfl, Nat.le_refl _, by rw [hg]; exact heap_alloc_new w _, Nat.le_refl _, by unfold maxLen; omega, rfl, rfl⟩⟩
  obtain ⟨A, c, e, h, _⟩ := rm_of_own (l := [x, y]) ho
  simp only [Value.slice.injEq] at e
  obtain ⟨rfl, _, rfl⟩ := e
  exact h
set_option maxRecDepth 100000 in
set_option maxHeartbeats 4000000 in
theorem alive_any (w : World) (hC : Cond w) : Calls Tryz.prog 13 #[] w fun e w' => e = .returned (.bool true) ∧ Below w.heap.size w w' := by
  have HC := Lib.hid hC
  clear hC
  go_enter Tryz.func13, Tryz.ntmps13
  go_wp2_with fail
  refine (lversion_any _ _ _ _).mono ?_
  rintro e w1 ⟨rfl, hb1⟩
  have HB := Lib.hid hb1
  clear hb1
  go_wp2_with fail
  refine (lversion_any _ _ _ _).mono ?_
  rintro e w2 ⟨rfl, hb2⟩
  have HB2 := Lib.hid (HB.out.trans (hb2.mono HB.out.size))
  clear hb2 HB
  go_wp2_with fail
  have HR1 := Lib.hid ((rm_lit1 w2 mR).up (bal _ (mblk mM (some ⟨w2.heap.size, 0, none⟩) 1 1 28)))
  have H1 := Lib.hid (show B5 ((w2.alloc (.cells #[.string mR.1, .int .i64 mR.2.1, .int .i64 mR.2.2.1, .int .i64 mR.2.2.2] 25)).alloc (mblk mM (some ⟨w2.heap.size, 0, none⟩) 1 1 28)) (w2.heap.size + 1) mM (some ⟨w2.heap.size, 0, none⟩) 1 1 by
    have := B5.new (w2.alloc (.cells #[.string mR.1, .int .i64 mR.2.1, .int .i64 mR.2.2.1, .int .i64 mR.2.2.2] 25)) mM (some ⟨w2.heap.size, 0, none⟩) 1 1
    rwa [World.size_alloc] at this)
  have HB3 := Lib.hid ((HB2.out.alloc HB2.out.size (.cells #[.string mR.1, .int .i64 mR.2.1, .int .i64 mR.2.2.1, .int .i64 mR.2.2.2] 25)).alloc (by have := HB2.out.size; simp; omega) (mblk mM (some ⟨w2.heap.size, 0, none⟩) 1 1 28))
  clear HB2
  generalize w2.heap.size = b2 at *
  generalize ((w2.alloc (.cells #[.string mR.1, .int .i64 mR.2.1, .int .i64 mR.2.2.1, .int .i64 mR.2.2.2] 25)).alloc (mblk mM (some ⟨b2, 0, none⟩) 1 1 28)) = w3 at *
  refine (parse_any _ _ (HC.out.keep HB3.out)).mono ?_
  intro e w4 he
  obtain ⟨A, c, rfl, hre, hpl, hb4⟩ := parse_inr parse_sA he
  have HB4 := Lib.hid (HB3.out.trans (hb4.mono HB3.out.size))
  have HR1' := Lib.hid (HR1.out.up hb4)
  have H1' := Lib.hid (H1.out.keep hb4)
  have HRE := Lib.hid hre
  have HPL := Lib.hid hpl
  clear he hre hpl hb4 HB3 HR1 H1
  go_wp2_with fail
  obtain ⟨h2, h3, hn⟩ := two_new w4 mM A 1 c 0 0
  have HB5 := Lib.hid (HB4.out.trans (hn.mono HB4.out.size))
  have HR1 := Lib.hid (HR1'.out.up hn)
  have H1 := Lib.hid (H1'.out.keep hn)
  have HRE' := Lib.hid (HRE.out.up hn)
  have H2 := Lib.hid h2
  have H3 := Lib.hid h3
  clear h2 h3 hn HB4 HR1' H1' HRE
  generalize w4.heap.size = b4 at *
  generalize ((w4.alloc (mblk mM A 1 c 28)).alloc (.cells #[.int .i64 0, .int .i64 0] 38)) = w5 at *
  refine (text_any mM A c [mR] w5 (HC.out.keep HB5.out).max (HC.out.keep HB5.out).tab HRE'.out HPL.out (by decide)).mono ?_
  rintro e w6 ⟨rfl, hb6⟩
  rw [text_sA, chk_sA]
  have HB6 := Lib.hid (HB5.out.trans (hb6.mono HB5.out.size))
  have HR1' := Lib.hid (HR1.out.up hb6)
  have H1' := Lib.hid (H1.out.keep hb6)
  have HRE := Lib.hid (HRE'.out.up hb6)
  have H2' := Lib.hid (H2.out.keep hb6)
  have H3' := Lib.hid (H3.out.keep hb6)
  clear hb6 HB5 HR1 H1 HRE' H2 H3
  go_wp2_with fail
  refine (parse_any _ _ (HC.out.keep HB6.out)).mono ?_
  intro e w7 he
  obtain ⟨rfl, hb7⟩ := parse_inl parse_sB he
  have HB7 := Lib.hid (HB6.out.trans (hb7.mono HB6.out.size))
  have HR1 := Lib.hid (HR1'.out.up hb7)
  have H1 := Lib.hid (H1'.out.keep hb7)
  have HRE' := Lib.hid (HRE.out.up hb7)
  have H2 := Lib.hid (H2'.out.keep hb7)
  have H3 := Lib.hid (H3'.out.keep hb7)
  clear he hb7 HB6 HR1' H1' HRE H2' H3'
  go_wp2_with fail
  obtain ⟨_, h7, hn⟩ := two_new w7 zeroMd none 0 0 8 1
  have HB8 := Lib.hid (HB7.out.trans (hn.mono HB7.out.size))
  have HR1' := Lib.hid (HR1.out.up hn)
  have H1' := Lib.hid (H1.out.keep hn)
  have HRE := Lib.hid (HRE'.out.up hn)
  have H2' := Lib.hid (H2.out.keep hn)
  have H3' := Lib.hid (H3.out.keep hn)
  have H7 := Lib.hid h7
  clear h7 hn HB7 HR1 H1 HRE' H2 H3
  generalize w7.heap.size = b7 at *
  generalize ((w7.alloc (mblk zeroMd none 0 0 28)).alloc (.cells #[.int .i64 8, .int .i64 1] 38)) = w8 at *
  refine (parse_any _ _ (HC.out.keep HB8.out)).mono ?_
  intro e w9 he
  obtain ⟨rfl, hb9⟩ := parse_inl parse_sC he
  have HB9 := Lib.hid (HB8.out.trans (hb9.mono HB8.out.size))
  have HR1 := Lib.hid (HR1'.out.up hb9)
  have H1 := Lib.hid (H1'.out.keep hb9)
  have HRE' := Lib.hid (HRE.out.up hb9)
  have H2 := Lib.hid (H2'.out.keep hb9)
  have H3 := Lib.hid (H3'.out.keep hb9)
  have H7' := Lib.hid (H7.out.keep hb9)
  clear he hb9 HB8 HR1' H1' HRE H2' H3' H7
  go_wp2_with fail
  obtain ⟨_, h9, hn⟩ := two_new w9 zeroMd none 0 0 8 2
  have HBa := Lib.hid (HB9.out.trans (hn.mono HB9.out.size))
  have HR1' := Lib.hid (HR1.out.up hn)
  have H1' := Lib.hid (H1.out.keep hn)
  have HRE := Lib.hid (HRE'.out.up hn)
  have H2' := Lib.hid (H2.out.keep hn)
  have H3' := Lib.hid (H3.out.keep hn)
  have H7 := Lib.hid (H7'.out.keep hn)
  have H9 := Lib.hid h9
  have hsz : w9.heap.size + 1 + 1 = ((w9.alloc (mblk zeroMd none 0 0 28)).alloc (.cells #[.int .i64 8, .int .i64 2] 38)).heap.size := by simp
  clear h9 hn HB9 HR1 H1 HRE' H2 H3 H7'
  have KO := Lib.hid (rm_lit2 _ _ hsz oA oB)
  have hbl := bal ((w9.alloc (mblk zeroMd none 0 0 28)).alloc (.cells #[.int .i64 8, .int .i64 2] 38)) (.cells #[.string oA.1, .int .i64 oA.2.1, .int .i64 oA.2.2.1, .int .i64 oA.2.2.2, .string oB.1, .int .i64 oB.2.1, .int .i64 oB.2.2.1, .int .i64 oB.2.2.2] 25)
  have HBb := Lib.hid (HBa.out.trans (hbl.mono HBa.out.size))
  have HR1 := Lib.hid (HR1'.out.up hbl)
  have H1 := Lib.hid (H1'.out.keep hbl)
  have HRE' := Lib.hid (HRE.out.up hbl)
  have H2 := Lib.hid (H2'.out.keep hbl)
  have H3 := Lib.hid (H3'.out.keep hbl)
  have H7' := Lib.hid (H7.out.keep hbl)
  have H9' := Lib.hid (H9.out.keep hbl)
  clear hsz hbl HBa HR1' H1' HRE H2' H3' H7 H9
  generalize (((w9.alloc (mblk zeroMd none 0 0 28)).alloc (.cells #[.int .i64 8, .int .i64 2] 38)).alloc (.cells #[.string oA.1, .int .i64 oA.2.1, .int .i64 oA.2.2.1, .int .i64 oA.2.2.2, .string oB.1, .int .i64 oB.2.1, .int .i64 oB.2.2.1, .int .i64 oB.2.2.2] 25)) = wb at *
  generalize w9.heap.size = b9 at *
  have KW := Lib.hid (owner_any ⟨#[97, 46, 98, 47, 99, 47, 100]⟩ _ 2 [oA, oB] wb KO.out (by decide) (by intro x hx; simp only [List.mem_cons, List.not_mem_nil, or_false] at hx; rcases hx with rfl | rfl <;> decide))
  rw [show ownL (⟨#[97, 46, 98, 47, 99, 47, 100]⟩ : ByteArray).data.toList (pathsL [oA, oB]) 0 none = some (1, 5, [100]) from own_o, show ownOut (some (1, 5, [100])) = .tuple #[.int .i64 1, .string ⟨#[100]⟩] from rfl] at KW
  refine KW.out.mono ?_
  rintro e wc ⟨rfl, hbc⟩
  have HBc := Lib.hid (HBb.out.trans (hbc.mono HBb.out.size))
  have HR1' := Lib.hid (HR1.out.up hbc)
  have HRE := Lib.hid (HRE'.out.up hbc)
  obtain ⟨x0, x1, x2, x3, x4⟩ := H1.out.keep hbc
  obtain ⟨y0, y1, y2, y3, y4⟩ := H2.out.keep hbc
  obtain ⟨z0, z1⟩ := H3.out.keep hbc
  have H7 := Lib.hid (H7'.out.keep hbc)
  have H9 := Lib.hid (H9'.out.keep hbc)
  have H3' := Lib.hid (H3.out.keep hbc)
  clear hbc KW KO HBb HR1 H1 HRE' H2 H3 H7' H9'
  go_wp2_with fail
  refine (same_any mM mM A (some ⟨b2, 0, none⟩) c 1 [mR] [mR] wc HRE.out HR1'.out (by decide) (by decide)).mono ?_
  rintro e wd ⟨rfl, hbd⟩
  rw [show decide (mM = mM ∧ [mR] = [mR]) = true from by simp]
  have HBd := Lib.hid (HBc.out.trans (hbd.mono HBc.out.size))
  obtain ⟨z0, z1⟩ := H3'.out.keep hbd
  obtain ⟨u0, u1⟩ := H7.out.keep hbd
  obtain ⟨v0, v1⟩ := H9.out.keep hbd
  clear hbd HBc HR1' HRE x0 x1 x2 x3 x4 y0 y1 y2 y3 y4 H3' H7 H9
  go_wp2_with fail
  have HP1 := Lib.hid (path_any ⟨#[97, 46, 98, 47, 99]⟩ wd (HC.out.keep HBd.out).max)
  rw [show pathB (⟨#[97, 46, 98, 47, 99]⟩ : ByteArray).data.toList = true from path_1] at HP1
  refine HP1.out.mono ?_
  rintro e we ⟨rfl, hbe⟩
  have HBe := Lib.hid (HBd.out.trans (hbe.mono HBd.out.size))
  clear hbe HBd HP1
  go_wp2_with fail
  have HP1 := Lib.hid (path_any ⟨#[97, 47, 47, 98]⟩ we (HC.out.keep HBe.out).max)
  rw [show pathB (⟨#[97, 47, 47, 98]⟩ : ByteArray).data.toList = false from path_2] at HP1
  refine HP1.out.mono ?_
  rintro e wf ⟨rfl, hbf⟩
  have HBf := Lib.hid (HBe.out.trans (hbf.mono HBe.out.size))
  clear hbf HBe HP1
  go_wp2_with fail
  have HP1 := Lib.hid (path_any ⟨#[97, 47, 49]⟩ wf (HC.out.keep HBf.out).max)
  rw [show pathB (⟨#[97, 47, 49]⟩ : ByteArray).data.toList = false from path_3] at HP1
  refine HP1.out.mono ?_
  rintro e wg ⟨rfl, hbg⟩
  have HBg := Lib.hid (HBf.out.trans (hbg.mono HBf.out.size))
  clear hbg HBf HP1
  go_wp2_with fail
  go_ret
  exact ⟨rfl, HBg.out⟩
end Go.Proofs.YtaeideimlagheaaGreatDoor
