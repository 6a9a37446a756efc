/-
  The law of Parse. Conditions: the table of powers of ten, internal/bytealg.MaxLen holds some number, the two error variables of strconv hold interface values.
-/
import Derived.Test.YtaeideimlagheaaGreatDoorEA
import Derived.Test.YtaeideimlagheaaGreatDoorRQ
import Derived.Test.YtaeideimlagheaaGreatDoorM5
import Derived.Test.YtaeideimlagheaaGreatDoorLC
namespace Go.Proofs.YtaeideimlagheaaGreatDoor
open Go.RowKit Go.Sort Go.Lib Go.Shelf Go.Proofs
set_option linter.unusedSimpArgs false
set_option linter.unnecessarySimpa false
set_option linter.unusedVariables false
/-- what Parse returns, in one form -/
def outP (s : List UInt8) : (Md × List Md) × Int × Int := match parseL verV s with
  | .inl (n, a) => ((zeroMd, []), n, a)
  | .inr (m, R) => ((m, R), 0, 0)
theorem outP_inr {s : List UInt8} {m : Md} {R : List Md} (h : parseL verV s = .inr (m, R)) : outP s = ((m, R), 0, 0) := by unfold outP; rw [h]
theorem parse_out {s : ByteArray} {w w' : World} {e : Ending} (h : ParseIs s w e w') {m : Md} {R : List Md} {n a : Int} (ho : outP s.data.toList = ((m, R), n, a)) :
    ∃ A c, e = .returned (.tuple #[mf m A R.length c, .agg #[.int .i64 n, .int .i64 a]]) ∧ RM w' w'.heap.size A R ∧ Plain A c ∧ Below w.heap.size w w' := by
  unfold ParseIs at h
  unfold outP at ho
  cases hp : parseL verV s.data.toList with
  | inl p =>
    obtain ⟨n', a'⟩ := p
    rw [hp] at h ho
    simp only [Prod.mk.injEq] at ho
    obtain ⟨⟨rfl, rfl⟩, rfl, rfl⟩ := ho
    exact ⟨none, 0, h.1, rm_nil _ _ _, .inl ⟨rfl, rfl⟩, h.2⟩
  | inr p =>
    obtain ⟨m', R'⟩ := p
    rw [hp] at h ho
    simp only [Prod.mk.injEq] at ho
    obtain ⟨⟨rfl, rfl⟩, rfl, rfl⟩ := ho
    obtain ⟨⟨A, c, h1, h2, h3, _⟩, h4⟩ := h
    exact ⟨A, c, h1, h2, h3, h4⟩
theorem outP_few {s : List UInt8} {m : Md} {R : List Md} {n a : Int} (ho : outP s = ((m, R), n, a)) : R.length ≤ 64 := by
  unfold outP at ho
  cases hp : parseL verV s with
  | inl p =>
    obtain ⟨n', a'⟩ := p
    rw [hp] at ho
    simp only [Prod.mk.injEq] at ho
    obtain ⟨⟨rfl, rfl⟩, rfl, rfl⟩ := ho
    simp
  | inr p =>
    obtain ⟨m', R'⟩ := p
    rw [hp] at ho
    simp only [Prod.mk.injEq] at ho
    obtain ⟨⟨rfl, rfl⟩, rfl, rfl⟩ := ho
    unfold parseL at hp
    split at hp
    · cases hp
    · split at hp
      · cases hp
      · cases hp
      · split at hp
        · cases hp
        · rename_i h
          simp only [Sum.inr.injEq, Prod.mk.injEq] at hp
          obtain ⟨rfl, rfl⟩ := hp
          exact (chk_few (by simpa using h)).1
set_option maxRecDepth 100000 in
set_option maxHeartbeats 4000000 in
theorem law_parse (s : ByteArray) (w : World) (hC : Cond w) :
    Calls Tryz.prog 5 #[.string s] w fun e w' => e = .returned (.bool true) ∧ Below w.heap.size w w' := by
  have HC := Lib.hid hC
  have KA := Lib.hid (fun W (hb : Below w.heap.size w W) => alive_any W (HC.out.keep hb))
  clear hC
  by_cases hs : s.size ≤ 4000
  · have hsi : ¬ (4000 : Int) < (s.size : Int) := by omega
    obtain ⟨⟨m, R⟩, n, a, ho⟩ : ∃ p n a, outP s.data.toList = (p, n, a) := ⟨_, _, _, rfl⟩
    have HO := Lib.hid ho
    have HF := Lib.hid (outP_few ho)
    clear ho hs
    go_enter Tryz.func5, Tryz.ntmps5
    go_wp2_with fail
    refine (parse_any s w HC.out).mono ?_
    intro e w1 he
    obtain ⟨A, c, rfl, hre, hpl, hb1⟩ := parse_out he HO.out
    have HRE := Lib.hid hre
    have HB1 := Lib.hid hb1
    clear he hre hpl hb1
    go_wp2_with fail
    obtain ⟨h2, h3, hn⟩ := two_new w1 m A R.length c n a
    have HB2 := Lib.hid (HB1.out.trans (hn.mono HB1.out.size))
    have HR2 := Lib.hid (HRE.out.up hn)
    have H2 := Lib.hid h2
    have H3 := Lib.hid h3
    clear h2 h3 hn HB1 HRE
    generalize w1.heap.size = b1 at *
    generalize ((w1.alloc (mblk m A R.length c 28)).alloc (.cells #[.int .i64 n, .int .i64 a] 38)) = w2 at *
    refine (rparse_any44 s w2).mono ?_
    intro e w3 he
    obtain ⟨A', c', rfl, hre, hpl, hb3⟩ := parse_out he HO.out
    have HB3 := Lib.hid (HB2.out.trans (hb3.mono HB2.out.size))
    have HR3 := Lib.hid (HR2.out.up hb3)
    have HQ3 := Lib.hid hre
    have H23 := Lib.hid (H2.out.keep hb3)
    have H33 := Lib.hid (H3.out.keep hb3)
    clear he hre hpl hb3 HB2 HR2 H2 H3
    obtain ⟨h2, h3, hn⟩ := two_new w3 m A' R.length c' n a
    have HB4 := Lib.hid (HB3.out.trans (hn.mono HB3.out.size))
    have HR4 := Lib.hid (HR3.out.up hn)
    have HQ4 := Lib.hid (HQ3.out.up hn)
    obtain ⟨x0, x1, x2, x3, x4⟩ := H23.out.keep hn
    obtain ⟨y0, y1, y2, y3, y4⟩ := h2
    have H34 := Lib.hid (H33.out.keep hn)
    have H4 := Lib.hid h3
    clear h3 hn HB3 HR3 HQ3 H23 H33
    go_wp2_with fail
    generalize w3.heap.size = b3 at *
    generalize ((w3.alloc (mblk m A' R.length c' 28)).alloc (.cells #[.int .i64 n, .int .i64 a] 38)) = w4 at *
    have KS := Lib.hid (same_any m m A A' c c' R R w4 HR4.out HQ4.out (by have := HF.out; omega) (by have := HF.out; omega))
    rw [show decide (m = m ∧ R = R) = true from by simp] at KS
    refine KS.out.mono ?_
    rintro e w5 ⟨rfl, hb5⟩
    have HB5 := Lib.hid (HB4.out.trans (hb5.mono HB4.out.size))
    obtain ⟨u0, u1⟩ := H34.out.keep hb5
    obtain ⟨v0, v1⟩ := H4.out.keep hb5
    clear hb5 HB4 KS x0 x1 x2 x3 x4 y0 y1 y2 y3 y4 H34 H4
    go_wp2_with fail
    refine (KA.out _ HB5.out).mono ?_
    rintro e w6 ⟨rfl, hb6⟩
    have HE := Lib.hid (HB5.out.trans (hb6.mono HB5.out.size))
    clear hb6
    go_wp2_with fail
    go_ret
    exact ⟨rfl, HE.out⟩
  · have hsi : (4000 : Int) < (s.size : Int) := by omega
    clear hs
    go_enter Tryz.func5, Tryz.ntmps5
    go_wp2_with fail
    refine (KA.out _ (Below.refl _ _)).mono ?_
    rintro e w2 ⟨rfl, hb2⟩
    have HE := Lib.hid hb2
    clear hb2
    go_wp2_with fail
    go_ret
    exact ⟨rfl, HE.out⟩
end Go.Proofs.YtaeideimlagheaaGreatDoor
