/-
  The specification's module: the module of a line's words. Words of at most 2000000 bytes. No other condition.
-/
import Derived.Test.YtaeideimlagheaaGreatDoorWA
import Derived.Test.YtaeideimlagheaaGreatDoorR3
namespace Go.Proofs.YtaeideimlagheaaGreatDoor
open Go.RowKit Go.Sort Go.Lib Go.Shelf Go.Proofs
set_option linter.unusedSimpArgs false
set_option linter.unnecessarySimpa false
set_option linter.unusedVariables false
set_option maxRecDepth 100000 in
set_option maxHeartbeats 4000000 in
theorem rmodule3_any (kw : ByteArray) (A : Option Addr) (c : Nat) (k p v : ByteArray) (w : World) (hR : RS w w.heap.size A [k, p, v]) (hpz : p.size ≤ 2000000) :
    Calls Tryz.prog 52 #[.slice A 3 c, .string kw] w (ReadIs (rdS kw [k, p, v]) w) := by
  obtain ⟨b, o, rfl, hbl, c0⟩ := hR.at_ 0 (by simp)
  obtain ⟨b', o', e, _, c1⟩ := hR.at_ 1 (by simp)
  simp only [Option.some.injEq, Addr.mk.injEq] at e
  obtain ⟨rfl, rfl, _⟩ := e
  obtain ⟨b', o', e, _, c2⟩ := hR.at_ 2 (by simp)
  simp only [Option.some.injEq, Addr.mk.injEq] at e
  obtain ⟨rfl, rfl, _⟩ := e
  simp only [List.getElem_cons_zero, List.getElem_cons_succ, Nat.add_zero] at c0 c1 c2
  have hb0 := bal w (.cells #[.string ⟨#[]⟩, .int .i64 0, .int .i64 0, .int .i64 0] 25)
  have d0 := cell_keep c0 hb0
  have d1 := cell_keep c1 hb0
  have d2 := cell_keep c2 hb0
  have hBx := Bx.new w 25 zeroMd w.heap.size rfl
  have KP := Lib.hid (fun w => rpath_any p hpz w)
  have HB0 := Lib.hid hb0
  clear hR hpz hb0 c0 c1 c2
  by_cases hk : k = kw
  · subst hk
    cases hp : pathB p.data.toList with
    | false =>
      have HR := Lib.hid (rdS_path (kw := k) (k := k) (v := v) hp)
      rw [HR.out]
      rw [hp] at KP
      have HX := Lib.hid hBx
      clear hp hBx
      go_enter Tryz.func52, Tryz.ntmps52
      go_wp2_with fail
      refine (KP.out _).mono ?_
      rintro e w1 ⟨rfl, hb1⟩
      obtain ⟨z1, x0, x1, x2, x3, f0, f1, f2, f3⟩ := HX.out.keep hb1
      have HB1 := Lib.hid (HB0.out.trans (hb1.mono HB0.out.size))
      clear hb1 d0 d1 d2 KP HX
      go_wp2_with fail
      refine bodyPost_ret (v := .tuple #[md zeroMd, .bool false]) (by simp [results, Tryz.results52, go_sem, x0, x1, x2, x3, z1]) rfl ⟨⟨zeroMd, rfl, fun x h => by cases h⟩, ?_⟩
      exact ((((HB1.out.setCell (by simp) _).setCell (by simp) _).setCell (by simp) _).setCell (by simp) _)
    | true =>
      have HR := Lib.hid (rdS_ver (kw := k) (v := v) hp)
      rw [hp] at KP
      have HX := Lib.hid hBx
      have HV := Lib.hid (fun w => rvparse_any v w)
      obtain ⟨O, hO⟩ : ∃ O, O = rdS k [k, p, v] := ⟨_, rfl⟩
      rw [← hO] at HR ⊢
      clear hp hBx hO
      cases hvv : verV v.data.toList with
      | none =>
        have HO := Lib.hid (show O = none by rw [HR.out, hvv]; rfl)
        rw [hvv] at HV
        unfold verR at HV
        simp only at HV
        clear hvv HR
        go_enter Tryz.func52, Tryz.ntmps52
        go_wp2_with fail
        refine (KP.out _).mono ?_
        rintro e w1 ⟨rfl, hb1⟩
        have HX1 := Lib.hid (HX.out.keep hb1)
        have HB1 := Lib.hid (HB0.out.trans (hb1.mono HB0.out.size))
        have e1 := cell_keep d1 hb1
        have e2 := cell_keep d2 hb1
        clear hb1 d0 d1 d2 KP HX HB0
        go_wp2_with fail
        refine (HV.out _).mono ?_
        rintro e w2 ⟨rfl, hb2⟩
        have hb2' := hb2.trans ((bal w2 (.cells #[.int .i64 0, .int .i64 0, .int .i64 0] 23)).mono hb2.size)
        obtain ⟨z1, x0, x1, x2, x3, f0, f1, f2, f3⟩ := HX1.out.keep hb2'
        have HB2 := Lib.hid (HB1.out.trans (hb2'.mono HB1.out.size))
        have g1 := cell_keep e1 hb2'
        have v0 : (w2.alloc (.cells #[.int .i64 0, .int .i64 0, .int .i64 0] 23)).cell? ⟨w2.heap.size, 0, none⟩ = some (.int .i64 0) := by simp
        have v1 : (w2.alloc (.cells #[.int .i64 0, .int .i64 0, .int .i64 0] 23)).cell? ⟨w2.heap.size, 1, none⟩ = some (.int .i64 0) := by simp
        have v2 : (w2.alloc (.cells #[.int .i64 0, .int .i64 0, .int .i64 0] 23)).cell? ⟨w2.heap.size, 2, none⟩ = some (.int .i64 0) := by simp
        clear hb2 hb2' e1 e2 HX1 HB1 HV
        go_wp2_with fail
        generalize w2.alloc (.cells #[.int .i64 0, .int .i64 0, .int .i64 0] 23) = w3 at *
        refine bodyPost_ret (v := .tuple #[md zeroMd, .bool false]) (by simp [results, Tryz.results52, go_sem, x0, x1, x2, x3, z1]) rfl ⟨⟨zeroMd, by rw [HO.out]; rfl, fun x h => by rw [HO.out] at h; cases h⟩, ?_⟩
        exact ((((HB2.out.setCell (p := ⟨w.heap.size, 0, none⟩) (Nat.le_refl _) _).setCell (p := ⟨w.heap.size, 1, none⟩) (Nat.le_refl _) _).setCell (p := ⟨w.heap.size, 2, none⟩) (Nat.le_refl _) _).setCell (p := ⟨w.heap.size, 3, none⟩) (Nat.le_refl _) _)
      | some t =>
        obtain ⟨va, vb, vc⟩ := t
        have HO := Lib.hid (show O = some (p, va, vb, vc) by rw [HR.out, hvv]; rfl)
        rw [hvv] at HV
        unfold verR at HV
        simp only at HV
        clear hvv HR
        go_enter Tryz.func52, Tryz.ntmps52
        go_wp2_with fail
        refine (KP.out _).mono ?_
        rintro e w1 ⟨rfl, hb1⟩
        have HX1 := Lib.hid (HX.out.keep hb1)
        have HB1 := Lib.hid (HB0.out.trans (hb1.mono HB0.out.size))
        have e1 := cell_keep d1 hb1
        have e2 := cell_keep d2 hb1
        clear hb1 d0 d1 d2 KP HX HB0
        go_wp2_with fail
        refine (HV.out _).mono ?_
        rintro e w2 ⟨rfl, hb2⟩
        have hb2' := hb2.trans ((bal w2 (.cells #[.int .i64 va, .int .i64 vb, .int .i64 vc] 23)).mono hb2.size)
        obtain ⟨z1, x0, x1, x2, x3, f0, f1, f2, f3⟩ := HX1.out.keep hb2'
        have HB2 := Lib.hid (HB1.out.trans (hb2'.mono HB1.out.size))
        have g1 := cell_keep e1 hb2'
        have v0 : (w2.alloc (.cells #[.int .i64 va, .int .i64 vb, .int .i64 vc] 23)).cell? ⟨w2.heap.size, 0, none⟩ = some (.int .i64 va) := by simp
        have v1 : (w2.alloc (.cells #[.int .i64 va, .int .i64 vb, .int .i64 vc] 23)).cell? ⟨w2.heap.size, 1, none⟩ = some (.int .i64 vb) := by simp
        have v2 : (w2.alloc (.cells #[.int .i64 va, .int .i64 vb, .int .i64 vc] 23)).cell? ⟨w2.heap.size, 2, none⟩ = some (.int .i64 vc) := by simp
        clear hb2 hb2' e1 e2 HX1 HB1 HV
        go_wp2_with fail
        generalize w2.alloc (.cells #[.int .i64 va, .int .i64 vb, .int .i64 vc] 23) = w3 at *
        go_region
        go_wp2_with fail
        refine bodyPost_ret (v := .tuple #[md (p, va, vb, vc), .bool true]) (by simp [results, Tryz.results52, go_sem, x0, x1, x2, x3, z1]) rfl ⟨⟨(p, va, vb, vc), by rw [HO.out]; rfl, fun x h => by rw [HO.out] at h; cases h; rfl⟩, ?_⟩
        exact ((((HB2.out.setCell (p := ⟨w.heap.size, 0, none⟩) (Nat.le_refl _) _).setCell (p := ⟨w.heap.size, 1, none⟩) (Nat.le_refl _) _).setCell (p := ⟨w.heap.size, 2, none⟩) (Nat.le_refl _) _).setCell (p := ⟨w.heap.size, 3, none⟩) (Nat.le_refl _) _).drew
  · have HR := Lib.hid (rdS_kw (p := p) (v := v) hk)
    rw [HR.out]
    have q0 := neL hk
    have q1 : ¬ k.toList = kw.toList := by simpa using q0
    have HX := Lib.hid hBx
    clear hk
    obtain ⟨z1, x0, x1, x2, x3, f0, f1, f2, f3⟩ := hBx
    go_enter Tryz.func52, Tryz.ntmps52
    go_wp2_with fail
    refine bodyPost_ret (v := .tuple #[md zeroMd, .bool false]) (by simp [results, Tryz.results52, go_sem, x0, x1, x2, x3, z1]) rfl ⟨⟨zeroMd, rfl, fun x h => by cases h⟩, ?_⟩
    first | exact HB0.out | exact ((((HB0.out.setCell (by simp) _).setCell (by simp) _).setCell (by simp) _).setCell (by simp) _)
theorem rmd_zero (w : World) (kw : ByteArray) (A : Option Addr) (c n : Nat) (h : n ≠ 3) :
    Calls Tryz.prog 52 #[.slice A n c, .string kw] w (ReadIs none w) := by
  have HB0 := Lib.hid (bal w (.cells #[.string ⟨#[]⟩, .int .i64 0, .int .i64 0, .int .i64 0] 25))
  obtain ⟨z1, x0, x1, x2, x3, f0, f1, f2, f3⟩ := Bx.new w 25 zeroMd w.heap.size rfl
  have q0 : ((n : Int) != 3) = true := by rw [bne_iff_ne]; omega
  have q1 : ¬ (n : Int) = 3 := by omega
  clear h
  go_enter Tryz.func52, Tryz.ntmps52
  go_wp2_with fail
  refine bodyPost_ret (v := .tuple #[md zeroMd, .bool false]) (by simp [results, Tryz.results52, go_sem, x0, x1, x2, x3, z1]) rfl ⟨⟨zeroMd, rfl, fun x h => by cases h⟩, ?_⟩
  first | exact HB0.out | exact ((((HB0.out.setCell (by simp) _).setCell (by simp) _).setCell (by simp) _).setCell (by simp) _)
theorem rmodule_any (kw : ByteArray) (A : Option Addr) (c : Nat) (L : List ByteArray) (w : World) (hR : RS w w.heap.size A L) (hv : ∀ x ∈ L, x.size ≤ 2000000) :
    Calls Tryz.prog 52 #[.slice A L.length c, .string kw] w (ReadIs (rdS kw L) w) := by
  by_cases h : L.length = 3
  · match L, h, hR, hv with
    | [k, p, v], _, hR, hv => exact rmodule3_any kw A c k p v w hR (hv p (by simp))
  · rw [rdS_len h]; exact rmd_zero w kw A c _ h
end Go.Proofs.YtaeideimlagheaaGreatDoor
