/-
  cyclic of the program: the first node that lies on a cycle. Conditions: the slice reads as a graph of at most 900 nodes with at most 1000 successors each.
-/
import Derived.Test.YthgfomjmkmkhkaaK
import Derived.Test.YthgfomjmkmkhkaaN
import Derived.Deep.QuietTactic
namespace Go.Proofs.Ythgfomjmkmkhkaa
open Go.RowKit
set_option linter.unusedSimpArgs false
set_option linter.unusedVariables false
theorem con_self {g : Gr} {n : Nat} : Con g n n ↔ ∃ m, Edge g n m ∧ Mut g n m := by
  constructor
  · rintro ⟨k, w⟩
    obtain ⟨m, e, w'⟩ := w.first
    refine ⟨m, e, (mut_to e.1).2 ⟨To.edge e, ⟨k, w'⟩⟩⟩
  · rintro ⟨m, e, h⟩
    rcases h with rfl | ⟨h, k⟩
    · exact Con.edge e
    · exact h.trans k
open Classical in
/-- the first node that lies on a cycle -/
noncomputable def cycAt (g : Gr) : Option Nat := (List.range g.length).find? (fun a => decide (Con g a a))
theorem cycAt_some {g : Gr} {s : Nat} (h : s < g.length) (hs : Con g s s) (hf : ∀ x, x < s → ¬ Con g x x) : cycAt g = some s := by
  unfold cycAt
  rw [List.find?_range_eq_some]
  exact ⟨by simpa using hs, by simpa using h, fun j hj => by simpa using hf j hj⟩
theorem cycAt_none {g : Gr} (h : ∀ x, x < g.length → ¬ Con g x x) : cycAt g = none := by
  unfold cycAt; rw [List.find?_eq_none]; simpa using h
theorem cycAt_is {g : Gr} {s : Nat} (h : cycAt g = some s) : s < g.length ∧ Con g s s ∧ ∀ x, x < s → ¬ Con g x x := by
  unfold cycAt at h
  rw [List.find?_range_eq_some] at h
  obtain ⟨h1, h2, h3⟩ := h
  exact ⟨by simpa using h2, by simpa using h1, fun x hx => by simpa using h3 x hx⟩
theorem cycAt_not {g : Gr} (h : cycAt g = none) : ∀ x, x < g.length → ¬ Con g x x := by
  unfold cycAt at h; rw [List.find?_eq_none] at h; simpa using h
/-- .. as a number -/
noncomputable def cycI (g : Gr) : Int := match cycAt g with | some s => (s : Int) | none => -1
theorem isnode_same (A : Option Addr) (c k : Nat) (n : Int) (w : World) (hl : k ≤ 9223372036854775807) :
    Calls Try.prog 31 #[.slice A k c, .int .i64 n] w fun e w' => e = .returned (.bool (decide (0 ≤ n) && decide (n < k))) ∧ w' = w := by
  by_cases h0 : 0 ≤ n
  · have q0 : decide (0 ≤ n) = true := decide_eq_true h0
    have r0 : ¬ n < 0 := by omega
    go_enter Try.func31, Try.ntmps31
    go_wp2_with fail
    go_ret
    exact ⟨by simp [q0], rfl⟩
  · have q0 : decide (0 ≤ n) = false := decide_eq_false h0
    go_enter Try.func31, Try.ntmps31
    go_wp2_with fail
    go_ret
    exact ⟨by simp [q0], rfl⟩
set_option maxRecDepth 100000 in
set_option maxHeartbeats 4000000 in
theorem cyclic_any (A : Option Addr) (c : Nat) (gs : Gr) (w : World) (h : RG w w.heap.size A gs) (hl : gs.length ≤ 900) (hl2 : ∀ l ∈ gs, l.length ≤ 1000) :
    Calls Try.prog 47 #[.slice A gs.length c] w fun e w' => e = .returned (.int .i64 (cycI gs)) ∧ Below w.heap.size w w' := by
  have HX := Lib.hid h
  have HL := Lib.hid hl2
  have CC := Lib.hid (pcomp_any A c gs w h hl hl2)
  have HCL := Lib.hid (comps_len gs)
  obtain ⟨k, hk⟩ : ∃ k, gs.length = k := ⟨_, rfl⟩
  have HK := Lib.hid hk
  rw [hk] at hl CC HCL ⊢
  have HIS := Lib.hid (fun (x : Int) (W : World) (n : Nat) => Calls.quiet_of_same (isnode_same A c k x (W.drewN n) (by omega)))
  clear h hl2 hk
  obtain ⟨cs, hcs⟩ : ∃ cs, comps gs = cs := ⟨_, rfl⟩
  rw [hcs] at CC HCL
  have HCS := Lib.hid hcs
  clear hcs
  go_enter Try.func47, Try.ntmps47
  go_wp2_with fail
  refine CC.out.mono ?_
  rintro e w2 ⟨Ac, cc, rfl, hr2, hb2⟩
  have HR2 := Lib.hid hr2
  have HB2 := Lib.hid hb2
  rw [HCL.out]
  clear hr2 hb2 CC
  go_wp2_with fail
  go_loopw [11, 19] (fun s11 _ wr => ∃ (n : Nat), s11 = .int .i64 (n : Int) ∧ n ≤ k ∧ Hid (∀ x, x < n → ¬ Con gs x x) ∧ Hid (Below w2.heap.size w2 wr)) (fun s11 _ _ => (k - intOf s11).toNat)
  case atStart => exact ⟨0, rfl, by omega, Lib.hid (fun x hx => by omega), Lib.hid (Below.refl _ _)⟩
  case round =>
    obtain ⟨n, rfl, hn, HS, HB⟩ := hrel
    by_cases hlt : n < k
    · have hki : (n : Int) < (k : Int) := by omega
      have hk0 : (0 : Int) ≤ (n : Int) := by omega
      have HNK := Lib.hid (show n + 1 ≤ k by omega)
      obtain ⟨ad, A1, c1, hA, hbk, hga0, HRI⟩ := HX.out.suc_at (k := n) (by rw [HK.out]; exact hlt)
      have hbw : Below w.heap.size w wr := HB2.out.trans (HB.out.mono HB2.out.size)
      have hga : wr.cell? (ad.add n) = some (.slice A1 (suc gs n).length c1) := by rw [hbw.cell (by rw [block_of_add]; exact hbk)]; exact hga0
      subst hA
      have hgl : (suc gs n).length ≤ 1000 := suc_len HL.out
      have HRI2 := Lib.hid HRI
      obtain ⟨ys, hys⟩ : ∃ ys, suc gs n = ys := ⟨_, rfl⟩
      rw [hys] at hgl HRI2 hga
      have HYS := Lib.hid hys
      have HB0 := HB
      obtain ⟨ln, hln, HLN⟩ := comps_get (g := gs) (a := n) (by rw [HK.out]; exact hlt)
      rw [HCS.out] at hln
      have HLN1 := Lib.hid HLN
      have HLN2 := Lib.hid hln
      clear hga0 HRI hys hlt hbw hln HLN
      go_wp2_with fail
      clear hga hki hk0 HB
      go_loopw [19] (fun s19 wr => ∃ (j : Nat), s19 = .int .i64 (j : Int) ∧ j ≤ ys.length ∧ Hid (Below w2.heap.size w2 wr) ∧ Hid (∀ j', j' < j → ∀ m : Nat, ys[j']? = some (m : Int) → m < gs.length → ¬ Mut gs n m)) (fun s19 _ => (ys.length - intOf s19).toNat)
      case atStart => exact ⟨0, rfl, by omega, HB0, Lib.hid (fun j' hj => by omega)⟩
      case round =>
        clear HB0
        obtain ⟨j, rfl, hj, HB, HJ⟩ := hrel
        by_cases hjl : j < ys.length
        · have hki : (j : Int) < (ys.length : Int) := by omega
          have hk0 : (0 : Int) ≤ (j : Int) := by omega
          have HJ1 := Lib.hid (show j + 1 ≤ ys.length by omega)
          have HBW := Lib.hid (HB2.out.trans (HB.out.mono HB2.out.size))
          obtain ⟨a1, hA1, hl1, c0⟩ := (HRI2.out.below HBW.out).at_ j hjl
          subst hA1
          have HX9 : Hid (ys[j]? = some ys[j]) := Lib.hid (List.getElem?_eq_getElem hjl)
          generalize ys[j] = x at *
          have hn9 : n < cs.length := by rw [HCL.out]; have := HNK.out; omega
          obtain ⟨ac, hAc, hlc, cn⟩ := (HR2.out.below HB.out).at_ n hn9
          subst hAc
          have hcn2 : wr.cell? (ac.add n) = some (.int .i64 (ln : Int)) := by
            rw [cn]; have := HLN2.out; rw [List.getElem?_eq_getElem hn9] at this; rw [Option.some.inj this]
          have hnk0 : (0 : Int) ≤ (n : Int) := by omega
          have hnk1 : (n : Int) < (k : Int) := by have := HNK.out; omega
          have HII := Lib.hid (fun (m : Nat) => HIS.out x wr m)
          clear hjl cn
          by_cases hx : 0 ≤ x ∧ x < (k : Int)
          · obtain ⟨m, rfl⟩ : ∃ m : Nat, x = (m : Int) := ⟨x.toNat, by omega⟩
            have hm9 : m < cs.length := by rw [HCL.out]; omega
            obtain ⟨ac', hAc', _, cm⟩ := (HR2.out.below HB.out).at_ m hm9
            obtain rfl : ac = ac' := Option.some.inj hAc'
            obtain ⟨lm, hlm, HLM⟩ := comps_get (g := gs) (a := m) (by rw [HK.out]; omega)
            rw [HCS.out] at hlm
            have hcm2 : wr.cell? (ac.add m) = some (.int .i64 (lm : Int)) := by
              rw [cm]; rw [List.getElem?_eq_getElem hm9] at hlm; rw [Option.some.inj hlm]
            have HLM1 := Lib.hid HLM
            have hx0 := hx.1
            have hx1 := hx.2
            have t1 : decide ((0 : Int) ≤ (m : Int)) = true := decide_eq_true hx0
            have t2 : decide ((m : Int) < (k : Int)) = true := decide_eq_true hx1
            have HT : Hid (∀ (q : Nat), Calls Try.prog 31 #[.slice (some ad) k c, .int .i64 (m : Int)] (wr.drewN q) fun e w'' => e = .returned (.bool true) ∧ ∃ p, w'' = wr.drewN p) := Lib.hid (fun q => by have h := HII.out q; rw [t1, t2] at h; exact h)
            clear hm9 cm hlm HLM hx hAc' HII t1 t2
            by_cases hll : lm = ln
            · have q1 : ((lm : Int) == (ln : Int)) = true := by rw [hll]; simp
              have HCI : Hid (cycI gs = (n : Int)) := Lib.hid (by
                unfold cycI
                rw [cycAt_some (s := n) (by have := HNK.out; have := HK.out; omega) (con_self.2 ⟨m, ⟨by have := HNK.out; have := HK.out; omega, by have := HK.out; omega, by rw [HYS.out]; exact List.mem_of_getElem? HX9.out⟩, (LeastOf.mut HLN1.out HLM1.out).1 hll.symm⟩) HS.out])
              go_wp2_with fail
              go_quiet (first | (go_at_call 31; exact HT.out _))
              go_wp2_with fail
              go_ret
              exact ⟨ret_int HCI.out.symm, HBW.out.trans (bdrewN (Below.refl _ _) _)⟩
            · have q1 : ((lm : Int) == (ln : Int)) = false := beq_eq_false_iff_ne.2 (by omega)
              have HJ3 : Hid (∀ j', j' < j + 1 → ∀ m : Nat, ys[j']? = some (m : Int) → m < gs.length → ¬ Mut gs n m) := Lib.hid (fun j' hj' m' hm' hl' => by
                rcases Nat.lt_or_ge j' j with h | h
                · exact HJ.out j' h m' hm' hl'
                · obtain rfl : j' = j := by omega
                  rw [HX9.out] at hm'
                  obtain rfl : m = m' := by have := Option.some.inj hm'; omega
                  intro h; exact hll ((LeastOf.mut HLN1.out HLM1.out).2 h).symm)
              clear HJ
              go_wp2_with fail
              go_quiet (first | (go_at_call 31; exact HT.out _))
              go_wp2_with fail
              go_roundw
              case rel => exact ⟨j + 1, by go_num, HJ1.out, Lib.hid (HB.out.trans (bdrewN (Below.refl _ _) _)), HJ3⟩
              case measure => have := HJ1.out; first | (simp [intOf]; done) | (simp [intOf]; omega)
          · have q : (decide (0 ≤ x) && decide (x < (k : Int))) = false := by
              rw [← Bool.not_eq_true, Bool.and_eq_true, decide_eq_true_eq, decide_eq_true_eq]; exact hx
            have HT : Hid (∀ (q : Nat), Calls Try.prog 31 #[.slice (some ad) k c, .int .i64 x] (wr.drewN q) fun e w'' => e = .returned (.bool false) ∧ ∃ p, w'' = wr.drewN p) := Lib.hid (fun q' => by have h := HII.out q'; rw [q] at h; exact h)
            have HJ3 : Hid (∀ j', j' < j + 1 → ∀ m : Nat, ys[j']? = some (m : Int) → m < gs.length → ¬ Mut gs n m) := Lib.hid (fun j' hj' m' hm' hl' => by
                rcases Nat.lt_or_ge j' j with h | h
                · exact HJ.out j' h m' hm' hl'
                · obtain rfl : j' = j := by omega
                  rw [HX9.out] at hm'
                  have := Option.some.inj hm'
                  have := HK.out
                  omega)
            clear HJ q hx HII
            go_wp2_with fail
            go_quiet (first | (go_at_call 31; exact HT.out _))
            go_wp2_with fail
            go_roundw
            case rel => exact ⟨j + 1, by go_num, HJ1.out, Lib.hid (HB.out.trans (bdrewN (Below.refl _ _) _)), HJ3⟩
            case measure => have := HJ1.out; first | (simp [intOf]; done) | (simp [intOf]; omega)
        · obtain rfl : j = ys.length := by omega
          have hki : ¬ (ys.length : Int) < (ys.length : Int) := by omega
          have HS3 : Hid (∀ x, x < n + 1 → ¬ Con gs x x) := Lib.hid (fun x hx => by
            rcases Nat.lt_or_ge x n with h | h
            · exact HS.out x h
            · obtain rfl : x = n := by omega
              intro hc
              obtain ⟨m, e, hm⟩ := con_self.1 hc
              obtain ⟨j', hj', e'⟩ := List.mem_iff_getElem.1 e.2.2
              have h1 : (suc gs x)[j']? = some (m : Int) := by rw [List.getElem?_eq_getElem hj', e']
              rw [HYS.out] at h1 hj'
              exact HJ.out j' hj' m h1 e.2.1 hm)
          clear hjl HS HJ
          go_wp2_with fail
          go_roundw
          case rel => exact ⟨n + 1, by go_num, HNK.out, HS3, HB⟩
          case measure => have := HNK.out; first | (simp [intOf]; done) | (simp [intOf]; omega)
    · obtain rfl : n = k := by omega
      have hki : ¬ (n : Int) < (n : Int) := by omega
      have HCI : Hid (cycI gs = -1) := Lib.hid (by unfold cycI; rw [cycAt_none (fun x hx => HS.out x (by have := HK.out; omega))])
      clear hlt HS
      go_wp2_with fail
      go_ret
      exact ⟨ret_int HCI.out.symm, HB2.out.trans (HB.out.mono HB2.out.size)⟩
end Go.Proofs.Ythgfomjmkmkhkaa
