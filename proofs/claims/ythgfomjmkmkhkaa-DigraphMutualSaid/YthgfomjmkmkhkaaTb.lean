/-
  Topo of the program. Conditions: the slice reads as a graph of at most 900 nodes with at most 1000 successors each.
-/
import Derived.Test.YthgfomjmkmkhkaaTa
namespace Go.Proofs.Ythgfomjmkmkhkaa
open Go.RowKit
set_option linter.unusedSimpArgs false
set_option linter.unusedVariables false
theorem below_of {B : Nat} {w a b : World} (h : Below B w a) (k : Below B w b) (hs : a.heap.size ≤ b.heap.size) : Below B a b :=
  ⟨k.os.trans h.os.symm, k.tape.trans h.tape.symm, k.output.trans h.output.symm, hs, fun i hi => (k.block i hi).trans (h.block i hi).symm⟩
theorem TC.start {w wr : World} {n : Nat} {f : Nat → Nat} (T : TC w wr n f) : ∃ W, TW w (wr.alloc (.cells #[.slice none 0 0] 49)) n W wr.heap.size (.slice none 0 0) [] (.slice none 0 0) [] ∧ W.length = n ∧ ∀ b, b < n → W[b]? = some ((f b : Nat) : Int) := by
  obtain ⟨W, h1, h2⟩ := T.row
  have hs := T.size
  have hb : Below wr.heap.size wr (wr.alloc (.cells #[.slice none 0 0] 49)) := (Below.refl _ _).alloc (Nat.le_refl _) _
  have hn := (MapKept.heap_alloc wr (.cells #[.slice none 0 0] 49)).1
  exact ⟨W, ⟨T.below.trans (hb.mono T.below.size), hs, by rw [hb.cell (show w.heap.size + 1 < wr.heap.size by omega)]; exact T.box, ir_below h1 hb, ⟨by omega, by simp, by rw [Lib.cell_of_heap hn]; rfl, by simp only [World.frozen?]; rw [hn]; rfl, World.ownsRow_nil _ _ _ _⟩, World.ownsRow_nil _ _ _ _, by intro j hj; simp [Value.ownBlock] at hj⟩, ir_len h1, h2⟩
theorem topo_stop {g : Gr} {done : List Nat} (h : nxt g done = none) : ∀ k, topo g k done = done
  | 0 => rfl
  | k + 1 => topo_none h
set_option maxRecDepth 100000 in
set_option maxHeartbeats 8000000 in
theorem ptopo_any (A : Option Addr) (c : Nat) (gs : Gr) (w : World) (h : RG w w.heap.size A gs) (hl : gs.length ≤ 900) (hl2 : ∀ l ∈ gs, l.length ≤ 1000) :
    Calls Try.prog 25 #[.slice A gs.length c] w (GivesIB (ints (topoR gs).1) (topoR gs).2 w) := by
  have HX := Lib.hid h
  have HL := Lib.hid hl2
  have HT0 := Lib.hid (tc_start w gs.length (by omega))
  have HMK := Try.make23 gs.length (by omega) w
  have HW := Lib.hid (fun out b => wt_le hl2 out b)
  have CED : Hid (∀ W1, TC w W1 gs.length (fun _ => 0) → Calls Try.prog 33 #[.slice A gs.length c, .func (.func 41) #[] #[.pointer (some ⟨w.heap.size + 1, 0, none⟩)]] W1 fun e w' => e = .returned (.tuple #[]) ∧ TC w w' gs.length (fun b => wt gs [] b)) := Lib.hid (fun W1 T1 =>
    (edges_41 (.pointer (some ⟨w.heap.size + 1, 0, none⟩)) (fun n j W' => n ≤ gs.length ∧ TC w W' gs.length (cw gs n j) ∧ W1.heap.size ≤ W'.heap.size) A c gs w.heap.size W1 (h.below T1.below) (by omega) hl2
      ⟨by omega, T1.congr (fun b _ => (cw_zero gs b).symm), Nat.le_refl _⟩ (fun n j W' S => below_of T1.below S.2.1.below S.2.2)
      (fun n j W' W2 S hb => ⟨S.1, S.2.1.keep hb, Nat.le_trans S.2.2 hb.size⟩)
      (fun n W' hn S => ⟨hn, S.2.1.congr (fun b _ => cw_next (Nat.le_refl _)), S.2.2⟩)
      (fun n j x W' hx hno S => ⟨S.1, S.2.1.congr (fun b hb => by rw [cw_step hx, if_neg (fun e => hno b e hb)]; rfl), S.2.2⟩)
      (fun n j m W' hn hx hm S => (count_any w W' gs.length n m (cw gs n j) S.2.1 hm (by have := cw_le hl2 n j m; omega)).mono (by
        rintro e w2 ⟨rfl, hc, hz⟩
        refine ⟨rfl, S.1, hc.congr (fun b hb => ?_), Nat.le_trans S.2.2 hz⟩
        rw [cw_step hx]
        by_cases hbm : b = m
        · subst hbm; rw [if_pos rfl, if_pos rfl]
        · rw [if_neg hbm, if_neg (by omega)]; rfl))).mono (by
      rintro e w2 ⟨rfl, _, hc, _⟩
      exact ⟨rfl, hc.congr (fun b _ => cw_end gs b)⟩))
  obtain ⟨k, hk⟩ : ∃ k, gs.length = k := ⟨_, rfl⟩
  have HK := Lib.hid hk
  rw [hk] at hl HT0 HMK CED ⊢
  have HIS := Lib.hid (fun (x : Int) (W : World) => isnode_any A c gs x W (by rw [hk]; omega))
  rw [hk] at HIS
  clear h hl2 hk
  go_enter Try.func25, Try.ntmps25
  go_wp2_with fail
  refine (CED.out _ HT0.out).mono ?_
  rintro e w1 ⟨rfl, hT1⟩
  obtain ⟨W, hW, hWl, hWf⟩ := hT1.start
  have HW1 := Lib.hid hW
  have HTS : Hid (TS gs 0 W []) := Lib.hid (ts_start (by rw [hWl]; exact HK.out.symm) (fun b hb => hWf b (by have := HK.out; omega)))
  obtain ⟨q, hq⟩ : ∃ q, w1.heap.size = q := ⟨_, rfl⟩
  rw [hq] at HW1
  clear hT1 hW hWl hWf HT0 CED HMK
  go_wp2_with fail
  generalize w1.alloc (.cells #[.slice none 0 0] 49) = w2 at *
  clear hq
  have HQ2 := Lib.hid HW1.out.q2
  go_loopw [21] (fun s21 wr => ∃ (i : Nat) (v : Value) (H : List Int), s21 = .int .i64 (i : Int) ∧ i ≤ k ∧ Hid (TW w wr k W q v H (.slice none 0 0) []) ∧ Hid (TS gs i W H)) (fun s21 _ => (k - intOf s21).toNat)
  case atStart => exact ⟨0, _, _, rfl, by omega, HW1, HTS⟩
  case round =>
    clear HW1 HTS
    obtain ⟨i, v, H, rfl, hi, HT, HS⟩ := hrel
    have HHL := Lib.hid (show H.length ≤ k from ints_nodup HS.out.hn (fun x hx => by
      obtain ⟨b, e, _, hb, _⟩ := (HS.out.hm x).1 hx
      exact ⟨b, e, by have := HK.out; omega⟩))
    by_cases hlt : i < k
    · have hki : (i : Int) < (k : Int) := by omega
      have hk0 : (0 : Int) ≤ (i : Int) := by omega
      have HIK := Lib.hid (show i + 1 ≤ k by omega)
      have HILT := Lib.hid (show i < gs.length by have := HK.out; omega)
      have hbx := HT.out.box
      obtain ⟨u, hu⟩ : ∃ u, W[i]? = some u := ⟨_, List.getElem?_eq_getElem (by rw [HS.out.wl]; exact HILT.out)⟩
      obtain ⟨_, hcu, _⟩ := ir_at HT.out.row i hlt u hu
      have HU := Lib.hid hu
      have CP := Lib.hid (push_any q (q + 1) v H (i : Int) wr HT.out.qs HT.out.qs.qs (by have := HHL.out; omega) HS.out.hp)
      clear hlt hu
      by_cases hu0 : u = 0
      · subst hu0
        go_wp2_with fail
        refine CP.out.mono ?_
        rintro e w3 ⟨rfl, v3, ys, hq3, hp3, hs3⟩
        have HT3 := Lib.hid (HT.out.step hs3 hq3)
        have HS3 := Lib.hid (ts_push HS.out HILT.out HU.out hp3)
        clear hq3 hp3 hs3 CP hbx hcu
        go_wp2_with fail
        go_roundw
        case rel => exact ⟨i + 1, _, _, by go_num, HIK.out, HT3, HS3⟩
        case measure => have := HIK.out; first | (simp [intOf]; done) | (simp [intOf]; omega)
      · have q1 : (u == 0) = false := beq_eq_false_iff_ne.2 hu0
        have HS3 := Lib.hid (ts_skip HS.out HU.out hu0)
        clear CP
        go_wp2_with fail
        go_roundw
        case rel => exact ⟨i + 1, _, _, by go_num, HIK.out, HT, HS3⟩
        case measure => have := HIK.out; first | (simp [intOf]; done) | (simp [intOf]; omega)
    · obtain rfl : i = k := by omega
      have hki : ¬ (i : Int) < (i : Int) := by omega
      have HQ0 := Lib.hid (show TS gs gs.length W H by rw [HK.out]; exact HS.out).q
      have HT0 := HT
      have HTP0 : Hid (topo gs (i - ([] : List Nat).length) [] = topo gs i []) := Lib.hid rfl
      clear hlt HS HHL
      go_wp2_with fail
      clear HT
      go_loopw [7] (fun s7 wr => ∃ (W : List Int) (v : Value) (H : List Int) (vo : Value) (O : List Nat), vo = s7 ∧ Hid (TW w wr i W q v H vo O) ∧ Hid (TQ gs O W H) ∧ Hid (topo gs (i - O.length) O = topo gs i [])) (fun s7 _ => i - slen s7)
      case atStart => exact ⟨_, _, _, _, _, rfl, HT0, HQ0, HTP0⟩
      case round =>
        clear HT0 HQ0 HTP0
        obtain ⟨W, v, H, vo, O, rfl, HT, HTQ, HTP⟩ := hrel
        obtain ⟨wr9, rfl⟩ : ∃ x, x = wr := ⟨_, rfl⟩
        have HHL := Lib.hid (show H.length ≤ i from ints_nodup HTQ.out.hn (fun x hx => by
          obtain ⟨b, e, hb, _⟩ := (HTQ.out.hm x).1 hx
          exact ⟨b, e, by have := HK.out; omega⟩))
        have HOL := Lib.hid (show O.length ≤ i by have := pig gs.length O HTQ.out.nod HTQ.out.lt; have := HK.out; omega)
        have hbq := HT.out.qs.box
        obtain ⟨Av, cv, hv⟩ := qv HT.out.qs
        obtain ⟨Ao, co, hvo⟩ := own_vis HT.out.ord
        have HVO := Lib.hid hvo
        clear hvo
        obtain ⟨hl0, hh0⟩ : ∃ l, H.length = l := ⟨_, rfl⟩
        have HHH := Lib.hid hh0
        rw [hh0] at hv
        subst hv
        clear hh0
        go_wp2_with fail
        refine (len_q Av hl0 cv).mono ?_
        rintro e w3 ⟨rfl, rfl⟩
        have HOR := Lib.hid HT.out.ord
        obtain ⟨lo, hlo⟩ : ∃ l, O.length = l := ⟨_, rfl⟩
        have HLO := Lib.hid hlo
        have hlo9 : lo ≤ i := by have := HOL.out; omega
        by_cases hz : hl0 = 0
        · subst hz
          have hH : H = [] := List.eq_nil_of_length_eq_zero HHH.out
          subst hH
          have HZ : Hid (topo gs i [] = O) := Lib.hid (by rw [← HTP.out]; exact topo_stop (tq_none HTQ.out) _)
          have hvo := HVO.out
          rw [hlo] at hvo
          subst hvo
          have HTR : Hid (topoR gs = if lo = i then (O, true) else ([], false)) := Lib.hid (by unfold topoR; rw [HK.out, HZ.out, HLO.out])
          clear hbq hlo HTQ HTP HHL HHH
          by_cases hlt : lo < i
          · have hki2 : (lo : Int) < (i : Int) := by omega
            have HTR2 : Hid (topoR gs = ([], false)) := Lib.hid (by rw [HTR.out, if_neg (by omega)])
            clear hlt HTR
            go_wp2_with fail
            go_ret2
            rw [HTR2.out]
            exact ⟨none, 0, rfl, ⟨fun k hk => by simp [ints] at hk⟩, HT.out.below⟩
          · have hle : lo = i := by omega
            have hki2 : ¬ (lo : Int) < (i : Int) := by omega
            have HTR2 : Hid (topoR gs = (O, true)) := Lib.hid (by rw [HTR.out, if_pos hle])
            clear hlt HTR hle
            go_wp2_with fail
            go_ret2
            rw [HTR2.out]
            refine ⟨Ao, co, by rw [ints_len, HLO.out]; rfl, ?_, HT.out.below⟩
            have h9 := HOR.out
            rw [← HLO.out] at h9
            exact ri_own (by rw [ints_len]; exact h9)
        · obtain ⟨n0, rfl⟩ : ∃ n0, hl0 = n0 + 1 := ⟨hl0 - 1, by omega⟩
          have hz2 : (0 : Int) < ((n0 + 1 : Nat) : Int) := by omega
          have CP := Lib.hid (pop_any q (q + 1) _ H n0 w3 HT.out.qs HHH.out (by have := HHL.out; omega) HTQ.out.hp)
          clear hz hlo hbq
          go_wp2_with fail
          refine CP.out.mono ?_
          rintro e w4 ⟨x, rfl, v4, Y, hq4, hp4, hs4⟩
          obtain ⟨n, rfl, hnx, hTPn⟩ := tq_nxt HTQ.out hp4
          have HT4 := Lib.hid (HT.out.step hs4 hq4)
          have HTPn := Lib.hid hTPn
          have HNX := Lib.hid hnx
          have HNL := Lib.hid (hTPn.lt n (by simp))
          have HOL2 : Hid (O.length + 1 ≤ i) := Lib.hid (by have := pig gs.length _ hTPn.nod hTPn.lt; rw [List.length_append] at this; simp at this; have := HK.out; omega)
          have hta : ∀ w', (Instr.typeAssert (.iface 3 (.int .i64 (n : Int))) 20 3 false).run Try.prog w' = .ok (.int .i64 (n : Int)) w' := fun w' => as3 _ w'
          have HTA := Lib.hid (HT4.out.keep ((Below.refl _ _).alloc (Nat.le_refl _) (.cells #[.int .i64 (n : Int)] 3)))
          have HQS := Lib.hid HTA.out.qs.qs
          have hlo8 : O.length ≤ 1000 := by have := HOL.out; omega
          clear hq4 hp4 hs4 hnx hTPn CP
          go_wp2_with (at_builtin; refine wpList_append_int_at rfl (.tmp 45) (.tmp 47) rfl (q + 1) vo O n rfl HTA.out.ord _ rfl ((MapKept.heap_alloc _ _).1) hlo8 HQS.out ?_)
          intro v5 w5 HO5 hg5 hd5
          have hT5 := HTA.out.app (O' := O ++ [n]) hg5 (hd5.imp id (fun h => h.trans (by simp))) (by rw [List.length_append]; exact HO5.out)
          have HT5 := Lib.hid hT5
          obtain ⟨ad, A1, c1, hA, hbk, hga0, HRI⟩ := HX.out.suc_at HNL.out
          have hga : w5.cell? (ad.add n) = some (.slice A1 (suc gs n).length c1) := by rw [hT5.below.cell (by rw [block_of_add]; exact hbk)]; exact hga0
          subst hA
          have hgl : (suc gs n).length ≤ 1000 := suc_len HL.out
          have HRI2 := Lib.hid HRI
          obtain ⟨ys, hys⟩ : ∃ ys, suc gs n = ys := ⟨_, rfl⟩
          rw [hys] at hgl HRI2 hga
          have HYS := Lib.hid hys
          have hn0 : (0 : Int) ≤ (n : Int) := by omega
          have hn1 : (n : Int) < (i : Int) := by have := HNL.out; have := HK.out; omega
          clear HO5 hg5 hd5 hT5 hga0 hbk HRI hys HTA HT4
          go_wp2_with fail
          clear hga hn0 hn1
          go_loopw [54] (fun s54 wr => ∃ (j : Nat) (W : List Int) (v : Value) (H : List Int), s54 = .int .i64 (j : Int) ∧ j ≤ ys.length ∧ Hid (TW w wr i W q v H v5 (O ++ [n])) ∧ Hid (TP gs (O ++ [n]) n j W H)) (fun s54 _ => (ys.length - intOf s54).toNat)
          case atStart => exact ⟨0, _, _, _, rfl, by omega, HT5, HTPn⟩
          case round =>
            clear HT5 HTPn
            obtain ⟨j, W, v, H, rfl, hj, HT, HP⟩ := hrel
            obtain ⟨wr7, rfl⟩ : ∃ x, x = wr := ⟨_, rfl⟩
            by_cases hjl : j < ys.length
            · have hki : (j : Int) < (ys.length : Int) := by omega
              have hk0 : (0 : Int) ≤ (j : Int) := by omega
              have HJ1 := Lib.hid (show j + 1 ≤ ys.length by omega)
              obtain ⟨a1, hA1, _, c0⟩ := (HRI2.out.below HT.out.below).at_ j hjl
              subst hA1
              have HX9 : Hid ((suc gs n)[j]? = some ys[j]) := Lib.hid (by rw [HYS.out]; exact List.getElem?_eq_getElem hjl)
              generalize ys[j] = x at *
              have HI := Lib.hid (HIS.out x wr7)
              clear hjl
              go_wp2_with fail
              refine HI.out.mono ?_
              rintro e w8 ⟨rfl, hb8⟩
              have HT8 := Lib.hid (HT.out.keep hb8)
              clear hb8 HI HT c0
              by_cases hx : 0 ≤ x ∧ x < (i : Int)
              · obtain ⟨m, rfl⟩ : ∃ m : Nat, x = (m : Int) := ⟨x.toNat, by omega⟩
                rw [decide_eq_true hx.1, decide_eq_true hx.2]
                have hmi : m < i := by omega
                have hmk : m < gs.length := by have := HK.out; omega
                obtain ⟨u, hu, hmo, huv⟩ := tp_pos HP.out HX9.out hmk
                have hub : u ≤ 2000000 := by
                  have h1 := HW.out (O ++ [n]) m
                  have h2 : ((suc gs n).drop (j + 1)).count (m : Int) ≤ 1000 := Nat.le_trans (List.count_le_length) (Nat.le_trans (by simp) (suc_len HL.out (k := n)))
                  have := HK.out
                  omega
                obtain ⟨_, hcu, hfu⟩ := ir_at HT8.out.row m hmi _ hu
                have hbx := HT8.out.box
                have HU := Lib.hid hu
                have HMO := Lib.hid hmo
                have HUV := Lib.hid huv
                have HMK := Lib.hid hmk
                have HT9 := Lib.hid (HT8.out.set m (u : Int))
                have hw3 : ((u : Int) + 1 - 1) = (u : Int) := by omega
                have hx0 := hx.1
                have hx1 := hx.2
                have HHL8 := Lib.hid (show H.length ≤ i from ints_nodup HP.out.hn (fun x hx => by
                  obtain ⟨b, e, hb, _⟩ := (HP.out.hm x).1 hx
                  exact ⟨b, e, by have := HK.out; omega⟩))
                have CP := Lib.hid (push_any q (q + 1) v H (m : Int) _ HT9.out.qs HT9.out.qs.qs (by have := HHL8.out; omega) HP.out.hp)
                clear hx hu hmo huv hmk hmi
                by_cases hu0 : u = 0
                · subst hu0
                  go_wp2_with fail
                  refine CP.out.mono ?_
                  rintro e w10 ⟨rfl, v10, ys10, hq10, hp10, hs10⟩
                  have HT10 := Lib.hid (HT9.out.step hs10 hq10)
                  have HP10 := Lib.hid (tp_push HP.out HX9.out HMK.out HMO.out (by have h := HU.out; simpa using h) HUV.out hp10)
                  clear hq10 hp10 hs10 CP hcu hfu hbx HT9 HT8
                  go_wp2_with fail
                  go_roundw
                  case rel => exact ⟨j + 1, _, _, _, by go_num, HJ1.out, HT10, HP10⟩
                  case measure => have := HJ1.out; first | (simp [intOf]; done) | (simp [intOf]; omega)
                · have q1 : ((u : Int) == 0) = false := beq_eq_false_iff_ne.2 (by omega)
                  have HP10 := Lib.hid (tp_stay HP.out HX9.out HMK.out HMO.out HU.out HUV.out hu0)
                  clear CP
                  go_wp2_with fail
                  go_roundw
                  case rel => exact ⟨j + 1, _, _, _, by go_num, HJ1.out, HT9, HP10⟩
                  case measure => have := HJ1.out; first | (simp [intOf]; done) | (simp [intOf]; omega)
              · have qf : (decide (0 ≤ x) && decide (x < (i : Int))) = false := by
                  rw [← Bool.not_eq_true, Bool.and_eq_true, decide_eq_true_eq, decide_eq_true_eq]; exact hx
                rw [qf]
                have HP9 := Lib.hid (tp_skip HP.out HX9.out (fun b e hb => by have := HK.out; omega))
                clear hx qf HP
                go_wp2_with fail
                go_roundw
                case rel => exact ⟨j + 1, _, _, _, by go_num, HJ1.out, HT8, HP9⟩
                case measure => have := HJ1.out; first | (simp [intOf]; done) | (simp [intOf]; omega)
            · obtain rfl : j = ys.length := by omega
              have hki : ¬ (ys.length : Int) < (ys.length : Int) := by omega
              have HQ9 := Lib.hid (HP.out.q (by rw [HYS.out]; exact Nat.le_refl _))
              have HTP9 : Hid (topo gs (i - (O ++ [n]).length) (O ++ [n]) = topo gs i []) := Lib.hid (by
                rw [← HTP.out]
                have e1 : i - O.length = (i - (O ++ [n]).length) + 1 := by rw [List.length_append]; simp; have := HOL2.out; omega
                rw [e1]
                exact (topo_some HNX.out).symm)
              clear hjl HP
              go_wp2_with fail
              go_roundw
              case rel => exact ⟨_, _, _, _, _, rfl, HT, HQ9, HTP9⟩
              case measure =>
                obtain ⟨A9, c9, hv9⟩ := own_vis HT.out.ord
                rw [hv9, HVO.out]
                simp [slen]
                have := HOL2.out
                omega
end Go.Proofs.Ythgfomjmkmkhkaa
