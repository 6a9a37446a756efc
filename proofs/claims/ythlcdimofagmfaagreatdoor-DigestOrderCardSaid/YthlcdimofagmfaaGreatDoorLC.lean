/-
  List at one release whose module is m v1.0.0. Conditions: the table of powers of ten, internal/bytealg.MaxLen holds some number.
-/
import Derived.Test.YthlcdimofagmfaaGreatDoorLAB
import Derived.WideMake
namespace Go.Proofs.YthlcdimofagmfaaGreatDoor
open Go.RowKit Go.Sort Go.Lib Go.Shelf Go.Proofs
set_option linter.unusedSimpArgs false
set_option linter.unusedVariables false
theorem map_keep {w w' : World} {b : Nat} {es : Array MapEntry} {c : Nat} (h : w.heap[b]? = some (.map es c)) (hb : Below w.heap.size w w') : w'.heap[b]? = some (.map es c) := by
  rw [hb.block _ (Array.getElem?_eq_some_iff.1 h).1]; exact h
theorem putMap_at {w : World} {b : Nat} (h : b < w.heap.size) (es : List MapEntry) (clock : Nat) : (putMap w b es clock).heap[b]? = some (.map es.toArray clock) := by
  unfold putMap; simp [h]
theorem putMap_gb (w : World) (b : Nat) (es : List MapEntry) (clock : Nat) : w.grownBy (putMap w b es clock) (some b) :=
  ⟨rfl, rfl, rfl, by simp [putMap], fun i _ hi => by
    have hne : b ≠ i := fun e => hi (by rw [e])
    simp [putMap, hne]⟩
theorem map_gb {w w' : World} {b : Nat} {r : Option Nat} {es : Array MapEntry} {c : Nat} (h : w.heap[b]? = some (.map es c)) (hg : w.grownBy w' r) (hne : some b ≠ r) : w'.heap[b]? = some (.map es c) :=
  (hg.block b (Array.getElem?_eq_some_iff.1 h).1 hne).trans h
/-- the module's box, and the map -/
structure RL (w : World) (p m : Nat) (T : ByteArray) (W : World) : Prop where
  bel : Below w.heap.size w W
  c0 : W.cell? ⟨p, 0, none⟩ = some (.string ⟨#[109]⟩)
  c1 : W.cell? ⟨p, 1, none⟩ = some (.int .i64 1)
  c2 : W.cell? ⟨p, 2, none⟩ = some (.int .i64 0)
  c3 : W.cell? ⟨p, 3, none⟩ = some (.int .i64 0)
  mp : W.heap[m]? = some (.map #[⟨mdk xm, .string T, 0⟩] 1)
theorem RL.up {w W W' : World} {p m : Nat} {T : ByteArray} (h : RL w p m T W) (hb : Below W.heap.size W W') : RL w p m T W' :=
  ⟨h.bel.trans (hb.mono h.bel.size), cell_keep h.c0 hb, cell_keep h.c1 hb, cell_keep h.c2 hb, cell_keep h.c3 hb, map_keep h.mp hb⟩
theorem RL.drew {w W : World} {p m : Nat} {T : ByteArray} (h : RL w p m T W) : RL w p m T W.drew := h.up (Below.refl _ _).drew
theorem RL.alloc {w W : World} {p m : Nat} {T : ByteArray} (h : RL w p m T W) (o : Obj) : RL w p m T (W.alloc o) := h.up (bal W o)
theorem RL.app {w W W' : World} {p m : Nat} {T : ByteArray} (h : RL w p m T W) (hg : W.grownBy W' (Value.slice none 0 0).ownBlock) : RL w p m T W' := h.up ((Below.refl _ _).grown hg (Nat.le_refl _) (fun k hk => by cases hk))
theorem RL.all {w W : World} {p m : Nat} {T : ByteArray} (h : RL w p m T W) : W.cell? ⟨p, 0, none⟩ = some (.string ⟨#[109]⟩) ∧ W.cell? ⟨p, 1, none⟩ = some (.int .i64 1) ∧ W.cell? ⟨p, 2, none⟩ = some (.int .i64 0) ∧ W.cell? ⟨p, 3, none⟩ = some (.int .i64 0) ∧
    (Instr.lookup 70 (.map (some m)) (.agg #[.string ⟨#[109]⟩, .int .i64 1, .int .i64 0, .int .i64 0]) false).run Tryz.prog W = .ok (.string T) W := ⟨h.c0, h.c1, h.c2, h.c3, look70 (x := xm) h.mp⟩
/-- append of one string to nothing, as a step of a region that draws -/
theorem step_append_s1 {ops : Array Oper} {o : Oper} {a : Act} {w : World} {K : Act → World → Prop} {Q : Exit → Act → World → Prop} {E : Prop} (hgd : o.guard = none) (s x : Operand)
    (ho : o.op = .call { callee := .builtin .append, args := #[s, x], argTypes := #[45, 45] }) (u : ByteArray) (hs : a.eval s = .slice none 0 0)
    (b : Nat) (hx : a.eval x = .slice (some ⟨b, 0, none⟩) 1 1) (hb : w.heap[b]? = some (.cells #[.string u] 9 (0, 0)))
    (h : ∀ v' w', Hid (w'.ownsRow w.heap.size 9 1 v' 1 [.string u]) → w.grownBy w' (Value.slice none 0 0).ownBlock → K (a.put o.dst v') w') :
    if Region.wanted o (yielded ops a.tmps) = true then Oper.wp Tryz.prog o a w K Q else E := by
  have hw : Region.wanted o (yielded ops a.tmps) = true := by simp [Region.wanted, hgd]
  rw [if_pos hw]
  obtain ⟨i0, hi, hz0, hz1, hz2⟩ := info_parts info9
  refine wp_append_own w s x 45 ho w.heap.size 9 i0 (.string ⟨#[]⟩) 1 16 Tryz.underlying45 hi hz0 hz1 hz2 rfl (by decide) (.slice none 0 0) 0 [] hs ⟨rfl, .inl ⟨rfl, rfl⟩⟩ ⟨b, 0, none⟩ 1 1 [.string u] hx rfl ?_ (by intro v hv; simp at hv; subst hv; rfl) ?_ ?_ (Nat.le_refl _) ?_
  · intro j v hj
    match j, hj with
    | 0, hj => simp at hj; subst hj; rw [show (⟨b, 0, none⟩ : Addr).add 0 = ⟨b, 0, none⟩ from rfl, Lib.cell_of_heap hb]; rfl
    | j + 1, hj => simp at hj
  · unfold maxLen; omega
  · omega
  · intro v' w' h1 h2 _
    exact h v' w' (Lib.hid h1) h2
def ListIs (s : ByteArray) (w : World) (e : Ending) (w' : World) : Prop :=
  ∃ g c, e = .returned (.tuple #[.slice (some ⟨g, 0, none⟩) 1 c, .int .i64 0]) ∧ w.heap.size ≤ g ∧ w'.cell? ⟨g, 0, none⟩ = some (.string s) ∧ Below w.heap.size w w'
set_option maxRecDepth 100000 in
set_option maxHeartbeats 4000000 in
theorem list_one (g0 : Nat) (A2 : Option Addr) (c2 : Nat) (S : List Src) (T : ByteArray) (w : World) (hM : Mx w) (hT : P10 w) (hB : B6 w g0 xm none 0 0 A2 S.length c2)
    (hS : RN w w.heap.size A2 S) (hf2 : Plain A2 c2) (hSl : S.length ≤ 1000) (hsz : ∀ y ∈ S, y.1.size ≤ 100000 ∧ y.2.size ≤ 1000000) (hR : relOut xm [] S = (T, 0)) (hTl : T.size = 18) :
    Calls Tryz.prog 21 #[.slice (some ⟨g0, 0, none⟩) 1 1] w (ListIs (nmB ++ ⟨#[32]⟩ ++ T) w) := by
  have hb0 := bal w (.map #[] 0)
  have hb1 := hb0.trans ((bal (w.alloc (.map #[] 0)) (rblk xm none 0 0 A2 S.length c2 40)).mono (by simp))
  have HB1 := Lib.hid hb1
  have KR := Lib.hid (release_any xm none A2 0 c2 [] S ((w.alloc (.map #[] 0)).alloc (rblk xm none 0 0 A2 S.length c2 40)) (hM.keep hb1 hM.1) (P10.keep hT hb1) (rm_nil _ _ _) (.inl (by unfold Plain; simp)) (by simp) (hS.up hb1) (.inl hf2) hSl hsz)
  have hx := B6.new (w.alloc (.map #[] 0)) xm none A2 0 0 S.length c2 40
  rw [show (w.alloc (.map #[] 0)).heap.size = w.heap.size + 1 by simp] at hx
  have HX := Lib.hid hx
  clear hx
  have HMP := Lib.hid (show ((w.alloc (.map #[] 0)).alloc (rblk xm none 0 0 A2 S.length c2 40)).heap[w.heap.size]? = some (.map #[] 0) from map_keep (heap_alloc_new w _) (bal _ _))
  have HM := Lib.hid hM
  have HT := Lib.hid hT
  have HZ := Lib.hid hTl
  rw [hR] at KR
  obtain ⟨z0, z1, z2, z3, z4, z5⟩ := hB.keep hb0
  clear hb0 hb1 hM hT hS hf2 hSl hsz hR hTl
  generalize S.length = sl at *
  unfold rblk at *
  unfold rl at *
  simp only [xm, List.length_nil] at *
  have hmk := run_makeMap_plain (P := Tryz.prog) w 70
  go_enter Tryz.func21, Tryz.ntmps21
  go_wp2_with fail
  refine wp_loop_rounds 2 ?_
  rw [rounds_succ]; go_wp2_with fail
  obtain ⟨y0, y1, y2, y3, y4, y5⟩ := HX.out
  clear z0 z1 z2 z3 z4 z5 hmk
  go_wp2_with fail
  refine KR.out.mono ?_
  rintro e w1 ⟨rfl, hb1⟩
  obtain ⟨q0, q1, q2, q3, q4, q5⟩ := B6.keep HX.out hb1
  have hmp := map_keep HMP.out hb1
  have HB := Lib.hid (HB1.out.trans (hb1.mono HB1.out.size))
  have hlt : w.heap.size < w1.heap.size := (Array.getElem?_eq_some_iff.1 hmp).1
  have hlt1 : w.heap.size + 1 < w1.heap.size := by have := hb1.size; simp at this; omega
  clear hb1 y0 y1 y2 y3 y4 y5 KR HX HMP HB1
  have hu := upd70 hmp xm (.string T)
  simp only [xm] at hu
  go_upto_region 9 with (fail)
  have hpm := putMap_at hlt [⟨mdk xm, .string T, 0⟩] (0 + 1)
  have hgb := putMap_gb w1 w.heap.size [⟨mdk xm, .string T, 0⟩] (0 + 1)
  have p0 := hgb.cell q0 (by simp)
  have p1 := hgb.cell q1 (by simp)
  have p2 := hgb.cell q2 (by simp)
  have p3 := hgb.cell q3 (by simp)
  have HB4 := Lib.hid (HB.out.grown hgb HB.out.size (fun k hk => by cases hk; exact Nat.le_refl _))
  have HLT := Lib.hid (show w.heap.size + 1 < (putMap w1 w.heap.size [⟨mdk xm, .string T, 0⟩] (0 + 1)).heap.size by simpa [putMap] using hlt1)
  clear hmp hgb HB hlt hlt1 q4 q5
  simp only [xm] at *
  go_upto_region 10 with (fail)
  clear hu q0 q1 q2 q3
  generalize putMap w1 w.heap.size _ _ = w4 at *
  obtain ⟨i0, hi, hz0, hz1, hz2⟩ := info_parts info25
  have HPM := Lib.hid hpm
  clear hpm
  have hown : w4.ownsRow w4.heap.size 34 4 (.slice none 0 0) 0 [] := ⟨rfl, .inl ⟨rfl, rfl⟩⟩
  go_wp2_with (at_builtin; refine wpList_append_own _ rfl _ _ 35 rfl w4.heap.size 34 i0 (.agg #[.string ⟨#[]⟩, .int .i64 0, .int .i64 0, .int .i64 0]) 4 40 Tryz.underlying35 hi hz0 hz1 hz2 rfl (by decide) (.slice none 0 0) 0 [] rfl (hown.alloc _) ⟨w4.heap.size, 0, none⟩ 1 1 (mc xm) rfl rfl (fun j u hj => by rw [show (⟨w4.heap.size, 0, none⟩ : Addr).add j = ⟨w4.heap.size, j, none⟩ by simp [Addr.add]; exact fun e => e.symm, Lib.cell_of_heap (heap_alloc_new w4 _), ← Array.getElem?_toList]; exact hj) (mc_one xm) (by unfold maxLen; omega) (by omega) (by simp) ?_)
  intro v5 w5 hO5 hg5 _
  have HB5 := Lib.hid ((HB4.out.alloc HB4.out.size (.cells #[.string ⟨#[109]⟩, .int .i64 1, .int .i64 0, .int .i64 0] 34)).grown hg5 (by simp; have := HB4.out.size; omega) (fun k hk => by cases hk))
  have hpm5 := map_gb (map_keep HPM.out (bal w4 _)) hg5 (by simp [Value.ownBlock])
  have HW4 := Lib.hid (show w.heap.size ≤ w4.heap.size from HB4.out.size)
  obtain ⟨q, d, rfl⟩ : ∃ q d, v5 = .slice (some ⟨q, 0, none⟩) 1 d := by
    rcases own_cell hO5 with ⟨_, e⟩ | ⟨q, d, e, _⟩
    · cases e
    · exact ⟨q, d, e⟩
  have KS := Lib.hid (sort_own [xm] q d w4.heap.size w5 (by simp) (by simpa [flatM_cons, flatM_nil] using hO5))
  have HL5 := Lib.hid (hO5.lt q rfl)
  clear hO5 hg5 hown hi hz0 hz1 hz2 p0 p1 p2 p3 HPM
  go_wp2_with fail
  have hlm := fun ty => run_len_map (P := Tryz.prog) (w := w5) 70 ty w.heap.size _ _ (by kernel_rfl) hpm5
  simp only [List.size_toArray, List.length_singleton] at hlm
  rw [rounds_succ]; go_wp2_with fail
  refine KS.out.mono ?_
  rintro e w6 ⟨rfl, ⟨hr6, _⟩, hb6⟩
  have HPM6 := Lib.hid (show w6.heap[w.heap.size]? = _ from (hb6.block _ (by have := HLT.out; omega)).trans hpm5)
  rw [show sortM [xm] = [xm] by kernel_rfl] at hr6
  have s0 := rm_cells hr6 0 _ rfl
  have s1 := rm_cells hr6 1 _ rfl
  have s2 := rm_cells hr6 2 _ rfl
  have s3 := rm_cells hr6 3 _ rfl
  simp only [xm, Nat.zero_add, Nat.add_zero] at s0 s1 s2 s3
  have HB6 := Lib.hid (HB5.out.trans (hb6.mono HW4.out))
  have HBX := Lib.hid (HB6.out.alloc HB6.out.size (.cells #[.string ⟨#[109]⟩, .int .i64 1, .int .i64 0, .int .i64 0] 34))
  have HRL := Lib.hid (RL.mk (T := T) (p := w6.heap.size) (m := w.heap.size) HBX.out (by simp) (by simp) (by simp) (by simp) (map_keep HPM6.out (bal _ _)))
  have KN : Hid (∀ W, Below w.heap.size w W → Calls Tryz.prog 40 #[.agg #[.string ⟨#[109]⟩, .int .i64 1, .int .i64 0, .int .i64 0]] W fun e w' => e = .returned (.string nmB) ∧ Below W.heap.size W w') := Lib.hid (fun W h => name_xm W (HM.out.keep h HM.out.1) (P10.keep HT.out h))
  have hnb : nmB.size = 8 := by kernel_rfl
  have HSZ := HZ.out
  clear KS hr6 hb6 hpm5 hlm HPM6 HB5 HB4 HLT
  go_wp2_with fail
  refine wp_loop_rounds 2 ?_
  rw [rounds_succ]; go_wp2_with fail
  clear s0 s1 s2 s3 HB6 HBX
  generalize w6.alloc _ = W0 at *
  generalize w6.heap.size = bp at *
  have hrl := HRL.out
  obtain ⟨x0, x1, x2, x3, x4⟩ := hrl.all
  go_region_held3 (fun w' => w'.cell? ⟨bp, 0, none⟩ = some (.string ⟨#[109]⟩) ∧ w'.cell? ⟨bp, 1, none⟩ = some (.int .i64 1) ∧ w'.cell? ⟨bp, 2, none⟩ = some (.int .i64 0) ∧ w'.cell? ⟨bp, 3, none⟩ = some (.int .i64 0) ∧ (Instr.lookup 70 (.map (some w.heap.size)) (.agg #[.string ⟨#[109]⟩, .int .i64 1, .int .i64 0, .int .i64 0]) false).run Tryz.prog w' = .ok (.string T) w')
    (first | assumption | exact RL.all (w := w) (by assumption) | exact RL.all (w := w) (RL.drew (by assumption)) | exact RL.all (w := w) (RL.alloc (by assumption) _) | fail)
    (first
      | (go_at_call 40; (with_reducible refine (KN.out _ (RL.bel (w := w) (T := T) (p := bp) (m := w.heap.size) (by repeat' (first | assumption | refine RL.drew ?_)))).mono ?_); rintro e w7 ⟨rfl, hb7⟩; have hr7 := RL.up (w := w) (T := T) (p := bp) (m := w.heap.size) (by repeat' (first | assumption | refine RL.drew ?_)) hb7)
      | (refine step_append_s1 rfl (.tmp 53) (.tmp 61) rfl (nmB ++ ⟨#[32]⟩ ++ T) rfl _ rfl (heap_alloc_new _ _) ?_; intro v9 w9 HO9 hg9; have hr9 := RL.app (w := w) (T := T) (p := bp) (m := w.heap.size) (by repeat' (first | assumption | refine RL.drew ?_ | refine RL.alloc ?_ _)) hg9))
  all_goals
    have HB9 := Lib.hid hr9.bel
    obtain ⟨g, c, rfl, hgg, hcg⟩ : ∃ g c, v9 = .slice (some ⟨g, 0, none⟩) 1 c ∧ Hid (w.heap.size ≤ g) ∧ Hid (w9.cell? ⟨g, 0, none⟩ = some (.string (nmB ++ ⟨#[32]⟩ ++ T))) := by
      rcases own_cell HO9.out with ⟨_, e⟩ | ⟨q, d, e, hq, _, _, _, hc⟩
      · cases e
      · exact ⟨q, d, e, Lib.hid (by have h7 := hr7.bel.size; simp at hq; omega), Lib.hid (hc 0 _ rfl)⟩
    clear hr9 hg9 HO9
    go_wp2_with fail
    rw [rounds_succ]; go_wp2_with fail
    go_ret2
    exact ⟨g, c, rfl, hgg.out, hcg.out, HB9.out⟩
end Go.Proofs.YthlcdimofagmfaaGreatDoor
