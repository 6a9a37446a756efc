/-
  The map of List: any entries. No condition.
-/
import Derived.Test.YthlcdimofagmfaaGreatDoorLC
import Derived.Test.YthlcdimofagmfaaGreatDoorLAB
namespace Go.Proofs.YthlcdimofagmfaaGreatDoor
open Go.RowKit Go.Sort Go.Lib Go.Shelf Go.Proofs
set_option linter.unusedSimpArgs false
set_option linter.unusedVariables false
/-- an entry: module, text, birth -/
abbrev En := Md × ByteArray × Nat
def ent (e : En) : MapEntry := ⟨mdk e.1, .string e.2.1, e.2.2⟩
def fnd (x : Md) : List En → Nat → Option (Nat × Value)
  | [], _ => none
  | e :: t, i => if x = e.1 then some (i, .string e.2.1) else fnd x t (i + 1)
theorem eqk (x y : Md) (w : World) : (Op.equal 34 (mdk x) (mdk y)).run Tryz.prog w = .ok (decide (x = y)) w := by
  show (Op.equalIn 10000 34 (md x) (md y)).run Tryz.prog w = _
  rw [eqMd]
theorem find_ask (x : Md) (w : World) : ∀ (es : List En) (i : Nat), (Instr.findAsking 34 (mdk x) (es.map ent) i).run Tryz.prog w = .ok (fnd x es i) w
  | [], i => rfl
  | e :: t, i => by
    rw [List.map_cons, Instr.findAsking, Sem.run_bind]
    show Result.andThen ((Op.equal 34 (mdk x) (mdk e.1)).run Tryz.prog w) _ = _
    rw [eqk, Result.andThen_ok]
    by_cases h : x = e.1
    · rw [if_pos (by simp [h])]; unfold fnd; rw [if_pos h]; rfl
    · rw [if_neg (by simp [h])]; unfold fnd; rw [if_neg h]; exact find_ask x w t (i + 1)
theorem find_key (x : Md) (es : List En) (w : World) : (Instr.findKey 34 (mdk x) (es.map ent)).run Tryz.prog w = .ok (fnd x es 0) w := by
  simp only [Instr.findKey, Sem.run_bind, run_underlying Tryz.underlying34, Result.andThen_ok]
  cases es with
  | nil => rfl
  | cons e t => exact find_ask x w (e :: t) 0
theorem fnd_none (x : Md) : ∀ (es : List En) (i : Nat), x ∉ es.map (·.1) → fnd x es i = none
  | [], _, _ => rfl
  | e :: t, i, h => by
    unfold fnd
    rw [if_neg (fun e' => h (by simp [e'])), fnd_none x t (i + 1) (fun h' => h (by simp at h' ⊢; exact .inr h'))]
theorem fnd_some (x : Md) : ∀ (es : List En) (i : Nat), x ∈ es.map (·.1) → ∃ j v, fnd x es i = some (i + j, v) ∧ ∃ e, es[j]? = some e ∧ e.1 = x ∧ v = .string e.2.1
  | [], _, h => by simp at h
  | e :: t, i, h => by
    unfold fnd
    by_cases hx : x = e.1
    · rw [if_pos hx]; exact ⟨0, _, rfl, e, rfl, hx.symm, rfl⟩
    · rw [if_neg hx]
      have ht : x ∈ t.map (·.1) := by
        rw [List.map_cons] at h
        rcases List.mem_cons.1 h with h | h
        · exact absurd h hx
        · exact h
      obtain ⟨j, v, h1, e', h2, h3, h4⟩ := fnd_some x t (i + 1) ht
      exact ⟨j + 1, v, by rw [h1, show i + 1 + j = i + (j + 1) by omega], e', by simpa using h2, h3, h4⟩
theorem same_mdk (x : Md) : Instr.sameBits 10000 (mdk x) (mdk x) = true := by
  rw [show (10000 : Nat) = 9998 + 1 + 1 from rfl]
  generalize 9998 = n
  simp [Instr.sameBits]
  obtain ⟨⟨d⟩, r⟩ := x
  exact beq_self_eq_true d
theorem stays (x : Md) (w : World) : (Instr.keyThatStays (mdk x) (mdk x)).run Tryz.prog w = .ok (mdk x) w := by
  unfold Instr.keyThatStays
  rw [if_pos (same_mdk x)]; rfl
/-- m[x] = T -/
theorem upd_any {w : World} {b : Nat} {es : List En} {clock : Nat} (h : w.heap[b]? = some (.map (es.map ent).toArray clock)) (x : Md) (T : ByteArray) :
    ∃ (es' : List En) (clock' : Nat), (Instr.mapUpdate 70 (.map (some b)) (mdk x) (.string T)).run Tryz.prog w = .ok () (putMap w b (es'.map ent) clock') ∧ (x ∉ es.map (·.1) → ∃ c, es' = es ++ [(x, T, c)]) ∧ (x ∈ es.map (·.1) → es'.map (·.1) = es.map (·.1)) := by
  by_cases hx : x ∈ es.map (·.1)
  · obtain ⟨j, v, hj, e, he, hex, _⟩ := fnd_some x es 0 hx
    rw [Nat.zero_add] at hj
    have hjl : j < es.length := (List.getElem?_eq_some_iff.1 he).1
    have hje : es[j] = e := (List.getElem?_eq_some_iff.1 he).2
    refine ⟨es.set j (x, T, e.2.2), clock, ?_, fun h => absurd hx h, fun _ => ?_⟩
    · have hf := find_key x es w
      rw [hj] at hf
      have hold : (((es.map ent).toArray[j]?).map (·.key)).getD (mdk x) = mdk x := by
        simp [he, ent, hex]
      have harr : ((es.map ent).toArray.modify j fun e => { e with key := mdk x, val := .string T }) = ((es.set j (x, T, e.2.2)).map ent).toArray := by
        apply Array.ext'
        simp only [Array.toList_modify, List.map_set]
        apply List.ext_getElem?
        intro i
        rw [List.getElem?_modify, List.getElem?_set]
        by_cases hij : j = i
        · subst hij
          simp [he, ent, hjl, hje]
        · simp [hij]
      simp only [Instr.mapUpdate, Sem.run_bind, run_underlying Tryz.underlying70, Result.andThen_ok, run_getObj h, chk34, hf, hold, stays, harr]
      unfold setObj
      simp only [Sem.run, h]
      rfl
    · apply List.ext_getElem?
      intro i
      rw [List.getElem?_map, List.getElem?_map, List.getElem?_set]
      by_cases hij : j = i
      · subst hij; rw [he]; simp [hjl, hex]
      · simp [hij]
  · refine ⟨es ++ [(x, T, clock)], clock + 1, ?_, fun _ => ⟨clock, rfl⟩, fun h => absurd h hx⟩
    have hf := find_key x es w
    rw [fnd_none x es 0 hx] at hf
    have harr : (es.map ent).toArray.push { key := mdk x, val := .string T, born := clock } = ((es ++ [(x, T, clock)]).map ent).toArray := by
      apply Array.ext'
      simp [ent]
    simp only [Instr.mapUpdate, Sem.run_bind, run_underlying Tryz.underlying70, Result.andThen_ok, run_getObj h, chk34, hf, harr]
    unfold setObj
    simp only [Sem.run, h]
    rfl
/-- m[x] -/
theorem look_any {w : World} {b : Nat} {es : List En} {clock : Nat} {x : Md} {T : ByteArray} (h : w.heap[b]? = some (.map (es.map ent).toArray clock)) {i : Nat} (hf : fnd x es 0 = some (i, .string T)) :
    (Instr.lookup 70 (.map (some b)) (mdk x) false).run Tryz.prog w = .ok (.string T) w := by
  have hk := find_key x es w
  rw [hf] at hk
  simp only [Instr.lookup, Sem.run_bind, run_underlying Tryz.underlying70, Result.andThen_ok, run_getObj h, Sem.run_pure, chk34, hk]
  rfl
end Go.Proofs.YthlcdimofagmfaaGreatDoor
namespace Go.Proofs.YthlcdimofagmfaaGreatDoor
open Go.RowKit Go.Sort Go.Lib Go.Shelf Go.Proofs
set_option linter.unusedSimpArgs false
set_option linter.unusedVariables false
/-- path and version -/
def nmM (x : Md) : ByteArray := x.1 ++ (⟨#[32]⟩ : ByteArray) ++ txt x.2.1 x.2.2.1 x.2.2.2
theorem chk_nil {x : Md} {l : List Md} (h : chkM x l = 0) : chkM x [] = 0 := by
  rw [chkM_def] at h ⊢
  by_cases h1 : (x :: l).any p1 = true
  · rw [if_pos h1] at h; cases h
  · by_cases h2 : (x :: l).any p2 = true
    · rw [if_neg h1, if_pos h2] at h; cases h
    · have a1 : ¬ (([x] : List Md).any p1 = true) := fun h' => h1 (by simp at h' ⊢; exact .inl h')
      have a2 : ¬ (([x] : List Md).any p2 = true) := fun h' => h2 (by simp at h' ⊢; exact .inl h')
      have a3 : twiceB [x] = false := by
        unfold twiceB
        simp
      rw [if_neg a1, if_neg a2, if_neg (by simp [a3])]
      rfl
def lnL (x : Md) : List UInt8 := [109, 111, 100, 117, 108, 101, 32] ++ (nmM x).data.toList
theorem line_ln (x : Md) : (lineB kM x).data.toList = lnL x ++ [10] := by
  unfold lineB lnL nmM kM
  simp
theorem trim_ln (x : Md) : Lib.trimSuffix (lineB kM x).data.toList [10] = lnL x := by
  rw [line_ln]
  unfold Lib.trimSuffix Lib.hasSuffix
  simp
theorem cut_ln (x : Md) : Lib.cut (lnL x) [32] = ([109, 111, 100, 117, 108, 101], (nmM x).data.toList, true) := by
  unfold lnL
  generalize (nmM x).data.toList = r
  have hi : Lib.index ([109, 111, 100, 117, 108, 101, 32] ++ r) [32] = 6 := by
    simp [Lib.index]
  unfold Lib.cut
  rw [hi]
  simp
set_option maxRecDepth 100000 in
theorem name_any (x : Md) (hc : chkM x [] = 0) (w : World) (hM : Mx w) (hT : P10 w) : Calls Tryz.prog 40 #[mdk x] w fun e w' => e = .returned (.string (nmM x)) ∧ Below w.heap.size w w' := by
  have hb0 := bal w (.cells #[.string x.1, .int .i64 x.2.1, .int .i64 x.2.2.1, .int .i64 x.2.2.2] 34)
  have HB0 := Lib.hid hb0
  have KT := Lib.hid (text_any x none 0 [] _ (hM.keep hb0 hM.1) (P10.keep hT hb0) (rm_nil _ _ _) (.inl (by unfold Plain; simp)) (by simp))
  have ht : textB x [] = lineB kM x := by
    unfold textB; rw [if_pos hc]
    apply ByteArray.ext; apply Array.ext'
    simp [textL, sortM]
  rw [hc, ht] at KT
  have hpx := chk_path hc x (by simp)
  have hsz := line_le kM (by decide) x hpx
  have htr := trim_ln x
  have hcu := cut_ln x
  have hln : (lnL x).length = (lineB kM x).size - 1 := by
    have h1 : (lineB kM x).data.toList.length = (lineB kM x).size := by simp
    rw [line_ln, List.length_append] at h1
    simp at h1; omega
  have HM := Lib.hid hM
  clear hb0 hM hT ht
  unfold mdk
  generalize lineB kM x = LN at *
  obtain ⟨R, hR⟩ : ∃ R : ByteArray, R = ⟨(lnL x).toArray⟩ := ⟨_, rfl⟩
  have hRs : R.size = (lnL x).length := by rw [hR]; show (lnL x).toArray.size = _; simp
  have hRl : R.data.toList = lnL x := by rw [hR]
  go_enter Tryz.func40, Tryz.ntmps40
  go_wp2_with fail
  refine KT.out.mono ?_
  rintro e w1 ⟨rfl, hb1⟩
  have HB1 := Lib.hid (HB0.out.trans (hb1.mono HB0.out.size))
  have HM1 := Lib.hid (HM.out.keep HB1.out HM.out.1)
  clear hb1
  have C1 := Lib.hid (Tryz.strings_TrimSuffix LN ⟨#[10]⟩ w1 (by omega))
  rw [show (⟨#[10]⟩ : ByteArray).data.toList = [10] from rfl, htr, ← hR] at C1
  obtain ⟨m, hm⟩ := HM1.out.2
  have C2 : Hid (Calls Tryz.prog 66 #[.string R, .string ⟨#[32]⟩] w1 fun e w' => e = .returned (.tuple #[.string ⟨#[109, 111, 100, 117, 108, 101]⟩, .string (nmM x), .bool true]) ∧ Below w1.heap.size w1 w') :=
    Lib.hid ((Tryz.strings_Cut R ⟨#[32]⟩ m w1 (by omega) hm).mono fun e w' ⟨he, hw⟩ => ⟨by
      rw [hRl, show (⟨#[32]⟩ : ByteArray).data.toList = [32] from rfl, hcu] at he
      exact he, by obtain ⟨n, rfl⟩ := hw; exact drewB w1 n⟩)
  clear hm hR hRs hRl hln htr hcu hsz hpx
  go_wp2_with fail
  refine C1.out.mono ?_
  rintro e w2 ⟨rfl, rfl⟩
  go_wp2_with fail
  refine C2.out.mono ?_
  rintro e w3 ⟨rfl, hb3⟩
  have HB3 := Lib.hid (HB1.out.trans (hb3.mono HB1.out.size))
  go_wp2_with fail
  go_ret
  exact ⟨rfl, HB3.out⟩
end Go.Proofs.YthlcdimofagmfaaGreatDoor
namespace Go.Proofs.YthlcdimofagmfaaGreatDoor
open Go.RowKit Go.Sort Go.Lib Go.Shelf Go.Proofs
open Dg (txtH hsum txtL txtL_len hsum_lt)
set_option linter.unusedSimpArgs false
set_option linter.unusedVariables false
/-- a release: module, requirements, sources -/
abbrev Rl := Md × List Md × List Src
def tx (r : Rl) : ByteArray := (relOut r.1 r.2.1 r.2.2).1
def er (r : Rl) : Int := (relOut r.1 r.2.1 r.2.2).2
def okRl (r : Rl) : Prop := r.2.1.length ≤ 20 ∧ r.2.2.length ≤ 8 ∧ ∀ y ∈ r.2.2, y.1.size ≤ 200 ∧ y.2.size ≤ 1000
theorem er_ok {r : Rl} (h : er r = 0) : chkM r.1 r.2.1 = 0 ∧ (tx r).size = 18 := by
  unfold er tx relOut at *
  by_cases h1 : chkM r.1 r.2.1 ≠ 0
  · rw [if_pos h1] at h; exact absurd h h1
  · rw [if_neg h1] at h ⊢
    by_cases h2 : dupN r.2.2 = true
    · rw [if_pos h2] at h; cases h
    · rw [if_neg h2]
      refine ⟨by omega, ?_⟩
      show (txtL _ 16).toArray.size = 18
      rw [List.size_toArray, txtL_len]
/-- a release in six cells -/
structure RlAt (w : World) (B b o : Nat) (r : Rl) (A A2 : Option Addr) (c c2 : Nat) : Prop where
  k0 : w.cell? ⟨b, o, none⟩ = some (.string r.1.1)
  k1 : w.cell? ⟨b, o + 1, none⟩ = some (.int .i64 r.1.2.1)
  k2 : w.cell? ⟨b, o + 2, none⟩ = some (.int .i64 r.1.2.2.1)
  k3 : w.cell? ⟨b, o + 3, none⟩ = some (.int .i64 r.1.2.2.2)
  k4 : w.cell? ⟨b, o + 4, none⟩ = some (.slice A r.2.1.length c)
  k5 : w.cell? ⟨b, o + 5, none⟩ = some (.slice A2 r.2.2.length c2)
  rm : RM w B A r.2.1
  pm : Plane A c
  rn : RN w B A2 r.2.2
  pn : Plane A2 c2
theorem RM.leB {w : World} {B B' : Nat} {A : Option Addr} {l : List Md} (h : RM w B A l) (hb : B ≤ B') : RM w B' A l :=
  ⟨fun i hi => by
    obtain ⟨b, o, e, hl, c⟩ := h.at_ i hi
    exact ⟨b, o, e, Nat.lt_of_lt_of_le hl hb, c⟩⟩
theorem RlAt.below {w w' : World} {B b o : Nat} {r : Rl} {A A2 : Option Addr} {c c2 : Nat} (h : RlAt w B b o r A A2 c c2) (hb : Below B w w') (hlt : b < B) : RlAt w' B b o r A A2 c c2 where
  k0 := by rw [hb.cell (p := ⟨b, o, none⟩) hlt]; exact h.k0
  k1 := by rw [hb.cell (p := ⟨b, o + 1, none⟩) hlt]; exact h.k1
  k2 := by rw [hb.cell (p := ⟨b, o + 2, none⟩) hlt]; exact h.k2
  k3 := by rw [hb.cell (p := ⟨b, o + 3, none⟩) hlt]; exact h.k3
  k4 := by rw [hb.cell (p := ⟨b, o + 4, none⟩) hlt]; exact h.k4
  k5 := by rw [hb.cell (p := ⟨b, o + 5, none⟩) hlt]; exact h.k5
  rm := h.rm.below hb
  pm := h.pm
  rn := h.rn.below hb
  pn := h.pn
theorem RlAt.le {w : World} {B B' b o : Nat} {r : Rl} {A A2 : Option Addr} {c c2 : Nat} (h : RlAt w B b o r A A2 c c2) (hb : B ≤ B') : RlAt w B' b o r A A2 c c2 := { h with rm := h.rm.leB hb, rn := h.rn.le hb }
/-- the slice at A reads as the releases rs -/
structure RR6 (w : World) (B : Nat) (A : Option Addr) (rs : List Rl) : Prop where
  at_ : ∀ i (h : i < rs.length), ∃ b o A1 A2 c c2, A = some ⟨b, o, none⟩ ∧ b < B ∧ RlAt w B b (o + i * 6) rs[i] A1 A2 c c2
theorem RR6.up {w w' : World} {A : Option Addr} {rs : List Rl} (h : RR6 w w.heap.size A rs) (hb : Below w.heap.size w w') : RR6 w' w'.heap.size A rs :=
  ⟨fun i hi => by
    obtain ⟨b, o, A1, A2, c, c2, e, hl, k⟩ := h.at_ i hi
    exact ⟨b, o, A1, A2, c, c2, e, Nat.lt_of_lt_of_le hl hb.size, (k.below hb hl).le hb.size⟩⟩
/-- the slice at A reads as the strings l -/
structure RT1 (w : World) (B : Nat) (A : Option Addr) (l : List ByteArray) : Prop where
  at_ : ∀ i (h : i < l.length), ∃ b o, A = some ⟨b, o, none⟩ ∧ b < B ∧ w.cell? ⟨b, o + i, none⟩ = some (.string l[i])
theorem RT1.up {w w' : World} {A : Option Addr} {l : List ByteArray} (h : RT1 w w.heap.size A l) (hb : Below w.heap.size w w') : RT1 w' w'.heap.size A l :=
  ⟨fun i hi => by
    obtain ⟨b, o, e, hl, k⟩ := h.at_ i hi
    exact ⟨b, o, e, Nat.lt_of_lt_of_le hl hb.size, by rw [hb.cell (p := ⟨b, o + i, none⟩) hl]; exact k⟩⟩
theorem rt_nil (w : World) (B : Nat) (A : Option Addr) : RT1 w B A [] := ⟨fun i hi => by simp at hi⟩
theorem rt_of_own {w : World} {B : Nat} {v : Value} {l : List ByteArray} (h : w.ownsRow B 9 1 v l.length (l.map Value.string)) : ∃ A c, v = .slice A l.length c ∧ RT1 w w.heap.size A l ∧ Plain A c := by
  rcases own_cell h with ⟨h1, h2⟩ | ⟨g, c, rfl, h3, h4, _, _, hc⟩
  · have hl : l = [] := List.length_eq_zero_iff.1 h2
    subst hl
    exact ⟨none, 0, h1, rt_nil _ _ _, .inl ⟨rfl, rfl⟩⟩
  · refine ⟨_, c, rfl, ⟨fun i hi => ⟨g, 0, rfl, ?_, ?_⟩⟩, .inr ⟨_, _, rfl⟩⟩
    · exact h4
    · rw [Nat.zero_add]; exact hc i _ (by simp [hi])
/-- the text of the first release of a module -/
def lookT (rs : List Rl) (m : Md) : ByteArray := ((rs.find? fun r => decide (m = r.1)).map tx).getD ⟨#[]⟩
def lineM (rs : List Rl) (m : Md) : ByteArray := nmM m ++ (⟨#[32]⟩ : ByteArray) ++ lookT rs m
/-- what List returns -/
def listOut (rs : List Rl) : List ByteArray × Int :=
  match rs.find? (fun r => decide (er r ≠ 0)) with
  | some r => ([], er r)
  | none => if (rs.map (·.1)).Nodup then ((sortM (rs.map (·.1))).map (lineM rs), 0) else ([], 6)
theorem out_err {rs : List Rl} {k : Nat} (hk : k < rs.length) (h0 : ∀ r ∈ rs.take k, er r = 0) (he : er rs[k] ≠ 0) : listOut rs = ([], er rs[k]) := by
  have hf : rs.find? (fun r => decide (er r ≠ 0)) = some rs[k] := by
    have hx : rs.find? (fun r => decide (er r ≠ 0)) = (rs.take k ++ rs.drop k).find? (fun r => decide (er r ≠ 0)) := by rw [List.take_append_drop]
    rw [hx, List.find?_append]
    have h1 : (rs.take k).find? (fun r => decide (er r ≠ 0)) = none := by
      rw [List.find?_eq_none]; intro r hr; simp [h0 r hr]
    rw [h1, List.drop_eq_getElem_cons hk, List.find?_cons_of_pos (by simpa using he)]
    simp
  unfold listOut
  rw [hf]
theorem out_none {rs : List Rl} (h0 : ∀ r ∈ rs, er r = 0) : rs.find? (fun r => decide (er r ≠ 0)) = none := by
  rw [List.find?_eq_none]; intro r hr; simp [h0 r hr]
theorem out_dup {rs : List Rl} (h0 : ∀ r ∈ rs, er r = 0) (hd : ¬ (rs.map (·.1)).Nodup) : listOut rs = ([], 6) := by
  unfold listOut; rw [out_none h0]; simp only; rw [if_neg hd]
theorem out_ok {rs : List Rl} (h0 : ∀ r ∈ rs, er r = 0) (hd : (rs.map (·.1)).Nodup) : listOut rs = ((sortM (rs.map (·.1))).map (lineM rs), 0) := by
  unfold listOut; rw [out_none h0]; simp only; rw [if_pos hd]
/-- the map behind the first k releases -/
structure MapK (rs : List Rl) (k : Nat) (es : List En) : Prop where
  ok : ((rs.take k).map (·.1)).Nodup → es.map (fun e => (e.1, e.2.1)) = (rs.take k).map fun r => (r.1, tx r)
  no : ¬ ((rs.take k).map (·.1)).Nodup → es.length < k
  le : es.length ≤ k
theorem mapK_zero (rs : List Rl) : MapK rs 0 [] := ⟨fun _ => rfl, fun h => absurd (by simp) h, Nat.le_refl _⟩
theorem keys_of {rs : List Rl} {k : Nat} {es : List En} (h : es.map (fun e => (e.1, e.2.1)) = (rs.take k).map fun r => (r.1, tx r)) : es.map (·.1) = (rs.take k).map (·.1) := by
  have := congrArg (List.map Prod.fst) h
  simpa [List.map_map, Function.comp_def] using this
theorem mapK_next {rs : List Rl} {k : Nat} {es es' : List En} (hk : k < rs.length) (h : MapK rs k es)
    (h1 : rs[k].1 ∉ es.map (·.1) → ∃ c, es' = es ++ [(rs[k].1, tx rs[k], c)]) (h2 : rs[k].1 ∈ es.map (·.1) → es'.map (·.1) = es.map (·.1)) : MapK rs (k + 1) es' := by
  have ht : rs.take (k + 1) = rs.take k ++ [rs[k]] := (List.take_append_getElem hk).symm
  have hlen : es'.length ≤ es.length + 1 := by
    by_cases hx : rs[k].1 ∈ es.map (·.1)
    · have := congrArg List.length (h2 hx); simp at this; omega
    · obtain ⟨c, rfl⟩ := h1 hx; simp
  refine ⟨fun hn => ?_, fun hn => ?_, by have := h.le; omega⟩
  · rw [ht, List.map_append, List.nodup_append] at hn
    have hes := h.ok hn.1
    have hx : rs[k].1 ∉ es.map (·.1) := by
      rw [keys_of hes]; intro hx
      exact hn.2.2 _ hx _ (by simp) rfl
    obtain ⟨c, rfl⟩ := h1 hx
    rw [ht, List.map_append, List.map_append, hes]; rfl
  · by_cases hd : ((rs.take k).map (·.1)).Nodup
    · have hes := h.ok hd
      have hx : rs[k].1 ∈ es.map (·.1) := by
        rw [keys_of hes]
        refine Classical.byContradiction fun hx => hn ?_
        rw [ht, List.map_append, List.nodup_append]
        refine ⟨hd, by simp, fun a ha b hb => ?_⟩
        simp at hb; subst hb
        intro e; subst e; exact hx ha
      have := congrArg List.length (h2 hx); simp at this
      have hl := congrArg List.length hes
      simp at hl; omega
    · have := h.no hd; omega
theorem fnd_look (x : Md) : ∀ (es : List En) (rs : List Rl) (i : Nat), es.map (fun e => (e.1, e.2.1)) = rs.map (fun r => (r.1, tx r)) → x ∈ rs.map (·.1) → ∃ j, fnd x es i = some (j, .string (lookT rs x))
  | [], [], i, _, h => by simp at h
  | [], r :: t, i, h, _ => by simp at h
  | e :: t, [], i, h, _ => by simp at h
  | e :: es, r :: rs, i, h, hx => by
    simp only [List.map_cons, List.cons.injEq, Prod.mk.injEq] at h
    obtain ⟨⟨h1, h2⟩, h3⟩ := h
    unfold fnd lookT
    by_cases hxe : x = e.1
    · rw [if_pos hxe]
      refine ⟨i, ?_⟩
      rw [List.find?_cons_of_pos (by simp [hxe, h1])]
      simp [h2]
    · rw [if_neg hxe]
      have hxr : ¬ x = r.1 := by rw [← h1]; exact hxe
      rw [List.find?_cons_of_neg (by simpa using hxr)]
      exact fnd_look x es rs (i + 1) h3 (by
        rw [List.map_cons] at hx
        rcases List.mem_cons.1 hx with h | h
        · exact absurd h hxr
        · exact h)
end Go.Proofs.YthlcdimofagmfaaGreatDoor
