/-
  For every input of bulk at most 1048576 the law DigestList returns true, and its arguments are as before. The card ties the listed package-level variables to the program's text; the walk needs of the world the table of powers of ten, which the list gives, and that internal/bytealg.MaxLen holds some number, which every world of the program gives. No other condition.
-/
import Derived.Test.YthlcdimofagmfaaGreatDoorLT
import Derived.Test.YthlcdimofagmfaaGreatDoorFL
namespace Go.Proofs.YthlcdimofagmfaaGreatDoor.digestList
open Go.ChangeShapes Go.WideShapes Go.ChangeAt Go.RowKit
set_option linter.unusedVariables false

set_option maxRecDepth 100000 in
theorem contract (H : Type) (enc : TypeId × Value → H) (W : World) (base : Nat) (args : Array Value) (ds gs : List (DataW H)) (before : List MemPlace)
    (hval : ∀ (j : Nat) t v, Tryz.f7.params[j]? = some t → args[j]? = some v → Value.okWide Tryz.prog W .any base t v)
    (hW : DataW.Whole enc Tryz.prog Tryz.f7.params.toList Rows.digestListSpec.vars false W args.toList ds gs before) (hsh : W.ShapedOpen Tryz.prog) (hL : laidMetH Tryz.prog Rows.digestListUptoRow.laid W) (hcd : Rows.uptoSmall H (ds ++ gs) = true) :
    Calls Tryz.prog 7 args W fun e W' => ∃ v, e = .returned v ∧ Rows.digestListSpec.post enc Tryz.prog Tryz.f7 false true false false W args v W' := by
  have hM := maxLen_of hsh
  have hT := p10_of hL
  have hW' := hW
  obtain ⟨p, q, hA0, hV, rfl, hfz, hnd⟩ := hW
  have hA : DataW.TrodAll enc Tryz.prog W 0 (fun _ => true) true Tryz.f7.params.toList args.toList ds p := hA0
  rw [Tryz.params7] at hA hval
  obtain ⟨v0, vs0, d0, ds0, p0, q0, hargs, rfl, rfl, h0, r0⟩ := trodAll_cons hA
  obtain ⟨rfl, rfl, rfl⟩ := trodAll_nil r0
  obtain rfl : args = #[v0] := by cases args; simp_all
  obtain ⟨rfl, rfl⟩ := trodVars_none hV
  have lt0 : ∀ x ∈ p0, x.block < W.heap.size := by obtain ⟨m, hm⟩ := h0; exact DataW.trod_lt m _ _ _ hm
  obtain ⟨A0, c0, rs0, rfl, hr0, hl0, hn0, hw0⟩ := open_rlss (hval 0 44 v0 rfl rfl) h0
  have hbk : Rows.uptoBulkAll [d0] ≤ 1048576 := by have h := of_decide_eq_true hcd; simpa using h
  have hbd := bulk_mem (d := d0) (l := [d0]) (by simp)
  have hpth : ∀ r ∈ rs0, ∀ y ∈ r.1 :: r.2.1, y.1.size ≤ 2000000 := by
    intro r hr
    rcases hw0 with rfl | ⟨es0, sp0, rfl, hall0⟩
    · cases hr
    · obtain ⟨t0, e0, f0, hmem, hw1⟩ := hall0 r hr
      have g1 := bulk_mods (spare := sp0) hmem
      have hb1 := bulk_agg (d := DataW.agg [.agg [.lit (.string r.1.1.data.toList), t0], e0]) (parts := [DataW.agg [.agg [.lit (.string r.1.1.data.toList), t0], e0], f0]) (by simp)
      intro y hy
      rcases List.mem_cons.1 hy with rfl | hy
      · have h1 := bulk_md r.1.1.data.toList t0
        have h2 := bulk_agg (d := DataW.agg [.lit (.string r.1.1.data.toList), t0]) (parts := [DataW.agg [.lit (.string r.1.1.data.toList), t0], e0]) (by simp)
        simp at h1; omega
      · rcases hw1 with h0 | ⟨es, sp, rfl, hall⟩
        · rw [h0] at hy; cases hy
        · obtain ⟨t, ht⟩ := hall y hy
          have h1 := bulk_md y.1.data.toList t
          have h2 := bulk_mods (spare := sp) ht
          have h3 := bulk_agg (d := DataW.slice es sp) (parts := [DataW.agg [.lit (.string r.1.1.data.toList), t0], DataW.slice es sp]) (by simp)
          simp at h1; omega
  have hrn : rs0.length ≤ 9223372036854775807 := by unfold maxLen at hn0; omega
  clear hA0 hval
  refine (law_list A0 c0 rs0 W hM hT hr0 hl0 hrn hpth).mono fun e W' ⟨he, bel⟩ => ?_
  subst he
  exact ⟨_, rfl, _, _, _, [], _, [], hW', trodAll_mk1 (shut_bool Tryz.underlying4 _), (trodAll_cons_mk (Below.trod laidOut (by kernel_rfl) (of_decide_eq_true (by kernel_rfl)) h0 bel lt0) trodAll_mk0), rfl, bel.frame _, fun h => by cases h⟩

theorem laid_met (os : Os) : laidMetH Tryz.prog Rows.digestListUptoRow.laid ((lw os).forCall (fun _ _ => 0) ⟨#[], #[.slice none 0 0], []⟩).memory :=
  laidMetH_of_parts3 (fuel := 8) (laidMet_of_run' 8 (by kernel_rfl) (by kernel_rfl)) (by kernel_rfl) (by kernel_rfl)
theorem reads (os : Os) {H : Type} (enc : TypeId × Value → H) : ∃ places, DataW.whole enc Tryz.prog ((lw os).forCall (fun _ _ => 0) ⟨#[], #[.slice none 0 0], []⟩).memory Tryz.f7.params.toList Rows.digestListSpec.vars false (#[.slice none 0 0] : Array Value).toList 8 = some ([.nil], [], places) :=
  ⟨[], by kernel_rfl⟩

set_option maxRecDepth 100000 in
theorem lifted (os : Os) (started : os.Started) (H : Type) (enc : TypeId × Value → H) (F : Stop.Interp) :
    ReturnsInHanded {} Tryz.checked os 7 .any ((Rows.OpenSpec.upto Rows.digestListSpec).preRow enc Tryz.prog Tryz.f7 Rows.digestListUptoRow.domain false Rows.digestListUptoRow.laid) (((Rows.OpenSpec.upto Rows.digestListSpec).at F).post enc Tryz.prog Tryz.f7 false true false false) := by
  obtain ⟨places, hx⟩ := reads os enc
  refine returnsInHanded_of_row (C := Tryz.checked) (s := Rows.OpenSpec.upto Rows.digestListSpec) own started (by kernel_rfl) Tryz.func7
    (witness_row_atRef (enc := enc) (C := Tryz.checked) false (lw os) #[.slice none 0 0] rfl (by kernel_rfl) (by kernel_rfl) (by kernel_rfl)
      (OpenSpec.preRow_of_cond 8 hx (by kernel_rfl) (fun k hk => by cases hk; kernel_rfl) (by kernel_rfl) (laid_met os))) ?_
  intro W base args ds gs before hval hW _ hcd _ hL hsh _
  exact contract H enc W base args ds gs before hval hW hsh hL (hcd _ rfl)

theorem said : Rows.DigestListUptoSaid :=
  OpenClaim.holds_of_cond 7 Tryz.f7 rfl rfl rfl rfl rfl rfl rfl ⟨rfl, rfl, rfl, rfl, rfl⟩ rfl rfl rfl rfl rfl (by kernel_rfl) Tryz.func7 (by kernel_rfl)
    (of_decide_eq_true (by kernel_rfl)) (by unfold Func.isWrapper; first | (rw [if_pos (by decide +kernel)]; kernel_rfl) | (rw [if_neg (by decide +kernel)]; exact ⟨rfl, rfl⟩))
    (fun os started H enc _ F => by rw [OpenClaim.pre_eq_preRow]; exact lifted os started H enc F)

theorem plain (f : FuncId) (fn : Func) (hf : Tryz.pinned.checked.prog.funcNamed "configlang/configlanglaw47.DigestList" = some f) (hfn : Tryz.pinned.checked.prog.funcs[f]? = some fn) :
    false = Tryz.pinned.checked.prog.looks [] ∧ ∀ (j : Nat) t, fn.params[j]? = some t → Tryz.pinned.checked.prog.wantsStandIn t = false := by
  obtain rfl : f = 7 := Option.some.inj ((show Tryz.prog.funcNamed "configlang/configlanglaw47.DigestList" = some 7 by kernel_rfl).symm.trans hf) |>.symm
  obtain rfl : fn = Tryz.f7 := (Option.some.inj (Tryz.func7.symm.trans hfn)).symm
  refine ⟨by kernel_rfl, fun j t ht => ?_⟩
  rw [Tryz.params7] at ht
  have hm : t ∈ [44] := by simpa using Array.mem_of_getElem? ht
  have hall : ([44].all fun u => !Tryz.prog.wantsStandIn u) = true := by kernel_rfl
  exact (show Tryz.prog.wantsStandIn t = false by simpa using List.all_eq_true.1 hall t hm)

theorem card : Rows.DigestListUptoCardSaid :=
  Claim7.holds_tied_plain_at .later [] _ _ _ _ said (fun _ h => by cases h) (by kernel_rfl) (fun _ h => by cases h) digestListUpto_row_tie rfl ⟨rfl, rfl⟩ (by kernel_rfl) rfl plain (by kernel_rfl)
end Go.Proofs.YthlcdimofagmfaaGreatDoor.digestList
namespace Go.Proofs.YthlcdimofagmfaaGreatDoor
/-- the statement -/
theorem digestList_card : Rows.DigestListUptoCardSaid := digestList.card
end Go.Proofs.YthlcdimofagmfaaGreatDoor
