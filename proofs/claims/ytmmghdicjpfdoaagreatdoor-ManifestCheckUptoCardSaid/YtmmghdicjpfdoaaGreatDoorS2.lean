/-
  The modules of a manifest; whether a module of a list has a property; whether two have one path; Check. Condition: internal/bytealg.MaxLen holds some number; at most 90000 requirements.
-/
import Derived.Test.YtmmghdicjpfdoaaGreatDoorS1
import Derived.Laws.AppendOwnNone
namespace Go.Proofs.YtmmghdicjpfdoaaGreatDoor
open Go.RowKit Go.Sort Go.Lib Go.Shelf Go.Proofs
set_option linter.unusedSimpArgs false
set_option linter.unnecessarySimpa false
set_option linter.unusedVariables false
/-- append of a slice that reads as a list of modules, a nil one too, to a row of the call's own -/
theorem wpList_append_rm {w : World} {ops : Array Oper} {rest : List Oper} {o : Oper} {a : Act} {Q : Exit → Act → World → Prop} (hgd : o.guard = none) (s x : Operand)
    (ho : o.op = .call { callee := .builtin .append, args := #[s, x], argTypes := #[26, 26] })
    (base N : Nat) (v : Value) (n : Nat) (xs : List Value) (hs : a.eval s = v) (hown : w.ownsRow base 25 4 v n xs)
    (A : Option Addr) (c : Nat) (l : List Md) (hx : a.eval x = .slice A l.length c) (hR : RM w N A l) (hf : Plain A c)
    (hn : n + l.length ≤ 1000000) (hbase : base ≤ w.heap.size)
    (h : ∀ v' w', w'.ownsRow base 25 4 v' (n + l.length) (xs ++ flatM l) → w.grownBy w' v.ownBlock → wpList Tryz.prog ops Q rest (a.put o.dst v') w') : wpList Tryz.prog ops Q (o :: rest) a w := by
  obtain ⟨i0, hi, hz0, hz1, hz2⟩ := info_parts info25
  rcases hf with ⟨rfl, rfl⟩ | ⟨b, oo, rfl⟩
  · obtain rfl := rm_none hR
    refine wpList_append_own_none hgd s x 26 ho base 25 i0 4 Tryz.underlying26 hi v n xs hs hown hx ?_
    refine h v w (by simpa [flatM_nil] using hown) ?_
    exact ⟨rfl, rfl, rfl, Nat.le_refl _, fun _ _ _ => rfl⟩
  · refine wpList_append_own w hgd s x 26 ho base 25 i0 (.agg #[.string ⟨#[]⟩, .int .i64 0, .int .i64 0, .int .i64 0]) 4 40 Tryz.underlying26 hi hz0 hz1 hz2 rfl (by decide) v n xs hs hown ⟨b, oo, none⟩ l.length c (flatM l) hx (flatM_len l) ?_ (flatM_one l) (by unfold maxLen; omega) (by omega) hbase (fun v' w' h1 h2 _ => h v' w' h1 h2)
    intro j u hj
    have hadd : (⟨b, oo, none⟩ : Addr).add j = ⟨b, oo + j, none⟩ := by unfold Addr.add; split <;> simp_all
    rw [hadd]
    exact rm_cells hR j u hj
theorem own_lit (w : World) (base g : Nat) (x : Md) (hg : g = w.heap.size) (hb : base ≤ g) : (w.alloc (.cells #[.string x.1, .int .i64 x.2.1, .int .i64 x.2.2.1, .int .i64 x.2.2.2] 25)).ownsRow base 25 4 (.slice (some ⟨g, 0, none⟩) 1 1) 1 (mc x) :=
  ⟨rfl, .inr ⟨g, 1, _, rfl, hb, by rw [hg]; exact heap_alloc_new w _, Nat.le_refl _, by unfold maxLen; omega, rfl, rfl⟩⟩
/-- a manifest, by value -/
abbrev mf (x : Md) (A : Option Addr) (n c : Nat) : Value := .agg #[.string x.1, .int .i64 x.2.1, .int .i64 x.2.2.1, .int .i64 x.2.2.2, .slice A n c]
abbrev mblk (x : Md) (A : Option Addr) (n c : Nat) (T : TypeId) : Obj := .cells #[.string x.1, .int .i64 x.2.1, .int .i64 x.2.2.1, .int .i64 x.2.2.2, .slice A n c] T
set_option maxRecDepth 100000 in
set_option maxHeartbeats 2000000 in
theorem modules_any (x : Md) (A : Option Addr) (c : Nat) (l : List Md) (w : World) (hR : RM w w.heap.size A l) (hf : Plain A c) (hl : l.length ≤ 90000) :
    Calls Tryz.prog 30 #[mf x A l.length c] w (GivesM (x :: l) w) := by
  have hb0 := bal w (mblk x A l.length c 28)
  have HR := Lib.hid (hR.up hb0)
  have HB := Lib.hid hb0
  have HV : Hid (∀ v w', w'.ownsRow w.heap.size 25 4 v (1 + l.length) (mc x ++ flatM l) → Below w.heap.size w w' → GivesM (x :: l) w (.returned v) w') := Lib.hid (fun v w' h hb => by
    obtain ⟨A', c', rfl, h1, h2, h3⟩ := rm_of_own (l := x :: l) (show w'.ownsRow w.heap.size 25 4 v (x :: l).length (flatM (x :: l)) by rw [List.length_cons, Nat.add_comm, flatM_cons]; exact h)
    exact ⟨A', c', rfl, h1, ⟨h2, h3⟩, hb⟩)
  have HF := Lib.hid hf
  have HL := Lib.hid hl
  clear hb0 hR hf hl
  unfold mf
  unfold mblk at HR HB
  go_enter Tryz.func30, Tryz.ntmps30
  have hown := own_lit (w.alloc (.cells #[.string x.1, .int .i64 x.2.1, .int .i64 x.2.2.1, .int .i64 x.2.2.2, .slice A l.length c] 28)) w.heap.size (w.heap.size + 1) x (by simp) (by omega)
  have hRR := (HR.out.up (bal _ (.cells #[.string x.1, .int .i64 x.2.1, .int .i64 x.2.2.1, .int .i64 x.2.2.2] 25)))
  go_wp2_with (at_builtin; refine wpList_append_rm rfl _ _ rfl w.heap.size _ _ 1 (mc x) rfl hown A c l rfl hRR HF.out ?_ ?_ ?_)
  · have := HL.out; omega
  · simp; omega
  intro v' w' h1 h2
  have HE := Lib.hid (HV.out v' w' h1 ((HB.out.alloc (by simp) _).grown h2 (by simp; omega) (fun k hk => by simp [Value.ownBlock] at hk; subst hk; simp)))
  clear h1 h2 hown hRR
  go_wp2_with fail
  go_ret
  exact HE.out
theorem cont_any (g : Nat) (p : Md → Bool) (A : Option Addr) (c : Nat) (l : List Md) (w : World) (hR : RM w w.heap.size A l) (hl : l.length ≤ 100000) (hp : ∀ W x, Below w.heap.size w W → Calls Tryz.prog g #[md x] W fun e w' => e = .returned (.bool (p x)) ∧ Below W.heap.size W w')
    (eg : ∀ args w, (callFunc g args).run Tryz.prog w = .ok (.enter g args) w) (hne : l ≠ []) :
    Calls Tryz.prog 31 #[.slice A l.length c, .func (.func g) #[] #[]] w fun e w' => e = .returned (.bool (l.any p)) ∧ Below w.heap.size w w' := by
  obtain ⟨b, o, rfl, hb, _⟩ := hR.at_ 0 (List.length_pos_iff.2 hne)
  have hc := rm_cells hR
  have := AnyQ.slices_ContainsFunc Tryz.contB 4 Tryz.isAgg25 Tryz.sizeOf25 mc (fun _ => rfl) p g #[] eg b o l.length c l w (fun W x hW => by
    have := hp W x hW
    exact this.mono fun e w' ⟨h1, h2⟩ => ⟨h1, hW.trans (h2.mono hW.size)⟩) (Nat.le_refl _) (by omega) hb
    (fun j hj i v hv => by
      have hi : i < 4 := by have := (List.getElem?_eq_some_iff.1 hv).1; simpa [mc] using this
      have e : l[j]! = l[j] := getElem!_pos l j hj
      rw [e] at hv
      have := hc (j * 4 + i) v (by rw [flatM_at l j hj i hi]; exact hv)
      rwa [← Nat.add_assoc] at this)
  rw [List.take_length] at this
  exact this
end Go.Proofs.YtmmghdicjpfdoaaGreatDoor
