/-
  The rule of Ri, with the slots that the region writes given by a function. No condition.
-/
import Derived.Test.YteekccjfokoglaaRi
namespace Go.Proofs.Yteekccjfokoglaa
open Go
def putL (D : List Nat) (f : Nat → Value) : Nat → List Value → List Value
  | _, [] => []
  | n, x :: l => (if D.contains n then f n else x) :: putL D f (n + 1) l
theorem putL_get (D : List Nat) (f : Nat → Value) : ∀ (l : List Value) (n t : Nat), (putL D f n l)[t]? = (l[t]?).map fun x => if D.contains (n + t) then f (n + t) else x
  | [], n, t => by simp [putL]
  | x :: l, n, 0 => by simp [putL]
  | x :: l, n, t + 1 => by
    rw [putL, List.getElem?_cons_succ, List.getElem?_cons_succ, putL_get D f l (n + 1) t, show n + 1 + t = n + (t + 1) by omega]
/-- the frame a, its slots in D as f says -/
def putF (a : Act) (D : List Nat) (f : Nat → Value) : Act := ⟨(putL D f 0 a.tmps.toList).toArray, a.defers⟩
theorem putF_get (a : Act) (D : List Nat) (f : Nat → Value) (t : Nat) : (putF a D f).tmps[t]? = (a.tmps[t]?).map fun x => if D.contains t then f t else x := by
  unfold putF
  rw [List.getElem?_toArray, putL_get, Nat.zero_add, Array.getElem?_toList]
theorem eval_in {a : Act} {D : List Nat} {f : Nat → Value} {t : Nat} (hd : D.contains t = true) (ht : t < a.tmps.size) : (putF a D f).eval (.tmp t) = f t := by
  show (putF a D f).tmps.getD t undef = f t
  rw [Array.getD_eq_getD_getElem?, putF_get, Array.getElem?_eq_getElem ht]
  simp only [Option.map_some, Option.getD_some]
  rw [if_pos hd]
theorem eval_out {a : Act} {D : List Nat} {f : Nat → Value} {t : Nat} (hd : D.contains t = false) : (putF a D f).eval (.tmp t) = a.eval (.tmp t) := by
  show (putF a D f).tmps.getD t undef = a.tmps.getD t undef
  rw [Array.getD_eq_getD_getElem?, putF_get, Array.getD_eq_getD_getElem?]
  cases h : a.tmps[t]? with
  | none => rfl
  | some x => simp only [Option.map_some, Option.getD_some]; rw [if_neg (by rw [hd]; simp)]
def updF (f : Nat → Value) (d : Option Nat) (v : Value) : Nat → Value := match d with
  | some d => fun t => if t = d then v else f t
  | none => f
theorem act_ext {a b : Act} (h : ∀ t : Nat, a.tmps[t]? = b.tmps[t]?) (hd : a.defers = b.defers) : a = b := by
  obtain ⟨x, y⟩ := a; obtain ⟨x', y'⟩ := b
  simp only at h hd
  rw [Array.ext_getElem? h, hd]
theorem putF_put {a : Act} {D : List Nat} {f : Nat → Value} {d : Option Nat} {v : Value} (hd : ∀ k, d = some k → D.contains k = true) : (putF a D f).put d v = putF a D (updF f d v) := by
  cases d with
  | none => rfl
  | some k =>
    have hk := hd k rfl
    refine act_ext (fun t => ?_) rfl
    show ((putF a D f).tmps.setIfInBounds k v)[t]? = _
    rw [putF_get, Array.getElem?_setIfInBounds, putF_get]
    have hsz : (putF a D f).tmps.size = a.tmps.size := by
      have : ∀ (l : List Value) n, (putL D f n l).length = l.length := by
        intro l; induction l with
        | nil => intro n; rfl
        | cons x l ih => intro n; simp [putL, ih]
      show ((putL D f 0 a.tmps.toList).toArray).size = _
      simp [this]
    by_cases ht : k = t
    · subst ht
      rw [if_pos rfl, hsz]
      by_cases hs : k < a.tmps.size
      · rw [if_pos hs, Array.getElem?_eq_getElem hs]; simp only [Option.map_some]; rw [if_pos hk]; simp [updF]
      · rw [if_neg hs, Array.getElem?_eq_none (by omega)]; rfl
    · rw [if_neg ht]
      cases a.tmps[t]? with
      | none => rfl
      | some x =>
        have e1 : (if t = k then v else f t) = f t := if_neg (fun e => ht e.symm)
        simp only [Option.map_some, updF]; rw [e1]
theorem putF_self (a : Act) (D : List Nat) : putF a D (fun t => a.tmps.getD t undef) = a := by
  refine act_ext (fun t => ?_) rfl
  rw [putF_get]
  cases h : a.tmps[t]? with
  | none => rfl
  | some x =>
    simp only [Option.map_some]
    split
    · rw [Array.getD_eq_getD_getElem?, h]; rfl
    · rfl
theorem wp_region_F {P : Program} {ops : Array Oper} {Q : Exit → Act → World → Prop} {id : Nat} {a : Act} {w : World} (D : List Nat) (Inv : (Nat → Bool) → (Nat → Value) → World → Prop) (hm : P.follows .mixedOrders = true)
    (hlow : (List.range ops.size).all (fun i => ((ops[i]?).map fun o => (deps o).all fun d => decide (d < i)).getD true) = true)
    (hD : ops.all (fun o => o.guard.isNone && (match o.dst with | some d => D.contains d | none => true)) = true)
    (h0 : Inv (fun _ => false) (fun t => a.tmps.getD t undef) w.drew)
    (hs : ∀ i o, ops[i]? = some o → ∀ (L : Nat → Bool) f w, Inv L f w → L i = false → (∀ d ∈ deps o, L d = true) →
      ∀ K' : Act → World → Prop, (∀ v w', Inv (updL L i) (updF f o.dst v) w' → K' ((putF a D f).put o.dst v) w') → Oper.wp P o (putF a D f) w K' Q)
    (he : ∀ (L : Nat → Bool) f w, Inv L f w → (∀ i, i < ops.size → L i = true) → Q .normal (putF a D f) w) : (Code.region id ops true).wp P Q a w := by
  refine wp_region_inv (fun L b w => ∃ f, b = putF a D f ∧ Inv L f w) hm hlow ⟨_, (putF_self a D).symm, h0⟩ ?_ ?_
  · rintro i o ho L b w ⟨f, rfl, hI⟩ hL hd K' hK
    have hgd := hD
    rw [Array.all_eq_true_iff_forall_mem] at hgd
    have hg := hgd o (Array.mem_of_getElem? ho)
    rw [Bool.and_eq_true] at hg
    have hw : Region.wanted o (yielded ops (putF a D f).tmps) = true := by
      have := hg.1; rw [Option.isNone_iff_eq_none] at this; simp [Region.wanted, this]
    rw [if_pos hw]
    refine hs i o ho L f w hI hL hd K' fun v w' hI' => hK _ _ ⟨_, putF_put (fun k hk => ?_), hI'⟩
    have := hg.2
    rw [hk] at this; exact this
  · rintro L b w ⟨f, rfl, hI⟩ hall
    exact he L f w hI hall
end Go.Proofs.Yteekccjfokoglaa
