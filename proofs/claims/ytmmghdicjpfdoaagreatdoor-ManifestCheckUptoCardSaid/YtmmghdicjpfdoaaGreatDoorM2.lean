/-
  PLAIN: the order of modules, sorting, the first error of a manifest. Lists and numbers only.
-/
import Derived.Test.YtmmghdicjpfdoaaGreatDoorM1
namespace Go.Proofs.YtmmghdicjpfdoaaGreatDoor
open Go
set_option linter.unusedSimpArgs false
set_option linter.unnecessarySimpa false
set_option linter.unusedVariables false
def cmpI (a b : Int) : Int := if a < b then -1 else if b < a then 1 else 0
theorem cmp_lt {a b : Int} (h : a < b) : cmpI a b = -1 := by unfold cmpI; rw [if_pos h]
theorem cmp_gt {a b : Int} (h : b < a) : cmpI a b = 1 := by unfold cmpI; rw [if_neg (by omega), if_pos h]
theorem cmp_eq {a b : Int} (h : a = b) : cmpI a b = 0 := by unfold cmpI; rw [if_neg (by omega), if_neg (by omega)]
def okN (n : Int) : Bool := decide (0 ≤ n) && decide (n ≤ 9999)
def okV (a b c : Int) : Bool := okN a && okN b && okN c
/-- the order of versions -/
def cmp3 (a b c a' b' c' : Int) : Int := if cmpI a a' ≠ 0 then cmpI a a' else if cmpI b b' ≠ 0 then cmpI b b' else cmpI c c'
/-- what an order by numbers owes -/
structure CmpOk {α : Type} (f : α → α → Int) : Prop where
  rng : ∀ x y, f x y = -1 ∨ f x y = 0 ∨ f x y = 1
  eq : ∀ x y, f x y = 0 → x = y
  self : ∀ x, f x x = 0
  anti : ∀ x y, f y x = - f x y
  trans : ∀ x y z, f x y ≤ 0 → f y z ≤ 0 → f x z ≤ 0
theorem CmpOk.strict {α : Type} {f : α → α → Int} (h : CmpOk f) {x y z : α} (h1 : f x y ≤ 0) (h2 : f y z ≤ 0) (h3 : f x z = 0) : f x y = 0 ∧ f y z = 0 := by
  have := h.eq _ _ h3
  subst this
  have := h.anti x y
  omega
def lex {α β : Type} (f : α → α → Int) (g : β → β → Int) (x y : α × β) : Int := if f x.1 y.1 ≠ 0 then f x.1 y.1 else g x.2 y.2
theorem lex_ok {α β : Type} {f : α → α → Int} {g : β → β → Int} (hf : CmpOk f) (hg : CmpOk g) : CmpOk (lex f g) where
  rng x y := by unfold lex; split; exact hf.rng _ _; exact hg.rng _ _
  eq x y h := by
    unfold lex at h
    split at h
    · rename_i h1; exact absurd h h1
    · rename_i h1
      exact Prod.ext (hf.eq _ _ (by simpa using h1)) (hg.eq _ _ h)
  self x := by unfold lex; rw [if_neg (by simp [hf.self]), hg.self]
  anti x y := by
    unfold lex
    rw [hf.anti x.1 y.1, hg.anti x.2 y.2]
    by_cases h : f x.1 y.1 = 0 <;> simp [h]
  trans x y z h1 h2 := by
    unfold lex at h1 h2 ⊢
    have t := hf.trans x.1 y.1 z.1
    have t2 := hg.trans x.2 y.2 z.2
    by_cases e1 : f x.1 y.1 = 0
    · have := hf.eq _ _ e1
      rw [if_neg (by simpa using e1)] at h1
      by_cases e2 : f y.1 z.1 = 0
      · rw [if_neg (by simpa using e2)] at h2
        rw [this, if_neg (by simpa using e2)]
        exact t2 h1 h2
      · rw [if_pos e2] at h2
        rw [this, if_pos e2]; exact h2
    · rw [if_pos e1] at h1
      by_cases e2 : f y.1 z.1 = 0
      · have := hf.eq _ _ e2
        rw [← this, if_pos e1]; exact h1
      · rw [if_pos e2] at h2
        have h3 := t h1 h2
        by_cases e3 : f x.1 z.1 = 0
        · exact absurd (hf.strict h1 h2 e3).1 e1
        · rw [if_pos e3]; exact h3
theorem cmpI_le {x y : Int} : cmpI x y ≤ 0 ↔ x ≤ y := by
  unfold cmpI
  rcases Int.lt_trichotomy x y with h | h | h
  · rw [if_pos h]; constructor <;> intro _ <;> omega
  · rw [if_neg (by omega), if_neg (by omega)]; constructor <;> intro _ <;> omega
  · rw [if_neg (by omega), if_pos h]; constructor <;> intro _ <;> omega
theorem cmpI_ok : CmpOk cmpI where
  rng x y := by unfold cmpI; split; exact .inl rfl; split; exact .inr (.inr rfl); exact .inr (.inl rfl)
  eq x y h := by unfold cmpI at h; split at h; cases h; split at h; cases h; omega
  self x := cmp_eq rfl
  anti x y := by unfold cmpI; split <;> split <;> omega
  trans x y z h1 h2 := by rw [cmpI_le] at *; omega
def cmpL (x y : List UInt8) : Int := Lib.compareBytes x y
theorem cmpL_cons (a b : UInt8) (s t : List UInt8) : cmpL (a :: s) (b :: t) = if a < b then -1 else if b < a then 1 else cmpL s t := rfl
theorem cmpL_ok : CmpOk cmpL where
  rng x := by
    induction x with
    | nil => intro y; cases y; exact .inr (.inl rfl); exact .inl rfl
    | cons a s ih => intro y; cases y with
      | nil => exact .inr (.inr rfl)
      | cons b t => rw [cmpL_cons]; split; exact .inl rfl; split; exact .inr (.inr rfl); exact ih t
  eq x := by
    induction x with
    | nil => intro y h; cases y; rfl; exact absurd h (by show ¬ ((-1 : Int) = 0); decide)
    | cons a s ih => intro y h; cases y with
      | nil => exact absurd h (by show ¬ ((1 : Int) = 0); decide)
      | cons b t =>
        rw [cmpL_cons] at h
        split at h
        · cases h
        · split at h
          · cases h
          · rename_i h1 h2
            have : a = b := by
              apply UInt8.toNat_inj.1
              simp only [UInt8.lt_iff_toNat_lt] at h1 h2; omega
            rw [this, ih t h]
  self x := by
    induction x with
    | nil => rfl
    | cons a s ih => rw [cmpL_cons, if_neg (UInt8.lt_irrefl a), if_neg (UInt8.lt_irrefl a), ih]
  anti x := by
    induction x with
    | nil => intro y; cases y <;> rfl
    | cons a s ih => intro y; cases y with
      | nil => rfl
      | cons b t =>
        rw [cmpL_cons, cmpL_cons, ih t]
        simp only [UInt8.lt_iff_toNat_lt]
        split <;> split <;> omega
  trans x := by
    induction x with
    | nil => intro y z h1 h2; cases z with
      | nil => exact Int.le_refl _
      | cons c u => show (-1 : Int) ≤ 0; decide
    | cons a s ih => intro y z h1 h2; cases y with
      | nil => exact absurd h1 (by show ¬ ((1 : Int) ≤ 0); decide)
      | cons b t => cases z with
        | nil => exact absurd h2 (by show ¬ ((1 : Int) ≤ 0); decide)
        | cons c u =>
          rw [cmpL_cons] at h1 h2 ⊢
          have := ih t u
          simp only [UInt8.lt_iff_toNat_lt] at *
          split at h1 <;> split at h2 <;> (repeat' split) <;> (try split at h1) <;> (try split at h2) <;> first | omega | exact this h1 h2
/-- a module: its path and its version -/
abbrev Md := ByteArray × Int × Int × Int
def cmpB (x y : ByteArray) : Int := cmpL x.data.toList y.data.toList
theorem cmpB_ok : CmpOk cmpB where
  rng x y := cmpL_ok.rng _ _
  eq x y h := ByteArray.ext (Array.ext' (cmpL_ok.eq _ _ h))
  self x := cmpL_ok.self _
  anti x y := cmpL_ok.anti _ _
  trans x y z := cmpL_ok.trans _ _ _
def cmpM : Md → Md → Int := lex cmpB (lex cmpI (lex cmpI cmpI))
theorem cmpM_ok : CmpOk cmpM := lex_ok cmpB_ok (lex_ok cmpI_ok (lex_ok cmpI_ok cmpI_ok))
theorem cmpM_eq (x y : Md) : cmpM x y = if cmpB x.1 y.1 ≠ 0 then cmpB x.1 y.1 else cmp3 x.2.1 x.2.2.1 x.2.2.2 y.2.1 y.2.2.1 y.2.2.2 := rfl
/-- insertion behind all that are not greater -/
def insM (x : Md) : List Md → List Md
  | [] => [x]
  | y :: t => if cmpM x y < 0 then x :: y :: t else y :: insM x t
def sortM (l : List Md) : List Md := l.foldl (fun s x => insM x s) []
theorem insM_perm (x : Md) (l : List Md) : (insM x l).Perm (x :: l) := by
  induction l with
  | nil => exact List.Perm.refl _
  | cons y t ih =>
    unfold insM
    split
    · exact List.Perm.refl _
    · exact (ih.cons y).trans (List.Perm.swap _ _ _)
def LeM (x y : Md) : Prop := cmpM x y ≤ 0
theorem insM_sorted (x : Md) (l : List Md) (h : l.Pairwise LeM) : (insM x l).Pairwise LeM := by
  induction l with
  | nil => exact List.pairwise_singleton _ _
  | cons y t ih =>
    have h' := List.pairwise_cons.1 h
    unfold insM
    split
    · rename_i hlt
      refine List.pairwise_cons.2 ⟨fun z hz => ?_, h⟩
      rcases List.mem_cons.1 hz with rfl | hz
      · exact Int.le_of_lt hlt
      · exact cmpM_ok.trans _ _ _ (Int.le_of_lt hlt) (h'.1 z hz)
    · rename_i hge
      refine List.pairwise_cons.2 ⟨fun z hz => ?_, ih h'.2⟩
      rcases List.mem_cons.1 ((insM_perm x t).mem_iff.1 hz) with rfl | hz
      · have := cmpM_ok.anti z y; show cmpM y z ≤ 0; omega
      · exact h'.1 z hz
theorem foldl_ins (l s : List Md) (h : s.Pairwise LeM) : (l.foldl (fun s x => insM x s) s).Perm (s ++ l) ∧ (l.foldl (fun s x => insM x s) s).Pairwise LeM := by
  induction l generalizing s with
  | nil => simpa using h
  | cons x t ih =>
    rw [List.foldl_cons]
    obtain ⟨h1, h2⟩ := ih (insM x s) (insM_sorted x s h)
    refine ⟨h1.trans ?_, h2⟩
    refine ((insM_perm x s).append_right t).trans ?_
    rw [List.cons_append]
    exact List.perm_middle.symm
theorem sortM_perm (l : List Md) : (sortM l).Perm l := (foldl_ins l [] List.Pairwise.nil).1
theorem sortM_sorted (l : List Md) : (sortM l).Pairwise LeM := (foldl_ins l [] List.Pairwise.nil).2
theorem sorted_unique {l m : List Md} (hp : l.Perm m) (hl : l.Pairwise LeM) (hm : m.Pairwise LeM) : l = m :=
  hp.eq_of_pairwise (fun a b _ _ h1 h2 => cmpM_ok.eq _ _ (by have := cmpM_ok.anti a b; unfold LeM at h1 h2; omega)) hl hm
theorem sortM_of {l m : List Md} (hp : m.Perm l) (hs : m.Pairwise LeM) : m = sortM l :=
  sorted_unique (hp.trans (sortM_perm l).symm) hs (sortM_sorted l)
theorem sortM_turn {l m : List Md} (hp : m.Perm l) : sortM m = sortM l := sortM_of ((sortM_perm m).trans hp) (sortM_sorted m)
theorem sortM_length (l : List Md) : (sortM l).length = l.length := (sortM_perm l).length_eq
theorem sortM_snoc (l : List Md) (x : Md) : sortM (l ++ [x]) = insM x (sortM l) := by unfold sortM; rw [List.foldl_append]; rfl
/-- do two modules have one path -/
def twiceB (l : List Md) : Bool := !decide (l.map (·.1)).Nodup
/-- do two neighbours have one path -/
def nextB : List Md → Bool
  | x :: y :: t => decide (x.1 = y.1) || nextB (y :: t)
  | _ => false
theorem any_path (x : ByteArray) (l : List Md) : (l.any fun y => decide (x = y.1)) = true ↔ x ∈ l.map (fun y : Md => y.1) := by
  rw [List.any_eq_true, List.mem_map]
  constructor
  · rintro ⟨y, h1, h2⟩; exact ⟨y, h1, (of_decide_eq_true h2).symm⟩
  · rintro ⟨y, h1, h2⟩; exact ⟨y, h1, decide_eq_true h2.symm⟩
theorem twiceB_cons (x : Md) (l : List Md) : twiceB (x :: l) = ((l.any fun y => decide (x.1 = y.1)) || twiceB l) := by
  unfold twiceB
  rw [Bool.eq_iff_iff, List.map_cons, Bool.or_eq_true, any_path]
  simp only [Bool.not_eq_true', decide_eq_false_iff_not, List.nodup_cons]
  by_cases h : x.1 ∈ l.map (fun y : Md => y.1) <;> simp [h]
theorem nextB_sorted : ∀ (l : List Md), l.Pairwise LeM → nextB l = twiceB l
  | [], _ => rfl
  | [x], _ => by simp [nextB, twiceB]
  | x :: y :: t, h => by
    have ih := nextB_sorted (y :: t) (List.pairwise_cons.1 h).2
    rw [nextB, ih, twiceB_cons x]
    by_cases he : x.1 = y.1
    · have : ((y :: t).any fun z => decide (x.1 = z.1)) = true := (any_path _ _).2 (by simp [he])
      rw [this, decide_eq_true he]
    · have hx : x.1 ∉ (y :: t).map (·.1) := by
        intro hm
        obtain ⟨z, hz, e⟩ := List.mem_map.1 hm
        rcases List.mem_cons.1 hz with rfl | hz
        · exact he e.symm
        · have h1 : LeM x y := (List.pairwise_cons.1 h).1 y (by simp)
          have h2 : LeM y z := (List.pairwise_cons.1 (List.pairwise_cons.1 h).2).1 z hz
          have a1 : cmpB x.1 y.1 ≤ 0 := by
            unfold LeM at h1; rw [cmpM_eq] at h1
            by_cases q : cmpB x.1 y.1 = 0
            · omega
            · rw [if_pos q] at h1; exact h1
          have a2 : cmpB y.1 z.1 ≤ 0 := by
            unfold LeM at h2; rw [cmpM_eq] at h2
            by_cases q : cmpB y.1 z.1 = 0
            · omega
            · rw [if_pos q] at h2; exact h2
          have a3 : cmpB x.1 z.1 = 0 := by rw [e]; exact cmpB_ok.self _
          exact he (cmpB_ok.eq _ _ (cmpB_ok.strict a1 a2 a3).1)
      have : ((y :: t).any fun z => decide (x.1 = z.1)) = false := by rw [← Bool.not_eq_true, any_path]; exact hx
      rw [this, decide_eq_false he]
theorem twiceB_perm {l m : List Md} (h : l.Perm m) : twiceB l = twiceB m := by
  unfold twiceB; rw [decide_eq_decide.2 (h.map _).nodup_iff]
/-- the first error of a manifest -/
def chkM (m : Md) (R : List Md) : Int :=
  if (m :: R).any (fun x => !pathB x.1.data.toList) then 5
  else if (m :: R).any (fun x => !okV x.2.1 x.2.2.1 x.2.2.2) then 11
  else if twiceB (m :: R) then 6
  else if 64 < R.length then 2 else 0
end Go.Proofs.YtmmghdicjpfdoaaGreatDoor
